/- LowerLowers, walked over what package lower is asked for. (P Chapter 20's example in plain words. No program in it. -/
import Derived.Test.YtknoncenblehkaaGreatDoorG46
set_option maxRecDepth 100000
set_option maxHeartbeats 32000000
set_option linter.unusedSimpArgs false
set_option linter.unusedVariables false
namespace Go.Proofs.YtknoncenblehkaaGreatDoor
section
open Go.RowKit Go.Lib
def AwL20:Prop:= ∀w:World,Par w→Calls Tryz.prog 7 #[] w fun e w'=>e=.returned (.bool true)∧Only nob w w'
theorem Zc0 (C:LoC) (AW:AwL20) (c:Cf) (sec:Bool) (g:Gr) (vn vr:Value) (hs:List (Value×Value)) (w:World) (h:RdG w w.heap.size g vn vr hs) (hfit:GrFit g) (hc:CFit c) (hpar:Par w):
 Calls Tryz.prog 3 #[.agg #[.int .i64 c.semi,.int .i64 c.large,.int .i64 c.slots,.int .i64 c.limit],.bool sec,.agg #[vn,vr]] w fun e w'=>e=.returned (.bool true)∧Only nob w w':=by
 obtain⟨A,cn,rfl,hac,hcm⟩:=h.nodes.form;obtain⟨Ar,cr,rfl,hacr,hcmr⟩:=h.roots.form;unfold maxLen at hcm hcmr;obtain⟨W,hW,HB⟩:=Zdh w c (.slice A g.nd.length cn) (.slice Ar g.rt.length cr);have HW:=ZZ hW
 obtain⟨p,hp⟩: ∃p,p=w.heap.size:=⟨_,rfl⟩
 have HP:=ZZ hp;rw[← hp] at HB;have HR:=ZZ h;have HPAR:=ZZ hpar;have HFC:=ZZ (And.intro hfit hc);have HLG:=ZZ (Zgf g _ _ hs w.heap.size W (h.only HB.out.1 (Yi _)) HB.out.1.size);have HAW:=ZZ (show ∀W',Only nob w W'→Calls Tryz.prog 7 #[] W' fun e w'=>e=.returned (.bool true)∧Only nob W' w' from fun W' o=>AW W' (HPAR.out.old o))
 obtain⟨N,hN⟩: ∃N,N=g.nd.length:=⟨_,rfl⟩
 have HN:=ZZ hN
 obtain⟨M,hM⟩: ∃N,N=g.rt.length:=⟨_,rfl⟩
 have HM:=ZZ hM;rw[← hN, ← hM];rw[← hN, ← hM] at HB HW HLG;rw[← hN] at hac;rw[← hM] at hacr;have XX:=ZZ (show ∀W',Only nob W W'→W'.cell? ⟨p,0,none⟩=some (.int .i64 c.semi)∧W'.cell? ⟨p,1,none⟩=some (.int .i64 c.large)∧W'.cell? ⟨p,2,none⟩=some (.int .i64 c.slots)∧W'.cell? ⟨p,3,none⟩=some (.int .i64 c.limit)∧W'.cell? ⟨p+1,0,none⟩=some (.slice A N cn)∧W'.cell? ⟨p+1,1,none⟩=some (.slice Ar M cr) from fun W' o=>⟨o.keeps HB.out.2.1.c0,o.keeps HB.out.2.1.c1,o.keeps HB.out.2.1.c2,o.keeps HB.out.2.1.c3,o.keeps (HB.out.2.2.cell 0),o.keeps (HB.out.2.2.cell 1)⟩);clear hW hp hN hM h hpar hfit hc;obtain⟨c0,c1,c2,c3,g0,g1⟩:=XX.out W (Only.refl _ _)
 go_enter Tryz.func3,Tryz.ntmps3
 go_upto_region 1 with fail
 rw[HW.out, ← HP.out]
 go_wp2_with fail
 go_at_call 6;refine HLG.out.mono ?_;rintro e w1 ⟨b,rfl,hb,o⟩;have N1:=ZZ o;have O1:=ZZ (HB.out.1.trans o);have HBD:=ZZ hb;clear o c0 c1 c2 c3 g0 g1 hb
 cases b
 case true=>
  go_wp2_with fail
  go_at_call 7;refine(HAW.out _ O1.out).mono ?_;rintro e w9 ⟨rfl,o9⟩;have O9:=ZZ (O1.out.trans o9);clear o9;go_wp2;go_ret;exact⟨rfl,O9.out⟩
 case false=>
 have hbd:=HBD.out rfl;obtain⟨c0,c1,c2,c3,g0,g1⟩:=XX.out w1 N1.out;by_cases hs1:1000<c.semi
 case pos=>
  go_wp2_with fail
  go_at_call 7;refine(HAW.out _ O1.out).mono ?_;rintro e w9 ⟨rfl,o9⟩;have O9:=ZZ (O1.out.trans o9);clear o9;go_wp2;go_ret;exact⟨rfl,O9.out⟩
 case neg=>
 by_cases hs2:1000<c.large
 case pos=>
  go_wp2_with fail
  go_at_call 7;refine(HAW.out _ O1.out).mono ?_;rintro e w9 ⟨rfl,o9⟩;have O9:=ZZ (O1.out.trans o9);clear o9;go_wp2;go_ret;exact⟨rfl,O9.out⟩
 case neg=>
 have HIN:=ZZ (show ∀W',Only nob w W'→In20 W' w.heap.size c g (.slice A N cn) (.slice Ar M cr) hs from fun W' o=>by
  have h1:=HR.out.only o (Yi _);rw[← HN.out, ← HM.out] at h1
  exact⟨h1,o.size,HFC.out.1,HFC.out.2,hbd.1,hbd.2,HPAR.out.old o⟩)
 obtain⟨S,hS⟩: ∃s,s=ZmW c sec g:=⟨_,rfl⟩
 obtain⟨PL,hPL⟩: ∃s,s=Zja c sec g:=⟨_,rfl⟩
 obtain⟨q,hq⟩: ∃s,s=loE c sec g:=⟨_,rfl⟩
 have HH:=ZZ (Zlt (c:=c) (g:=g) false sec);have HC1:=ZZ (fun (W':World) (o:Only nob w W')=>C.lower c sec g _ _ hs w.heap.size W' (HIN.out W' o));have HC2:=ZZ (fun (W':World) (o:Only nob w W')=>ZlY c sec g _ _ hs w.heap.size W' (HIN.out W' o));have HC3:=ZZ (fun (W':World) (o:Only nob w W')=>C.places c sec g _ _ hs w.heap.size W' (HIN.out W' o));have HC4:=ZZ (fun (W':World) (o:Only nob w W')=>ZmH c sec g _ _ hs w.heap.size W' (HIN.out W' o));have HC5:=ZZ (fun (W':World) (o:Only nob w W')=>C.fits c g _ _ hs w.heap.size W' (HIN.out W' o));rw[← hS, ← hq] at HC1 HC2 HC4;rw[← hPL, ← hq] at HC3;rw[← hPL] at HC4;rw[← hq] at HH
 have HFT:=ZZ (show decide (loE c false g=0)=(q==0) by
  by_cases e:q=0
  · rw[Yl (HH.out.2 e)];simp[e]
  · rw[Yk (fun h=>e (HH.out.1 h))];simp[e])
 rw[HFT.out] at HC5;clear hS hPL hq
 go_wp2_with fail
 go_at_call 8;refine(HC1.out w1 O1.out).mono ?_;rintro e w2 ⟨s,vw,vt,vf,vs,hs1',rfl,hrd,o⟩;obtain rfl:S=s:=hs1'.symm;obtain⟨Aw,kw,rfl, -, -⟩:=hrd.words.form;obtain⟨At,kt,rfl, -, -⟩:=hrd.tab.form;obtain⟨Af,kf,rfl, -, -⟩:=hrd.free.form;obtain⟨As,ks,rfl, -, -⟩:=hrd.slots.form;obtain⟨W2,hW2,HB2⟩:=Za3 w2 S (.slice Aw S.ws.length kw) (.slice At S.tb.length kt) (.slice Af S.fr.length kf) (.slice As S.sl.length ks);have HW2:=ZZ hW2
 obtain⟨sa,hsa⟩: ∃b,b=w2.heap.size:=⟨_,rfl⟩
 have HSA:=ZZ hsa;have N2:=ZZ (N1.out.trans (o.trans HB2.out.1));have O2:=ZZ (O1.out.trans (o.trans HB2.out.1));have RD1:=ZZ ((hrd.only HB2.out.1 (Yi _)).more HB2.out.1.size);have BX1:=ZZ HB2.out.2.2;rw[← hsa] at BX1;clear c0 c1 c2 c3 g0 g1 hrd o hW2 hsa
 go_upto_region 4 with fail
 rw[HW2.out, ← HSA.out];obtain⟨c0,c1,c2,c3,g0,g1⟩:=XX.out W2 N2.out
 go_wp2_with fail
 go_at_call 9;refine(HC2.out W2 O2.out).mono ?_;rintro e w3 ⟨s,vw,vt,vf,vs,hs1',rfl,hrd,o⟩;obtain rfl:S=s:=hs1'.symm;obtain⟨Bw,lw,rfl, -, -⟩:=hrd.words.form;obtain⟨Bt,lt,rfl, -, -⟩:=hrd.tab.form;obtain⟨Bf,lf,rfl, -, -⟩:=hrd.free.form;obtain⟨Bs,ls,rfl, -, -⟩:=hrd.slots.form;obtain⟨W3,hW3,HB3⟩:=Za3 w3 S (.slice Bw S.ws.length lw) (.slice Bt S.tb.length lt) (.slice Bf S.fr.length lf) (.slice Bs S.sl.length ls);have HW3:=ZZ hW3
 obtain⟨sb,hsb⟩: ∃b,b=w3.heap.size:=⟨_,rfl⟩
 have HSB:=ZZ hsb;have M3:=ZZ (o.trans HB3.out.1);have N3:=ZZ (N2.out.trans M3.out);have O3:=ZZ (O2.out.trans M3.out);have RD1:=ZZ ((RD1.out.only M3.out (Yi _)).more M3.out.size);have BX1:=ZZ (BX1.out.keep M3.out);have RD2:=ZZ ((hrd.only HB3.out.1 (Yi _)).more HB3.out.1.size);have BX2:=ZZ HB3.out.2.2;rw[← hsb] at BX2;clear c0 c1 c2 c3 g0 g1 hrd o hW3 hsb
 go_upto_region 5 with fail
 rw[HW3.out, ← HSB.out];obtain⟨c0,c1,c2,c3,g0,g1⟩:=XX.out W3 N3.out
 go_wp2_with fail
 go_at_call 10;refine(HC3.out W3 O3.out).mono ?_;rintro e W4 ⟨v4,rfl,hp4,o⟩;obtain⟨Pa,ka,rfl, -, -⟩:=hp4.form;have N4:=ZZ (N3.out.trans o);have O4:=ZZ (O3.out.trans o);have RD1:=ZZ ((RD1.out.only o (Yi _)).more o.size);have BX1:=ZZ (BX1.out.keep o);have RD2:=ZZ ((RD2.out.only o (Yi _)).more o.size);have BX2:=ZZ (BX2.out.keep o);have PS1:=ZZ hp4;clear c0 c1 c2 c3 g0 g1 hp4 o;obtain⟨c0,c1,c2,c3,g0,g1⟩:=XX.out W4 N4.out
 go_wp2_with fail
 go_at_call 11;refine(HC4.out W4 O4.out).mono ?_;rintro e w5 ⟨s,v5,vt5,vf5,hs5,rfl,hp5,ht5,hf5,o⟩;obtain rfl:S=s:=hs5.symm;obtain⟨Pb,kb,rfl, -, -⟩:=hp5.form;obtain⟨Tb,k5,rfl, -, -⟩:=ht5.form;obtain⟨Fb,l5,rfl, -, -⟩:=hf5.form;obtain⟨W5,hW5,HB5⟩:=ZeZ w5 #[.slice Pb PL.length kb,.int .i64 S.top,.slice Tb S.tb.length k5,.slice Fb S.fr.length l5];have HW5:=ZZ hW5
 obtain⟨gb,hgb⟩: ∃b,b=w5.heap.size:=⟨_,rfl⟩
 have HGB:=ZZ hgb;have M5:=ZZ (o.trans HB5.out.1);have N5:=ZZ (N4.out.trans M5.out);have O5:=ZZ (O4.out.trans M5.out);have RD1:=ZZ ((RD1.out.only M5.out (Yi _)).more M5.out.size);have BX1:=ZZ (BX1.out.keep M5.out);have RD2:=ZZ ((RD2.out.only M5.out (Yi _)).more M5.out.size);have BX2:=ZZ (BX2.out.keep M5.out);have PS1:=ZZ ((PS1.out.below M5.out.whole).more M5.out.size);have PS2:=ZZ ((hp5.below HB5.out.1.whole).more HB5.out.1.size);have BG:=ZZ HB5.out.2;rw[← hgb] at BG;clear c0 c1 c2 c3 g0 g1 hp5 ht5 hf5 o hW5 hgb
 go_upto_region 7 with fail
 rw[HW5.out, ← HGB.out];obtain⟨a0,a1,a2,a3,a4,a5,a6,a7,a8,a9⟩:=BX1.out;obtain⟨b0,b1,b2,b3,b4,b5,b6,b7,b8,b9⟩:=BX2.out;have HSM:=ZZ (ZnS S S _ _ _ _ _ _ _ _ W5.heap.size W5.heap.size W5 RD1.out RD2.out (Yi _) (Yi _));rw[ZfR rfl] at HSM
 go_wp2_with fail
 go_at_call 12;refine HSM.out.mono ?_;rintro e W6 ⟨rfl,o⟩;have M6:=ZZ o;clear a0 a1 a2 a3 a4 a5 a6 a7 a8 a9 b0 b1 b2 b3 b4 b5 b6 b7 b8 b9 o;have p0:W6.cell? ⟨gb,0,none⟩=some (.slice Pb PL.length kb):=(BG.out.keep M6.out id).cell 0
 go_wp2_with fail
 go_at_call 13;refine(Zj8 _ _ PL _ _ W6 (PS1.out.below M6.out.whole) (PS2.out.below M6.out.whole)).mono ?_;rintro e W7 ⟨rfl,m7,h7⟩;have M7:=ZZ (show Only nob W5 W7 by rw[h7];exact M6.out.drewN m7);clear h7 p0;obtain⟨c0,c1,c2,c3,g0,g1⟩:=XX.out W7 (N5.out.trans M7.out)
 go_wp2_with fail
 go_at_call 14;refine(HC5.out W7 (O5.out.trans M7.out)).mono ?_;rintro e W8 ⟨rfl,o⟩;have O8:=ZZ (O5.out.trans (M7.out.trans o));clear c0 c1 c2 c3 g0 g1 o
 go_wp2_with fail
 go_at_call 7;refine(HAW.out _ O8.out).mono ?_;rintro e w9 ⟨rfl,o9⟩;have O9:=ZZ (O8.out.trans o9);clear o9;go_wp2;go_ret;exact⟨rfl,O9.out⟩
end
section
open Go.RowKit
def cE20:Cf:=⟨4,3,1,2⟩
def gE20:Gr:=⟨[⟨0,[],[]⟩,⟨0,[],[1,2]⟩,⟨1,[],[]⟩],[(2,1)]⟩
def Zpd:Gr:=⟨[⟨0,[],[]⟩,⟨0,[],[1,2]⟩,⟨1,[],[]⟩],[(2,1),(0,0)]⟩
theorem ZbY:cE20.ok:=by unfold Cf.ok cE20;simp
theorem Zjn:Zb6 gE20=true:=by decide
theorem Znk:Zb6 Zpd=true:=by decide
theorem Ze0:ndSz ⟨0,[],[]⟩=1∧ndSz ⟨0,[],[1,2]⟩=3∧ndSz ⟨1,[],[]⟩=1:=⟨(Zed (n:=3) (by decide)).1,(Zed (n:=3) (by decide)).1,(Zed (n:=3) (by decide)).1⟩
theorem ZnM:ZaD cE20 ⟨0,[],[]⟩=true∧ZaD cE20 ⟨0,[],[1,2]⟩=false∧ZaD cE20 ⟨1,[],[]⟩=true:=by
 unfold ZaD ZX;rw[Ze0.1,Ze0.2.1,Ze0.2.2,Yl ZbY];decide
theorem ZdF:Zj cE20 false=(0,4)∧Zj cE20 true=(4,4)∧Ze cE20=(8,3):=by
 refine⟨?_,?_,?_⟩
 · show Zal cE20 0=_
   unfold Zal;rw[if_pos ZbY];rfl
 · show Zal cE20 1=_
   unfold Zal;rw[if_pos ZbY];rfl
 · unfold Ze
   rw[if_pos ⟨ZbY,by decide⟩];rfl
theorem Zcy:sSm cE20 gE20.nd=2∧sBg cE20 gE20.nd=3∧tbL cE20 8 gE20.nd=[(8,3)]∧plL cE20 0 8 gE20.nd=[0,8,1]∧plL cE20 4 8 gE20.nd=[4,8,5]:=by
 obtain⟨a,b,c⟩:=ZnM;obtain⟨d,e,f⟩:=Ze0;unfold gE20;simp only[sSm,sBg,tbL,plL,a,b,c,d,e,f,if_true];decide
theorem Zlk:loE cE20 false gE20=0∧loE cE20 true gE20=0∧loE cE20 false Zpd=8:=by
 obtain⟨f1,f2,f3⟩:=ZdF;obtain⟨l1,l2, -⟩:=Zcy;refine⟨?_,?_,ZdI ZbY Znk (by decide)⟩
 · refine Zdf ZbY Zjn (by decide) ?_
   unfold Zw loT ZaX loB ZD;rw[List.take_length,l1,l2,f1,f3];decide
 · refine Zdf ZbY Zjn (by decide) ?_
   unfold Zw loT ZaX loB ZD;rw[List.take_length,l1,l2,f2,f3];decide
theorem ZkM:loPl cE20 true gE20=[4,8,5]∧loPl cE20 false gE20=[0,8,1]:=by
 obtain⟨f1,f2,f3⟩:=ZdF;obtain⟨-, -, -,l3,l4⟩:=Zcy;unfold loPl loT loB;rw[f1,f2,f3];exact⟨l4,l3⟩
theorem Zj0:(ZaK cE20 false gE20).top=2∧(ZaK cE20 false gE20).tb=[(8,3)]∧(ZaK cE20 false gE20).fr=[]∧(ZaK cE20 false gE20).sl=[(true,0,34)]:=by
 obtain⟨f1,f2,f3⟩:=ZdF;obtain⟨l1,l2,l3, -⟩:=Zcy;refine⟨?_,?_,?_,?_⟩
 · show loT cE20 false+sSm cE20 gE20.nd=2
   unfold loT;rw[l1,f1];rfl
 · show tbL cE20 (loB cE20) gE20.nd=_
   unfold loB;rw[f3];exact l3
 · show frL (loB cE20+sBg cE20 gE20.nd) (ZD cE20)=[]
   unfold loB ZD;rw[l2,f3];rfl
 · show Zec cE20 false gE20=_
   unfold Zec;rw[ZkM.2];decide
end
end Go.Proofs.YtknoncenblehkaaGreatDoor
