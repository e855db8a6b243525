/- LowerLowers, walked over what package lower is asked for. (P LowerAgain, walked over what package lower is asked for. (Pr Chapter 20's example in plain words. No program in it. -/
import Derived.Test.YtknoncenblehkaaGreatDoorE41
import Derived.Test.YtknoncenblehkaaGreatDoorE32
set_option maxRecDepth 100000
set_option maxHeartbeats 32000000
set_option linter.unusedSimpArgs false
set_option linter.unusedVariables false
namespace Go.Proofs.YtknoncenblehkaaGreatDoor
section
open Go.RowKit Go.Lib
def AwL20:Prop:= ∀w:World,Par w→Calls Tryz.prog 7 #[] w fun e w'=>e=.returned (.bool true)∧Only nob w w'
theorem Zo7 (c:Cf) (g:Gr):(loO c g).length=g.nd.length:=by
 have key: ∀(l:List Nd) (k:Nat),(smI c k l).length+(bgI c k l).length=l.length:=by
  intro l
  induction l with
  |nil=>intro k;rfl
  |cons x l ih=>
   intro k
   have:=ih (k+1)
   cases hx:ZK c x
   · simp only[smI,bgI,hx,Bool.false_eq_true,if_false,List.length_cons];omega
   · simp only[smI,bgI,hx,if_true,List.length_cons];omega
 unfold loO;rw[Ys];exact key _ _
structure Back20 (c:Cf) (sec:Bool) (g:Gr):Prop where
 ok:StOk (Z7 c sec g)
 chk:ZaL (Z7 c sec g)=0
 few:(Z7 c sec g).objs.length≤1000000
 obe:obE (Z7 c sec g)=0
 obl:(obL (Z7 c sec g)).length=g.nd.length
 fit:GrFit (rnG g (loO c g))
 nodes:(rnG g (loO c g)).nd.length=g.nd.length
 roots:(rnG g (loO c g)).rt.length≤1000
 again:loE c sec (rnG g (loO c g))=0∧Zpd c sec (rnG g (loO c g))=Z7 c sec g
 alike:Zhz g (rnG g (loO c g))=true
theorem ZpH {c:Cf} {sec:Bool} {g:Gr} (h:LoOk c sec g) (hfit:GrFit g) (hc:CFit c) (hn:g.nd.length≤1000) (hr:g.rt.length≤1000):Back20 c sec g:=by
 obtain⟨e1,e2,e3,e4⟩:=h.lift;have hl:=Zo7 c g;obtain⟨a1,a2⟩:=h.again (by omega);have h0:=Ze3.2 a1;refine⟨h.st_ok hfit hc hn,e1,?_,?_,?_,Zp4 hfit (by omega),?_,?_,⟨h0,?_⟩,(Zmx e2 (by omega)).2.2.2⟩
 · rw[e4,List.length_map];omega
 · unfold obE;rw[if_pos e1]
 · unfold obL;rw[if_pos e1,e4,List.length_map];exact hl
 · have hg:rnG g (loO c g)=⟨(ZbB g (loO c g)).map (ndT (loO c g)),Z5 (loO c g) g.rt⟩:=if_pos e2
   rw[hg];simp only[List.length_map];unfold ZbB;rw[List.length_map];exact hl
 · have:=(ZoD (g:=g) (o:=loO c g)).2
   omega
 · rw[(Zbu h0).1]
   exact a2
theorem Zdb (C:LoC) (AW:AwL20) (c:Cf) (sec:Bool) (g:Gr) (vn vr:Value) (hs:List (Value×Value)) (w:World) (h:RdG w w.heap.size g vn vr hs) (hfit:GrFit g) (hc:CFit c) (hpar:Par w):
 Calls Tryz.prog 5 #[.agg #[.int .i64 c.semi,.int .i64 c.large,.int .i64 c.slots,.int .i64 c.limit],.bool sec,.agg #[vn,vr]] w fun e w'=>e=.returned (.bool true)∧Only nob w w':=by
 obtain⟨A,cn,rfl,hac,hcm⟩:=h.nodes.form;obtain⟨Ar,cr,rfl,hacr,hcmr⟩:=h.roots.form;unfold maxLen at hcm hcmr;obtain⟨W,hW,HB⟩:=ZeC w c (.slice A g.nd.length cn) (.slice Ar g.rt.length cr);have HW:=ZZ hW
 obtain⟨p,hp⟩: ∃p,p=w.heap.size:=⟨_,rfl⟩
 have HP:=ZZ hp;rw[← hp] at HB;have HR:=ZZ h;have HPAR:=ZZ hpar;have HFC:=ZZ (And.intro hfit hc);have HLG:=ZZ (ZgC g _ _ hs w.heap.size W (h.only HB.out.1 (Yj _)) HB.out.1.size);have HAW:=ZZ (show ∀W',Only nob w W'→Calls Tryz.prog 7 #[] W' fun e w'=>e=.returned (.bool true)∧Only nob W' w' from fun W' o=>AW W' (HPAR.out.old o))
 obtain⟨N,hN⟩: ∃N,N=g.nd.length:=⟨_,rfl⟩
 have HN:=ZZ hN
 obtain⟨M,hM⟩: ∃N,N=g.rt.length:=⟨_,rfl⟩
 have HM:=ZZ hM;rw[← hN, ← hM];rw[← hN, ← hM] at HB HW HLG;rw[← hN] at hac;rw[← hM] at hacr;have XX:=ZZ (show ∀W',Only nob W W'→W'.cell? ⟨p,0,none⟩=some (.int .i64 c.semi)∧W'.cell? ⟨p,1,none⟩=some (.int .i64 c.large)∧W'.cell? ⟨p,2,none⟩=some (.int .i64 c.slots)∧W'.cell? ⟨p,3,none⟩=some (.int .i64 c.limit)∧W'.cell? ⟨p+1,0,none⟩=some (.slice A N cn)∧W'.cell? ⟨p+1,1,none⟩=some (.slice Ar M cr) from fun W' o=>⟨o.keeps HB.out.2.1.c0,o.keeps HB.out.2.1.c1,o.keeps HB.out.2.1.c2,o.keeps HB.out.2.1.c3,o.keeps (HB.out.2.2.cell 0),o.keeps (HB.out.2.2.cell 1)⟩);clear hW hp hN hM h hpar hfit hc;obtain⟨c0,c1,c2,c3,g0,g1⟩:=XX.out W (Only.refl _ _)
 go_enter Tryz.func5,Tryz.ntmps5
 go_upto_region 1 with fail
 rw[HW.out, ← HP.out]
 go_wp2_with fail
 go_at_call 6;refine HLG.out.mono ?_;rintro e w1 ⟨b,rfl,hb,o⟩;have N1:=ZZ o;have O1:=ZZ (HB.out.1.trans o);have HBD:=ZZ hb;clear o c0 c1 c2 c3 g0 g1 hb
 cases b
 case true=>
  go_wp2_with fail
  go_at_call 7;refine(HAW.out _ O1.out).mono ?_;rintro e w9 ⟨rfl,o9⟩;have O9:=ZZ (O1.out.trans o9);clear o9;go_wp2;go_ret;exact⟨rfl,O9.out⟩
 case false=>
 have hbd:=HBD.out rfl;obtain⟨c0,c1,c2,c3,g0,g1⟩:=XX.out w1 N1.out;by_cases hs1:1000<c.semi
 case pos=>
  go_wp2_with fail
  go_at_call 7;refine(HAW.out _ O1.out).mono ?_;rintro e w9 ⟨rfl,o9⟩;have O9:=ZZ (O1.out.trans o9);clear o9;go_wp2;go_ret;exact⟨rfl,O9.out⟩
 case neg=>
 by_cases hs2:1000<c.large
 case pos=>
  go_wp2_with fail
  go_at_call 7;refine(HAW.out _ O1.out).mono ?_;rintro e w9 ⟨rfl,o9⟩;have O9:=ZZ (O1.out.trans o9);clear o9;go_wp2;go_ret;exact⟨rfl,O9.out⟩
 case neg=>
 have HIN:=ZZ (show ∀W',Only nob w W'→In20 W' w.heap.size c g (.slice A N cn) (.slice Ar M cr) hs from fun W' o=>by
  have h1:=HR.out.only o (Yj _);rw[← HN.out, ← HM.out] at h1
  exact⟨h1,o.size,HFC.out.1,HFC.out.2,hbd.1,hbd.2,HPAR.out.old o⟩)
 have HC1:=ZZ (fun (W':World) (o:Only nob w W')=>C.lower c sec g _ _ hs w.heap.size W' (HIN.out W' o));by_cases hq:loE c sec g=0
 case neg=>
  obtain⟨q,hqq⟩: ∃q,q=loE c sec g:=⟨_,rfl⟩
  have hs1':=(Zfw hq).1;rw[hs1', ← hqq] at HC1;rw[← hqq] at hq
  have hqb:(q !=0)=true:=by simpa using hq
  clear hqq hs1'
  go_wp2_with fail
  go_at_call 8;refine(HC1.out w1 O1.out).mono ?_;rintro e w2 ⟨s,vw,vt,vf,vs,rfl,rfl,hrd,o⟩;obtain⟨Aw,kw,rfl, -, -⟩:=hrd.words.form;obtain⟨At,kt,rfl, -, -⟩:=hrd.tab.form;obtain⟨Af,kf,rfl, -, -⟩:=hrd.free.form;obtain⟨As,ks,rfl, -, -⟩:=hrd.slots.form;obtain⟨W2,hW2,HB2⟩:=ZH w2 noS (.slice Aw noS.ws.length kw) (.slice At noS.tb.length kt) (.slice Af noS.fr.length kf) (.slice As noS.sl.length ks);have HW2:=ZZ hW2;have O2:=ZZ (O1.out.trans (o.trans HB2.out.1));clear c0 c1 c2 c3 g0 g1 hrd o hW2
  go_upto_region 4 with fail
  rw[HW2.out]
  go_wp2_with fail
  go_at_call 7;refine(HAW.out _ O2.out).mono ?_;rintro e w9 ⟨rfl,o9⟩;have O9:=ZZ (O2.out.trans o9);clear o9;go_wp2;go_ret;exact⟨rfl,O9.out⟩
 case pos=>
 have HOK:=ZZ (Ze3.1 hq);have HBK:=ZZ (ZpH HOK.out HFC.out.1 HFC.out.2 hbd.1 hbd.2);have hs1':=(Zbu hq).1;rw[hs1',hq] at HC1
 obtain⟨S,hS⟩: ∃s,s=Z7 c sec g:=⟨_,rfl⟩
 have HS:=ZZ hS;rw[← hS] at HC1;clear hS hs1' hq
 go_wp2_with fail
 go_at_call 8;refine(HC1.out w1 O1.out).mono ?_;rintro e w2 ⟨s,vw,vt,vf,vs,hs1',rfl,hrd,o⟩;obtain rfl:S=s:=hs1'.symm;obtain⟨Aw,kw,rfl, -, -⟩:=hrd.words.form;obtain⟨At,kt,rfl, -, -⟩:=hrd.tab.form;obtain⟨Af,kf,rfl, -, -⟩:=hrd.free.form;obtain⟨As,ks,rfl, -, -⟩:=hrd.slots.form;obtain⟨W2,hW2,HB2⟩:=ZH w2 S (.slice Aw S.ws.length kw) (.slice At S.tb.length kt) (.slice Af S.fr.length kf) (.slice As S.sl.length ks);have HW2:=ZZ hW2
 obtain⟨sa,hsa⟩: ∃b,b=w2.heap.size:=⟨_,rfl⟩
 have HSA:=ZZ hsa;have N2:=ZZ (N1.out.trans (o.trans HB2.out.1));have O2:=ZZ (O1.out.trans (o.trans HB2.out.1));have RD1:=ZZ ((hrd.only HB2.out.1 (Yj _)).more HB2.out.1.size);have BX1:=ZZ HB2.out.2.2;rw[← hsa] at BX1;clear c0 c1 c2 c3 g0 g1 hrd o hW2 hsa
 go_upto_region 4 with fail
 rw[HW2.out, ← HSA.out];have HLF:=ZiK S (.slice Aw S.ws.length kw) (.slice At S.tb.length kt) (.slice Af S.fr.length kf) (.slice As S.sl.length ks) W2.heap.size W2 RD1.out (Yj _) (by rw[HS.out];exact HBK.out.ok) (HPAR.out.old O2.out) (fun _=>by rw[HS.out];exact HBK.out.few);rw[show liG S=rnG g (loO c g) by rw[HS.out];exact HOK.out.lift.2.2.1,show obE S=0 by rw[HS.out];exact HBK.out.obe] at HLF;have HLF:=ZZ HLF
 obtain⟨G,hG⟩: ∃G,G=rnG g (loO c g):=⟨_,rfl⟩
 have HG:=ZZ hG;rw[← hG] at HLF;clear hG;obtain⟨a0,a1,a2,a3,a4,a5,a6,a7,a8,a9⟩:=BX1.out
 go_wp2_with fail
 go_at_call 15;refine HLF.out.mono ?_;rintro e w3 ⟨un,ur,js,lv,rfl,rd,hls,o⟩;obtain⟨An,kn,hun, -⟩:=rd.nodes.form;obtain⟨Ag,kg,hur, -⟩:=rd.roots.form;obtain⟨Al,kl,hvl, -, -⟩:=hls.form;subst hun hur hvl;obtain⟨W3,hW3,HB3⟩:=Zco w3 (.slice An G.nd.length kn) (.slice Ag G.rt.length kg);have HW3:=ZZ hW3
 obtain⟨gb,hgb⟩: ∃b,b=w3.heap.size:=⟨_,rfl⟩
 have HGB:=ZZ hgb;have M3:=ZZ (o.trans HB3.out.1);have N3:=ZZ (N2.out.trans M3.out);have O3:=ZZ (O2.out.trans M3.out);have RD1:=ZZ ((RD1.out.only M3.out (Yj _)).more M3.out.size);have BX1:=ZZ (BX1.out.keep M3.out);have RG:=ZZ ((rd.only HB3.out.1 (Yj _)).more HB3.out.1.size);have LS:=ZZ ((hls.below HB3.out.1.whole).more HB3.out.1.size);have BG:=ZZ HB3.out.2;rw[← hgb] at BG;clear a0 a1 a2 a3 a4 a5 a6 a7 a8 a9 rd hls o hW3 hgb
 go_upto_region 7 with fail
 rw[HW3.out, ← HGB.out];obtain⟨c0,c1,c2,c3,g0,g1⟩:=XX.out W3 N3.out;have h0:W3.cell? ⟨gb,0,none⟩=some (.slice An G.nd.length kn):=BG.out.cell 0;have h1:W3.cell? ⟨gb,1,none⟩=some (.slice Ag G.rt.length kg):=BG.out.cell 1;have HC2:=C.lower c sec G (.slice An G.nd.length kn) (.slice Ag G.rt.length kg) js W3.heap.size W3 ⟨RG.out,Yj _,by rw[HG.out];exact HBK.out.fit,HFC.out.2,by rw[HG.out,HBK.out.nodes];exact hbd.1,by rw[HG.out];exact HBK.out.roots,HPAR.out.old O3.out⟩;rw[show Zpd c sec G=S by rw[HG.out,HS.out];exact HBK.out.again.2,show loE c sec G=0 by rw[HG.out];exact HBK.out.again.1] at HC2;have HC2:=ZZ HC2;clear g0 g1
 go_wp2_with fail
 go_at_call 8;refine HC2.out.mono ?_;rintro e w4 ⟨s,vw,vt,vf,vs,hs1',rfl,hrd,o⟩;obtain rfl:S=s:=hs1'.symm;obtain⟨Bw,lw,rfl, -, -⟩:=hrd.words.form;obtain⟨Bt,lt,rfl, -, -⟩:=hrd.tab.form;obtain⟨Bf,lf,rfl, -, -⟩:=hrd.free.form;obtain⟨Bs,ls,rfl, -, -⟩:=hrd.slots.form;obtain⟨W4,hW4,HB4⟩:=ZH w4 S (.slice Bw S.ws.length lw) (.slice Bt S.tb.length lt) (.slice Bf S.fr.length lf) (.slice Bs S.sl.length ls);have HW4:=ZZ hW4
 obtain⟨sb,hsb⟩: ∃b,b=w4.heap.size:=⟨_,rfl⟩
 have HSB:=ZZ hsb;have M4:=ZZ (o.trans HB4.out.1);have O4:=ZZ (O3.out.trans M4.out);have RD1:=ZZ ((RD1.out.only M4.out (Yj _)).more M4.out.size);have BX1:=ZZ (BX1.out.keep M4.out);have RD2:=ZZ ((hrd.only HB4.out.1 (Yj _)).more HB4.out.1.size);have BX2:=ZZ HB4.out.2.2;rw[← hsb] at BX2;clear c0 c1 c2 c3 h0 h1 hrd o hW4 hsb
 go_upto_region 8 with fail
 rw[HW4.out, ← HSB.out];obtain⟨a0,a1,a2,a3,a4,a5,a6,a7,a8,a9⟩:=BX1.out;obtain⟨b0,b1,b2,b3,b4,b5,b6,b7,b8,b9⟩:=BX2.out;have HSM:=ZZ (ZoW S S _ _ _ _ _ _ _ _ W4.heap.size W4.heap.size W4 RD1.out RD2.out (Yj _) (Yj _));rw[ZfF rfl] at HSM
 go_wp2_with fail
 go_at_call 12;refine HSM.out.mono ?_;rintro e W6 ⟨rfl,o⟩;have O6:=ZZ (O4.out.trans o);clear a0 a1 a2 a3 a4 a5 a6 a7 a8 a9 b0 b1 b2 b3 b4 b5 b6 b7 b8 b9 o
 go_wp2_with fail
 go_at_call 7;refine(HAW.out _ O6.out).mono ?_;rintro e w9 ⟨rfl,o9⟩;have O9:=ZZ (O6.out.trans o9);clear o9;go_wp2;go_ret;exact⟨rfl,O9.out⟩
end
section
open Go.RowKit
def cE20:Cf:=⟨4,3,1,2⟩
def gE20:Gr:=⟨[⟨0,[],[]⟩,⟨0,[],[1,2]⟩,⟨1,[],[]⟩],[(2,1)]⟩
def Zqq:Gr:=⟨[⟨0,[],[]⟩,⟨0,[],[1,2]⟩,⟨1,[],[]⟩],[(2,1),(0,0)]⟩
theorem ZbX:cE20.ok:=by unfold Cf.ok cE20;simp
theorem Zkq:ZP gE20=true:=by decide
theorem ZnN:ZP Zqq=true:=by decide
theorem Zfy:ndSz ⟨0,[],[]⟩=1∧ndSz ⟨0,[],[1,2]⟩=3∧ndSz ⟨1,[],[]⟩=1:=⟨(Zeh (n:=3) (by decide)).1,(Zeh (n:=3) (by decide)).1,(Zeh (n:=3) (by decide)).1⟩
theorem ZoF:ZK cE20 ⟨0,[],[]⟩=true∧ZK cE20 ⟨0,[],[1,2]⟩=false∧ZK cE20 ⟨1,[],[]⟩=true:=by
 unfold ZK Zar;rw[Zfy.1,Zfy.2.1,Zfy.2.2,Ym ZbX];decide
theorem ZdY:Zi cE20 false=(0,4)∧Zi cE20 true=(4,4)∧Zd cE20=(8,3):=by
 refine⟨?_,?_,?_⟩
 · show Zbf cE20 0=_
   unfold Zbf;rw[if_pos ZbX];rfl
 · show Zbf cE20 1=_
   unfold Zbf;rw[if_pos ZbX];rfl
 · unfold Zd
   rw[if_pos ⟨ZbX,by decide⟩];rfl
theorem Zcm:sSm cE20 gE20.nd=2∧sBg cE20 gE20.nd=3∧tbL cE20 8 gE20.nd=[(8,3)]∧plL cE20 0 8 gE20.nd=[0,8,1]∧plL cE20 4 8 gE20.nd=[4,8,5]:=by
 obtain⟨a,b,c⟩:=ZoF;obtain⟨d,e,f⟩:=Zfy;unfold gE20;simp only[sSm,sBg,tbL,plL,a,b,c,d,e,f,if_true];decide
theorem ZmL:loE cE20 false gE20=0∧loE cE20 true gE20=0∧loE cE20 false Zqq=8:=by
 obtain⟨f1,f2,f3⟩:=ZdY;obtain⟨l1,l2, -⟩:=Zcm;refine⟨?_,?_,ZfT ZbX ZnN (by decide)⟩
 · refine ZeO ZbX Zkq (by decide) ?_
   unfold Zu loT ZbD loB ZC;rw[List.take_length,l1,l2,f1,f3];decide
 · refine ZeO ZbX Zkq (by decide) ?_
   unfold Zu loT ZbD loB ZC;rw[List.take_length,l1,l2,f2,f3];decide
theorem Zlz:loPl cE20 true gE20=[4,8,5]∧loPl cE20 false gE20=[0,8,1]:=by
 obtain⟨f1,f2,f3⟩:=ZdY;obtain⟨-, -, -,l3,l4⟩:=Zcm;unfold loPl loT loB;rw[f1,f2,f3];exact⟨l4,l3⟩
theorem ZkO:(Z7 cE20 false gE20).top=2∧(Z7 cE20 false gE20).tb=[(8,3)]∧(Z7 cE20 false gE20).fr=[]∧(Z7 cE20 false gE20).sl=[(true,0,34)]:=by
 obtain⟨f1,f2,f3⟩:=ZdY;obtain⟨l1,l2,l3, -⟩:=Zcm;refine⟨?_,?_,?_,?_⟩
 · show loT cE20 false+sSm cE20 gE20.nd=2
   unfold loT;rw[l1,f1];rfl
 · show tbL cE20 (loB cE20) gE20.nd=_
   unfold loB;rw[f3];exact l3
 · show frL (loB cE20+sBg cE20 gE20.nd) (ZC cE20)=[]
   unfold loB ZC;rw[l2,f3];rfl
 · show ZeY cE20 false gE20=_
   unfold ZeY;rw[Zlz.2];decide
end
end Go.Proofs.YtknoncenblehkaaGreatDoor
