/- LowerLowers, walked over what package lower is asked for. (P LowerAgain, walked over what package lower is asked for. (Pr LowerBack, walked over what packages lower, state and canon Chapter 20's example in plain words. No program in it. -/
import Derived.Test.YtknoncenblehkaaGreatDoorF46
import Derived.Test.YtknoncenblehkaaGreatDoorF38
set_option maxRecDepth 100000
set_option maxHeartbeats 32000000
set_option linter.unusedSimpArgs false
set_option linter.unusedVariables false
namespace Go.Proofs.YtknoncenblehkaaGreatDoor
section
open Go.RowKit Go.Lib
def AwL20:Prop:= ∀w:World,Par w→Calls Tryz.prog 7 #[] w fun e w'=>e=.returned (.bool true)∧Only nob w w'
theorem Zsq (c:Cf) (g:Gr):(loO c g).length=g.nd.length:=by
 have key: ∀(l:List Nd) (k:Nat),(smI c k l).length+(bgI c k l).length=l.length:=by
  intro l
  induction l with
  |nil=>intro k;rfl
  |cons x l ih=>
   intro k
   have:=ih (k+1)
   cases hx:ZU c x
   · simp only[smI,bgI,hx,Bool.false_eq_true,if_false,List.length_cons];omega
   · simp only[smI,bgI,hx,if_true,List.length_cons];omega
 unfold loO;rw[Ys];exact key _ _
structure Back20 (c:Cf) (sec:Bool) (g:Gr):Prop where
 ok:StOk (Zaq c sec g)
 chk:Zbh (Zaq c sec g)=0
 few:(Zaq c sec g).objs.length≤1000000
 obe:obE (Zaq c sec g)=0
 obl:(obL (Zaq c sec g)).length=g.nd.length
 fit:GrFit (rnG g (loO c g))
 nodes:(rnG g (loO c g)).nd.length=g.nd.length
 roots:(rnG g (loO c g)).rt.length≤1000
 again:loE c sec (rnG g (loO c g))=0∧Ztc c sec (rnG g (loO c g))=Zaq c sec g
 alike:Za6 g (rnG g (loO c g))=true
theorem ZtZ {c:Cf} {sec:Bool} {g:Gr} (h:LoOk c sec g) (hfit:GrFit g) (hc:CFit c) (hn:g.nd.length≤1000) (hr:g.rt.length≤1000):Back20 c sec g:=by
 obtain⟨e1,e2,e3,e4⟩:=h.lift;have hl:=Zsq c g;obtain⟨a1,a2⟩:=h.again (by omega);have h0:=Zdu.2 a1;refine⟨h.st_ok hfit hc hn,e1,?_,?_,?_,ZqY hfit (by omega),?_,?_,⟨h0,?_⟩,(Zpi e2 (by omega)).2.2.2⟩
 · rw[e4,List.length_map];omega
 · unfold obE;rw[if_pos e1]
 · unfold obL;rw[if_pos e1,e4,List.length_map];exact hl
 · have hg:rnG g (loO c g)=⟨(Zai g (loO c g)).map (ndT (loO c g)),ZO (loO c g) g.rt⟩:=if_pos e2
   rw[hg];simp only[List.length_map];unfold Zai;rw[List.length_map];exact hl
 · have:=(ZrY (g:=g) (o:=loO c g)).2
   omega
 · rw[(ZbH h0).1]
   exact a2
theorem Zfs (CK:ZmR 16) (AL:Ztr 17) (MT:ZtR 18) (C:LoC) (AW:AwL20) (c:Cf) (sec:Bool) (g:Gr) (vn vr:Value) (hs:List (Value×Value)) (w:World) (h:RdG w w.heap.size g vn vr hs) (hfit:GrFit g) (hc:CFit c) (hpar:Par w):
 Calls Tryz.prog 4 #[.agg #[.int .i64 c.semi,.int .i64 c.large,.int .i64 c.slots,.int .i64 c.limit],.bool sec,.agg #[vn,vr]] w fun e w'=>e=.returned (.bool true)∧Only nob w w':=by
 obtain⟨A,cn,rfl,hac,hcm⟩:=h.nodes.form;obtain⟨Ar,cr,rfl,hacr,hcmr⟩:=h.roots.form;unfold maxLen at hcm hcmr;obtain⟨W,hW,HB⟩:=ZfF w c (.slice A g.nd.length cn) (.slice Ar g.rt.length cr);have HW:=ZZ hW
 obtain⟨p,hp⟩: ∃p,p=w.heap.size:=⟨_,rfl⟩
 have HP:=ZZ hp;rw[← hp] at HB;have HR:=ZZ h;have HPAR:=ZZ hpar;have HFC:=ZZ (And.intro hfit hc);have HLG:=ZZ (ZiO g _ _ hs w.heap.size W (h.only HB.out.1 (Yj _)) HB.out.1.size);have HAW:=ZZ (show ∀W',Only nob w W'→Calls Tryz.prog 7 #[] W' fun e w'=>e=.returned (.bool true)∧Only nob W' w' from fun W' o=>AW W' (HPAR.out.old o))
 obtain⟨N,hN⟩: ∃N,N=g.nd.length:=⟨_,rfl⟩
 have HN:=ZZ hN
 obtain⟨M,hM⟩: ∃N,N=g.rt.length:=⟨_,rfl⟩
 have HM:=ZZ hM;rw[← hN, ← hM];rw[← hN, ← hM] at HB HW HLG;rw[← hN] at hac;rw[← hM] at hacr;have XX:=ZZ (show ∀W',Only nob W W'→W'.cell? ⟨p,0,none⟩=some (.int .i64 c.semi)∧W'.cell? ⟨p,1,none⟩=some (.int .i64 c.large)∧W'.cell? ⟨p,2,none⟩=some (.int .i64 c.slots)∧W'.cell? ⟨p,3,none⟩=some (.int .i64 c.limit)∧W'.cell? ⟨p+1,0,none⟩=some (.slice A N cn)∧W'.cell? ⟨p+1,1,none⟩=some (.slice Ar M cr) from fun W' o=>⟨o.keeps HB.out.2.1.c0,o.keeps HB.out.2.1.c1,o.keeps HB.out.2.1.c2,o.keeps HB.out.2.1.c3,o.keeps (HB.out.2.2.cell 0),o.keeps (HB.out.2.2.cell 1)⟩);clear hW hp hN hM h hpar hfit hc;obtain⟨c0,c1,c2,c3,g0,g1⟩:=XX.out W (Only.refl _ _)
 go_enter Tryz.func4,Tryz.ntmps4
 go_upto_region 1 with fail
 rw[HW.out, ← HP.out]
 go_wp2_with fail
 go_at_call 6;refine HLG.out.mono ?_;rintro e w1 ⟨b,rfl,hb,o⟩;have N1:=ZZ o;have O1:=ZZ (HB.out.1.trans o);have HBD:=ZZ hb;clear o c0 c1 c2 c3 g0 g1 hb
 cases b
 case true=>
  go_wp2_with fail
  go_at_call 7;refine(HAW.out _ O1.out).mono ?_;rintro e w9 ⟨rfl,o9⟩;have O9:=ZZ (O1.out.trans o9);clear o9;go_wp2;go_ret;exact⟨rfl,O9.out⟩
 case false=>
 have hbd:=HBD.out rfl;obtain⟨c0,c1,c2,c3,g0,g1⟩:=XX.out w1 N1.out;by_cases hs1:1000<c.semi
 case pos=>
  go_wp2_with fail
  go_at_call 7;refine(HAW.out _ O1.out).mono ?_;rintro e w9 ⟨rfl,o9⟩;have O9:=ZZ (O1.out.trans o9);clear o9;go_wp2;go_ret;exact⟨rfl,O9.out⟩
 case neg=>
 by_cases hs2:1000<c.large
 case pos=>
  go_wp2_with fail
  go_at_call 7;refine(HAW.out _ O1.out).mono ?_;rintro e w9 ⟨rfl,o9⟩;have O9:=ZZ (O1.out.trans o9);clear o9;go_wp2;go_ret;exact⟨rfl,O9.out⟩
 case neg=>
 have HIN:=ZZ (show ∀W',Only nob w W'→In20 W' w.heap.size c g (.slice A N cn) (.slice Ar M cr) hs from fun W' o=>by
  have h1:=HR.out.only o (Yj _);rw[← HN.out, ← HM.out] at h1
  exact⟨h1,o.size,HFC.out.1,HFC.out.2,hbd.1,hbd.2,HPAR.out.old o⟩)
 have HC1:=ZZ (fun (W':World) (o:Only nob w W')=>C.lower c sec g _ _ hs w.heap.size W' (HIN.out W' o));by_cases hq:loE c sec g=0
 case neg=>
  obtain⟨q,hqq⟩: ∃q,q=loE c sec g:=⟨_,rfl⟩
  have hs1':=(Zg5 hq).1;rw[hs1', ← hqq] at HC1;rw[← hqq] at hq
  have hqb:(q !=0)=true:=by simpa using hq
  clear hqq hs1'
  go_wp2_with fail
  go_at_call 8;refine(HC1.out w1 O1.out).mono ?_;rintro e w2 ⟨s,vw,vt,vf,vs,rfl,rfl,hrd,o⟩;obtain⟨Aw,kw,rfl, -, -⟩:=hrd.words.form;obtain⟨At,kt,rfl, -, -⟩:=hrd.tab.form;obtain⟨Af,kf,rfl, -, -⟩:=hrd.free.form;obtain⟨As,ks,rfl, -, -⟩:=hrd.slots.form;obtain⟨W2,hW2,HB2⟩:=ZW w2 noS (.slice Aw noS.ws.length kw) (.slice At noS.tb.length kt) (.slice Af noS.fr.length kf) (.slice As noS.sl.length ks);have HW2:=ZZ hW2;have O2:=ZZ (O1.out.trans (o.trans HB2.out.1))
  obtain⟨sa,hsa⟩: ∃b,b=w2.heap.size:=⟨_,rfl⟩
  have HSA:=ZZ hsa;have RD1:=ZZ ((hrd.only HB2.out.1 (Yj _)).more HB2.out.1.size);have BX1:=ZZ HB2.out.2.2;rw[← hsa] at BX1;clear c0 c1 c2 c3 g0 g1 hrd o hW2 hsa
  go_upto_region 4 with fail
  rw[HW2.out];rw[← HSA.out];obtain⟨a0,a1,a2,a3,a4,a5,a6,a7,a8,a9⟩:=BX1.out;have HSM:=ZZ (ZrP noS noS _ _ _ _ (.slice none 0 0) (.slice none 0 0) (.slice none 0 0) (.slice none 0 0) W2.heap.size W2.heap.size W2 RD1.out ⟨Sl.nil_,Sl.nil_,Sl.nil_,Sl.nil_⟩ (Yj _) (Yj _));rw[Zhj rfl] at HSM
  go_wp2_with fail
  go_at_call 12;refine HSM.out.mono ?_;rintro e W6 ⟨rfl,o⟩;have O6:=ZZ (O2.out.trans o);clear a0 a1 a2 a3 a4 a5 a6 a7 a8 a9 o
  go_wp2_with fail
  go_at_call 7;refine(HAW.out _ O6.out).mono ?_;rintro e w9 ⟨rfl,o9⟩;have O9:=ZZ (O6.out.trans o9);clear o9;go_wp2;go_ret;exact⟨rfl,O9.out⟩
 case pos=>
 have HOK:=ZZ (Zdu.1 hq);have HBK:=ZZ (ZtZ HOK.out HFC.out.1 HFC.out.2 hbd.1 hbd.2);have hs1':=(ZbH hq).1;rw[hs1',hq] at HC1
 obtain⟨S,hS⟩: ∃s,s=Zaq c sec g:=⟨_,rfl⟩
 have HS:=ZZ hS;rw[← hS] at HC1;clear hS hs1' hq
 go_wp2_with fail
 go_at_call 8;refine(HC1.out w1 O1.out).mono ?_;rintro e w2 ⟨s,vw,vt,vf,vs,hs1',rfl,hrd,o⟩;obtain rfl:S=s:=hs1'.symm;obtain⟨Aw,kw,rfl, -, -⟩:=hrd.words.form;obtain⟨At,kt,rfl, -, -⟩:=hrd.tab.form;obtain⟨Af,kf,rfl, -, -⟩:=hrd.free.form;obtain⟨As,ks,rfl, -, -⟩:=hrd.slots.form;obtain⟨W2,hW2,HB2⟩:=ZW w2 S (.slice Aw S.ws.length kw) (.slice At S.tb.length kt) (.slice Af S.fr.length kf) (.slice As S.sl.length ks);have HW2:=ZZ hW2
 obtain⟨sa,hsa⟩: ∃b,b=w2.heap.size:=⟨_,rfl⟩
 have HSA:=ZZ hsa;have N2:=ZZ (N1.out.trans (o.trans HB2.out.1));have O2:=ZZ (O1.out.trans (o.trans HB2.out.1));have RD1:=ZZ ((hrd.only HB2.out.1 (Yj _)).more HB2.out.1.size);have BX1:=ZZ HB2.out.2.2;rw[← hsa] at BX1;clear c0 c1 c2 c3 g0 g1 hrd o hW2 hsa
 go_upto_region 4 with fail
 rw[HW2.out, ← HSA.out];have HLF:=ZkS S (.slice Aw S.ws.length kw) (.slice At S.tb.length kt) (.slice Af S.fr.length kf) (.slice As S.sl.length ks) W2.heap.size W2 RD1.out (Yj _) (by rw[HS.out];exact HBK.out.ok) (HPAR.out.old O2.out) (fun _=>by rw[HS.out];exact HBK.out.few);rw[show liG S=rnG g (loO c g) by rw[HS.out];exact HOK.out.lift.2.2.1,show obE S=0 by rw[HS.out];exact HBK.out.obe] at HLF;have HLF:=ZZ HLF
 obtain⟨G,hG⟩: ∃G,G=rnG g (loO c g):=⟨_,rfl⟩
 have HG:=ZZ hG;rw[← hG] at HLF;clear hG;obtain⟨a0,a1,a2,a3,a4,a5,a6,a7,a8,a9⟩:=BX1.out
 go_wp2_with fail
 go_at_call 15;refine HLF.out.mono ?_;rintro e w3 ⟨un,ur,js,lv,rfl,rd,hls,o⟩;obtain⟨An,kn,hun, -⟩:=rd.nodes.form;obtain⟨Ag,kg,hur, -⟩:=rd.roots.form;obtain⟨Al,kl,hvl, -, -⟩:=hls.form;subst hun hur hvl;obtain⟨W3,hW3,HB3⟩:=Zbj w3 (.slice An G.nd.length kn) (.slice Ag G.rt.length kg);have HW3:=ZZ hW3
 obtain⟨gb,hgb⟩: ∃b,b=w3.heap.size:=⟨_,rfl⟩
 have HGB:=ZZ hgb;have M3:=ZZ (o.trans HB3.out.1);have N3:=ZZ (N2.out.trans M3.out);have O3:=ZZ (O2.out.trans M3.out);have RD1:=ZZ ((RD1.out.only M3.out (Yj _)).more M3.out.size);have BX1:=ZZ (BX1.out.keep M3.out);have RG:=ZZ ((rd.only HB3.out.1 (Yj _)).more HB3.out.1.size);have LS:=ZZ ((hls.below HB3.out.1.whole).more HB3.out.1.size);have BG:=ZZ HB3.out.2;rw[← hgb] at BG;clear a0 a1 a2 a3 a4 a5 a6 a7 a8 a9 rd hls o hW3 hgb
 go_upto_region 7 with fail
 rw[HW3.out, ← HGB.out];obtain⟨c0,c1,c2,c3,g0,g1⟩:=XX.out W3 N3.out;have HPC:=C.places c sec g _ _ hs w.heap.size W3 (HIN.out W3 O3.out);rw[(ZbH (Zdu.2 HOK.out)).2,Zdu.2 HOK.out] at HPC;have HPC:=ZZ HPC
 obtain⟨PL,hPL⟩: ∃s,s=loPl c sec g:=⟨_,rfl⟩
 have HPL:=ZZ hPL;rw[← hPL] at HPC
 have hpln:PL.length=N:=by rw[hPL,HN.out];exact ZbJ ..
 have HPN:=ZZ hpln
 have hobn:(obL S).length=N:=by rw[HS.out,HN.out];exact HBK.out.obl
 have HON:=ZZ hobn
 have hgn:G.nd.length=N:=by rw[HG.out,HN.out];exact HBK.out.nodes
 have HGN:=ZZ hgn;rw[hobn,hgn];clear hPL hpln hobn hgn
 go_wp2_with fail
 go_at_call 10;refine HPC.out.mono ?_;rintro e W4 ⟨v4,rfl,hp4,o⟩;obtain⟨Pa,ka,rfl, -, -⟩:=hp4.form;have hpn:=HPN.out;rw[hpn] at hp4;rw[hpn];have N4:=ZZ (N3.out.trans o);have O4:=ZZ (O3.out.trans o);have RD1:=ZZ ((RD1.out.only o (Yj _)).more o.size);have BX1:=ZZ (BX1.out.keep o);have RG:=ZZ ((RG.out.only o (Yj _)).more o.size);have BG:=ZZ (BG.out.keep o id);have LS:=ZZ ((LS.out.below o.whole).more o.size);have PS:=ZZ hp4;clear c0 c1 c2 c3 g0 g1 hp4 o hpn;obtain⟨a0,a1,a2,a3,a4,a5,a6,a7,a8,a9⟩:=BX1.out;have HCK:=ZZ (CK S _ _ _ _ _ W4 RD1.out (Yj _) (by rw[HS.out];exact HBK.out.ok) (HPAR.out.old O4.out));rw[show Zbh S=0 by rw[HS.out];exact HBK.out.chk] at HCK
 go_wp2_with fail
 go_at_call 16;refine HCK.out.mono ?_;rintro e W5 ⟨rfl,o⟩;have N5:=ZZ (N4.out.trans o);have O5:=ZZ (O4.out.trans o);have RG:=ZZ ((RG.out.only o (Yj _)).more o.size);have BG:=ZZ (BG.out.keep o id);have LS:=ZZ ((LS.out.below o.whole).more o.size);have PS:=ZZ ((PS.out.below o.whole).more o.size);clear a0 a1 a2 a3 a4 a5 a6 a7 a8 a9 o;obtain⟨c0,c1,c2,c3,g0,g1⟩:=XX.out W5 N5.out
 have h0:W5.cell? ⟨gb,0,none⟩=some (.slice An N kn):=by rw[← HGN.out];exact BG.out.cell 0
 have h1:W5.cell? ⟨gb,1,none⟩=some (.slice Ag G.rt.length kg):=BG.out.cell 1
 have HIG:=ZZ (show ∀W',Only nob W5 W'→RdG W' W'.heap.size g (.slice A N cn) (.slice Ar M cr) hs∧RdG W' W'.heap.size G (.slice An N kn) (.slice Ag G.rt.length kg) js from fun W' o=>⟨((HIN.out W' (O5.out.trans o)).rd).more (O5.out.trans o).size,by
  have h2:=(RG.out.only o (Yj _)).more o.size;rw[← HGN.out]
  exact h2⟩)
 have HBB:=ZZ (show GrFit G∧G.nd.length≤1000∧G.rt.length≤1000∧Za6 g G=true from⟨by rw[HG.out];exact HBK.out.fit,by rw[HG.out,HBK.out.nodes];exact hbd.1,by rw[HG.out];exact HBK.out.roots,by rw[HG.out];exact HBK.out.alike⟩)
 have HAL:=ZZ (show ∀W',Only nob W5 W'→Calls Tryz.prog 17 #[.agg #[.slice A N cn,.slice Ar M cr],.agg #[.slice An N kn,.slice Ag G.rt.length kg]] W' fun e w'=>e=.returned (.bool true)∧Only nob W' w' from fun W' o=>by
  have h2:=AL g G _ _ _ _ hs js W'.heap.size W' (HIG.out W' o).1 (HIG.out W' o).2 (Yj _) HFC.out.1 HBB.out.1 hbd.1 hbd.2 HBB.out.2.1 HBB.out.2.2.1;rw[HBB.out.2.2.2] at h2
  exact h2)
 have HMT:=ZZ (show ∀W',Only nob W5 W'→Calls Tryz.prog 18 #[.agg #[.slice A N cn,.slice Ar M cr],.agg #[.slice An N kn,.slice Ag G.rt.length kg]] W' fun e w'=> ∃v,e=.returned (.tuple #[v,.bool true])∧OwR w' W'.heap.size 3 v (toL g G).length (i64s (toL g G))∧Only nob W' w' from fun W' o=>by
  have h2:=MT g G _ _ _ _ hs js W'.heap.size W' (HIG.out W' o).1 (HIG.out W' o).2 (Yj _) HFC.out.1 HBB.out.1 hbd.1 hbd.2 HBB.out.2.1 HBB.out.2.2.1;rw[HBB.out.2.2.2,show ZhD g G=toL g G from if_pos HBB.out.2.2.2] at h2
  exact h2)
 go_wp2_with fail
 go_at_call 17;refine(HAL.out W5 (Only.refl _ _)).mono ?_;rintro e W6 ⟨rfl,o⟩;have M6:=ZZ o;clear c0 c1 c2 c3 g0 g1 h0 h1 o;obtain⟨c0,c1,c2,c3,g0,g1⟩:=XX.out W6 (N5.out.trans M6.out)
 have h0:W6.cell? ⟨gb,0,none⟩=some (.slice An N kn):=by rw[← HGN.out];exact(BG.out.keep M6.out id).cell 0
 have h1:W6.cell? ⟨gb,1,none⟩=some (.slice Ag G.rt.length kg):=(BG.out.keep M6.out id).cell 1
 go_wp2_with fail
 go_at_call 18;refine(HMT.out W6 M6.out).mono ?_;rintro e W7 ⟨mv,rfl,hmo,o⟩
 have hml:(toL g G).length=N:=by rw[HN.out];unfold toL;simp
 obtain⟨Mv,mk,rfl, -, -⟩:=hmo.form;have M7:=ZZ (M6.out.trans o);have O7:=ZZ (O5.out.trans M7.out);have MS:=ZZ (show Sl W7 W7.heap.size 1 (.slice Mv (toL g G).length mk) (toL g G).length (i64s (toL g G)) from hmo.sl);have LS7:=ZZ ((LS.out.below M7.out.whole).more M7.out.size);have PS7:=ZZ ((PS.out.below M7.out.whole).more M7.out.size);have HML:=ZZ hml;rw[hml]
 have HPR:=ZZ (show ∀i:Nat,i<N→ ∃z:Int,PL[i]? =some z∧ ∃k:Int,(toL g G)[i]? =some k∧(k= -1∨ ∃j:Nat,k=j∧(obL S)[j]? =some z) from fun i hi=>by
  have hi':i<g.nd.length:=by rw[← HN.out];exact hi
  obtain⟨d,hd⟩: ∃x,g.nd[i]? =some x:=⟨_,Ya hi'⟩
  obtain⟨z1, -⟩:=ZdG (c:=c) (sec:=sec) hd;obtain⟨k,e1,e2⟩:=HOK.out.paired (by have:=hbd.1;omega) hi';refine⟨atP c sec g i,by rw[HPL.out];exact z1,k,by rw[HG.out];exact e1,?_⟩
  have eo:obL S=(Zaq c sec g).objs:=by rw[HS.out];exact if_pos HBK.out.chk
  rw[eo]
  exact e2)
 clear c0 c1 c2 c3 g0 g1 h0 h1 o hmo hml
 go_wp2_with fail
 go_loopw [16] (fun vi wr=> ∃k:Nat,k≤N∧vi=.int .i64 k∧Hid (Only nob W7 wr)) (fun vi _=>N - (RowKit.intOf vi).toNat)
 case atStart=>exact⟨0,Yu _,rfl,ZZ (Only.refl _ _)⟩
 case round=>
 obtain⟨k,hk,rfl,HO⟩:=hrel;by_cases hlt:k<N
 case pos=>
  obtain⟨z,hz,m,hm,hcase⟩:=HPR.out k hlt;have hMS:=MS.out;obtain⟨bm,om,hMa, -,m0⟩:=ZaO (l:=toL g G) (k:=k) hMS (HO.out.whole) hm;subst hMa
  rcases hcase with rfl|⟨j,rfl,hj⟩
  · clear hm hz hMS
    go_wp2_with fail
    go_quiet (fail)
    go_wp2
    go_roundw
    case rel=>exact⟨k+1,by omega,by go_num,ZZ (HO.out.drewN _)⟩
    case measure=>simp[RowKit.intOf];omega
  · have hjl:j<N:=by rw[← HON.out];exact(Yk.1 hj).1
    have hLS:=LS7.out;have hPS:=PS7.out;obtain⟨bl,ol,hLa, -,l0⟩:=ZaO (l:=obL S) (k:=j) (by rw[HON.out] at hLS ⊢;exact hLS) (HO.out.whole) hj;subst hLa;obtain⟨bp,op,hPa, -,p0⟩:=ZaO (l:=PL) (k:=k) (by rw[HPN.out];exact hPS) (HO.out.whole) hz;subst hPa;clear hm hz hj hMS hLS hPS
    go_wp2_with fail
    go_quiet (fail)
    go_wp2
    go_roundw
    case rel=>exact⟨k+1,by omega,by go_num,ZZ (HO.out.drewN _)⟩
    case measure=>simp[RowKit.intOf];omega
 case neg=>
 obtain rfl:k=N:=by omega
 have OW:=ZZ (O7.out.trans HO.out)
 go_wp2_with fail
 go_at_call 7;refine(HAW.out _ OW.out).mono ?_;rintro e w9 ⟨rfl,o9⟩;have O9:=ZZ (OW.out.trans o9);clear o9;go_wp2;go_ret;exact⟨rfl,O9.out⟩
end
section
open Go.RowKit
def cE20:Cf:=⟨4,3,1,2⟩
def gE20:Gr:=⟨[⟨0,[],[]⟩,⟨0,[],[1,2]⟩,⟨1,[],[]⟩],[(2,1)]⟩
def ZtT:Gr:=⟨[⟨0,[],[]⟩,⟨0,[],[1,2]⟩,⟨1,[],[]⟩],[(2,1),(0,0)]⟩
theorem ZcC:cE20.ok:=by unfold Cf.ok cE20;simp
theorem Zmg:ZA gE20=true:=by decide
theorem ZrE:ZA ZtT=true:=by decide
theorem Zhc:ndSz ⟨0,[],[]⟩=1∧ndSz ⟨0,[],[1,2]⟩=3∧ndSz ⟨1,[],[]⟩=1:=⟨(Zfr (n:=3) (by decide)).1,(Zfr (n:=3) (by decide)).1,(Zfr (n:=3) (by decide)).1⟩
theorem ZrZ:ZU cE20 ⟨0,[],[]⟩=true∧ZU cE20 ⟨0,[],[1,2]⟩=false∧ZU cE20 ⟨1,[],[]⟩=true:=by
 unfold ZU ZaU;rw[Zhc.1,Zhc.2.1,Zhc.2.2,Ym ZcC];decide
theorem ZeM:Zl cE20 false=(0,4)∧Zl cE20 true=(4,4)∧Ze cE20=(8,3):=by
 refine⟨?_,?_,?_⟩
 · show ZbV cE20 0=_
   unfold ZbV;rw[if_pos ZcC];rfl
 · show ZbV cE20 1=_
   unfold ZbV;rw[if_pos ZcC];rfl
 · unfold Ze
   rw[if_pos ⟨ZcC,by decide⟩];rfl
theorem Zdr:sSm cE20 gE20.nd=2∧sBg cE20 gE20.nd=3∧tbL cE20 8 gE20.nd=[(8,3)]∧plL cE20 0 8 gE20.nd=[0,8,1]∧plL cE20 4 8 gE20.nd=[4,8,5]:=by
 obtain⟨a,b,c⟩:=ZrZ;obtain⟨d,e,f⟩:=Zhc;unfold gE20;simp only[sSm,sBg,tbL,plL,a,b,c,d,e,f,if_true];decide
theorem ZqE:loE cE20 false gE20=0∧loE cE20 true gE20=0∧loE cE20 false ZtT=8:=by
 obtain⟨f1,f2,f3⟩:=ZeM;obtain⟨l1,l2, -⟩:=Zdr;refine⟨?_,?_,ZhU ZcC ZrE (by decide)⟩
 · refine Zg2 ZcC Zmg (by decide) ?_
   unfold ZB loT Zcq loB ZL;rw[List.take_length,l1,l2,f1,f3];decide
 · refine Zg2 ZcC Zmg (by decide) ?_
   unfold ZB loT Zcq loB ZL;rw[List.take_length,l1,l2,f2,f3];decide
theorem Zoe:loPl cE20 true gE20=[4,8,5]∧loPl cE20 false gE20=[0,8,1]:=by
 obtain⟨f1,f2,f3⟩:=ZeM;obtain⟨-, -, -,l3,l4⟩:=Zdr;unfold loPl loT loB;rw[f1,f2,f3];exact⟨l4,l3⟩
theorem Zml:(Zaq cE20 false gE20).top=2∧(Zaq cE20 false gE20).tb=[(8,3)]∧(Zaq cE20 false gE20).fr=[]∧(Zaq cE20 false gE20).sl=[(true,0,34)]:=by
 obtain⟨f1,f2,f3⟩:=ZeM;obtain⟨l1,l2,l3, -⟩:=Zdr;refine⟨?_,?_,?_,?_⟩
 · show loT cE20 false+sSm cE20 gE20.nd=2
   unfold loT;rw[l1,f1];rfl
 · show tbL cE20 (loB cE20) gE20.nd=_
   unfold loB;rw[f3];exact l3
 · show frL (loB cE20+sBg cE20 gE20.nd) (ZL cE20)=[]
   unfold loB ZL;rw[l2,f3];rfl
 · show ZgU cE20 false gE20=_
   unfold ZgU;rw[Zoe.2];decide
end
end Go.Proofs.YtknoncenblehkaaGreatDoor
