/- Chapter 20's example comes to what the chapter says, over wh -/
import Derived.Test.YtknoncenblehkaaGreatDoorG47
set_option maxRecDepth 100000
set_option maxHeartbeats 32000000
set_option linter.unusedSimpArgs false
set_option linter.unusedVariables false
namespace Go.Proofs.YtknoncenblehkaaGreatDoor
open Go.RowKit Go.Lib
theorem Sl.by_value {w w':World} {B size n:Nat} {v:Value} {xs:List Value} {g:Nat} {t:TypeId} {cs:Array Value} (h:Sl w B size v n xs) (hb:Blk w g t cs) (o:Only (isb g) w w') (hB:B≤w.heap.size) (hx:0<n→ ∃(j:Nat) (u:Value),xs[j]? =some u∧u∉cs.toList):Sl w' B size v n xs:=by
 obtain⟨A,c,rfl,h1,h2,h3,h4⟩:=h;refine⟨A,c,rfl,h1,h2,h3,fun hp=>?_⟩;obtain⟨q,f,rfl,hq,hc⟩:=h4 hp;obtain⟨j,u,hj,hu⟩:=hx hp
 have hne: ¬q=g:=by
  rintro rfl;have h5:=hc j u hj;rw[hb.cell, ← Array.getElem?_toList] at h5;exact hu (Yn h5)
 exact⟨q,f,rfl,hq,fun k z hz=>(o.cell (p:=⟨q,f+k,none⟩) (Yv hq hB) hne).trans (hc k z hz)⟩
theorem ZkK {w w':World} {B:Nat} {S:St} {vw vt vf vs:Value} {g:Nat} {t:TypeId} {cs:Array Value} (h:Rd w B S vw vt vf vs) (hb:Blk w g t cs) (o:Only (isb g) w w') (hB:B≤w.heap.size) (ht:S.tb=[(8,3)]) (hf:S.fr=[]) (hs:S.sl=[(true,0,34)]) (h1: ∀x:Nat,Value.int .u64 (x:Nat)∉cs.toList) (h2:Value.int .i64 8∉cs.toList) (h3:Value.bool true∉cs.toList):Rd w' B S vw vt vf vs:=by
 refine⟨h.words.by_value hb o hB fun hn=>?_,h.tab.by_value hb o hB fun _=>⟨0,.int .i64 8,by rw[ht];rfl,h2⟩,h.free.by_value hb o hB fun hn=>?_,h.slots.by_value hb o hB fun _=>⟨0,.bool true,by rw[hs];rfl,h3⟩⟩
 · obtain⟨x,hx⟩: ∃x,S.ws[0]? =some x:=⟨_,Ya hn⟩
   exact⟨0,.int .u64 (x:Nat),by unfold u64s;rw[List.getElem?_map,hx];rfl,h1 x⟩
 · rw[hf] at hn
   exact absurd hn (by decide)
abbrev ZiO:Array Value:=#[.int .i64 4,.int .i64 3,.int .i64 1,.int .i64 2]
theorem ZpC (w:World): ∃V,((((w.alloc (.cells ZiO 23)).alloc (.cells #[.int .u64 1,.int .u64 2] 57)).alloc (.cells #[.int .i64 0,.slice none 0 0,.slice none 0 0,.int .i64 0,.slice none 0 0,.slice (some ⟨w.heap.size+1,0,none⟩) 2 2,.int .i64 1,.slice none 0 0,.slice none 0 0] 56)).alloc (.cells #[.int .i64 2,.int .i64 1] 59)).alloc (.cells #[.slice (some ⟨w.heap.size+1+1,0,none⟩) 3 3,.slice (some ⟨w.heap.size+1+1+1,0,none⟩) 1 1] 27)=V∧
 Hid (Only nob w V∧Blk V w.heap.size 23 ZiO∧Blk V (w.heap.size+1) 57 #[.int .u64 1,.int .u64 2]∧Blk V (w.heap.size+1+1) 56 #[.int .i64 0,.slice none 0 0,.slice none 0 0,.int .i64 0,.slice none 0 0,.slice (some ⟨w.heap.size+1,0,none⟩) 2 2,.int .i64 1,.slice none 0 0,.slice none 0 0]∧Blk V (w.heap.size+1+1+1) 59 #[.int .i64 2,.int .i64 1]∧Blk V (w.heap.size+1+1+1+1) 27 #[.slice (some ⟨w.heap.size+1+1,0,none⟩) 3 3,.slice (some ⟨w.heap.size+1+1+1,0,none⟩) 1 1]∧V.heap.size=w.heap.size+5):=by
 refine⟨_,rfl,ZZ ⟨((((Only.refl nob w).alloc _).alloc _).alloc _).alloc _|>.alloc _,((((Blk.new w _ _).alloc _).alloc _).alloc _).alloc _,(((Blk.newAt _ _ _ _ (by simp)).alloc _).alloc _).alloc _,((Blk.newAt _ _ _ _ (by simp)).alloc _).alloc _,(Blk.newAt _ _ _ _ (by simp)).alloc _,Blk.newAt _ _ _ _ (by simp),by simp⟩⟩
theorem Zpb {W:World} {p:Nat} (b1:Blk W (p+1) 57 #[.int .u64 1,.int .u64 2]) (b2:Blk W (p+1+1) 56 #[.int .i64 0,.slice none 0 0,.slice none 0 0,.int .i64 0,.slice none 0 0,.slice (some ⟨p+1,0,none⟩) 2 2,.int .i64 1,.slice none 0 0,.slice none 0 0]) {rt:List Sp} {vr:Value} (hr:Sl W W.heap.size 2 vr rt.length (spc rt)):
 RdG W W.heap.size ⟨gE20.nd,rt⟩ (.slice (some ⟨p+1+1,0,none⟩) 3 3) vr [(.slice none 0 0,.slice none 0 0),(.slice none 0 0,.slice (some ⟨p+1,0,none⟩) 2 2),(.slice none 0 0,.slice none 0 0)]:=by
 have s1:=Sl.of_blk (size:=1) (n:=2) (c:=2) b1 rfl (Yi _) (by decide);have s2:=Sl.of_blk (size:=3) (n:=3) (c:=3) b2 rfl (Yi _) (by decide);refine⟨rfl,s2,fun i d h hd hh=>?_,hr⟩
 match i,hd,hh with
 |0,hd,hh=>
  obtain rfl:d=⟨0,[],[]⟩:=by simpa[gE20] using hd.symm
  obtain rfl:=Yo hh;exact⟨Sl.nil_,Sl.nil_⟩
 |1,hd,hh=>
  obtain rfl:d=⟨0,[],[1,2]⟩:=by simpa[gE20] using hd.symm
  obtain rfl:=Yo hh;exact⟨Sl.nil_,s1⟩
 |2,hd,hh=>
  obtain rfl:d=⟨1,[],[]⟩:=by simpa[gE20] using hd.symm
  obtain rfl:=Yo hh;exact⟨Sl.nil_,Sl.nil_⟩
 |n+3,hd,_=>simp[gE20] at hd
theorem ZkD {rt:List Sp} (h:Zn3 rt):GrFit ⟨gE20.nd,rt⟩:=⟨fun d hd=>by simp[gE20] at hd;rcases hd with rfl|rfl|rfl <;> simp,fun d hd v hv=>by simp[gE20] at hd;rcases hd with rfl|rfl|rfl <;> simp at hv,fun d hd v hv=>by simp[gE20] at hd;rcases hd with rfl|rfl|rfl <;> simp at hv;rcases hv with rfl|rfl <;> decide,h⟩
theorem Zf9:CFit cE20:=⟨by unfold I64 cE20;decide,by unfold I64 cE20;decide,by unfold I64 cE20;decide,by unfold I64 cE20;decide⟩
theorem Zod (CK:Zmy 16) (C:LoC):AwL20:=by
 intro w hpar;obtain⟨V,hV,HV⟩:=ZpC w;have HVE:=ZZ hV;have HPAR:=ZZ hpar
 obtain⟨p,hp⟩: ∃p,p=w.heap.size:=⟨_,rfl⟩
 have HP:=ZZ hp;rw[← hp] at HV;have OV:=ZZ HV.out.1;clear hV hpar hp;obtain⟨e1,e2,e3⟩:=Zlk;obtain⟨t1,t2,t3,t4⟩:=Zj0;have HEX:=ZZ (And.intro e1 (And.intro e2 e3));have HOK:=ZZ (Zb4.1 e1)
 obtain⟨S,hS⟩: ∃S,S=ZaK cE20 false gE20:=⟨_,rfl⟩
 have HS:=ZZ hS;rw[← hS] at t1 t2 t3 t4;have HT:=ZZ (And.intro t1 (And.intro t2 (And.intro t3 t4)));have HPL:=ZZ ZkM.1;have HCF:=ZZ (show S.cf=cE20∧S.sec=false from by rw[hS];exact⟨rfl,rfl⟩);clear e1 e2 e3 t1 t2 t3 t4 hS
 have HIN:=ZZ (show ∀W',Only nob V W'→In20 W' V.heap.size cE20 gE20 (.slice (some ⟨p+1+1,0,none⟩) 3 3) (.slice (some ⟨p+1+1+1,0,none⟩) 1 1) [(.slice none 0 0,.slice none 0 0),(.slice none 0 0,.slice (some ⟨p+1,0,none⟩) 2 2),(.slice none 0 0,.slice none 0 0)] from fun W' o=>by
  obtain⟨-, -,b1,b2,b3, -,hz⟩:=HV.out;have s3:=Sl.of_blk (size:=2) (n:=1) (c:=1) b3 rfl (Yi _) (by decide)
  exact⟨(Zpb b1 b2 (rt:=[(2,1)]) s3).only o (Yi _),o.size,ZkD (fun v hv=>by simp at hv;subst hv;simp),Zf9,by decide,by decide,HPAR.out.old (OV.out.trans o)⟩)
 have HCX:=ZZ (show ∀W',Only nob V W'→W'.cell? ⟨p,0,none⟩=some (.int .i64 4)∧W'.cell? ⟨p,1,none⟩=some (.int .i64 3)∧W'.cell? ⟨p,2,none⟩=some (.int .i64 1)∧W'.cell? ⟨p,3,none⟩=some (.int .i64 2)∧W'.cell? ⟨p+1+1+1+1,0,none⟩=some (.slice (some ⟨p+1+1,0,none⟩) 3 3)∧W'.cell? ⟨p+1+1+1+1,1,none⟩=some (.slice (some ⟨p+1+1+1,0,none⟩) 1 1) from fun W' o=>by
  obtain⟨-,b0, -, -, -,b4, -⟩:=HV.out
  exact⟨o.keeps (b0.cell 0),o.keeps (b0.cell 1),o.keeps (b0.cell 2),o.keeps (b0.cell 3),o.keeps (b4.cell 0),o.keeps (b4.cell 1)⟩)
 have HLW:=ZZ (show ∀W',Only nob V W'→Calls Tryz.prog 8 #[.agg ZiO,.bool false,.agg #[.slice (some ⟨p+1+1,0,none⟩) 3 3,.slice (some ⟨p+1+1+1,0,none⟩) 1 1]] W' fun e w'=> ∃(Aw:Option Addr) (nw kw:Nat) (At:Option Addr) (kt:Nat) (Af:Option Addr) (kf:Nat) (As:Option Addr) (ks:Nat),e=.returned (.tuple #[.agg #[.int .i64 4,.int .i64 3,.int .i64 1,.int .i64 2,.bool false,.slice Aw nw kw,.int .i64 2,.slice At 1 kt,.slice Af 0 kf,.slice As 1 ks],.int .i64 0])∧Hid (Rd w' w'.heap.size S (.slice Aw nw kw) (.slice At 1 kt) (.slice Af 0 kf) (.slice As 1 ks))∧Only nob W' w' from fun W' o=>by
  have h1:=C.lower cE20 false gE20 _ _ _ V.heap.size W' (HIN.out W' o);rw[(ZaO HEX.out.1).1,HEX.out.1, ← HS.out] at h1;refine h1.mono ?_;rintro e w' ⟨s,vw,vt,vf,vs,rfl,rfl,hrd,o2⟩;obtain⟨Aw,kw,rfl, -, -⟩:=hrd.words.form;obtain⟨At,kt,rfl, -, -⟩:=hrd.tab.form;obtain⟨Af,kf,rfl, -, -⟩:=hrd.free.form;obtain⟨As,ks,rfl, -, -⟩:=hrd.slots.form
  have l1:s.tb.length=1:=by rw[HT.out.2.1];rfl
  have l2:s.fr.length=0:=by rw[HT.out.2.2.1];rfl
  have l3:s.sl.length=1:=by rw[HT.out.2.2.2];rfl
  rw[l1,l2,l3] at hrd ⊢;refine⟨Aw,s.ws.length,kw,At,kt,Af,kf,As,ks,?_,ZZ hrd,o2⟩
  rw[HT.out.1,HCF.out.1,HCF.out.2];rfl)
 have HPC:=ZZ (show ∀W',Only nob V W'→Calls Tryz.prog 10 #[.agg ZiO,.bool true,.agg #[.slice (some ⟨p+1+1,0,none⟩) 3 3,.slice (some ⟨p+1+1+1,0,none⟩) 1 1]] W' fun e w'=> ∃(Ap:Option Addr) (kp:Nat),e=.returned (.tuple #[.slice Ap 3 kp,.int .i64 0])∧Hid (Sl w' w'.heap.size 1 (.slice Ap 3 kp) 3 (i64s [4,8,5]))∧Only nob W' w' from fun W' o=>by
  have h1:=C.places cE20 true gE20 _ _ _ V.heap.size W' (HIN.out W' o);rw[(ZaO HEX.out.2.1).2,HEX.out.2.1,HPL.out] at h1;refine h1.mono ?_;rintro e w' ⟨v,rfl,hs,o2⟩;obtain⟨Ap,kp,rfl, -, -⟩:=hs.form
  exact⟨Ap,kp,rfl,ZZ hs,o2⟩)
 go_enter Tryz.func7,Tryz.ntmps7
 go_upto_region 3 with fail
 rw[HVE.out, ← HP.out];obtain⟨c0,c1,c2,c3,g0,g1⟩:=HCX.out V (Only.refl _ _)
 go_wp2_with fail
 go_at_call 8;refine(HLW.out V (Only.refl _ _)).mono ?_;rintro e w1 ⟨Aw,nw,kw,At,kt,Af,kf,As,ks,rfl,HR1,o⟩;obtain⟨W1,hW1,HB1⟩:=ZhL w1 #[.int .i64 4,.int .i64 3,.int .i64 1,.int .i64 2,.bool false,.slice Aw nw kw,.int .i64 2,.slice At 1 kt,.slice Af 0 kf,.slice As 1 ks];have HW1:=ZZ hW1
 obtain⟨sb,hsb⟩: ∃b,b=w1.heap.size:=⟨_,rfl⟩
 have HSB:=ZZ hsb;have N1:=ZZ (o.trans HB1.out.1);have R1:=ZZ ((HR1.out.only HB1.out.1 (Yi _)).more HB1.out.1.size);have B1:=ZZ HB1.out.2;rw[← hsb] at B1
 have hsp:p+1+1+1+1<sb:=by
  have h1:=HV.out.2.2.2.2.2.1.lt;have h2:=o.size;omega
 clear c0 c1 c2 c3 g0 g1 o hW1 hsb HR1
 go_upto_region 4 with fail
 rw[HW1.out, ← HSB.out];obtain⟨c0,c1,c2,c3,g0,g1⟩:=HCX.out W1 N1.out
 go_wp2_with fail
 go_at_call 10;refine(HPC.out W1 N1.out).mono ?_;rintro e w2 ⟨Ap,kp,rfl,HPS,o⟩;have N2:=ZZ (N1.out.trans o);have R2:=ZZ ((R1.out.only o (Yi _)).more o.size);have B2:=ZZ (B1.out.keep o id);clear c0 c1 c2 c3 g0 g1 o;obtain⟨-, -, -, -, -,g1⟩:=HCX.out w2 N2.out;obtain⟨i0,hi0,hz0,hz1,hz2⟩:=info_parts ZiY;have bV:=HV.out.2.2.2.2.1.keep N2.out id;have bG:=HV.out.2.2.2.2.2.1.keep N2.out id;have hRT:=ZZ (show w2.ownsRow w.heap.size 59 2 (.slice (some ⟨p+1+1+1,0,none⟩) 1 1) 1 (spc [(2,1)]) from⟨rfl,.inr ⟨p+1+1+1,1,_,rfl,by rw[HP.out];omega,bV,Yi _,by decide,rfl,rfl⟩⟩);have HQ3:=ZZ (Blk.new w2 59 #[.int .i64 0,.int .i64 0]);have hw2:w.heap.size≤w2.heap.size:=Yh OV.out.size N2.out.size;have BV:=ZZ bV;have BG:=ZZ bG;clear bV bG
 go_wp2_with (with_reducible refine Zf (o:=⟨some 34,_,_,_,_,_⟩) _ rfl (.tmp 31) (.tmp 33) _ rfl w.heap.size 59 i0 _ 2 16 Tryz.underlying25 hi0 hz0 hz1 hz2 rfl (by decide) (.slice (some ⟨p+1+1+1,0,none⟩) 1 1) 1 (spc [(2,1)]) rfl ?c7 (w2.heap.size+1) (.slice (some ⟨w2.heap.size,0,none⟩) 1 1) 1 (spc [(0,0)]) rfl ?c8 (ZY _) ?c9 ?c10 ?c11 ?c12)
 case c7=>exact Zb hRT.out ((Only.refl nob w2).alloc _) fun _ _ h=>h
 case c8=>exact(Sl.of_blk (size:=2) (n:=1) (c:=1) HQ3.out rfl (Yi _) (by decide)).more (by simp)
 case c9=>decide
 case c10=>decide
 case c11=>simp;omega
 case c12=>
 intro v2 w3 H2 o3 _;have hn2:Only nob w2 (w2.alloc (.cells #[.int .i64 0,.int .i64 0] 59)):=(Only.refl nob w2).alloc _;have o3':Only (isb (p+1+1+1)) w2 w3:=(hn2.mono fun _ _ h=>h.elim).trans (o3.mono fun i _ h=>(Yo h).symm);have V3:=ZZ (show w3.ownsRow w.heap.size 59 2 v2 2 (spc [(2,1),(0,0)]) from H2.out);have R3:=ZZ ((ZkK R2.out BV.out o3' (Yi _) HT.out.2.1 HT.out.2.2.1 HT.out.2.2.2 (fun x=>by simp) (by simp) (by simp)).more o3'.size);have P3:=ZZ ((HPS.out.by_value BV.out o3' (Yi _) fun _=>⟨0,.int .i64 4,rfl,by simp⟩).more o3'.size);have G3:=ZZ (BG.out.keep o3' (by unfold isb;omega));have X3:=ZZ ((HV.out.2.1.keep N2.out id).keep o3' (by unfold isb;omega));have W3':=ZZ ((HV.out.2.2.1.keep N2.out id).keep o3' (by unfold isb;omega));have D3:=ZZ ((HV.out.2.2.2.1.keep N2.out id).keep o3' (by unfold isb;omega));have B3:=ZZ (B2.out.keep o3' (by unfold isb;omega));have O3:=ZZ ((OV.out.trans N2.out).andThen o3' fun i hi e=>by unfold isb at e;have:=HP.out;omega);obtain⟨Av2,kv2,rfl, -, -⟩:=Zl V3.out;clear H2 o3 o3' hn2 g1;have g1:w3.cell? ⟨p+1+1+1+1,1,none⟩=some (.slice (some ⟨p+1+1+1,0,none⟩) 1 1):=G3.out.cell 1;have gf:=G3.out.free 1
 obtain⟨W4,hW4,o4,B4⟩: ∃W4,w3.setCell ⟨p+1+1+1+1,1,none⟩ (.slice Av2 2 kv2)=W4∧Only (isb (p+1+1+1+1)) w3 W4∧Blk W4 (p+1+1+1+1) 27 #[.slice (some ⟨p+1+1,0,none⟩) 3 3,.slice Av2 2 kv2]:=⟨_,rfl,Zc _ _ _ _,by simpa using G3.out.put 1 (.slice Av2 2 kv2)⟩
 have HW4:=ZZ hW4;have R4:=ZZ ((ZkK R3.out G3.out o4 (Yi _) HT.out.2.1 HT.out.2.2.1 HT.out.2.2.2 (fun x=>by simp) (by simp) (by simp)).more o4.size);have P4:=ZZ ((P3.out.by_value G3.out o4 (Yi _) fun _=>⟨0,.int .i64 4,rfl,by simp⟩).more o4.size);have X4:=ZZ (X3.out.keep o4 (by unfold isb;omega));have BS4:=ZZ (B3.out.keep o4 (by unfold isb;omega));have O4:=ZZ (O3.out.andThen o4 fun i hi e=>by unfold isb at e;have:=HP.out;omega);have V4:=Zb V3.out o4 (Zd V3.out G3.out (by decide));have HI4:=ZZ (show ∀W',Only nob W4 W'→In20 W' W4.heap.size cE20 Zpd (.slice (some ⟨p+1+1,0,none⟩) 3 3) (.slice Av2 2 kv2) [(.slice none 0 0,.slice none 0 0),(.slice none 0 0,.slice (some ⟨p+1,0,none⟩) 2 2),(.slice none 0 0,.slice none 0 0)] from fun W' o=>⟨(Zpb (W3'.out.keep o4 (by unfold isb;omega)) (D3.out.keep o4 (by unfold isb;omega)) (rt:=[(2,1),(0,0)]) (Sl.of_own V4 V4.1)).only o (Yi _),o.size,ZkD (rt:=[(2,1),(0,0)]) (fun v hv=>by simp at hv;rcases hv with rfl|rfl <;> simp),Zf9,by decide,by decide,HPAR.out.old (O4.out.trans o)⟩);have HX4:=ZZ (show ∀W',Only nob W4 W'→W'.cell? ⟨p,0,none⟩=some (.int .i64 4)∧W'.cell? ⟨p,1,none⟩=some (.int .i64 3)∧W'.cell? ⟨p,2,none⟩=some (.int .i64 1)∧W'.cell? ⟨p,3,none⟩=some (.int .i64 2)∧W'.cell? ⟨p+1+1+1+1,0,none⟩=some (.slice (some ⟨p+1+1,0,none⟩) 3 3)∧W'.cell? ⟨p+1+1+1+1,1,none⟩=some (.slice Av2 2 kv2) from fun W' o=>⟨o.keeps (X4.out.cell 0),o.keeps (X4.out.cell 1),o.keeps (X4.out.cell 2),o.keeps (X4.out.cell 3),o.keeps (B4.cell 0),o.keeps (B4.cell 1)⟩);clear hW4 o4 V4 B4
 go_upto_region 6 with fail
 rw[HW4.out];clear g1 gf
 have HL6:=ZZ (show Calls Tryz.prog 8 #[.agg ZiO,.bool false,.agg #[.slice (some ⟨p+1+1,0,none⟩) 3 3,.slice Av2 2 kv2]] W4 fun e w'=> ∃(Bw:Option Addr) (bw:Nat) (Bt:Option Addr) (bt:Nat) (Bf:Option Addr) (bf:Nat) (Bs:Option Addr) (bs:Nat),e=.returned (.tuple #[.agg #[.int .i64 0,.int .i64 0,.int .i64 0,.int .i64 0,.bool false,.slice Bw 0 bw,.int .i64 0,.slice Bt 0 bt,.slice Bf 0 bf,.slice Bs 0 bs],.int .i64 8])∧Only nob W4 w' from by
  have h1:=C.lower cE20 false Zpd _ _ _ W4.heap.size W4 (HI4.out W4 (Only.refl _ _));rw[(ZcI (by rw[HEX.out.2.2];decide)).1,HEX.out.2.2] at h1;refine h1.mono ?_;rintro e w' ⟨s,vw,vt,vf,vs,rfl,rfl,hrd,o2⟩;obtain⟨Bw,bw,rfl, -, -⟩:=hrd.words.form;obtain⟨Bt,bt,rfl, -, -⟩:=hrd.tab.form;obtain⟨Bf,bf,rfl, -, -⟩:=hrd.free.form;obtain⟨Bs,bs,rfl, -, -⟩:=hrd.slots.form
  exact⟨Bw,bw,Bt,bt,Bf,bf,Bs,bs,rfl,o2⟩)
 obtain⟨c0,c1,c2,c3,g0,g1⟩:=HX4.out W4 (Only.refl _ _)
 go_wp2_with fail
 go_at_call 8;refine HL6.out.mono ?_;rintro e w5 ⟨Bw,bw,Bt,bt,Bf,bf,Bs,bs,rfl,o⟩;obtain⟨W5,hW5,HB5⟩:=ZhL w5 #[.int .i64 0,.int .i64 0,.int .i64 0,.int .i64 0,.bool false,.slice Bw 0 bw,.int .i64 0,.slice Bt 0 bt,.slice Bf 0 bf,.slice Bs 0 bs];have HW5:=ZZ hW5;have N5:=ZZ (o.trans HB5.out.1);have R5:=ZZ ((R4.out.only N5.out (Yi _)).more N5.out.size);have P5:=ZZ ((P4.out.below N5.out.whole).more N5.out.size);have B5:=ZZ (BS4.out.keep N5.out id);have O5:=ZZ (O4.out.trans N5.out);clear c0 c1 c2 c3 g0 g1 o hW5
 go_upto_region 7 with fail
 rw[HW5.out]
 obtain⟨bt,ot,hAt, -,y0, -⟩:=Zy (l:=[(8,3)]) (k:=0) (show Sl W5 W5.heap.size 2 (.slice At 1 kt) 1 (spc [(8,3)]) from by
  have h1:=R5.out.tab;rw[HT.out.2.1] at h1
  exact h1) (Below.refl _ _) rfl
 subst hAt
 obtain⟨bs,os,hAs, -, -, -,y1⟩:=ZdR (l:=[(true,0,34)]) (k:=0) (show Sl W5 W5.heap.size 3 (.slice As 1 ks) 1 (slc [(true,0,34)]) from by
  have h1:=R5.out.slots;rw[HT.out.2.2.2] at h1
  exact h1) (Below.refl _ _) rfl
 subst hAs;obtain⟨z0,z1,z2,z3,z4,z5,z6,z7,z8,z9⟩:=Zg B5.out;simp only[Nat.zero_mul,Nat.add_zero] at y0 y1;obtain⟨W6,hW6,N6,L6⟩:=Ziy W5 #[.int .i64 4,.int .i64 8,.int .i64 5] [4,8,5] rfl rfl (by decide);have HW6:=ZZ hW6;have N6:=ZZ N6;have L6:=ZZ L6;clear hW6
 go_wp2_with fail
 rw[HW6.out];go_at_call 13;refine(Zj8 _ _ [4,8,5] W5.heap.size W6.heap.size W6 (P5.out.below N6.out.whole) L6.out).mono ?_;rintro e W7 ⟨rfl,m7,h7⟩;have N7:=ZZ (show Only nob W5 W7 by rw[h7];exact N6.out.drewN m7);clear h7 y0 y1 z0 z1 z2 z3 z4 z5 z6 z7 z8 z9;have NN7:=ZZ (N5.out.trans N7.out);obtain⟨c0,c1,c2,c3,g0,g1⟩:=HX4.out W7 NN7.out
 have HF:=ZZ (show Calls Tryz.prog 14 #[.agg ZiO,.agg #[.slice (some ⟨p+1+1,0,none⟩) 3 3,.slice Av2 2 kv2]] W7 fun e w'=>e=.returned (.bool false)∧Only nob W7 w' from by
  have h1:=C.fits cE20 Zpd _ _ _ W4.heap.size W7 (HI4.out W7 NN7.out);rw[HEX.out.2.2,Yk (by decide)] at h1
  exact h1)
 go_wp2_with fail
 go_at_call 14;refine HF.out.mono ?_;rintro e W8 ⟨rfl,o⟩;have N8:=ZZ (N7.out.trans o);clear c0 c1 c2 c3 g0 g1 o;obtain⟨z0,z1,z2,z3,z4,z5,z6,z7,z8,z9⟩:=Zg (B5.out.keep N8.out id);have O8:=ZZ (O5.out.trans N8.out)
 have HCK:=ZZ (show Calls Tryz.prog 16 #[.agg #[.int .i64 4,.int .i64 3,.int .i64 1,.int .i64 2,.bool false,.slice Aw nw kw,.int .i64 2,.slice (some ⟨bt,ot,none⟩) 1 kt,.slice Af 0 kf,.slice (some ⟨bs,os,none⟩) 1 ks]] W8 fun e w'=>e=.returned (.int .i64 0)∧Only nob W8 w' from by
  have h1:=CK S _ _ _ _ W5.heap.size W8 (R5.out.only N8.out (Yi _)) N8.out.size (by rw[HS.out];exact HOK.out.st_ok (ZkD (rt:=[(2,1)]) (fun v hv=>by simp at hv;subst hv;simp)) Zf9 (by decide)) (HPAR.out.old O8.out);rw[show ZbW S=0 by rw[HS.out];exact HOK.out.lift.1,HT.out.1,HCF.out.1,HCF.out.2] at h1
  exact h1)
 go_wp2_with fail
 go_at_call 16;refine HCK.out.mono ?_;rintro e W9 ⟨rfl,o⟩;have O9:=ZZ (O8.out.trans o);clear o z0 z1 z2 z3 z4 z5 z6 z7 z8 z9;go_wp2;go_ret;exact⟨rfl,O9.out⟩
end Go.Proofs.YtknoncenblehkaaGreatDoor
