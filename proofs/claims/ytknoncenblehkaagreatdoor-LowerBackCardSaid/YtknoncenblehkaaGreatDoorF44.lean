/- Package lower: the room of a config ahead of the first node. Package lower: where nodes stand, and what room they take. -/
import Derived.Test.YtknoncenblehkaaGreatDoorF43
set_option maxRecDepth 100000
set_option maxHeartbeats 32000000
set_option linter.unusedSimpArgs false
set_option linter.unusedVariables false
namespace Go.Proofs.YtknoncenblehkaaGreatDoor
open Go.RowKit Go.Lib
theorem ZjF {w W:World} {b:Nat} {t:TypeId} (o:Only nob w W) (hb:w.heap.size≤b) {z0 z1 z2 z3 z4 z5 z6 z7 z8:Value} (B:Blk W b t #[z0,z1,z2,z3,z4,z5,z6,z7,z8]) (x0 x1 x2 x3 x4 x5 x6 x7 x8:Value):
 ∃W4,(((((((((W.setCell ⟨b,0,none⟩ x0).setCell ⟨b,1,none⟩ x1).setCell ⟨b,2,none⟩ x2).setCell ⟨b,3,none⟩ x3).setCell ⟨b,4,none⟩ x4).setCell ⟨b,5,none⟩ x5).setCell ⟨b,6,none⟩ x6).setCell ⟨b,7,none⟩ x7).setCell ⟨b,8,none⟩ x8)=W4∧Only nob w W4∧Only (isb b) W W4∧Blk W4 b t #[x0,x1,x2,x3,x4,x5,x6,x7,x8]:=by
 refine⟨_,rfl,(Zf (Zf (Zf (Zf (Zf (Zf (Zf (Zf (Zf o hb _) hb _) hb _) hb _) hb _) hb _) hb _) hb _) hb _),?_,?_⟩
 · exact(((((((((Zc _ b 0 _).trans (Zc _ b 1 _)).trans (Zc _ b 2 _)).trans (Zc _ b 3 _)).trans (Zc _ b 4 _)).trans (Zc _ b 5 _)).trans (Zc _ b 6 _)).trans (Zc _ b 7 _)).trans (Zc _ b 8 _))
 · simpa using(((((((((B.put 0 x0).put 1 x1).put 2 x2).put 3 x3).put 4 x4).put 5 x5).put 6 x6).put 7 x7).put 8 x8)
theorem Zq0 {W W':World} {B b:Nat} {v:Value} {l:List Sp} (hnz: ∀x∈l,x.1≠0) (h:Sl W B 2 v l.length (spc l)) (hb:Blk W b 65 #[.int .i64 0,.int .i64 0,.int .i64 0,.int .i64 0,.int .i64 0,.int .i64 0,.int .i64 0,.slice none 0 0,.slice none 0 0]) (o:Only (isb b) W W') (hB:B≤W.heap.size):Sl W' W'.heap.size 2 v l.length (spc l):=by
 obtain⟨A,c,rfl,h1,h2,h3,h4⟩:=h;refine⟨A,c,rfl,h1,h2,h3,fun hn=>?_⟩;obtain⟨g,f,rfl,hg,hc⟩:=h4 hn
 have hne:g≠b:=by
  rintro rfl
  obtain⟨x,hx⟩: ∃x,l[0]? =some x:=⟨_,Ya hn⟩
  have h5:(spc l)[0]? =some (.int .i64 x.1):=by
   cases l with
   |nil=>cases hx
   |cons y m=>obtain rfl:y=x:=by simpa using hx
              simp[spc]
  have h6:=hc 0 _ h5;have h7:=hb.cell (f+0);rw[h6] at h7;have h8:=hnz x (Yo hx);rw[Nat.add_zero] at h7
  match f,h7 with
  |0,h7=>simp at h7;exact h8 h7
  |1,h7=>simp at h7;exact h8 h7
  |2,h7=>simp at h7;exact h8 h7
  |3,h7=>simp at h7;exact h8 h7
  |4,h7=>simp at h7;exact h8 h7
  |5,h7=>simp at h7;exact h8 h7
  |6,h7=>simp at h7;exact h8 h7
  |7,h7=>simp at h7
  |8,h7=>simp at h7
  |n+9,h7=>simp at h7
 exact⟨g,f,rfl,Yw hg (Yi hB o.size),fun k u hu=>(o.cell (p:=⟨g,f+k,none⟩) (Yw hg hB) hne).trans (hc k u hu)⟩
theorem ZpI {c:Cf} {ds:List Nd} (h:c.ok):loFr c ds 0=frN c:=by
 unfold loFr frN;simp only[List.take_zero,sBg,Int.add_zero];exact Zqp h
theorem Zue (w:World) (c:Cf): ∃W,(w.alloc (.cells #[.int .i64 c.semi,.int .i64 c.large,.int .i64 c.slots,.int .i64 c.limit] 23)).alloc (.cells #[.int .i64 0,.int .i64 0,.int .i64 0,.int .i64 0,.int .i64 0,.int .i64 0,.int .i64 0,.slice none 0 0,.slice none 0 0] 65)=W∧Hid (Only nob w W∧CBox W w.heap.size c∧Blk W (w.heap.size+1) 65 #[.int .i64 0,.int .i64 0,.int .i64 0,.int .i64 0,.int .i64 0,.int .i64 0,.int .i64 0,.slice none 0 0,.slice none 0 0]):=by
 refine⟨_,rfl,ZZ ⟨((Only.refl nob w).alloc _).alloc _,(CBox.new w c).keep ((Only.refl nob _).alloc _),?_⟩⟩;have h:=Blk.new (w.alloc (.cells #[.int .i64 c.semi,.int .i64 c.large,.int .i64 c.slots,.int .i64 c.limit] 23)) 65 #[.int .i64 0,.int .i64 0,.int .i64 0,.int .i64 0,.int .i64 0,.int .i64 0,.int .i64 0,.slice none 0 0,.slice none 0 0];simpa using h
theorem Zru (c:Cf) (sec:Bool) (ds:List Nd) (w:World) (hc:CFit c) (h:c.ok):
 Calls Tryz.prog 49 #[.agg #[.int .i64 c.semi,.int .i64 c.large,.int .i64 c.slots,.int .i64 c.limit],.bool sec] w fun e w'=> ∃A k,e=.returned (.agg #[.int .i64 c.semi,.int .i64 c.large,.int .i64 c.slots,.int .i64 c.limit,.int .i64 (Zl c sec).1,.int .i64 (Zl c sec).2,.int .i64 (Zl c sec).1,.slice none 0 0,.slice A (loFr c ds 0).length k])∧Sl w' w'.heap.size 2 (.slice A (loFr c ds 0).length k) (loFr c ds 0).length (spc (loFr c ds 0))∧Only nob w w':=by
 obtain⟨W,hW,HB⟩:=Zue w c;have HW:=ZZ hW
 obtain⟨p,hp⟩: ∃p,p=w.heap.size:=⟨_,rfl⟩
 have HP:=ZZ hp;rw[← hp] at HB;have HFM:=ZZ (ZqS c sec W hc);have HLA:=ZZ (show ∀w,Calls Tryz.prog 56 #[.agg #[.int .i64 c.semi,.int .i64 c.large,.int .i64 c.slots,.int .i64 c.limit]] w fun e w'=>e=.returned (.agg #[.int .i64 (Ze c).1,.int .i64 (Ze c).2])∧Only nob w w' from fun w=>Ziq c w hc);have hlf:=(ZbW c false).2.2
 have HGP:=ZZ (show ∀w,Calls Tryz.prog 55 #[.agg #[.int .i64 (Ze c).1,.int .i64 (Ze c).2],.slice none 0 0] w fun e w'=> ∃A k,e=.returned (.slice A (frN c).length k)∧Sl w' w'.heap.size 2 (.slice A (frN c).length k) (frN c).length (spc (frN c))∧Only nob w w' from fun w=>(ZoM (Ze c) (.slice none 0 0) [] w.heap.size w Sl.nil_ (Yj _) (by simp) (fun _ h=>by cases h) hlf).mono fun e w' ⟨v',O,h1,h2,h3,h4,h5⟩=>by
  have:=ZqX h h2 h3
  subst this;obtain⟨A,k,rfl, -, -⟩:=h4.form
  exact⟨A,k,h1,h4,h5⟩)
 have HNZ:=ZZ (ZqO h);rw[ZpI h]
 obtain⟨x,hx⟩: ∃x,x=(Ze c).1:=⟨_,rfl⟩
 obtain⟨y,hy⟩: ∃x,x=(Ze c).2:=⟨_,rfl⟩
 rw[← hx, ← hy] at HLA HGP
 obtain⟨u,hu⟩: ∃x,x=(Zl c sec).1:=⟨_,rfl⟩
 obtain⟨v,hv⟩: ∃x,x=(Zl c sec).2:=⟨_,rfl⟩
 rw[← hu, ← hv] at HFM ⊢
 obtain⟨FL,hFL⟩: ∃FL,FL=frN c:=⟨_,rfl⟩
 rw[← hFL] at HGP HNZ ⊢;clear hW hp hx hy hu hv hFL hlf hc h;obtain⟨c0,c1,c2,c3⟩:=HB.out.2.1
 go_enter Tryz.func49,Tryz.ntmps49
 go_upto_region 1 with fail
 rw[HW.out, ← HP.out]
 go_wp2_with fail
 go_at_call 79;refine HFM.out.mono ?_;rintro e w1 ⟨rfl,o⟩;obtain⟨WS,hWS,HBS⟩:=Zbg w1 u v;have HWS:=ZZ hWS;have OS:=ZZ (HB.out.1.trans (o.trans HBS.out.1));have XS:=ZZ (HB.out.2.1.keep (o.trans HBS.out.1));have BS:=ZZ (HB.out.2.2.keep (o.trans HBS.out.1) id)
 obtain⟨hb,hhb⟩: ∃b,b=w1.heap.size:=⟨_,rfl⟩
 have HHB:=ZZ hhb;have SS:=ZZ HBS.out.2.1;rw[← hhb] at SS
 have hpl:p+1<hb:=by rw[hhb];exact Yw HB.out.2.2.lt o.size
 clear hWS hhb o c0 c1 c2 c3;obtain⟨c0,c1,c2,c3⟩:=XS.out;have d0:WS.cell? ⟨hb,0,none⟩=some (.int .i64 u):=SS.out.cell 0;have d1:WS.cell? ⟨hb,1,none⟩=some (.int .i64 v):=SS.out.cell 1
 go_upto_region 2 with fail
 rw[HWS.out, ← HHB.out];have O0:=ZZ (show Only nob WS WS.drew from(Only.refl nob WS).drewN 1);refine wp_region_held_drew (S:=fun w':World=>w'.cell? ⟨p,0,none⟩=some (.int .i64 c.semi)∧w'.cell? ⟨p,1,none⟩=some (.int .i64 c.large)∧w'.cell? ⟨p,2,none⟩=some (.int .i64 c.slots)∧w'.cell? ⟨p,3,none⟩=some (.int .i64 c.limit)∧w'.cell? ⟨hb,0,none⟩=some (.int .i64 u)∧w'.cell? ⟨hb,1,none⟩=some (.int .i64 v)) (by kernel_rfl) ?_ (fun hHeld=>?_)
 · exact⟨c0,c1,c2,c3,d0,d1⟩
 revert O0 hHeld;generalize WS.drew=W;intro O hHeld;refine wpAnyH_take (i:=0) (v:=?_) rfl (by kernel_rfl) (by kernel_rfl) (by kernel_rfl) (fun _ _ _ h=>h) (Or.inl ⟨by rfl,?_⟩) hHeld ?_;rotate_left
 · intro w hSw;(try dsimp only at hSw);go_simp;first|done|with_reducible rfl
 try simp only[Act.put,Yb,Yd,Yc,Yh,Yf,Yg]
 refine wpAnyH_take (i:=1) (v:=?_) rfl (by kernel_rfl) (by kernel_rfl) (by kernel_rfl) (fun _ _ _ h=>h) (Or.inl ⟨by rfl,?_⟩) hHeld ?_;rotate_left
 · intro w hSw;(try dsimp only at hSw);go_simp;first|done|with_reducible rfl
 try simp only[Act.put,Yb,Yd,Yc,Yh,Yf,Yg]
 refine wpAnyH_take (i:=2) (v:=?_) rfl (by kernel_rfl) (by kernel_rfl) (by kernel_rfl) (fun _ _ _ h=>h) (Or.inl ⟨by rfl,?_⟩) hHeld ?_;rotate_left
 · intro w hSw;(try dsimp only at hSw);go_simp;first|done|with_reducible rfl
 try simp only[Act.put,Yb,Yd,Yc,Yh,Yf,Yg]
 refine wpAnyH_take (i:=3) (v:=?_) rfl (by kernel_rfl) (by kernel_rfl) (by kernel_rfl) (fun _ _ _ h=>h) (Or.inl ⟨by rfl,?_⟩) hHeld ?_;rotate_left
 · intro w hSw;(try dsimp only at hSw);go_simp;first|done|with_reducible rfl
 try simp only[Act.put,Yb,Yd,Yc,Yh,Yf,Yg]
 refine wpAnyH_take (i:=4) (v:=?_) rfl (by kernel_rfl) (by kernel_rfl) (by kernel_rfl) (fun _ _ _ h=>h) (Or.inl ⟨by rfl,?_⟩) hHeld ?_;rotate_left
 · intro w hSw;(try dsimp only at hSw);go_simp;first|done|with_reducible rfl
 try simp only[Act.put,Yb,Yd,Yc,Yh,Yf,Yg]
 refine wpAnyH_ready (rs:=[5]) (by kernel_rfl) (by simp) (AllReadyH.cons rfl (fun K hK=>?_) AllReadyH.nil);go_simp;go_at_call 56;refine(HLA.out _).mono ?_;rintro e W ⟨rfl,o⟩;have O:=ZZ (O.out.trans o);clear o;refine hK.out _ _ ⟨O.out.keeps c0,O.out.keeps c1,O.out.keeps c2,O.out.keeps c3,O.out.keeps d0,O.out.keeps d1⟩ (fun hHeld2=>?_);clear hK K hHeld;have hHeld:=hHeld2;clear hHeld2
 try simp only[Act.put,Yb,Yd,Yc,Yh,Yf,Yg]
 refine wpAnyH_ready (rs:=[6]) (by kernel_rfl) (by simp) (AllReadyH.cons rfl (fun K hK=>?_) AllReadyH.nil);go_simp;go_at_call 55;refine(HGP.out _).mono ?_;rintro e W ⟨Ag,kg,rfl,hg,o⟩;have O:=ZZ (O.out.trans o);have FR:=ZZ hg;have BX:=ZZ (BS.out.keep O.out id);clear o hg;refine hK.out _ _ ⟨O.out.keeps c0,O.out.keeps c1,O.out.keeps c2,O.out.keeps c3,O.out.keeps d0,O.out.keeps d1⟩ (fun hHeld2=>?_);clear hK K hHeld;have hHeld:=hHeld2;clear hHeld2
 try simp only[Act.put,Yb,Yd,Yc,Yh,Yf,Yg]
 refine wpAnyH_take (i:=7) (v:=?_) rfl (by kernel_rfl) (by kernel_rfl) (by kernel_rfl) (fun _ _ _ h=>h) (Or.inl ⟨by rfl,?_⟩) hHeld ?_;rotate_left
 · intro w hSw;(try dsimp only at hSw);go_simp;first|done|with_reducible rfl
 try simp only[Act.put,Yb,Yd,Yc,Yh,Yf,Yg]
 refine wpAnyH_ready (rs:=[8]) (by kernel_rfl) (by simp) (AllReadyH.cons rfl (fun K hK=>?_) AllReadyH.nil);obtain⟨s0,s1,s2,s3,s4,s5,s6,s7,s8⟩:=ZN BX.out;obtain⟨f0,f1,f2,f3,f4,f5,f6,f7,f8⟩:=ZbU BX.out;go_simp;clear s0 s1 s2 s3 s4 s5 s6 s7 s8 f0 f1 f2 f3 f4 f5 f6 f7 f8;obtain⟨W,hW,oA,oB,B9⟩:=ZjF (OS.out.trans O.out) (by have:=HP.out;omega) BX.out (.int .i64 c.semi) (.int .i64 c.large) (.int .i64 c.slots) (.int .i64 c.limit) (.int .i64 u) (.int .i64 v) (.int .i64 u) (.slice none 0 0) (.slice Ag FL.length kg)
 with_reducible rw[hW]
 have FR:=ZZ (Zq0 HNZ.out FR.out BX.out oB (Yj _));have OA:=ZZ oA;have XF:=ZZ B9;have hk: ∀b,b≠p+1→ ∀{o:Nat} {z:Value},b<WS.heap.size→WS.cell? ⟨b,o,none⟩=some z→W.cell? ⟨b,o,none⟩=some z:=fun b hb o z hl hc=>(oB.cell (p:=⟨b,o,none⟩) (Yw hl O.out.size) (by unfold isb;simp only;omega)).trans (O.out.keeps hc)
 have hp1:p<WS.heap.size:=by have:=SS.out.lt;omega
 have hp2:hb<WS.heap.size:=SS.out.lt;refine hK.out _ _ ⟨hk p (by omega) hp1 c0,hk p (by omega) hp1 c1,hk p (by omega) hp1 c2,hk p (by omega) hp1 c3,hk hb (by omega) hp2 d0,hk hb (by omega) hp2 d1⟩ (fun hHeld2=>?_);clear hk oA oB B9 hW;refine wpAnyH_done (by kernel_rfl) ?_ _;obtain⟨h0,h1,h2,h3,h4,h5,h6,h7,h8⟩:=ZN XF.out;clear c0 c1 c2 c3 d0 d1;go_wp2;exact bodyPost_ret (v:=.agg #[.int .i64 c.semi,.int .i64 c.large,.int .i64 c.slots,.int .i64 c.limit,.int .i64 u,.int .i64 v,.int .i64 u,.slice none 0 0,.slice Ag FL.length kg]) (by simp[results,Tryz.results49,go_sem,h0,h1,h2,h3,h4,h5,h6,h7,h8]) rfl ⟨_,_,rfl,FR.out,OA.out⟩
theorem Zrw (w:World) (c:Cf) (vn vr:Value): ∃W,((w.alloc (.cells #[.int .i64 c.semi,.int .i64 c.large,.int .i64 c.slots,.int .i64 c.limit] 23)).alloc (.cells #[vn,vr] 27)).alloc (.cells #[.int .i64 0,.int .i64 0,.int .i64 0,.int .i64 0,.int .i64 0,.int .i64 0,.int .i64 0,.slice none 0 0,.slice none 0 0] 65)=W∧Hid (Only nob w W∧CBox W w.heap.size c∧Blk W (w.heap.size+1) 27 #[vn,vr]∧Blk W (w.heap.size+1+1) 65 #[.int .i64 0,.int .i64 0,.int .i64 0,.int .i64 0,.int .i64 0,.int .i64 0,.int .i64 0,.slice none 0 0,.slice none 0 0]):=by
 obtain⟨W,hW,HB⟩:=ZfF w c vn vr;rw[hW]
 have hs:W.heap.size=w.heap.size+1+1:=by rw[← hW];simp
 have hn:Only nob W (W.alloc (.cells #[.int .i64 0,.int .i64 0,.int .i64 0,.int .i64 0,.int .i64 0,.int .i64 0,.int .i64 0,.slice none 0 0,.slice none 0 0] 65)):=(Only.refl nob W).alloc _;refine⟨_,rfl,ZZ ⟨HB.out.1.trans hn,HB.out.2.1.keep hn,HB.out.2.2.keep hn id,?_⟩⟩;have h:=Blk.new W 65 #[.int .i64 0,.int .i64 0,.int .i64 0,.int .i64 0,.int .i64 0,.int .i64 0,.int .i64 0,.slice none 0 0,.slice none 0 0]
 rwa [hs] at h
theorem ZcQ (w:World) (cs:Array Value): ∃W,w.alloc (.cells cs 65)=W∧Hid (Only nob w W∧Blk W w.heap.size 65 cs):=⟨_,rfl,ZZ ⟨(Only.refl nob w).alloc _,Blk.new _ _ _⟩⟩
theorem Zt4 {c:Cf} {ds:List Nd} {k:Nat} (h:c.ok) (hz:ZdZ ds) (hb0:loB c+sBg c (ds.take k)≤ZL c): ∀x∈loFr c ds k,x.1≠0:=fun x hx=>by
 have hl:=ZbR (c:=c) hz k;have hg:=ZaL h;have h':=h;unfold Cf.ok at h';unfold loFr frL at hx
 split at hx
 · cases hx
 · rw[Yt.1 hx]
   simp only;omega
def Zts (c:Cf) (sec:Bool) (g:Gr) (w:World) (e:Ending) (w':World):Prop:=
 (loE c sec g=0→ ∃tv fv pv,e=.returned (.tuple #[.agg #[.int .i64 c.semi,.int .i64 c.large,.int .i64 c.slots,.int .i64 c.limit,.int .i64 (Zl c sec).1,.int .i64 (Zl c sec).2,.int .i64 (loT c sec+sSm c g.nd),tv,fv],pv,.int .i64 0])∧
   Sl w' w'.heap.size 2 tv (tbL c (loB c) g.nd).length (spc (tbL c (loB c) g.nd))∧Sl w' w'.heap.size 2 fv (frL (loB c+sBg c g.nd) (ZL c)).length (spc (frL (loB c+sBg c g.nd) (ZL c)))∧Sl w' w'.heap.size 1 pv (loPl c sec g).length (i64s (loPl c sec g)))∧
 (loE c sec g≠0→e=.returned (.tuple #[.agg #[.int .i64 0,.int .i64 0,.int .i64 0,.int .i64 0,.int .i64 0,.int .i64 0,.int .i64 0,.slice none 0 0,.slice none 0 0],.slice none 0 0,.int .i64 (loE c sec g)]))∧Only nob w w'
theorem Zns (c:Cf) (sec:Bool) (g:Gr) (vn vr:Value) (hs:List (Value×Value)) (B:Nat) (w:World) (h:In20 w B c g vn vr hs):
 Calls Tryz.prog 19 #[.agg #[.int .i64 c.semi,.int .i64 c.large,.int .i64 c.slots,.int .i64 c.limit],.bool sec,.agg #[vn,vr]] w (Zts c sec g w):=by
 obtain⟨A,cn,rfl,hac,hcm⟩:=h.rd.nodes.form;obtain⟨Ar,cr,rfl,hacr,hcmr⟩:=h.rd.roots.form;unfold maxLen at hcm hcmr;obtain⟨W,hW,HB⟩:=Zrw w c (.slice A g.nd.length cn) (.slice Ar g.rt.length cr);have HW:=ZZ hW
 obtain⟨p,hp⟩: ∃p,p=w.heap.size:=⟨_,rfl⟩
 have HP:=ZZ hp;rw[← hp] at HB;have HI:=ZZ h;have HCK:=ZZ (ZsR c g _ _ hs B W (h.keep HB.out.1));obtain⟨c0,c1,c2,c3⟩:=HB.out.2.1;have g0:W.cell? ⟨p+1,0,none⟩=some (.slice A g.nd.length cn):=HB.out.2.2.1.cell 0;have g1:W.cell? ⟨p+1,1,none⟩=some (.slice Ar g.rt.length cr):=HB.out.2.2.1.cell 1
 obtain⟨q,hq⟩: ∃q,q=Zk7 c g:=⟨_,rfl⟩
 rw[← hq] at HCK;have HQ:=ZZ hq;clear hW hp h hq
 go_enter Tryz.func19,Tryz.ntmps19
 go_upto_region 1 with fail
 rw[HW.out, ← HP.out]
 go_wp2_with fail
 go_at_call 48;refine HCK.out.mono ?_;rintro e w1 ⟨rfl,o⟩;have O1:=ZZ (HB.out.1.trans o);have X1:=ZZ (HB.out.2.1.keep o);have G1:=ZZ (HB.out.2.2.1.keep o id);have R1:=ZZ (HB.out.2.2.2.keep o id);clear o c0 c1 c2 c3 g0 g1;by_cases hq0:q=0
 case neg=>
  have HE:=ZZ (show loE c sec g=q from(ZrV (by rw[← HQ.out];exact hq0)).trans HQ.out.symm);have HNE:=ZZ hq0
  have hqb:(q !=0)=true:=by simpa using hq0
  obtain⟨s0,s1,s2,s3,s4,s5,s6,s7,s8⟩:=ZN R1.out;obtain⟨f0,f1,f2,f3,f4,f5,f6,f7,f8⟩:=ZbU R1.out
  go_wp2_with fail
  clear s0 s1 s2 s3 s4 s5 s6 s7 s8 f0 f1 f2 f3 f4 f5 f6 f7 f8;obtain⟨W9,hW9,o9, -,B9⟩:=ZjF O1.out (by have:=HP.out;omega) R1.out (.int .i64 0) (.int .i64 0) (.int .i64 0) (.int .i64 0) (.int .i64 0) (.int .i64 0) (.int .i64 0) (.slice none 0 0) (.slice none 0 0)
  with_reducible rw[hW9]
  obtain⟨h0,h1,h2,h3,h4,h5,h6,h7,h8⟩:=ZN B9
  (try simp only[Exit.inBlock,Exit.then])
  refine bodyPost_ret (v:=.tuple #[.agg #[.int .i64 0,.int .i64 0,.int .i64 0,.int .i64 0,.int .i64 0,.int .i64 0,.int .i64 0,.slice none 0 0,.slice none 0 0],.slice none 0 0,.int .i64 q]) (by simp[results,Tryz.results19,go_sem,h0,h1,h2,h3,h4,h5,h6,h7,h8]) rfl ?_;exact⟨fun h=>absurd (HE.out.symm.trans h) HNE.out,fun _=>by rw[HE.out],o9⟩
 case pos=>
 subst hq0;obtain⟨hok,hgo,hsl⟩:=Zna HQ.out.symm;have HOK:=ZZ (And.intro hok (And.intro hgo hsl));have HEM:=ZZ (Zru c sec g.nd w1 HI.out.cfit hok);clear hok hgo hsl;obtain⟨c0,c1,c2,c3⟩:=X1.out
 go_wp2_with fail
 go_at_call 49;refine HEM.out.mono ?_;rintro e w2 ⟨Af,kf,rfl,hfr,o⟩;obtain⟨W3,hW3,HB3⟩:=ZcQ w2 #[.int .i64 c.semi,.int .i64 c.large,.int .i64 c.slots,.int .i64 c.limit,.int .i64 (Zl c sec).1,.int .i64 (Zl c sec).2,.int .i64 ((Zl c sec).1),.slice none 0 0,.slice Af (loFr c g.nd 0).length kf];have HW3:=ZZ hW3
 obtain⟨rb,hrb⟩: ∃b,b=w2.heap.size:=⟨_,rfl⟩
 have HRB:=ZZ hrb;have N3:=ZZ (o.trans HB3.out.1);have O3:=ZZ (O1.out.trans N3.out);have R3:=ZZ (R1.out.keep N3.out id);have B3:=ZZ HB3.out.2;rw[← hrb] at B3;have g0:W3.cell? ⟨p+1,0,none⟩=some (.slice A g.nd.length cn):=(G1.out.keep N3.out id).cell 0
 have hpr:p+1+1<rb:=by rw[hrb];exact Yw R1.out.lt o.size
 have RM3:=ZZ (show Rm W3 rb c sec g.nd 0 (.slice none 0 0) (.slice Af (loFr c g.nd 0).length kf) from⟨by simpa[loT,sSm] using B3.out,World.ownsRow_nil _ _ _ _,.inl (by rw[hrb];exact hfr.below HB3.out.1.whole)⟩);clear c0 c1 c2 c3 hfr o hW3 hrb
 go_upto_region 5 with fail
 rw[HW3.out, ← HRB.out]
 obtain⟨N,hN⟩: ∃N,N=g.nd.length:=⟨_,rfl⟩
 have HN:=ZZ hN;rw[← hN] at hac g0
 have hbase:w.heap.size≤rb:=by have:=HP.out;omega
 have HPL0:=ZZ (show W3.ownsRow rb 3 1 (.slice none 0 0) 0 (i64s (plL c (loT c sec) (loB c) (g.nd.take 0))) from World.ownsRow_nil _ _ _ _);have hnd:=HI.out.nodes;rw[← hN] at hnd;clear hN;obtain⟨j0,hj0,hy0,hy1,hy2⟩:=info_parts Zap
 go_wp2_with fail
 clear g0
 go_loopw [11,29] (fun pv vi wr=> ∃(k:Nat) (tv fv:Value),k≤N∧vi=.int .i64 k∧Hid (ZB c sec g.nd k)∧Hid (wr.ownsRow rb 3 1 pv k (i64s (plL c (loT c sec) (loB c) (g.nd.take k))))∧Hid (Rm wr rb c sec g.nd k tv fv)∧Hid (Blk wr (p+1+1) 65 #[.int .i64 0,.int .i64 0,.int .i64 0,.int .i64 0,.int .i64 0,.int .i64 0,.int .i64 0,.slice none 0 0,.slice none 0 0])∧Hid (Only nob w wr)) (fun _ vi _=>N - (RowKit.intOf vi).toNat)
 case atStart=>exact⟨0,_,_,Yu _,rfl,ZZ (ZlJ HOK.out.1),HPL0,RM3,R3,O3⟩
 case round=>
 obtain⟨k,tv,fv,hk,rfl,HRO,HPV,HRM,HRZ,HO⟩:=hrel;obtain⟨Pv,cv,hpv,hpc,hpm⟩:=Zi HPV.out;subst hpv;by_cases hlt:k<N
 case pos=>
  obtain⟨d,hd⟩: ∃x,g.nd[k]? =some x:=⟨_,Ya (by rw[← HN.out];exact hlt)⟩
  obtain⟨bb,oo,fv',rv',hA,hbb,hh,q0,q1,q2,hnd'⟩:=HI.out.rd.at_ (HO.out.below HI.out.size fun _ h=>h.elim) hd;subst hA;obtain⟨Ff,ff,hff, -, -⟩:=hnd'.fields.form;obtain⟨Fq,fq,hfq, -, -⟩:=hnd'.raws.form;simp only at hff hfq;subst hff hfq;obtain⟨Y0,hY0,HBY⟩:=Zax wr d.kd (.slice Ff d.fs.length ff) (.slice Fq d.rs.length fq);have HY0:=ZZ hY0
  obtain⟨nb,hnb⟩: ∃z,z=wr.heap.size:=⟨_,rfl⟩
  have HNB:=ZZ hnb;have BY:=ZZ HBY.out.2.1;rw[← hnb] at BY;have OY:=ZZ HBY.out.1;have HSZ:=ZZ (Zf2 d (.slice Ff d.fs.length ff,.slice Fq d.rs.length fq) B Y0 (hnd'.below (OY.out.below (Yi HI.out.size HO.out.size) fun _ h=>h.elim)));have HTK:=ZZ (fun (W:World) (o:Only nob Y0 W)=>Zuh HOK.out.1 HI.out.cfit (ZnC HOK.out.2.1) HI.out.nodes hd HRO.out (HRM.out.keep (OY.out.trans o)))
  obtain⟨n,hn⟩: ∃n,n=ndSz d:=⟨_,rfl⟩
  rw[← hn] at HSZ HTK
  obtain⟨kd,hkd⟩: ∃z,z=d.kd:=⟨_,rfl⟩
  rw[← hkd] at HY0 BY HSZ q0;clear hn hkd hY0 hnb hd hh hnd'
  go_upto_region 9 with fail
  rw[HY0.out, ← HNB.out];clear q0 q1 q2;have q0:Y0.cell? ⟨nb,0,none⟩=some (.int .i64 kd):=BY.out.cell 0;have q1:Y0.cell? ⟨nb,1,none⟩=some (.slice Ff d.fs.length ff):=BY.out.cell 1;have q2:Y0.cell? ⟨nb,2,none⟩=some (.slice Fq d.rs.length fq):=BY.out.cell 2
  go_wp2_with fail
  go_at_call 51;refine HSZ.out.mono ?_;rintro e Y1 ⟨rfl,o⟩;have OY1:=ZZ (OY.out.trans o);have HTK:=ZZ (HTK.out Y1 o);clear o q0 q1 q2
  go_wp2_with fail
  go_at_call 50;refine HTK.out.mono ?_;intro e Y2 HT;have HT:=ZZ HT;have R1':=ZZ (HRM.out.keep OY1.out);have P1':=ZZ (Za HPV.out OY1.out fun _ _=>id);have Z1':=ZZ (HRZ.out.keep OY1.out id)
  have HBF: ∀i,RmF rb tv i→w.heap.size≤i:=fun i h=>by
   rcases h with rfl|h
   · exact hbase
   · exact Yi hbase (Zh HRM.out.tab h).1
  have O2:=ZZ (show Only nob w Y2 from(HO.out.trans OY1.out).andThen HT.out.2.2 fun i hi h=>by have:=HBF i h;omega);have P2:=ZZ (Za P1'.out HT.out.2.2 fun q hq h=>h.elim (fun e=>Zt P1'.out R1'.out.blk (by decide) q hq e) (fun e=>Zjq P1'.out R1'.out.tab (by decide) q hq e));have Z2:=ZZ (Z1'.out.keep HT.out.2.2 fun h=>h.elim (fun e=>by omega) (fun e=>Zt R1'.out.tab Z1'.out (by decide) _ e rfl));by_cases hr:ZB c sec g.nd (k+1)
  case pos=>
   obtain⟨z,tv',fv2,rfl,hpl,hrm⟩:=HT.out.1 hr;have HR2:=ZZ hr;have RM2:=ZZ hrm;have HPL2:=ZZ hpl;clear HT hpl hrm hr;have HQ3:=ZZ (Blk.new Y2 3 #[.int .i64 z])
   go_wp2_with (with_reducible refine Zg (o:=⟨some 46,_,_,_,_,_⟩) _ rfl (.tmp 43) (.tmp 45) _ rfl rb 3 j0 _ 1 8 Tryz.underlying38 hj0 hy0 hy1 hy2 rfl (by decide) (.slice Pv k cv) k (i64s (plL c (loT c sec) (loB c) (g.nd.take k))) rfl ?c7 (Y2.heap.size+1) (.slice (some ⟨Y2.heap.size,0,none⟩) 1 1) 1 (i64s [z]) rfl ?c8 (Zc6 _) ?c9 ?c10 ?c11 ?c12)
   case c7=>exact Za P2.out ((Only.refl nob Y2).alloc _) fun _ _ h=>h
   case c8=>exact(Sl.of_blk (size:=1) (n:=1) (c:=1) HQ3.out rfl (Yj _) (by decide)).more (by simp)
   case c9=>unfold maxLen;omega
   case c10=>omega
   case c11=>have:=RM2.out.size;simp;omega
   case c12=>
   intro v2 w4 H2 o4 hbk;have hn2:Only nob Y2 (Y2.alloc (.cells #[.int .i64 z] 3)):=(Only.refl nob Y2).alloc _;have P3:=ZZ (Za P2.out hn2 fun _ _=>id);have P4:=ZZ (show w4.ownsRow rb 3 1 v2 (k+1) (i64s (plL c (loT c sec) (loB c) (g.nd.take (k+1)))) by rw[HPL2.out,Zy];exact H2.out);have O4:=ZZ ((O2.out.trans hn2).andThen o4 fun i hi h=>by have:=(Zh P2.out h).1;omega);have hne1: ¬(Value.slice Pv k cv).ownBlock=some rb:=fun e=>Zt P2.out RM2.out.blk (by decide) _ e rfl;have hne2: ¬(Value.slice Pv k cv).ownBlock=some (p+1+1):=fun e=>Zt P2.out Z2.out (by decide) _ e rfl;have Z4:=ZZ ((Z2.out.keep hn2 id).keep o4 hne2);have R3':=ZZ (RM2.out.keep hn2);have R4:=ZZ (show Rm w4 rb c sec g.nd (k+1) tv' fv2 from R3'.out.keepF o4 (fun i h=>(Zh P3.out h).1) hne1 fun b n v xs hr q hq e=>Zjq hr P3.out (by decide) q hq e);obtain⟨A2,c2',rfl,hk3,hk4⟩:=Zi P4.out;clear H2 o4 hbk hn2 hne1 hne2
   go_wp2_with fail
   go_roundw
   case rel=>exact⟨k+1,tv',fv2,by omega,by go_num,HR2,P4,R4,Z4,O4⟩
   case measure=>simp[RowKit.intOf];omega
  case neg=>
   obtain rfl:=HT.out.2.1 hr;have HE:=ZZ (ZsL (sec:=sec) HOK.out.1 HOK.out.2.1 (by have:=HOK.out.2.2;omega) fun h=>hr (ZpA (ZnC HOK.out.2.1) (k+1) h));clear HT hr;obtain⟨s0,s1,s2,s3,s4,s5,s6,s7,s8⟩:=ZN Z2.out;obtain⟨f0,f1,f2,f3,f4,f5,f6,f7,f8⟩:=ZbU Z2.out
   go_wp2_with fail
   clear s0 s1 s2 s3 s4 s5 s6 s7 s8 f0 f1 f2 f3 f4 f5 f6 f7 f8;obtain⟨W9,hW9,o9, -,B9⟩:=ZjF O2.out (by have:=HP.out;omega) Z2.out (.int .i64 0) (.int .i64 0) (.int .i64 0) (.int .i64 0) (.int .i64 0) (.int .i64 0) (.int .i64 0) (.slice none 0 0) (.slice none 0 0)
   with_reducible rw[hW9]
   obtain⟨h0,h1,h2,h3,h4,h5,h6,h7,h8⟩:=ZN B9
   (try simp only[Exit.inBlock,Exit.then])
   refine bodyPost_ret (v:=.tuple #[.agg #[.int .i64 0,.int .i64 0,.int .i64 0,.int .i64 0,.int .i64 0,.int .i64 0,.int .i64 0,.slice none 0 0,.slice none 0 0],.slice none 0 0,.int .i64 9]) (by simp[results,Tryz.results19,go_sem,h0,h1,h2,h3,h4,h5,h6,h7,h8]) rfl ?_;exact⟨fun h=>(by rw[HE.out] at h;cases h),fun _=>by rw[HE.out],o9⟩
 case neg=>
 obtain rfl:k=N:=by omega
 have HE:=ZZ (show loE c sec g=0 from Zg2 HOK.out.1 HOK.out.2.1 (by have:=HOK.out.2.2;omega) (by rw[← HN.out];exact HRO.out));obtain⟨At,ct,htv, -, -⟩:=Zi HRM.out.tab;obtain⟨Av,cv2,hfv, -, -⟩:=HRM.out.freeSl.form;subst htv hfv;obtain⟨z0,z1,z2,z3,z4,z5,z6,z7,z8⟩:=ZN HRM.out.blk;obtain⟨s0,s1,s2,s3,s4,s5,s6,s7,s8⟩:=ZN HRZ.out;obtain⟨f0,f1,f2,f3,f4,f5,f6,f7,f8⟩:=ZbU HRZ.out;have HTK:=ZZ (show g.nd.take k=g.nd by rw[HN.out,List.take_length]);have HWR:=ZZ (show p+1+1<wr.heap.size from HRZ.out.lt)
 go_wp2_with fail
 clear s0 s1 s2 s3 s4 s5 s6 s7 s8 f0 f1 f2 f3 f4 f5 f6 f7 f8 z0 z1 z2 z3 z4 z5 z6 z7 z8;obtain⟨W9,hW9,o9,q9,B9⟩:=ZjF HO.out (by have:=HP.out;omega) HRZ.out (.int .i64 c.semi) (.int .i64 c.large) (.int .i64 c.slots) (.int .i64 c.limit) (.int .i64 (Zl c sec).1) (.int .i64 (Zl c sec).2) (.int .i64 (loT c sec+sSm c (g.nd.take k))) (.slice At (tbL c (loB c) (g.nd.take k)).length ct) (.slice Av (loFr c g.nd k).length cv2)
 with_reducible rw[hW9]
 obtain⟨h0,h1,h2,h3,h4,h5,h6,h7,h8⟩:=ZN B9;have hpr2:p+1+1<rb:=hpr;have T9:=Za HRM.out.tab q9 (Zt HRM.out.tab HRZ.out (by decide));have P9:=Za HPV.out q9 (Zt HPV.out HRZ.out (by decide))
 have F9:Sl W9 W9.heap.size 2 (.slice Av (loFr c g.nd k).length cv2) (loFr c g.nd k).length (spc (loFr c g.nd k)):=HRM.out.free.elim (fun e=>Zq0 (Zt4 HOK.out.1 (ZnC HOK.out.2.1) HRO.out.2) e HRZ.out q9 HRM.out.size) fun e=>(by
  have h1:=Za e.1 q9 (Zt e.1 HRZ.out (by decide))
  exact Sl.of_own h1 h1.1)
 (try simp only[Exit.inBlock,Exit.then])
 refine bodyPost_ret (v:=.tuple #[.agg #[.int .i64 c.semi,.int .i64 c.large,.int .i64 c.slots,.int .i64 c.limit,.int .i64 (Zl c sec).1,.int .i64 (Zl c sec).2,.int .i64 (loT c sec+sSm c (g.nd.take k)),.slice At (tbL c (loB c) (g.nd.take k)).length ct,.slice Av (loFr c g.nd k).length cv2],.slice Pv k cv,.int .i64 0]) (by simp[results,Tryz.results19,go_sem,h0,h1,h2,h3,h4,h5,h6,h7,h8]) rfl ?_;refine⟨fun _=>⟨_,_,_,by rw[HTK.out],?_,?_,?_⟩,fun h=>absurd HE.out h,o9⟩
 · have h1:=Sl.of_own T9 T9.1
   rw[HTK.out] at h1;exact h1
 · have e:frL (loB c+sBg c g.nd) (ZL c)=loFr c g.nd k:=by unfold loFr;rw[HTK.out]
   rw[e];exact F9
 · have h1:=Sl.of_own P9 P9.1
   rw[HTK.out] at h1;have e:(loPl c sec g).length=k:=(ZbJ ..).trans HN.out.symm;rw[e];exact h1
end Go.Proofs.YtknoncenblehkaaGreatDoor
