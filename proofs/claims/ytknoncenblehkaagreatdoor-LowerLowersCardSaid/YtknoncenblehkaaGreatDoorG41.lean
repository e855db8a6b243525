/- Package lower: the room of a config ahead of the first node. -/
import Derived.Test.YtknoncenblehkaaGreatDoorG40
set_option maxRecDepth 100000
set_option maxHeartbeats 32000000
set_option linter.unusedSimpArgs false
set_option linter.unusedVariables false
namespace Go.Proofs.YtknoncenblehkaaGreatDoor
open Go.RowKit Go.Lib
theorem ZgX {w W:World} {b:Nat} {t:TypeId} (o:Only nob w W) (hb:w.heap.size≤b) {z0 z1 z2 z3 z4 z5 z6 z7 z8:Value} (B:Blk W b t #[z0,z1,z2,z3,z4,z5,z6,z7,z8]) (x0 x1 x2 x3 x4 x5 x6 x7 x8:Value):
 ∃W4,(((((((((W.setCell ⟨b,0,none⟩ x0).setCell ⟨b,1,none⟩ x1).setCell ⟨b,2,none⟩ x2).setCell ⟨b,3,none⟩ x3).setCell ⟨b,4,none⟩ x4).setCell ⟨b,5,none⟩ x5).setCell ⟨b,6,none⟩ x6).setCell ⟨b,7,none⟩ x7).setCell ⟨b,8,none⟩ x8)=W4∧Only nob w W4∧Only (isb b) W W4∧Blk W4 b t #[x0,x1,x2,x3,x4,x5,x6,x7,x8]:=by
 refine⟨_,rfl,(Zi (Zi (Zi (Zi (Zi (Zi (Zi (Zi (Zi o hb _) hb _) hb _) hb _) hb _) hb _) hb _) hb _) hb _),?_,?_⟩
 · exact(((((((((Zc _ b 0 _).trans (Zc _ b 1 _)).trans (Zc _ b 2 _)).trans (Zc _ b 3 _)).trans (Zc _ b 4 _)).trans (Zc _ b 5 _)).trans (Zc _ b 6 _)).trans (Zc _ b 7 _)).trans (Zc _ b 8 _))
 · simpa using(((((((((B.put 0 x0).put 1 x1).put 2 x2).put 3 x3).put 4 x4).put 5 x5).put 6 x6).put 7 x7).put 8 x8)
theorem ZmG {W W':World} {B b:Nat} {v:Value} {l:List Sp} (hnz: ∀x∈l,x.1≠0) (h:Sl W B 2 v l.length (spc l)) (hb:Blk W b 65 #[.int .i64 0,.int .i64 0,.int .i64 0,.int .i64 0,.int .i64 0,.int .i64 0,.int .i64 0,.slice none 0 0,.slice none 0 0]) (o:Only (isb b) W W') (hB:B≤W.heap.size):Sl W' W'.heap.size 2 v l.length (spc l):=by
 obtain⟨A,c,rfl,h1,h2,h3,h4⟩:=h;refine⟨A,c,rfl,h1,h2,h3,fun hn=>?_⟩;obtain⟨g,f,rfl,hg,hc⟩:=h4 hn
 have hne:g≠b:=by
  rintro rfl
  obtain⟨x,hx⟩: ∃x,l[0]? =some x:=⟨_,Ya hn⟩
  have h5:(spc l)[0]? =some (.int .i64 x.1):=by
   cases l with
   |nil=>cases hx
   |cons y m=>obtain rfl:y=x:=by simpa using hx
              simp[spc]
  have h6:=hc 0 _ h5;have h7:=hb.cell (f+0);rw[h6] at h7;have h8:=hnz x (Yn hx);rw[Nat.add_zero] at h7
  match f,h7 with
  |0,h7=>simp at h7;exact h8 h7
  |1,h7=>simp at h7;exact h8 h7
  |2,h7=>simp at h7;exact h8 h7
  |3,h7=>simp at h7;exact h8 h7
  |4,h7=>simp at h7;exact h8 h7
  |5,h7=>simp at h7;exact h8 h7
  |6,h7=>simp at h7;exact h8 h7
  |7,h7=>simp at h7
  |8,h7=>simp at h7
  |n+9,h7=>simp at h7
 exact⟨g,f,rfl,Yv hg (Yh hB o.size),fun k u hu=>(o.cell (p:=⟨g,f+k,none⟩) (Yv hg hB) hne).trans (hc k u hu)⟩
theorem Ze1 {c:Cf} {ds:List Nd} (h:c.ok):loFr c ds 0=frN c:=by
 unfold loFr frN;simp only[List.take_zero,sBg,Int.add_zero];exact ZlF h
theorem Zo0 (w:World) (c:Cf): ∃W,(w.alloc (.cells #[.int .i64 c.semi,.int .i64 c.large,.int .i64 c.slots,.int .i64 c.limit] 23)).alloc (.cells #[.int .i64 0,.int .i64 0,.int .i64 0,.int .i64 0,.int .i64 0,.int .i64 0,.int .i64 0,.slice none 0 0,.slice none 0 0] 65)=W∧Hid (Only nob w W∧CBox W w.heap.size c∧Blk W (w.heap.size+1) 65 #[.int .i64 0,.int .i64 0,.int .i64 0,.int .i64 0,.int .i64 0,.int .i64 0,.int .i64 0,.slice none 0 0,.slice none 0 0]):=by
 refine⟨_,rfl,ZZ ⟨((Only.refl nob w).alloc _).alloc _,(CBox.new w c).keep ((Only.refl nob _).alloc _),?_⟩⟩;have h:=Blk.new (w.alloc (.cells #[.int .i64 c.semi,.int .i64 c.large,.int .i64 c.slots,.int .i64 c.limit] 23)) 65 #[.int .i64 0,.int .i64 0,.int .i64 0,.int .i64 0,.int .i64 0,.int .i64 0,.int .i64 0,.slice none 0 0,.slice none 0 0];simpa using h
theorem Zna (c:Cf) (sec:Bool) (ds:List Nd) (w:World) (hc:CFit c) (h:c.ok):
 Calls Tryz.prog 49 #[.agg #[.int .i64 c.semi,.int .i64 c.large,.int .i64 c.slots,.int .i64 c.limit],.bool sec] w fun e w'=> ∃A k,e=.returned (.agg #[.int .i64 c.semi,.int .i64 c.large,.int .i64 c.slots,.int .i64 c.limit,.int .i64 (Zj c sec).1,.int .i64 (Zj c sec).2,.int .i64 (Zj c sec).1,.slice none 0 0,.slice A (loFr c ds 0).length k])∧Sl w' w'.heap.size 2 (.slice A (loFr c ds 0).length k) (loFr c ds 0).length (spc (loFr c ds 0))∧Only nob w w':=by
 obtain⟨W,hW,HB⟩:=Zo0 w c;have HW:=ZZ hW
 obtain⟨p,hp⟩: ∃p,p=w.heap.size:=⟨_,rfl⟩
 have HP:=ZZ hp;rw[← hp] at HB;have HFM:=ZZ (Zmx c sec W hc);have HLA:=ZZ (show ∀w,Calls Tryz.prog 56 #[.agg #[.int .i64 c.semi,.int .i64 c.large,.int .i64 c.slots,.int .i64 c.limit]] w fun e w'=>e=.returned (.agg #[.int .i64 (Ze c).1,.int .i64 (Ze c).2])∧Only nob w w' from fun w=>Zf8 c w hc);have hlf:=(ZbC c false).2.2
 have HGP:=ZZ (show ∀w,Calls Tryz.prog 55 #[.agg #[.int .i64 (Ze c).1,.int .i64 (Ze c).2],.slice none 0 0] w fun e w'=> ∃A k,e=.returned (.slice A (frN c).length k)∧Sl w' w'.heap.size 2 (.slice A (frN c).length k) (frN c).length (spc (frN c))∧Only nob w w' from fun w=>(ZkU (Ze c) (.slice none 0 0) [] w.heap.size w Sl.nil_ (Yi _) (by simp) (fun _ h=>by cases h) hlf).mono fun e w' ⟨v',O,h1,h2,h3,h4,h5⟩=>by
  have:=ZmX h h2 h3
  subst this;obtain⟨A,k,rfl, -, -⟩:=h4.form
  exact⟨A,k,h1,h4,h5⟩)
 have HNZ:=ZZ (ZjS h);rw[Ze1 h]
 obtain⟨x,hx⟩: ∃x,x=(Ze c).1:=⟨_,rfl⟩
 obtain⟨y,hy⟩: ∃x,x=(Ze c).2:=⟨_,rfl⟩
 rw[← hx, ← hy] at HLA HGP
 obtain⟨u,hu⟩: ∃x,x=(Zj c sec).1:=⟨_,rfl⟩
 obtain⟨v,hv⟩: ∃x,x=(Zj c sec).2:=⟨_,rfl⟩
 rw[← hu, ← hv] at HFM ⊢
 obtain⟨FL,hFL⟩: ∃FL,FL=frN c:=⟨_,rfl⟩
 rw[← hFL] at HGP HNZ ⊢;clear hW hp hx hy hu hv hFL hlf hc h;obtain⟨c0,c1,c2,c3⟩:=HB.out.2.1
 go_enter Tryz.func49,Tryz.ntmps49
 go_upto_region 1 with fail
 rw[HW.out, ← HP.out]
 go_wp2_with fail
 go_at_call 79;refine HFM.out.mono ?_;rintro e w1 ⟨rfl,o⟩;obtain⟨WS,hWS,HBS⟩:=Z8 w1 u v;have HWS:=ZZ hWS;have OS:=ZZ (HB.out.1.trans (o.trans HBS.out.1));have XS:=ZZ (HB.out.2.1.keep (o.trans HBS.out.1));have BS:=ZZ (HB.out.2.2.keep (o.trans HBS.out.1) id)
 obtain⟨hb,hhb⟩: ∃b,b=w1.heap.size:=⟨_,rfl⟩
 have HHB:=ZZ hhb;have SS:=ZZ HBS.out.2.1;rw[← hhb] at SS
 have hpl:p+1<hb:=by rw[hhb];exact Yv HB.out.2.2.lt o.size
 clear hWS hhb o c0 c1 c2 c3;obtain⟨c0,c1,c2,c3⟩:=XS.out;have d0:WS.cell? ⟨hb,0,none⟩=some (.int .i64 u):=SS.out.cell 0;have d1:WS.cell? ⟨hb,1,none⟩=some (.int .i64 v):=SS.out.cell 1
 go_upto_region 2 with fail
 rw[HWS.out, ← HHB.out];have O0:=ZZ (show Only nob WS WS.drew from(Only.refl nob WS).drewN 1);refine wp_region_held_drew (S:=fun w':World=>w'.cell? ⟨p,0,none⟩=some (.int .i64 c.semi)∧w'.cell? ⟨p,1,none⟩=some (.int .i64 c.large)∧w'.cell? ⟨p,2,none⟩=some (.int .i64 c.slots)∧w'.cell? ⟨p,3,none⟩=some (.int .i64 c.limit)∧w'.cell? ⟨hb,0,none⟩=some (.int .i64 u)∧w'.cell? ⟨hb,1,none⟩=some (.int .i64 v)) (by kernel_rfl) ?_ (fun hHeld=>?_)
 · exact⟨c0,c1,c2,c3,d0,d1⟩
 revert O0 hHeld;generalize WS.drew=W;intro O hHeld;refine wpAnyH_take (i:=0) (v:=?_) rfl (by kernel_rfl) (by kernel_rfl) (by kernel_rfl) (fun _ _ _ h=>h) (Or.inl ⟨by rfl,?_⟩) hHeld ?_;rotate_left
 · intro w hSw;(try dsimp only at hSw);go_simp;first|done|with_reducible rfl
 try simp only[Act.put,Yb,Yd,Yc,Yg,Ye,Yf]
 refine wpAnyH_take (i:=1) (v:=?_) rfl (by kernel_rfl) (by kernel_rfl) (by kernel_rfl) (fun _ _ _ h=>h) (Or.inl ⟨by rfl,?_⟩) hHeld ?_;rotate_left
 · intro w hSw;(try dsimp only at hSw);go_simp;first|done|with_reducible rfl
 try simp only[Act.put,Yb,Yd,Yc,Yg,Ye,Yf]
 refine wpAnyH_take (i:=2) (v:=?_) rfl (by kernel_rfl) (by kernel_rfl) (by kernel_rfl) (fun _ _ _ h=>h) (Or.inl ⟨by rfl,?_⟩) hHeld ?_;rotate_left
 · intro w hSw;(try dsimp only at hSw);go_simp;first|done|with_reducible rfl
 try simp only[Act.put,Yb,Yd,Yc,Yg,Ye,Yf]
 refine wpAnyH_take (i:=3) (v:=?_) rfl (by kernel_rfl) (by kernel_rfl) (by kernel_rfl) (fun _ _ _ h=>h) (Or.inl ⟨by rfl,?_⟩) hHeld ?_;rotate_left
 · intro w hSw;(try dsimp only at hSw);go_simp;first|done|with_reducible rfl
 try simp only[Act.put,Yb,Yd,Yc,Yg,Ye,Yf]
 refine wpAnyH_take (i:=4) (v:=?_) rfl (by kernel_rfl) (by kernel_rfl) (by kernel_rfl) (fun _ _ _ h=>h) (Or.inl ⟨by rfl,?_⟩) hHeld ?_;rotate_left
 · intro w hSw;(try dsimp only at hSw);go_simp;first|done|with_reducible rfl
 try simp only[Act.put,Yb,Yd,Yc,Yg,Ye,Yf]
 refine wpAnyH_ready (rs:=[5]) (by kernel_rfl) (by simp) (AllReadyH.cons rfl (fun K hK=>?_) AllReadyH.nil);go_simp;go_at_call 56;refine(HLA.out _).mono ?_;rintro e W ⟨rfl,o⟩;have O:=ZZ (O.out.trans o);clear o;refine hK.out _ _ ⟨O.out.keeps c0,O.out.keeps c1,O.out.keeps c2,O.out.keeps c3,O.out.keeps d0,O.out.keeps d1⟩ (fun hHeld2=>?_);clear hK K hHeld;have hHeld:=hHeld2;clear hHeld2
 try simp only[Act.put,Yb,Yd,Yc,Yg,Ye,Yf]
 refine wpAnyH_ready (rs:=[6]) (by kernel_rfl) (by simp) (AllReadyH.cons rfl (fun K hK=>?_) AllReadyH.nil);go_simp;go_at_call 55;refine(HGP.out _).mono ?_;rintro e W ⟨Ag,kg,rfl,hg,o⟩;have O:=ZZ (O.out.trans o);have FR:=ZZ hg;have BX:=ZZ (BS.out.keep O.out id);clear o hg;refine hK.out _ _ ⟨O.out.keeps c0,O.out.keeps c1,O.out.keeps c2,O.out.keeps c3,O.out.keeps d0,O.out.keeps d1⟩ (fun hHeld2=>?_);clear hK K hHeld;have hHeld:=hHeld2;clear hHeld2
 try simp only[Act.put,Yb,Yd,Yc,Yg,Ye,Yf]
 refine wpAnyH_take (i:=7) (v:=?_) rfl (by kernel_rfl) (by kernel_rfl) (by kernel_rfl) (fun _ _ _ h=>h) (Or.inl ⟨by rfl,?_⟩) hHeld ?_;rotate_left
 · intro w hSw;(try dsimp only at hSw);go_simp;first|done|with_reducible rfl
 try simp only[Act.put,Yb,Yd,Yc,Yg,Ye,Yf]
 refine wpAnyH_ready (rs:=[8]) (by kernel_rfl) (by simp) (AllReadyH.cons rfl (fun K hK=>?_) AllReadyH.nil);obtain⟨s0,s1,s2,s3,s4,s5,s6,s7,s8⟩:=ZJ BX.out;obtain⟨f0,f1,f2,f3,f4,f5,f6,f7,f8⟩:=ZbE BX.out;go_simp;clear s0 s1 s2 s3 s4 s5 s6 s7 s8 f0 f1 f2 f3 f4 f5 f6 f7 f8;obtain⟨W,hW,oA,oB,B9⟩:=ZgX (OS.out.trans O.out) (by have:=HP.out;omega) BX.out (.int .i64 c.semi) (.int .i64 c.large) (.int .i64 c.slots) (.int .i64 c.limit) (.int .i64 u) (.int .i64 v) (.int .i64 u) (.slice none 0 0) (.slice Ag FL.length kg)
 with_reducible rw[hW]
 have FR:=ZZ (ZmG HNZ.out FR.out BX.out oB (Yi _));have OA:=ZZ oA;have XF:=ZZ B9;have hk: ∀b,b≠p+1→ ∀{o:Nat} {z:Value},b<WS.heap.size→WS.cell? ⟨b,o,none⟩=some z→W.cell? ⟨b,o,none⟩=some z:=fun b hb o z hl hc=>(oB.cell (p:=⟨b,o,none⟩) (Yv hl O.out.size) (by unfold isb;simp only;omega)).trans (O.out.keeps hc)
 have hp1:p<WS.heap.size:=by have:=SS.out.lt;omega
 have hp2:hb<WS.heap.size:=SS.out.lt;refine hK.out _ _ ⟨hk p (by omega) hp1 c0,hk p (by omega) hp1 c1,hk p (by omega) hp1 c2,hk p (by omega) hp1 c3,hk hb (by omega) hp2 d0,hk hb (by omega) hp2 d1⟩ (fun hHeld2=>?_);clear hk oA oB B9 hW;refine wpAnyH_done (by kernel_rfl) ?_ _;obtain⟨h0,h1,h2,h3,h4,h5,h6,h7,h8⟩:=ZJ XF.out;clear c0 c1 c2 c3 d0 d1;go_wp2;exact bodyPost_ret (v:=.agg #[.int .i64 c.semi,.int .i64 c.large,.int .i64 c.slots,.int .i64 c.limit,.int .i64 u,.int .i64 v,.int .i64 u,.slice none 0 0,.slice Ag FL.length kg]) (by simp[results,Tryz.results49,go_sem,h0,h1,h2,h3,h4,h5,h6,h7,h8]) rfl ⟨_,_,rfl,FR.out,OA.out⟩
end Go.Proofs.YtknoncenblehkaaGreatDoor
