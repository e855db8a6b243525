/- The document's own Take, of a list of at most one row. Package lower: a value's word. -/
import Derived.Test.YtknoncenblehkaaGreatDoorG37
set_option maxRecDepth 100000
set_option maxHeartbeats 32000000
set_option linter.unusedSimpArgs false
set_option linter.unusedVariables false
namespace Go.Proofs.YtknoncenblehkaaGreatDoor
open Go.RowKit Go.Lib
def ZgY (l:List Sp) (n:Int) (w:World) (e:Ending) (w':World):Prop:= ∃v',e=.returned (.tuple #[v',.int .i64 (Zah l n).2.1,.int .i64 (Zah l n).2.2])∧Sl w' w'.heap.size 2 v' (Zah l n).1.length (spc (Zah l n).1)∧((Zah l n).2.2=0→w'.ownsRow w.heap.size 61 2 v' (Zah l n).1.length (spc (Zah l n).1))∧Only nob w w'
theorem Zh5 {n:Int} (hn:1≤n):Zah [] n=([],0,9):=ZaT (by omega) (by simp[Zd9])
theorem Zin {x:Sp} {n:Int} (hn:1≤n) (hx:x.ok):(x.2<n→Zah [x] n=([x],0,9))∧(n=x.2→Zah [x] n=([],x.1,0))∧(n<x.2→Zah [x] n=([(x.1+n,x.2 - n)],x.1,0)):=by
 have key:n≤x.2→ ¬Zd9 (Sp.fits n) [x]<0:=fun h hlt=>by
  have h1:=Zca (Sp.fits n) [x]
  have h2:[x].any (Sp.fits n)=true:=by simp[Zcp.2 ⟨hx,h⟩]
  rw[h2] at h1
  have:=of_decide_eq_true h1
  omega
 refine⟨fun h=>ZaT (by omega) ?_,fun h=>?_,fun h=>?_⟩
 · have h1:=Zca (Sp.fits n) [x]
   have h2:[x].any (Sp.fits n)=false:=by
    have:Sp.fits n x=false:=by
     cases hq:Sp.fits n x with
     |false=>rfl
     |true=>exact absurd (Zcp.1 hq).2 (by omega)
    simp[this]
   rw[h2] at h1
   have:=of_decide_eq_false h1
   omega
 · obtain⟨k,y, -,hy, -, -,e1,e2⟩:=ZbN (by omega) (key (by omega))
   have hk:k=0:=by have:=(Yj.1 hy).1;simp at this;omega
   subst hk
   obtain rfl:x=y:=by simpa using hy
   rw[e1 h.symm];rfl
 · obtain⟨k,y, -,hy, -, -,e1,e2⟩:=ZbN (by omega) (key (by omega))
   have hk:k=0:=by have:=(Yj.1 hy).1;simp at this;omega
   subst hk
   obtain rfl:x=y:=by simpa using hy
   rw[e2 (by omega)];rfl
theorem ZkR (v:Value) (n:Int) (B:Nat) (w:World) (hn:1≤n) (h:Sl w B 2 v 0 (spc [])) (hB:B≤w.heap.size):
 Calls Tryz.prog 32 #[v,.int .i64 n] w (ZgY [] n w):=by
 obtain⟨A,ca,rfl,hac,ham⟩:=h.form;have HA:=ZZ h;have HT:=ZZ (Zh5 hn);clear h
 go_enter Tryz.func32,Tryz.ntmps32
 go_wp2_with fail
 go_loopw [7] (fun i wr=>i=.int .i64 0∧Hid (Only nob w wr)) (fun _ _=>0)
 case atStart=>exact⟨rfl,ZZ (Only.refl _ _)⟩
 case round=>
 obtain⟨rfl,HX⟩:=hrel;go_wp2
 go_ret3
 exact⟨_,by rw[HT.out];rfl,by rw[HT.out];exact Zhq (l:=[]) HA.out HX.out hB,fun h0=>(by rw[HT.out] at h0;cases h0),HX.out⟩
theorem Zi6 (v:Value) (x:Sp) (n:Int) (B:Nat) (w:World) (hn:1≤n) (hx:x.ok) (h:Sl w B 2 v 1 (spc [x])) (hB:B≤w.heap.size):
 Calls Tryz.prog 32 #[v,.int .i64 n] w (ZgY [x] n w):=by
 obtain⟨i0,hi0,hz0,hz1,hz2⟩:=info_parts Zae;have HA:=ZZ h;obtain⟨A,ca,rfl,hac,ham⟩:=h.form;unfold maxLen at ham;obtain⟨t1,t2,t3⟩:=Zin hn hx;have HT:=ZZ (And.intro t1 (And.intro t2 t3));have HM:=ZZ (Yl hx)
 have hxb:0≤x.1∧1≤x.2∧x.1+x.2≤1099511627776:=by have:=hx;unfold Sp.ok Za6 at this;omega
 obtain⟨b,o,hA,hb,c0,c1⟩:=Zy (l:=[x]) (k:=0) HA.out (Below.refl _ _) rfl;subst hA
 obtain⟨N,hN⟩: ∃N:Nat,N=1:=⟨_,rfl⟩
 have HN:=ZZ hN;rw[← hN] at hac ⊢;have SD0:=ZZ (ZgF (l:=[x]) (k:=1) HA.out (by simp));have HC0:=ZZ c0;have HC1:=ZZ c1;clear h t1 t2 t3 hN c0 c1
 go_enter Tryz.func32,Tryz.ntmps32
 go_wp2_with fail
 go_loopw [7] (fun i wr=> ∃k:Nat,k≤N∧i=.int .i64 k∧Hid (k=1→x.2<n)∧Hid (Only nob w wr)) (fun i _=>N - (intOf i).toNat)
 case atStart=>exact⟨0,Yt _,rfl,ZZ fun h=>absurd h (by decide),ZZ (Only.refl _ _)⟩
 case round=>
 obtain⟨k,hk,rfl,HNO,HX⟩:=hrel;by_cases hk1:k<N
 case neg=>
  have HE:=ZZ (HT.out.1 (HNO.out (by have:=HN.out;omega)));go_wp2
  go_ret3
  exact⟨_,by rw[HE.out];rfl,by rw[HE.out,HN.out];exact Zhq (l:=[x]) HA.out HX.out hB,fun h0=>(by rw[HE.out] at h0;cases h0),HX.out⟩
 case pos=>
 have HK0:=ZZ (show k=0∧N=1 by have:=HN.out;omega);have d0:wr.cell? ⟨b,o+k * 2,none⟩=some (.int .i64 x.1):=HX.out.keeps (by rw[HK0.out.1];exact HC0.out);have d1:wr.cell? ⟨b,o+k * 2+1,none⟩=some (.int .i64 x.2):=HX.out.keeps (by rw[HK0.out.1];exact HC1.out);by_cases hle:n≤x.2
 case neg=>
  have HNN:=ZZ (show x.2<n by omega)
  go_wp2_with fail
  go_at_call 64;refine(ZE x _).mono ?_;rw[HM.out];rintro e w2 ⟨rfl,oo⟩;have O2:=ZZ (HX.out.trans oo);have e1:=oo.keeps d1;clear oo d0 d1;go_wp2
  go_roundw
  case rel=>exact⟨k+1,by omega,by go_num,ZZ fun _=>HNN.out,O2⟩
  case measure=>simp[intOf];omega
 case pos=>
 have HLE:=ZZ hle
 go_wp2_with fail
 go_at_call 64;refine(ZE x _).mono ?_;rw[HM.out];rintro e w2 ⟨rfl,oo⟩;have O2:=ZZ (HX.out.trans oo);have e0:=oo.keeps d0;have e1:=oo.keeps d1;clear oo d0 d1;have hcutA:=Zb7 Tryz.underlying31 hi0 (some ⟨b,o,none⟩) N ca k (by omega);rw[hz1] at hcutA
 have hcutB: ∀w,(Instr.sliceAt 31 (.slice (some ⟨b,o,none⟩) N ca) (some (.int .i64 ((k:Int)+1))) none none).run Tryz.prog w=.ok (ZbU (some ⟨b,o,none⟩) (k+1) N ca 2) w:=fun w=>by
  have:=Zap Tryz.underlying31 hi0 (some ⟨b,o,none⟩) N ca (k+1) (by omega) w
  rw[hz1] at this;exact this
 have hw1:IntKind.i64.wrap ((k:Int)+1)=(k:Int)+1:=by rw[IntKind.wrap_i64];have:=HK0.out;omega
 have hb1:(0:Int)≤(k:Int)+1:=by omega
 have hb3:(k:Int)+1≤(N:Int):=by omega
 have htn:((k:Int)+1).toNat=k+1:=by omega
 have ST:=ZZ (show Sl w B 2 (ZbU (some ⟨b,o,none⟩) 0 k ca 2) k (spc []) by
  have h1:=Zgp (l:=[x]) (k:=0) HA.out (by simp);rw[HK0.out.1]
  exact h1)
 have SD:=ZZ (show Sl w B 2 (ZbU (some ⟨b,o,none⟩) (k+1) N ca 2) (N - (k+1)) (spc []) by
  have h1:=SD0.out;rw[HK0.out.1,HK0.out.2]
  exact h1)
 go_wp2_with (with_reducible refine Zf (o:=⟨some 37,_,_,_,_,_⟩) _ rfl (.tmp 33) (.tmp 36) _ rfl w2.heap.size 61 i0 _ 2 16 Tryz.underlying31 hi0 hz0 hz1 hz2 rfl (by decide) (.slice (some ⟨w2.heap.size,0,none⟩) 0 0) 0 [] rfl ?c1 B (ZbU (some ⟨b,o,none⟩) 0 k ca 2) k (spc []) rfl ?c2 (ZY _) ?c3 ?c4 ?c5 ?c6)
 case c1=>exact ZdP w2 _ _
 case c2=>exact ST.out.below ((O2.out.alloc _).below hB fun _ h=>h.elim)
 case c3=>unfold maxLen;omega
 case c4=>have:=HK0.out;omega
 case c5=>simp
 case c6=>
 intro v1 W3 H1 o1 _
 obtain⟨ab,hab⟩: ∃z,z=w2.heap.size:=⟨_,rfl⟩
 have O3:=ZZ (Zcc o1);have OW3:=ZZ (O2.out.trans O3.out);have HW1:=ZZ (show W3.ownsRow ab 61 2 v1 k (spc []) by rw[hab];simpa[spc] using H1.out);obtain⟨A1,c1',rfl,hk1',hk2⟩:=Zl HW1.out;unfold maxLen at hk2;have f0:=O3.out.keeps e0;have f1:=O3.out.keeps e1
 have hbw:b<W3.heap.size:=by have:=OW3.out.size;omega
 have hz3:ab≤W3.heap.size:=by rw[hab];exact O3.out.size
 have hba:b<ab:=by have:=O2.out.size;omega
 have hsz:w.heap.size≤ab:=by rw[hab];exact O2.out.size
 clear o1 H1 hcutA hab e0 e1
 have hw2:IntKind.i64.wrap (x.2 - n)=x.2 - n:=by rw[IntKind.wrap_i64];omega
 have hw3:IntKind.i64.wrap (x.1+n)=x.1+n:=by rw[IntKind.wrap_i64];omega
 by_cases hlt:n<x.2
 case neg=>
  obtain rfl:n=x.2:=by omega
  have HE:=ZZ (HT.out.2.1 rfl)
  go_wp2_with fail
  go_region_held3 (fun w'=>w'.cell? ⟨b,o+k * 2,none⟩=some (.int .i64 x.1)) (first|go_keep|exact C1.out)
   ((refine ZaR _ (by rfl) _ _ _ (by rfl) ab 61 i0 _ 2 16 Tryz.underlying31 hi0 hz0 hz1 hz2 (by rfl) (by decide) (.slice A1 k c1') k (spc []) (by rfl) (Zhj HW1.out rfl) B (ZbU (some ⟨b,o,none⟩) (k+1) N ca 2) (N - (k+1)) (spc []) (by rfl) ((SD.out.below (OW3.out.below hB fun _ h=>h.elim)).heap rfl) (ZY _) (by unfold maxLen;omega) (by have:=HK0.out;omega) (by simpa using hz3) ?_
     intro v2 w5 H2 q3 _;have q4:=q3.drewL;have C1:=ZZ ((q4.cell (p:=⟨b,o+k * 2,none⟩) hbw (fun he=>by have h1:=(Zr HW1.out he).1;simp only at h1;omega)).trans f0);have O5:=ZZ (Zbi OW3.out HW1.out q4 hsz);have HW2:=ZZ (show w5.ownsRow ab 61 2 v2 (k+(N - (k+1))) (spc []) by simpa[spc] using H2.out)
     clear H2 q3 q4))
  all_goals
   obtain⟨A5,c5,rfl, -, -⟩:=Zl HW2.out
   have hnk:N - (k+1)=0:=by have:=HK0.out;omega
   rw[hnk,Nat.add_zero] at HW2;go_wp2
   go_ret3
   rw[hnk,Nat.add_zero];exact⟨_,by rw[HE.out];rfl,by rw[HE.out,HK0.out.1];exact Sl.of_own (by have h1:=HW2.out;rw[HK0.out.1] at h1;exact h1) rfl,fun _=>(by have h1:=Zak (base':=w.heap.size) HW2.out fun q e=>Yh hsz (Zr HW2.out e).1;rw[HK0.out.1] at h1;rw[HE.out,HK0.out.1];exact h1),O5.out⟩
 case pos=>
  have HE:=ZZ (HT.out.2.2 hlt)
  go_wp2_with fail
  go_cut [8] (fun s8 wx=> ∃A8 c8,s8=.slice A8 (k+1) c8∧Hid (wx.ownsRow ab 61 2 (.slice A8 (k+1) c8) (k+1) (spc [(x.1+n,x.2 - n)]))∧Hid (Only nob w wx)∧wx.cell? ⟨b,o+k * 2,none⟩=some (.int .i64 x.1))
  case first=>
   have O0:=ZZ (show Only nob W3 W3.drew from(Only.refl nob W3).drewN 1);refine wp_region_held_drew (S:=fun w':World=>w'.cell? ⟨b,o+k * 2,none⟩=some (.int .i64 x.1)∧w'.cell? ⟨b,o+k * 2+1,none⟩=some (.int .i64 x.2)) (by kernel_rfl) ?_ (fun hHeld=>?_)
   · exact⟨f0,f1⟩
   revert O0 hHeld;generalize W3.drew=Y;intro O hHeld;refine wpAnyH_take (i:=0) (v:=?_) rfl (by kernel_rfl) (by kernel_rfl) (by kernel_rfl) (fun _ _ _ h=>h) (Or.inl ⟨by rfl,?_⟩) hHeld ?_;rotate_left
   · intro w hSw;(try dsimp only at hSw);go_simp;first|done|with_reducible rfl
   try simp only[Act.put,Yb,Yd,Yc,Yg,Ye,Yf]
   refine wpAnyH_take (i:=1) (v:=?_) rfl (by kernel_rfl) (by kernel_rfl) (by kernel_rfl) (fun _ _ _ h=>h) (Or.inl ⟨by rfl,?_⟩) hHeld ?_;rotate_left
   · intro w hSw;(try dsimp only at hSw);go_simp;first|done|with_reducible rfl
   try simp only[Act.put,Yb,Yd,Yc,Yg,Ye,Yf]
   refine wpAnyH_take (i:=2) (v:=?_) rfl (by kernel_rfl) (by kernel_rfl) (by kernel_rfl) (fun _ _ _ h=>h) (Or.inl ⟨by rfl,?_⟩) hHeld ?_;rotate_left
   · intro w hSw;(try dsimp only at hSw);go_simp;first|done|with_reducible rfl
   try simp only[Act.put,Yb,Yd,Yc,Yg,Ye,Yf]
   refine wpAnyH_take (i:=3) (v:=?_) rfl (by kernel_rfl) (by kernel_rfl) (by kernel_rfl) (fun _ _ _ h=>h) (Or.inl ⟨by rfl,?_⟩) hHeld ?_;rotate_left
   · intro w hSw;(try dsimp only at hSw);go_simp;first|done|with_reducible rfl
   try simp only[Act.put,Yb,Yd,Yc,Yg,Ye,Yf]
   refine wpAnyH_take (i:=4) (v:=?_) rfl (by kernel_rfl) (by kernel_rfl) (by kernel_rfl) (fun _ _ _ h=>h) (Or.inl ⟨by rfl,?_⟩) hHeld ?_;rotate_left
   · intro w hSw;(try dsimp only at hSw);go_simp;first|done|with_reducible rfl
   try simp only[Act.put,Yb,Yd,Yc,Yg,Ye,Yf]
   refine wpAnyH_take (i:=5) (v:=?_) rfl (by kernel_rfl) (by kernel_rfl) (by kernel_rfl) (fun _ _ _ h=>h) (Or.inl ⟨by rfl,?_⟩) hHeld ?_;rotate_left
   · intro w hSw;(try dsimp only at hSw);go_simp;first|done|with_reducible rfl
   try simp only[Act.put,Yb,Yd,Yc,Yg,Ye,Yf]
   refine wpAnyH_take (i:=6) (v:=?_) rfl (by kernel_rfl) (by kernel_rfl) (by kernel_rfl) (fun _ _ _ h=>h) (Or.inl ⟨by rfl,?_⟩) hHeld ?_;rotate_left
   · intro w hSw;(try dsimp only at hSw);go_simp;first|done|with_reducible rfl
   try simp only[Act.put,Yb,Yd,Yc,Yg,Ye,Yf]
   refine wpAnyH_take (i:=7) (v:=?_) rfl (by kernel_rfl) (by kernel_rfl) (by kernel_rfl) (fun _ _ _ h=>h) (Or.inl ⟨by rfl,?_⟩) hHeld ?_;rotate_left
   · intro w hSw;(try dsimp only at hSw);go_simp;first|done|with_reducible rfl
   try simp only[Act.put,Yb,Yd,Yc,Yg,Ye,Yf]
   refine wpAnyH_take (i:=8) (v:=?_) rfl (by kernel_rfl) (by kernel_rfl) (by kernel_rfl) (fun _ _ _ h=>h) (Or.inl ⟨by rfl,?_⟩) hHeld ?_;rotate_left
   · intro w hSw;(try dsimp only at hSw);go_simp;first|done|with_reducible rfl
   try simp only[Act.put,Yb,Yd,Yc,Yg,Ye,Yf]
   refine wpAnyH_take (i:=9) (v:=?_) rfl (by kernel_rfl) (by kernel_rfl) (by kernel_rfl) (fun _ _ _ h=>h) (Or.inl ⟨by rfl,?_⟩) hHeld ?_;rotate_left
   · intro w hSw;(try dsimp only at hSw);go_simp;first|done|with_reducible rfl
   try simp only[Act.put,Yb,Yd,Yc,Yg,Ye,Yf]
   refine wpAnyH_take (i:=10) (v:=?_) rfl (by kernel_rfl) (by kernel_rfl) (by kernel_rfl) (fun _ _ _ h=>h) (Or.inl ⟨by rfl,?_⟩) hHeld ?_;rotate_left
   · intro w hSw;(try dsimp only at hSw);go_simp;first|done|with_reducible rfl
   try simp only[Act.put,Yb,Yd,Yc,Yg,Ye,Yf]
   refine wpAnyH_take (i:=11) (v:=?_) rfl (by kernel_rfl) (by kernel_rfl) (by kernel_rfl) (fun _ _ _ h=>h) (Or.inl ⟨by rfl,?_⟩) hHeld ?_;rotate_left
   · intro w hSw;(try dsimp only at hSw);go_simp;first|done|with_reducible rfl
   try simp only[Act.put,Yb,Yd,Yc,Yg,Ye,Yf]
   refine wpAnyH_take (i:=12) (v:=?_) rfl (by kernel_rfl) (by kernel_rfl) (by kernel_rfl) (fun _ _ _ h=>h) (Or.inl ⟨by rfl,?_⟩) hHeld ?_;rotate_left
   · intro w hSw;(try dsimp only at hSw);go_simp;first|done|with_reducible rfl
   try simp only[Act.put,Yb,Yd,Yc,Yg,Ye,Yf]
   refine wpAnyH_take (i:=13) (v:=?_) rfl (by kernel_rfl) (by kernel_rfl) (by kernel_rfl) (fun _ _ _ h=>h) (Or.inl ⟨by rfl,?_⟩) hHeld ?_;rotate_left
   · intro w hSw;(try dsimp only at hSw);go_simp;first|done|with_reducible rfl
   try simp only[Act.put,Yb,Yd,Yc,Yg,Ye,Yf]
   refine wpAnyH_take (i:=14) (v:=?_) rfl (by kernel_rfl) (by kernel_rfl) (by kernel_rfl) (fun _ _ _ h=>h) (Or.inl ⟨by rfl,?_⟩) hHeld ?_;rotate_left
   · intro w hSw;(try dsimp only at hSw);go_simp;first|done|with_reducible rfl
   try simp only[Act.put,Yb,Yd,Yc,Yg,Ye,Yf]
   refine wpAnyH_take (i:=15) (v:=?_) rfl (by kernel_rfl) (by kernel_rfl) (by kernel_rfl) (fun _ _ _ h=>h) (Or.inl ⟨by rfl,?_⟩) hHeld ?_;rotate_left
   · intro w hSw;(try dsimp only at hSw);go_simp;first|done|with_reducible rfl
   try simp only[Act.put,Yb,Yd,Yc,Yg,Ye,Yf]
   refine wpAnyH_ready (rs:=[16]) (by kernel_rfl) (by simp) (AllReadyH.cons rfl (fun K hK=>?_) AllReadyH.nil);go_simp
   obtain⟨Z,hZ,HZ⟩: ∃Z,Y.alloc (.cells #[.int .i64 (x.1+n),.int .i64 (x.2 - n)] 61)=Z∧Hid (Only nob Y Z∧Blk Z Y.heap.size 61 #[.int .i64 (x.1+n),.int .i64 (x.2 - n)]∧Y.heap.size<Z.heap.size):=⟨_,rfl,ZZ ⟨(Only.refl nob Y).alloc _,Blk.new Y _ _,by simp⟩⟩
   with_reducible rw[hZ]
   have OZ:=ZZ (O.out.trans HZ.out.1);clear hZ;refine hK.out _ _ ⟨OZ.out.keeps f0,OZ.out.keeps f1⟩ (fun hHeld2=>?_);clear hK K hHeld;have hHeld:=hHeld2;clear hHeld2
   try simp only[Act.put,Yb,Yd,Yc,Yg,Ye,Yf]
   refine wpAnyH_ready (rs:=[17]) (by kernel_rfl) (by simp) (AllReadyH.cons rfl (fun K hK=>?_) AllReadyH.nil);refine ZaR _ (by rfl) _ _ _ (by rfl) ab 61 i0 _ 2 16 Tryz.underlying31 hi0 hz0 hz1 hz2 (by rfl) (by decide) (.slice A1 k c1') k (spc []) (by rfl) (Zb HW1.out OZ.out fun _ _=>id) Z.heap.size (.slice (some ⟨Y.heap.size,0,none⟩) 1 1) 1 (spc [(x.1+n,x.2 - n)]) (by rfl) ((Sl.of_blk (size:=2) (n:=1) (c:=1) HZ.out.2.1 rfl (Yi _) (by decide))) (ZY _) (by unfold maxLen;omega) (by have:=HK0.out;omega) (Yh hz3 OZ.out.size) ?_;intro v2 w5 H2 q3 _;have hrow:=ZZ (show w5.ownsRow ab 61 2 v2 (k+1) (spc [(x.1+n,x.2 - n)]) by simpa[spc] using H2.out);obtain⟨A8,c8,rfl, -, -⟩:=Zl hrow.out;have hkc: ∀(oo:Nat) (z:Value),W3.cell? ⟨b,oo,none⟩=some z→w5.cell? ⟨b,oo,none⟩=some z:=fun oo z hc=>(q3.cell (p:=⟨b,oo,none⟩) (Yv hbw OZ.out.size) (fun he=>by have h1:=(Zr HW1.out he).1;simp only at h1;omega)).trans (OZ.out.keeps hc);have k0:=hkc _ _ f0;have k1:=hkc _ _ f1;have OV:=ZZ (show Only nob w w5 from Zbi (OW3.out.trans OZ.out) (Zb HW1.out OZ.out fun _ _=>id) q3 hsz);clear H2 q3 hkc;refine hK.out _ _ ⟨k0,k1⟩ (fun hHeld2=>?_);clear hK K hHeld;have hHeld:=hHeld2;clear hHeld2;have K0:=ZZ k0;clear k0 k1
   try simp only[Act.put,Yb,Yd,Yc,Yg,Ye,Yf]
   refine wpAnyH_take (i:=18) (v:=?_) rfl (by kernel_rfl) (by kernel_rfl) (by kernel_rfl) (fun _ _ _ h=>h) (Or.inl ⟨by rfl,?_⟩) hHeld ?_;rotate_left
   · intro w hSw;(try dsimp only at hSw);go_simp;first|done|with_reducible rfl
   try simp only[Act.put,Yb,Yd,Yc,Yg,Ye,Yf]
   refine wpAnyH_done (by kernel_rfl) ?_ _;go_wp2
   go_meet
   exact⟨A8,c8,rfl,hrow,OV,K0.out⟩
  case rest=>
  obtain⟨A8,c8,rfl,HW8,OW8,g0⟩:=hcut
  obtain⟨w8,rfl⟩: ∃x:World,x=wc:=⟨_,rfl⟩
  have hbw8:b<w8.heap.size:=by have:=OW8.out.size;omega
  have hz8:ab≤w8.heap.size:=by rcases HW8.out.2 with⟨e, -⟩|⟨g,cap,cur,e,hb8,hg8, -⟩
                               · cases e
                               · exact Yh hb8 (Nat.le_of_lt (Blk.lt (show Blk w8 g _ cur from hg8)))
  clear f0 f1
  go_wp2_with fail
  go_region_held3 (fun w'=>w'.cell? ⟨b,o+k * 2,none⟩=some (.int .i64 x.1)) (first|go_keep|exact C1.out)
   ((refine ZaR _ (by rfl) _ _ _ (by rfl) ab 61 i0 _ 2 16 Tryz.underlying31 hi0 hz0 hz1 hz2 (by rfl) (by decide) (.slice A8 (k+1) c8) (k+1) (spc [(x.1+n,x.2 - n)]) (by rfl) (Zhj HW8.out rfl) B (ZbU (some ⟨b,o,none⟩) (k+1) N ca 2) (N - (k+1)) (spc []) (by rfl) ((SD.out.below (OW8.out.below hB fun _ h=>h.elim)).heap rfl) (ZY _) (by unfold maxLen;omega) (by have:=HK0.out;omega) (by simpa using hz8) ?_
     intro v2 w5 H2 q3 _;have q4:=q3.drewL;have C1:=ZZ ((q4.cell (p:=⟨b,o+k * 2,none⟩) hbw8 (fun he=>by have h1:=(Zr HW8.out he).1;simp only at h1;omega)).trans g0);have O5:=ZZ (Zbi OW8.out HW8.out q4 hsz);have HW2:=ZZ (show w5.ownsRow ab 61 2 v2 (k+1+(N - (k+1))) (spc [(x.1+n,x.2 - n)]) by simpa[spc] using H2.out)
     clear H2 q3 q4))
  all_goals
   obtain⟨A5,c5,rfl, -, -⟩:=Zl HW2.out
   have hnk:N - (k+1)=0:=by have:=HK0.out;omega
   rw[hnk,Nat.add_zero] at HW2;go_wp2
   go_ret3
   rw[hnk,Nat.add_zero];exact⟨_,by rw[HE.out];rfl,by rw[HE.out,HK0.out.1];exact Sl.of_own (by have h1:=HW2.out;rw[HK0.out.1] at h1;exact h1) rfl,fun _=>(by have h1:=Zak (base':=w.heap.size) HW2.out fun q e=>Yh hsz (Zr HW2.out e).1;rw[HK0.out.1] at h1;rw[HE.out,HK0.out.1];exact h1),O5.out⟩
theorem Znr (v:Value) (l:List Sp) (n:Int) (B:Nat) (w:World) (hn:1≤n) (hl:l.length≤1) (hx: ∀x∈l,Sp.ok x) (h:Sl w B 2 v l.length (spc l)) (hB:B≤w.heap.size):
 Calls Tryz.prog 32 #[v,.int .i64 n] w (ZgY l n w):=by
 match l,hl,hx,h with
 |[],_,_,h=>exact ZkR v n B w hn h hB
 |[x],_,hx,h=>exact Zi6 v x n B w hn (hx x (Ys.2 rfl)) h hB
theorem ZmO (pl:List Int) (v:Sp) (pv:Value) (B:Nat) (w:World) (h:Sl w B 1 pv pl.length (i64s pl)) (hB:B≤w.heap.size) (hv:v.1=2→0≤v.2∧v.2<(pl.length:Int)):
 Calls Tryz.prog 22 #[.agg #[.int .i64 v.1,.int .i64 v.2],pv] w fun e w'=>e=.returned (.int .u64 (ZbK pl v:Nat))∧Only nob w w':=by
 have HP:=ZZ h;obtain⟨A,ca,rfl,hac,ham⟩:=h.form;unfold maxLen at ham;obtain⟨K,X⟩:=v;simp only at hv ⊢;obtain⟨W,hW,HBW⟩:=ZbA w K X;have HWE:=ZZ hW
 obtain⟨p,hp⟩: ∃p,p=w.heap.size:=⟨_,rfl⟩
 have HPE:=ZZ hp;have BV:=ZZ HBW.out.2;rw[← hp] at BV;have OW:=ZZ HBW.out.1;have HVW:=ZZ (Zks pl (K,X));have d0:W.cell? ⟨p,0,none⟩=some (.int .i64 K):=BV.out.cell 0;have d1:W.cell? ⟨p,1,none⟩=some (.int .i64 X):=BV.out.cell 1;by_cases hk2:K=2
 case neg=>
  have hbq:(K==2)=false:=by simpa using hk2
  have HT:=ZZ (show((ZbK pl (K,X):Nat):Int)=ZcD K X from HVW.out.trans (by unfold tgt;rw[if_neg hk2]));have HD:=ZZ (ZdL K X W)
  obtain⟨q,hq⟩: ∃q,q=ZcD K X:=⟨_,rfl⟩
  obtain⟨q2,hq2⟩: ∃q,q=Zis K X:=⟨_,rfl⟩
  rw[← hq] at HT HD;rw[← hq2] at HD;clear hW hp hq hq2 h hk2 hv
  go_enter Tryz.func22,Tryz.ntmps22
  go_upto_region 1 with fail
  rw[HWE.out, ← HPE.out]
  go_wp2_with fail
  go_at_call 58;refine HD.out.mono ?_;rintro e w2 ⟨rfl,o2⟩;have O2:=ZZ (OW.out.trans o2);clear o2 d0 d1;go_wp2;go_ret;exact⟨by rw[HT.out];rfl,O2.out⟩
 case pos=>
 subst hk2;obtain⟨b1,b2⟩:=hv rfl
 obtain⟨i,rfl⟩: ∃i:Nat,X=i:=⟨X.toNat,by omega⟩
 obtain⟨y,hy⟩: ∃y,pl[i]? =some y:=⟨_,Ya (by omega)⟩
 obtain⟨ba,oa,rfl, -,c0⟩:=ZcP HP.out (OW.out.below hB fun _ h=>h.elim) hy
 have HT:=ZZ (show((ZbK pl (2,(i:Int)):Nat):Int)=ZcD 2 y from HVW.out.trans (by
  unfold tgt;simp only[if_true];rw[Int.toNat_natCast,Ym,hy]
  rfl))
 have hil:(i:Int)<pl.length:=b2
 obtain⟨U,hU,oU,bU⟩: ∃U,W.setCell ⟨p,1,none⟩ (.int .i64 y)=U∧Only (isb p) W U∧Blk U p 59 #[.int .i64 2,.int .i64 y]:=⟨_,rfl,Zc _ _ _ _,by simpa using BV.out.put 1 (.int .i64 y)⟩
 have HU:=ZZ hU;have OU:=ZZ (OW.out.andThen oU fun i hi e=>by unfold isb at e;rw[← hp] at hi;omega);have BU:=ZZ bU;have fd1:=BV.out.free 1;have HD:=ZZ (ZdL 2 y U)
 obtain⟨q,hq⟩: ∃q,q=ZcD 2 y:=⟨_,rfl⟩
 obtain⟨q2,hq2⟩: ∃q,q=Zis 2 y:=⟨_,rfl⟩
 rw[← hq] at HT HD;rw[← hq2] at HD;clear hW hp hq hq2 h hv hU oU bU hy b1 b2
 go_enter Tryz.func22,Tryz.ntmps22
 go_upto_region 1 with fail
 rw[HWE.out, ← HPE.out]
 go_upto_region 3 with fail
 rw[HU.out];clear d0 d1 c0 fd1;have d0:U.cell? ⟨p,0,none⟩=some (.int .i64 2):=BU.out.cell 0;have d1:U.cell? ⟨p,1,none⟩=some (.int .i64 y):=BU.out.cell 1
 go_wp2_with fail
 go_at_call 58;refine HD.out.mono ?_;rintro e w2 ⟨rfl,o2⟩;have O2:=ZZ (OU.out.trans o2);clear o2 d0 d1;go_wp2;go_ret;exact⟨by rw[HT.out];rfl,O2.out⟩
end Go.Proofs.YtknoncenblehkaaGreatDoor
