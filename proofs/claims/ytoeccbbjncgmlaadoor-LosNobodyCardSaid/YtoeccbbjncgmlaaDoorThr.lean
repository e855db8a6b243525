/- Contracts of package thread: places, the header at one, Push, Pop. -/
import Derived.Test.YtoeccbbjncgmlaaDoorThrMath
import Derived.Test.YtoeccbbjncgmlaaDoorSpanSay
import Derived.Test.YtoeccbbjncgmlaaDoorWalk
import Derived.Test.YtoeccbbjncgmlaaDoorInts
import Derived.Test.YtoeccbbjncgmlaaDoorQuiets
import Derived.OwnWalk
import Derived.Deep.QuietTactic
import Derived.BigQuiet
namespace Go.Proofs.YtoeccbbjncgmlaaDoor
open Go.RowKit
set_option maxRecDepth 100000

/-- A place of a table. -/
def inT (n : Nat) (i : Int) : Bool := decide (0 ≤ i ∧ i < (n : Int))
theorem inT_yes {n : Nat} {i : Int} (h : 0 ≤ i ∧ i < (n : Int)) : inT n i = true := decide_eq_true h
theorem inT_no {n : Nat} {i : Int} (h : ¬ (0 ≤ i ∧ i < (n : Int))) : inT n i = false := decide_eq_false h

set_option maxHeartbeats 400000 in
theorem isPlace_any (A : Option Addr) (n c : Nat) (i : Int) (w : World) :
    Calls Tryd.prog 58 #[.slice A n c, .int .i64 i] w fun e w' => e = .returned (.bool (inT n i)) ∧ w = w' := by
  by_cases h0 : 0 ≤ i
  · by_cases h1 : i < (n : Int)
    · rw [inT_yes ⟨h0, h1⟩]
      obtain ⟨k, rfl⟩ := Int.eq_ofNat_of_zero_le h0
      have h1' : k < n := by omega
      go_enter Tryd.func58, Tryd.ntmps58
      go_wp2
      go_ret
      exact ⟨rfl, rfl⟩
    · rw [inT_no (by omega)]
      obtain ⟨k, rfl⟩ := Int.eq_ofNat_of_zero_le h0
      have h1' : ¬ k < n := by omega
      go_enter Tryd.func58, Tryd.ntmps58
      go_wp2
      go_ret
      exact ⟨rfl, rfl⟩
  · rw [inT_no (by omega)]
    go_enter Tryd.func58, Tryd.ntmps58
    go_wp2
    go_ret
    exact ⟨rfl, rfl⟩

set_option maxHeartbeats 1000000 in
/-- The cursor of an object that stands at p is set; the one that it had is told. -/
theorem swap_ok (b g : Nat) (l : List Nat) (p : Nat) (c : Int) (w : World) (h : Ar w b g l) (hp : Par w) (ho : Ob l p) (hc : 0 ≤ c ∧ c ≤ 1048576) :
    Calls Tryd.prog 59 #[.pointer (some ⟨b, 0, none⟩), .int .i64 p, .int .i64 c] w fun e w' => e = .returned (.tuple #[.int .i64 (wC (wd l p)), .int .i64 0]) ∧ Ar w' b g (curL l p c) ∧ Only (isb g) w w' := by
  have hpl := ho.there
  have hfew := h.few
  have HA := Lib.hid h
  have HP := Lib.hid hp
  have HH := Lib.hid (oHead_any b g l p w h hp (by omega))
  obtain ⟨h0, h1, h2, h3, h4, h5⟩ := oh_yes ho
  obtain ⟨s1, s2⟩ := sh_cur ho hc
  have HS1 := Lib.hid s1
  have HS2 := Lib.hid s2
  rw [h0] at HH
  rw [← h5]
  obtain ⟨K, hK⟩ : ∃ K, K = ohK l p := ⟨_, rfl⟩
  obtain ⟨F, hF⟩ : ∃ F, F = ohF l p := ⟨_, rfl⟩
  obtain ⟨R, hR⟩ : ∃ R, R = ohR l p := ⟨_, rfl⟩
  obtain ⟨M, hM⟩ : ∃ M, M = ohM l p := ⟨_, rfl⟩
  obtain ⟨C, hC⟩ : ∃ C, C = ohC l p := ⟨_, rfl⟩
  rw [← hK, ← hF, ← hR, ← hM, ← hC] at HH
  rw [← hK, ← hF, ← hR] at HS1
  rw [← hK, ← hF, ← hR, ← hM] at HS2
  rw [← hC]
  clear h hp h0 h1 h2 h3 h4 h5 s1 s2 hK hF hR hM hC
  go_enter Tryd.func59, Tryd.ntmps59
  go_wp2_with fail
  go_at_call 24
  refine HH.out.mono ?_
  rintro e w1 ⟨rfl, o⟩
  have hz : w.heap.size ≤ w1.heap.size := o.size
  obtain ⟨W3, hW3, HB3⟩ := box_head w1 K F R M C
  have HW3 := Lib.hid hW3
  have O3 := Lib.hid (o.trans HB3.out.1)
  have A3 := Lib.hid (HA.out.keep (o.trans HB3.out.1) id id)
  obtain ⟨W4, hW4, HB4⟩ : ∃ W4, W3.setCell ⟨w1.heap.size, 4, none⟩ (.int .i64 c) = W4 ∧ Hid (Only nob w W4 ∧ Blk W4 w1.heap.size 23 #[.int .i64 K, .int .i64 F, .int .i64 R, .bool M, .int .i64 c]) :=
    ⟨_, rfl, Lib.hid ⟨O3.out.setCell (p := ⟨w1.heap.size, 4, none⟩) (fun hlt => absurd (Nat.lt_of_lt_of_le hlt hz) (Nat.lt_irrefl _)) _, by simpa using HB3.out.2.put 4 (.int .i64 c)⟩⟩
  have HW4 := Lib.hid hW4
  have A4 := Lib.hid (HA.out.keep HB4.out.1 id id)
  have P4 := Lib.hid (HP.out.old HB4.out.1)
  clear hW3 hW4 o
  go_upto_region 2 with fail
  rw [HW3.out]
  obtain ⟨c0, c1, c2, c3, c4⟩ := cells5 HB3.out.2
  obtain ⟨f0, f1, f2, f3, f4⟩ := frees5 HB3.out.2
  go_upto_region 6 with fail
  rw [HW4.out]
  clear c0 c1 c2 c3 c4 f0 f1 f2 f3 f4
  obtain ⟨c0, c1, c2, c3, c4⟩ := cells5 HB4.out.2
  go_wp2_with fail
  go_at_call 57
  refine (oSetHead_any b g l p K F R M c _ A4.out P4.out (by omega)).mono ?_
  rw [HS1.out, HS2.out]
  rintro e w5 ⟨rfl, hA, o⟩
  have O5 := Lib.hid (HB4.out.1.mono (G := isb g) (fun _ _ h => h.elim) |>.trans o)
  have A5 := Lib.hid hA
  clear hA o c0 c1 c2 c3 c4
  go_wp2
  go_ret2
  exact ⟨rfl, A5.out, O5.out⟩

set_option maxHeartbeats 1000000 in
/-- Push of the object at the place k, that stands at p. -/
theorem push_ok (b g : Nat) (l : List Nat) (v : Value) (T : List Sp) (B : Nat) (top : Int) (k p : Nat) (x : Sp) (w : World) (h : Ar w b g l) (hp : Par w) (ht : Sl w B 2 v T.length (spc T)) (hx : T[k]? = some x) (hxp : x.1 = p) (ho : Ob l p) (hc : 0 ≤ top ∧ top ≤ 1048576) :
    Calls Tryd.prog 26 #[.pointer (some ⟨b, 0, none⟩), v, .int .i64 top, .int .i64 k] w fun e w' => e = .returned (.tuple #[.int .i64 ((k : Int) + 1), .int .i64 0]) ∧ Ar w' b g (curL l p top) ∧ Only (isb g) w w' := by
  have hlt : k < T.length := (List.getElem?_eq_some_iff.1 hx).1
  have HS := Lib.hid ht
  obtain ⟨A, c, rfl, hnc, hcm, -⟩ := ht
  unfold maxLen at hcm
  obtain ⟨b1, o1, rfl, -, d0, d1⟩ := sl_span HS.out (Below.refl _ _) hx
  rw [hxp] at d0
  have HI := Lib.hid (isPlace_any (some ⟨b1, o1, none⟩) T.length c k w)
  rw [inT_yes (by omega)] at HI
  have HW := Lib.hid (swap_ok b g l p top w h hp ho hc)
  have HT := Lib.hid hc.1
  have HT2 := Lib.hid hc.2
  obtain ⟨hc1, hc2⟩ := hc
  clear h hp hx hxp ho d1
  go_enter Tryd.func26, Tryd.ntmps26
  go_wp2_with fail
  go_at_call 58
  refine HI.out.mono ?_
  rintro e w1 ⟨rfl, rfl⟩
  go_wp2_with fail
  go_at_call 59
  refine HW.out.mono ?_
  rintro e w2 ⟨rfl, hA, o⟩
  have A2 := Lib.hid hA
  have O2 := Lib.hid o
  clear hA o
  go_wp2
  go_ret2
  exact ⟨rfl, A2.out, O2.out⟩

set_option maxHeartbeats 1000000 in
/-- Pop of the object at the place k, that stands at p. -/
theorem pop_ok (b g : Nat) (l : List Nat) (v : Value) (T : List Sp) (B : Nat) (k p : Nat) (x : Sp) (w : World) (h : Ar w b g l) (hp : Par w) (ht : Sl w B 2 v T.length (spc T)) (hx : T[k]? = some x) (hxp : x.1 = p) (ho : Ob l p) :
    Calls Tryd.prog 27 #[.pointer (some ⟨b, 0, none⟩), v, .int .i64 ((k : Int) + 1)] w fun e w' => e = .returned (.tuple #[.int .i64 (wC (wd l p)), .int .i64 k, .int .i64 0]) ∧ Ar w' b g (curL l p 0) ∧ Only (isb g) w w' := by
  have hlt : k < T.length := (List.getElem?_eq_some_iff.1 hx).1
  have HS := Lib.hid ht
  obtain ⟨A, c, rfl, hnc, hcm, -⟩ := ht
  unfold maxLen at hcm
  obtain ⟨b1, o1, rfl, -, d0, d1⟩ := sl_span HS.out (Below.refl _ _) hx
  rw [hxp] at d0
  have HI := Lib.hid (isPlace_any (some ⟨b1, o1, none⟩) T.length c k w)
  rw [inT_yes (by omega)] at HI
  have HW := Lib.hid (swap_ok b g l p 0 w h hp ho (by omega))
  obtain ⟨q, hq⟩ : ∃ q : Int, q = wC (wd l p) := ⟨_, rfl⟩
  rw [← hq] at HW ⊢
  have e1 : wrap64 ((k : Int) + 1 - 1) = k := by unfold wrap64; omega
  have e2 : (k : Int) + 1 - 1 = k := by omega
  clear h hp hx hxp ho d1 hq
  go_enter Tryd.func27, Tryd.ntmps27
  go_wp2_with fail
  go_at_call 58
  refine HI.out.mono ?_
  rintro e w1 ⟨rfl, rfl⟩
  go_wp2_with fail
  go_at_call 59
  refine HW.out.mono ?_
  rintro e w2 ⟨rfl, hA, o⟩
  have A2 := Lib.hid hA
  have O2 := Lib.hid o
  clear hA o
  go_wp2
  go_ret3
  exact ⟨rfl, A2.out, O2.out⟩

set_option maxHeartbeats 1000000 in
/-- Pop of an empty list. -/
theorem pop_none (v : Value) (A : Option Addr) (n c : Nat) (w : World) :
    Calls Tryd.prog 27 #[v, .slice A n c, .int .i64 0] w fun e w' => e = .returned (.tuple #[.int .i64 0, .int .i64 0, .int .i64 2]) ∧ w = w' := by
  have HI := Lib.hid (isPlace_any A n c (-1) w)
  rw [inT_no (by omega)] at HI
  go_enter Tryd.func27, Tryd.ntmps27
  go_wp2_with fail
  go_at_call 58
  refine HI.out.mono ?_
  rintro e w1 ⟨rfl, rfl⟩
  go_wp2
  go_ret3
  exact ⟨rfl, rfl⟩
end Go.Proofs.YtoeccbbjncgmlaaDoor

/- Contract of package thread's iterator, over a list that may be. -/
namespace Go.Proofs.YtoeccbbjncgmlaaDoor
open Go.RowKit Go.Shelf Go.Sort
attribute [local go_sem] Oper.semAt_some
set_option maxRecDepth 100000

/-- The list top is ks. -/
def ChainL (h : Int → Hd) (T : List Sp) : Int → List Nat → Prop
  | top, [] => top = 0
  | top, k :: ks => top = (k : Int) + 1 ∧ ∃ x, T[k]? = some x ∧ x.1 ≤ 9223372036854775807 ∧ (h x.1).e = 0 ∧ ChainL h T (h x.1).c ks

/-- A box of an iterator's own: not the row that the caller's box b names. -/
structure Its (N0 b g : Nat) (t : TypeId) (cs : Array Value) (W : World) : Prop where
  blk : Blk W g t cs
  lo : N0 ≤ g
  no : ¬ mine b W g
theorem Its.only {N0 b g : Nat} {t : TypeId} {cs : Array Value} {W W' : World} (h : Its N0 b g t cs W) (o : Only nob W W') (hb : b < W.heap.size) : Its N0 b g t cs W' := ⟨h.blk.keep o id, h.lo, fun m => h.no (mine_only o hb h.blk.lt m)⟩
theorem Its.keeps {N0 b n0 g : Nat} {t : TypeId} {cs : Array Value} {W W' : World} (h : Its N0 b g t cs W) (k : KeepsB b N0 n0 W W') : Its N0 b g t cs W' := by
  obtain ⟨s1, s2⟩ := k.blk h.blk h.lo h.no
  exact ⟨s1, h.lo, s2⟩
/-- The boxes of the iterator over a list: the top, the arena, the table. -/
structure ThreeT (N0 b bt ba bl : Nat) (top : Int) (v vt : Value) (W : World) : Prop where
  t : Its N0 b bt 3 #[.int .i64 top] W
  a : Its N0 b ba 30 #[v] W
  l : Its N0 b bl 31 #[vt] W
theorem ThreeT.only {N0 b bt ba bl : Nat} {top : Int} {v vt : Value} {W W' : World} (h : ThreeT N0 b bt ba bl top v vt W) (o : Only nob W W') (hb : b < W.heap.size) : ThreeT N0 b bt ba bl top v vt W' := ⟨h.t.only o hb, h.a.only o hb, h.l.only o hb⟩
theorem ThreeT.keeps {N0 b n0 bt ba bl : Nat} {top : Int} {v vt : Value} {W W' : World} (h : ThreeT N0 b bt ba bl top v vt W) (k : KeepsB b N0 n0 W W') : ThreeT N0 b bt ba bl top v vt W' := ⟨h.t.keeps k, h.a.keeps k, h.l.keeps k⟩
theorem ivl_int (z : Int) : ivl (.int .i64 z) = z := rfl
theorem meas_up {n q : Nat} (h : q ≤ n) (z : Int) (hz : z = (q : Int) + 1) : n + 2 - (ivl (.int .i64 z)).toNat < n + 2 - (ivl (.int .i64 (q : Int))).toNat := by
  rw [ivl_int, ivl_int]
  omega
def encT (k : Nat) : Array Value := #[.int .i64 k, .int .i64 0]

end Go.Proofs.YtoeccbbjncgmlaaDoor

/- Contract of package thread: All, of a list that may be. -/
namespace Go.Proofs.YtoeccbbjncgmlaaDoor
open Go.RowKit Go.Shelf Go.Sort
attribute [local go_sem] Oper.semAt_some
set_option maxRecDepth 100000

/-- The world in which the iterator's boxes are laid. -/
theorem threeT_laid (b : Nat) (V : World) (v vt : Value) (top : Int) (hb : b < V.heap.size) (hs : Sane b V) :
    ∃ W, ((V.alloc (.cells #[v] 30)).alloc (.cells #[vt] 31)).alloc (.cells #[.int .i64 top] 3) = W ∧ Only nob V W ∧ W.heap.size = V.heap.size + 3 ∧
      ThreeT V.heap.size b (V.heap.size + 1 + 1) V.heap.size (V.heap.size + 1) top v vt W ∧ Sane b W := by
  have o : Only nob V (((V.alloc (.cells #[v] 30)).alloc (.cells #[vt] 31)).alloc (.cells #[.int .i64 top] 3)) := (((Only.refl nob V).alloc _).alloc _).alloc _
  have no : ∀ k, V.heap.size ≤ k → ¬ mine b (((V.alloc (.cells #[v] 30)).alloc (.cells #[vt] 31)).alloc (.cells #[.int .i64 top] 3)) k := by
    rintro k hk ⟨_, u, h1, h2⟩
    have := hs u k (by rw [← h1]; exact (World.cell?_of_block (a := ⟨b, 0, none⟩) (o.block b hb id)).symm) h2
    omega
  refine ⟨_, rfl, o, by simp, ⟨⟨Blk.newAt _ _ _ _ (by simp), by omega, no _ (by omega)⟩, ⟨((Blk.new V _ _).alloc _).alloc _, Nat.le_refl _, no _ (Nat.le_refl _)⟩, ⟨(Blk.newAt _ _ _ _ (by simp)).alloc _, by omega, no _ (by omega)⟩⟩, hs.only o hb⟩

/-- A box stays, when a row of another type grows. -/
theorem blk_row12 {W w1 : World} {g n0 : Nat} {t e : TypeId} {u v : Value} {size k : Nat} {xs : List Value} {tmp : Obj} (h : Blk W g t #[u]) (hte : t ≠ e) (hrow : W.ownsRow n0 e size v k xs) (hg : (W.alloc tmp).grownBy w1 v.ownBlock) : Blk w1 g t #[u] :=
  (hg.block g (h.alloc tmp).lt (Boxed.not_row (show Boxed W g t u from h) hte hrow)).trans (h.alloc tmp)
def natI (l : List Nat) : List Int := l.map Int.ofNat
theorem natI_len (l : List Nat) : (natI l).length = l.length := List.length_map _
theorem natI_snoc (l : List Nat) (k : Nat) : natI (l ++ [k]) = natI l ++ [(k : Int)] := by simp [natI]

end Go.Proofs.YtoeccbbjncgmlaaDoor
