/- The walk of ExtentTells. -/
import Derived.Test.YtfcinjnpaphneaaExtLaw1
import Derived.Test.YtfcinjnpaphneaaQuiets
namespace Go.Proofs.Ytfcinjnpaphneaa
set_option maxRecDepth 100000
open Go.RowKit Go.Lib Go.Sort

theorem mixedExt : Try.prog.follows .mixedOrders = true := by kernel_rfl
theorem spanBox_name (w : World) (x : Sp) : ∃ W, (w.alloc (.cells #[.int .i64 x.1, .int .i64 x.2] 23)) = W ∧ Hid (Only nob w W ∧ W.cell? ⟨w.heap.size, 0, none⟩ = some (.int .i64 x.1) ∧ W.cell? ⟨w.heap.size, 1, none⟩ = some (.int .i64 x.2)) :=
  ⟨_, rfl, (Only.refl nob w).alloc _, by simp, by simp⟩
set_option maxHeartbeats 2000000 in
theorem extentTells_small (x : Sp) (v : Value) (l : List Sp) (w : World) (h : Sl w w.heap.size 2 v l.length (spc l)) (hx : Fit x) (hf : Fits l) (hl : l.length ≤ 100) :
    Calls Try.prog 3 #[.agg #[.int .i64 x.1, .int .i64 x.2], v] w fun e w' => e = .returned (.bool true) ∧ Below w.heap.size w w' := by
  obtain ⟨W, hW, HB⟩ := spanBox_name w x
  have HWE := Lib.hid hW
  have hsz : w.heap.size ≤ W.heap.size := HB.out.1.size
  have hS : ∀ n os, Sl (wat W n os) w.heap.size 2 v l.length (spc l) := fun n os => h.below ((HB.out.1.trans (only_wat W n os)).whole)
  have hZ : ∀ n os, w.heap.size ≤ (wat W n os).heap.size := fun n os => Nat.le_trans hsz (only_wat W n os).size
  obtain ⟨A, ca, rfl, -, -⟩ := h.form
  obtain ⟨q, hq⟩ : ∃ q, q = decide (RightP x l) := ⟨_, rfl⟩
  obtain ⟨t, ht⟩ : ∃ t, t = largest l := ⟨_, rfl⟩
  have H1 := Lib.hid (show ∀ (n : Nat) (os : Array Obj), Calls Try.prog 6 #[.agg #[.int .i64 x.1, .int .i64 x.2], .slice A l.length ca] (wat W n os) fun e w' => e = .returned (.bool q) ∧ Only nob (wat W n os) w' from fun n os => by
    rw [hq]; exact spRight x _ l _ _ (hS n os) (hZ n os) (by omega) hf hx)
  have H2 := Lib.hid (show ∀ (n : Nat) (os : Array Obj), Calls Try.prog 7 #[.agg #[.int .i64 x.1, .int .i64 x.2], .slice A l.length ca] (wat W n os) fun e w' => e = .returned (.bool q) ∧ Only nob (wat W n os) w' from fun n os => by
    rw [hq]; exact rRight x _ l _ _ (hS n os) (hZ n os))
  have H3 := Lib.hid (show ∀ (n : Nat) (os : Array Obj), Calls Try.prog 8 #[.slice A l.length ca] (wat W n os) fun e w' => e = .returned (.int .i64 t) ∧ Only nob (wat W n os) w' from fun n os => by
    rw [ht]; exact spLargest _ l _ _ (hS n os) (hZ n os) (by omega) hf)
  have H4 := Lib.hid (show ∀ (n : Nat) (os : Array Obj), Calls Try.prog 9 #[.slice A l.length ca] (wat W n os) fun e w' => e = .returned (.int .i64 t) ∧ Only nob (wat W n os) w' from fun n os => by
    rw [ht]; exact rLargest _ l _ _ (hS n os) (hZ n os))
  have H5 := Lib.hid (show ∀ (n : Nat) (os : Array Obj), Calls Try.prog 5 #[] (wat W n os) fun e w' => e = .returned (.bool true) ∧ Only nob (wat W n os) w' from fun n os => awake10_any _)
  clear hq ht hS hZ hW h hf
  go_enter Try.func3, Try.ntmps3
  go_wp2_with fail
  rw [HWE.out]
  have g0 := wat_cell HB.out.2.1
  have g1 := wat_cell HB.out.2.2
  refine wp_region_only mixedExt (by kernel_rfl) ?_
  repeat (quiet_step (first
    | (go_at_call 6; with_reducible refine wat_call (H1.out _ _))
    | (go_at_call 7; with_reducible refine wat_call (H2.out _ _))
    | (go_at_call 8; with_reducible refine wat_call (H3.out _ _))
    | (go_at_call 9; with_reducible refine wat_call (H4.out _ _))
    | (go_at_call 5; with_reducible refine wat_call (H5.out _ _))))
  refine wpQuiet_nil ?_
  rintro w' ⟨⟨nq, osq⟩, rfl⟩
  obtain ⟨W3, hW3, O4⟩ := wat_name W nq osq
  rw [hW3]
  clear hW3 g0 g1
  have O5 := Lib.hid (HB.out.1.trans O4.out)
  go_wp2
  go_ret
  exact ⟨rfl, O5.out.whole⟩
set_option maxHeartbeats 400000 in
theorem extentTells_big (x : Sp) (A : Option Addr) (n c : Nat) (w : World) (hn : 100 < n) :
    Calls Try.prog 3 #[.agg #[.int .i64 x.1, .int .i64 x.2], .slice A n c] w fun e w' => e = .returned (.bool true) ∧ Below w.heap.size w w' := by
  go_enter Try.func3, Try.ntmps3
  go_wp2_with fail
  go_at_call 5
  refine (awake10_any _).mono ?_
  rintro e w1 ⟨rfl, o⟩
  have O1 := Lib.hid (((Only.refl nob w).alloc _).trans o)
  clear o
  go_wp2
  go_ret
  exact ⟨rfl, O1.out.whole⟩
theorem extentTells_walk (x : Sp) (v : Value) (l : List Sp) (w : World) (h : Sl w w.heap.size 2 v l.length (spc l)) (hx : Fit x) (hf : Fits l) :
    Calls Try.prog 3 #[.agg #[.int .i64 x.1, .int .i64 x.2], v] w fun e w' => e = .returned (.bool true) ∧ Below w.heap.size w w' := by
  by_cases hl : l.length ≤ 100
  · exact extentTells_small x v l w h hx hf hl
  · obtain ⟨A, c, rfl, -⟩ := h
    exact extentTells_big x A _ c w (by omega)
end Go.Proofs.Ytfcinjnpaphneaa
