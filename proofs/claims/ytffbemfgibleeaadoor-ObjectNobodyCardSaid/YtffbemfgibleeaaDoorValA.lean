/- Values as words: plain words; what package value and the document's own answer tell of a value's word. -/
import Derived.Test.YtffbemfgibleeaaDoorMem
import Derived.Test.YtffbemfgibleeaaDoorChecked
import Derived.Lib.Hide
import Derived.BigQuiet
namespace Go.Proofs.YtffbemfgibleeaaDoor
open Go.RowKit

/-- Is x from l to m? -/
def vin (x l m : Int) : Bool := decide (l ≤ x) && decide (x ≤ m)
theorem vin_yes {x l m : Int} (h1 : l ≤ x) (h2 : x ≤ m) : vin x l m = true := by unfold vin; rw [decide_eq_true h1, decide_eq_true h2]; rfl
theorem vin_lo {x l m : Int} (h : ¬ l ≤ x) : vin x l m = false := by unfold vin; rw [decide_eq_false h]; rfl
theorem vin_hi {x l m : Int} (h : ¬ x ≤ m) : vin x l m = false := by unfold vin; rw [decide_eq_false h, Bool.and_false]
theorem vin_iff {x l m : Int} : vin x l m = true ↔ l ≤ x ∧ x ≤ m := by unfold vin; rw [Bool.and_eq_true, decide_eq_true_eq, decide_eq_true_eq]
/-- May a value of kind k and number x be? -/
def vmay (k x : Int) : Bool := if k = 0 then decide (x = 0) else if k = 1 then vin x (-2305843009213693952) 2305843009213693951 else if k = 2 then vin x 0 1099511627776 else false
/-- The lowest two bits of its word. -/
def vtag (k : Int) : Int := if k = 1 then 1 else if k = 2 then 2 else 0
/-- Its word, and the error. -/
def encW (k x : Int) : Int := if vmay k x then (4 * x + vtag k) % 18446744073709551616 else 0
def encE (k x : Int) : Int := if vmay k x then 0 else 1

theorem may_0 (x : Int) : vmay 0 x = decide (x = 0) := rfl
theorem may_1 (x : Int) : vmay 1 x = vin x (-2305843009213693952) 2305843009213693951 := rfl
theorem may_2 (x : Int) : vmay 2 x = vin x 0 1099511627776 := rfl
theorem may_else {k : Int} (x : Int) (h0 : k ≠ 0) (h1 : k ≠ 1) (h2 : k ≠ 2) : vmay k x = false := by unfold vmay; rw [if_neg h0, if_neg h1, if_neg h2]
theorem tag_else {k : Int} (h1 : k ≠ 1) (h2 : k ≠ 2) : vtag k = 0 := by unfold vtag; rw [if_neg h1, if_neg h2]

theorem isIn_any (x l m : Int) (w : World) : Calls Tryd.prog 58 #[.int .i64 x, .int .i64 l, .int .i64 m] w fun e w' => e = .returned (.bool (vin x l m)) ∧ Only nob w w' := by
  by_cases h1 : l ≤ x
  · by_cases h2 : x ≤ m
    case' pos => have HK := Lib.hid (vin_yes h1 h2)
    case' neg => have HK := Lib.hid (vin_hi (l := l) h2)
    all_goals
      go_enter Tryd.func58, Tryd.ntmps58
      go_wp2
      go_ret
      exact ⟨ret_bool (by rw [HK.out]), Only.refl _ _⟩
  · have HK := Lib.hid (vin_lo (m := m) h1)
    go_enter Tryd.func58, Tryd.ntmps58
    go_wp2
    go_ret
    exact ⟨ret_bool (by rw [HK.out]), Only.refl _ _⟩

/-- A value of the call's own, in a block. -/
theorem box_val (w : World) (k x : Int) : ∃ W, w.alloc (.cells #[.int .i64 k, .int .i64 x] 65) = W ∧ Hid (Only nob w W ∧ W.cell? ⟨w.heap.size, 0, none⟩ = some (.int .i64 k) ∧ W.cell? ⟨w.heap.size, 1, none⟩ = some (.int .i64 x)) :=
  ⟨_, rfl, Lib.hid ⟨(Only.refl nob w).alloc _, (Blk.new w 65 #[.int .i64 k, .int .i64 x]).cell 0, (Blk.new w 65 #[.int .i64 k, .int .i64 x]).cell 1⟩⟩

theorem tagOf_0 (x : Int) (w : World) : Calls Tryd.prog 55 #[.agg #[.int .i64 0, .int .i64 x]] w fun e w' => e = .returned (.tuple #[.int .u64 0, .bool (vmay 0 x)]) ∧ Only nob w w' := by
  by_cases h : x = 0
  case' pos => have HM := Lib.hid (show vmay 0 x = true from (may_0 x).trans (decide_eq_true h))
  case' neg => have HM := Lib.hid (show vmay 0 x = false from (may_0 x).trans (decide_eq_false h))
  all_goals
    go_enter Tryd.func55, Tryd.ntmps55
    go_wp2
    go_quiet (fail)
    go_wp2
    go_ret2
    exact ⟨by rw [HM.out]; first | rfl | simp [h], ((Only.refl _ _).alloc _).drewN _⟩
theorem tagOf_1 (x : Int) (w : World) : Calls Tryd.prog 55 #[.agg #[.int .i64 1, .int .i64 x]] w fun e w' => e = .returned (.tuple #[.int .u64 1, .bool (vmay 1 x)]) ∧ Only nob w w' := by
  have HM := Lib.hid (may_1 x)
  go_enter Tryd.func55, Tryd.ntmps55
  go_wp2_with fail
  go_at_call 58
  refine (isIn_any x _ _ _).mono ?_
  rintro e w1 ⟨rfl, o⟩
  have O1 := Lib.hid (((Only.refl nob w).alloc (.cells #[.int .i64 1, .int .i64 x] 65)).trans o)
  clear o
  go_wp2
  go_ret2
  exact ⟨by rw [HM.out]; rfl, O1.out⟩
theorem tagOf_2 (x : Int) (w : World) : Calls Tryd.prog 55 #[.agg #[.int .i64 2, .int .i64 x]] w fun e w' => e = .returned (.tuple #[.int .u64 2, .bool (vmay 2 x)]) ∧ Only nob w w' := by
  have HM := Lib.hid (may_2 x)
  go_enter Tryd.func55, Tryd.ntmps55
  go_wp2_with fail
  go_at_call 58
  refine (isIn_any x _ _ _).mono ?_
  rintro e w1 ⟨rfl, o⟩
  have O1 := Lib.hid (((Only.refl nob w).alloc (.cells #[.int .i64 2, .int .i64 x] 65)).trans o)
  clear o
  go_wp2
  go_ret2
  exact ⟨by rw [HM.out]; rfl, O1.out⟩
theorem tagOf_else {k : Int} (x : Int) (h0 : k ≠ 0) (h1 : k ≠ 1) (h2 : k ≠ 2) (w : World) : Calls Tryd.prog 55 #[.agg #[.int .i64 k, .int .i64 x]] w fun e w' => e = .returned (.tuple #[.int .u64 0, .bool (vmay k x)]) ∧ Only nob w w' := by
  have HM := Lib.hid (may_else x h0 h1 h2)
  go_enter Tryd.func55, Tryd.ntmps55
  go_wp2
  go_ret2
  exact ⟨by rw [HM.out]; rfl, (Only.refl _ _).alloc _⟩
theorem tagOf_any (k x : Int) (w : World) : Calls Tryd.prog 55 #[.agg #[.int .i64 k, .int .i64 x]] w fun e w' => e = .returned (.tuple #[.int .u64 (vtag k), .bool (vmay k x)]) ∧ Only nob w w' := by
  by_cases h0 : k = 0
  · subst h0; exact tagOf_0 x w
  by_cases h1 : k = 1
  · subst h1; exact tagOf_1 x w
  by_cases h2 : k = 2
  · subst h2; exact tagOf_2 x w
  rw [tag_else h1 h2]
  exact tagOf_else x h0 h1 h2 w

end Go.Proofs.YtffbemfgibleeaaDoor
