/- Contracts of the small functions of word and of the reference word (stage 1). -/
import Derived.Test.YtffbemfgibleeaaDoorRows
import Derived.Test.YtffbemfgibleeaaDoorWordMath
import Derived.WalkSpells
import Derived.Deep.QuietTactic
import Derived.BigQuiet
import Derived.Lib.Hide
namespace Go.Proofs.YtffbemfgibleeaaDoor
open Go.RowKit

set_option maxHeartbeats 400000 in
theorem isPart_any (a n : Int) (w : World) (ha : -9223372036854775808 ≤ a) (ha' : a ≤ 9223372036854775807) :
    Calls Tryd.prog 56 #[.int .i64 a, .int .i64 n] w fun e w' => e = .returned (.bool (decide (0 ≤ a ∧ 1 ≤ n ∧ n ≤ 64 - a))) ∧ w = w' := by
  by_cases h1 : 0 ≤ a <;> by_cases h2 : 1 ≤ n <;> by_cases h3 : n ≤ 64 - a
  all_goals
    go_enter Tryd.func56, Tryd.ntmps56
    go_wp2
    go_ret
    simp [h1, h2, h3]

set_option maxHeartbeats 400000 in
theorem ones_any (n : Nat) (w : World) (hn : n ≤ 64) :
    Calls Tryd.prog 57 #[.int .i64 n] w fun e w' => e = .returned (.int .u64 (on n)) ∧ w = w' := by
  go_enter Tryd.func57, Tryd.ntmps57
  go_wp2
  go_ret
  exact ⟨ret_u64 (on_val n hn), rfl⟩

set_option maxHeartbeats 400000 in
theorem get_any (x a n : Nat) (w : World) (hx : x < full) (h1 : 1 ≤ n) (h2 : a + n ≤ 64) :
    Calls Tryd.prog 52 #[.int .u64 x, .int .i64 a, .int .i64 n] w fun e w' => e = .returned (.tuple #[.int .u64 (gt x a n), .bool true]) ∧ ∃ m, w' = w.drewN m := by
  have hb := Lib.hid (get_bits x a n hx (by omega))
  have hd : decide (0 ≤ (a : Int) ∧ 1 ≤ (n : Int) ∧ (n : Int) ≤ 64 - a) = true := by simp; omega
  have HD := Lib.hid hd
  clear hd
  go_enter Tryd.func52, Tryd.ntmps52
  go_wp2_with (go_at_call 56; refine (isPart_any a n _ (by omega) (by omega)).mono ?_; rw [HD.out]; rintro e w' ⟨rfl, rfl⟩)
  go_quiet ((go_at_call 57; exact Calls.quiet_of_same ((ones_any n _ (by omega)).mono fun _ _ h => ⟨h.1, h.2.symm⟩)))
  go_wp2
  go_ret2
  exact ⟨by rw [hb.out]; rfl, _, rfl⟩

set_option maxHeartbeats 400000 in
theorem get_no (x a n : Int) (w : World) (ha : -9223372036854775808 ≤ a) (ha' : a ≤ 9223372036854775807) (h : ¬ (0 ≤ a ∧ 1 ≤ n ∧ n ≤ 64 - a)) :
    Calls Tryd.prog 52 #[.int .u64 x, .int .i64 a, .int .i64 n] w fun e w' => e = .returned (.tuple #[.int .u64 0, .bool false]) ∧ ∃ m, w' = w.drewN m := by
  have HD := Lib.hid (decide_eq_false h)
  clear h
  go_enter Tryd.func52, Tryd.ntmps52
  go_wp2_with (go_at_call 56; refine (isPart_any a n _ ha ha').mono ?_; rw [HD.out]; rintro e w' ⟨rfl, rfl⟩)
  go_ret2
  exact ⟨rfl, 0, rfl⟩

set_option maxHeartbeats 400000 in
theorem put_any (w0 a n x : Nat) (w : World) (hw0 : w0 < full) (h1 : 1 ≤ n) (h2 : a + n ≤ 64) (hx : x ≤ on n) :
    Calls Tryd.prog 54 #[.int .u64 w0, .int .i64 a, .int .i64 n, .int .u64 x] w fun e w' => e = .returned (.tuple #[.int .u64 (pt w0 a n x), .bool true]) ∧ ∃ m, w' = w.drewN m := by
  have hb := Lib.hid (put_bits w0 a n x hw0 (lt_on.2 hx) h2)
  have hd : decide (0 ≤ (a : Int) ∧ 1 ≤ (n : Int) ∧ (n : Int) ≤ 64 - a) = true := by simp; omega
  have HD := Lib.hid hd
  have hx' : (x : Int) ≤ (on n : Int) := by omega
  clear hd
  go_enter Tryd.func54, Tryd.ntmps54
  go_wp2_with (first
    | (go_at_call 56; refine (isPart_any a n _ (by omega) (by omega)).mono ?_; rw [HD.out]; rintro e w' ⟨rfl, rfl⟩)
    | (go_at_call 57; refine (ones_any n _ (by omega)).mono ?_; rintro e w' ⟨rfl, rfl⟩))
  go_quiet ((go_at_call 57; exact Calls.quiet_of_same ((ones_any n _ (by omega)).mono fun _ _ h => ⟨h.1, h.2.symm⟩)))
  go_wp2
  go_ret2
  exact ⟨by rw [hb.out]; rfl, _, rfl⟩

set_option maxHeartbeats 400000 in
theorem put_no (w0 a n x : Int) (w : World) (ha : -9223372036854775808 ≤ a) (ha' : a ≤ 9223372036854775807) (h : ¬ (0 ≤ a ∧ 1 ≤ n ∧ n ≤ 64 - a)) :
    Calls Tryd.prog 54 #[.int .u64 w0, .int .i64 a, .int .i64 n, .int .u64 x] w fun e w' => e = .returned (.tuple #[.int .u64 0, .bool false]) ∧ ∃ m, w' = w.drewN m := by
  have HD := Lib.hid (decide_eq_false h)
  clear h
  go_enter Tryd.func54, Tryd.ntmps54
  go_wp2_with (go_at_call 56; refine (isPart_any a n _ ha ha').mono ?_; rw [HD.out]; rintro e w' ⟨rfl, rfl⟩)
  go_ret2
  exact ⟨rfl, 0, rfl⟩

set_option maxHeartbeats 400000 in
theorem put_big (w0 a n x : Nat) (w : World) (h1 : 1 ≤ n) (h2 : a + n ≤ 64) (hx : on n < x) :
    Calls Tryd.prog 54 #[.int .u64 w0, .int .i64 a, .int .i64 n, .int .u64 x] w fun e w' => e = .returned (.tuple #[.int .u64 0, .bool false]) ∧ ∃ m, w' = w.drewN m := by
  have hd : decide (0 ≤ (a : Int) ∧ 1 ≤ (n : Int) ∧ (n : Int) ≤ 64 - a) = true := by simp; omega
  have HD := Lib.hid hd
  have hx' : (on n : Int) < (x : Int) := by omega
  clear hd
  go_enter Tryd.func54, Tryd.ntmps54
  go_wp2_with (first
    | (go_at_call 56; refine (isPart_any a n _ (by omega) (by omega)).mono ?_; rw [HD.out]; rintro e w' ⟨rfl, rfl⟩)
    | (go_at_call 57; refine (ones_any n _ (by omega)).mono ?_; rintro e w' ⟨rfl, rfl⟩))
  go_ret2
  exact ⟨rfl, 0, rfl⟩

end Go.Proofs.YtffbemfgibleeaaDoor
