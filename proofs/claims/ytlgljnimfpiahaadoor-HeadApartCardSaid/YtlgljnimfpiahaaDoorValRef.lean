/- The reference of words: Ref of package value and of the document's own answer. -/
import Derived.Test.YtlgljnimfpiahaaDoorValC
namespace Go.Proofs.YtlgljnimfpiahaaDoor
open Go.RowKit

theorem ref_yes {n x : Int} (hd : ∀ w, Calls Tryd.prog 17 #[.int .u64 n] w fun e w' => e = .returned (.tuple #[.agg #[.int .i64 2, .int .i64 x], .int .i64 0]) ∧ Only nob w w') (w : World) : Calls Tryd.prog 25 #[.int .u64 n] w fun e w' => e = .returned (.tuple #[.int .i64 x, .bool true]) ∧ Only nob w w' := by
  have HD := Lib.hid hd
  clear hd
  go_enter Tryd.func25, Tryd.ntmps25
  go_wp2_with fail
  go_at_call 17
  refine (HD.out _).mono ?_
  rintro e w1 ⟨rfl, o⟩
  have O1 := Lib.hid o
  clear o
  obtain ⟨W2, hW2, HB2⟩ := box_val w1 2 x
  have HW2 := Lib.hid hW2
  clear hW2
  go_wp2
  go_ret2
  exact ⟨rfl, O1.out.alloc _⟩
theorem ref_err {n x k : Int} (hd : ∀ w, Calls Tryd.prog 17 #[.int .u64 n] w fun e w' => e = .returned (.tuple #[.agg #[.int .i64 k, .int .i64 x], .int .i64 3]) ∧ Only nob w w') (w : World) : Calls Tryd.prog 25 #[.int .u64 n] w fun e w' => e = .returned (.tuple #[.int .i64 0, .bool false]) ∧ Only nob w w' := by
  have HD := Lib.hid hd
  clear hd
  go_enter Tryd.func25, Tryd.ntmps25
  go_wp2_with fail
  go_at_call 17
  refine (HD.out _).mono ?_
  rintro e w1 ⟨rfl, o⟩
  have O1 := Lib.hid o
  clear o
  obtain ⟨W2, hW2, HB2⟩ := box_val w1 k x
  have HW2 := Lib.hid hW2
  clear hW2
  go_wp2
  go_ret2
  exact ⟨rfl, O1.out.alloc _⟩
theorem ref_ne {n x k : Int} (hd : ∀ w, Calls Tryd.prog 17 #[.int .u64 n] w fun e w' => e = .returned (.tuple #[.agg #[.int .i64 k, .int .i64 x], .int .i64 0]) ∧ Only nob w w') (hk : k ≠ 2) (w : World) : Calls Tryd.prog 25 #[.int .u64 n] w fun e w' => e = .returned (.tuple #[.int .i64 0, .bool false]) ∧ Only nob w w' := by
  have HD := Lib.hid hd
  clear hd
  go_enter Tryd.func25, Tryd.ntmps25
  go_wp2_with fail
  go_at_call 17
  refine (HD.out _).mono ?_
  rintro e w1 ⟨rfl, o⟩
  have O1 := Lib.hid o
  clear o
  obtain ⟨W2, hW2, HB2⟩ := box_val w1 k x
  have HW2 := Lib.hid hW2
  clear hW2
  go_wp2
  go_ret2
  exact ⟨rfl, O1.out.alloc _⟩
theorem refRef_yes {n x f : Int} (hd : ∀ w, Calls Tryd.prog 26 #[.int .u64 n] w fun e w' => e = .returned (.tuple #[.agg #[.int .i64 2, .int .i64 x], .int .i64 f]) ∧ Only nob w w') (w : World) : Calls Tryd.prog 13 #[.int .u64 n] w fun e w' => e = .returned (.tuple #[.int .i64 x, .bool true]) ∧ Only nob w w' := by
  have HD := Lib.hid hd
  clear hd
  go_enter Tryd.func13, Tryd.ntmps13
  go_wp2_with fail
  go_at_call 26
  refine (HD.out _).mono ?_
  rintro e w1 ⟨rfl, o⟩
  have O1 := Lib.hid o
  clear o
  obtain ⟨W2, hW2, HB2⟩ := box_val w1 2 x
  have HW2 := Lib.hid hW2
  clear hW2
  go_wp2
  go_ret2
  exact ⟨rfl, O1.out.alloc _⟩
theorem refRef_ne {n x k f : Int} (hd : ∀ w, Calls Tryd.prog 26 #[.int .u64 n] w fun e w' => e = .returned (.tuple #[.agg #[.int .i64 k, .int .i64 x], .int .i64 f]) ∧ Only nob w w') (hk : k ≠ 2) (w : World) : Calls Tryd.prog 13 #[.int .u64 n] w fun e w' => e = .returned (.tuple #[.int .i64 0, .bool false]) ∧ Only nob w w' := by
  have HD := Lib.hid hd
  clear hd
  go_enter Tryd.func13, Tryd.ntmps13
  go_wp2_with fail
  go_at_call 26
  refine (HD.out _).mono ?_
  rintro e w1 ⟨rfl, o⟩
  have O1 := Lib.hid o
  clear o
  obtain ⟨W2, hW2, HB2⟩ := box_val w1 k x
  have HW2 := Lib.hid hW2
  clear hW2
  go_wp2
  go_ret2
  exact ⟨rfl, O1.out.alloc _⟩

/-- Where a word leads, and whether it does. -/
def rX (n : Int) : Int := if dK n = 2 then dX n else 0
def rB (n : Int) : Bool := decide (dK n = 2)
theorem e_of_ref {n : Int} (h : dK n = 2) : dE n = 0 := by
  unfold dK at h; unfold dE
  split at h
  · cases h
  · split at h
    · rw [if_pos (.inr (.inr ‹_›))]
    · cases h
theorem e_two (n : Int) : dE n = 0 ∨ dE n = 3 := by unfold dE; split <;> simp
theorem ref_any {n : Int} (hn : 0 ≤ n ∧ n < 18446744073709551616) (w : World) : Calls Tryd.prog 25 #[.int .u64 n] w fun e w' => e = .returned (.tuple #[.int .i64 (rX n), .bool (rB n)]) ∧ Only nob w w' := by
  have hd := fun w => dec_any hn w
  unfold rX rB
  by_cases h : dK n = 2
  · rw [if_pos h, decide_eq_true h]
    rw [h, e_of_ref h] at hd
    exact ref_yes hd w
  · rw [if_neg h, decide_eq_false h]
    rcases e_two n with he | he
    · rw [he] at hd; exact ref_ne hd h w
    · rw [he] at hd; exact ref_err hd w
theorem refRef_any {n : Int} (hn : 0 ≤ n ∧ n < 18446744073709551616) (w : World) : Calls Tryd.prog 13 #[.int .u64 n] w fun e w' => e = .returned (.tuple #[.int .i64 (rX n), .bool (rB n)]) ∧ Only nob w w' := by
  have hd := fun w => refDec_any hn w
  unfold rX rB
  by_cases h : dK n = 2
  · rw [if_pos h, decide_eq_true h]
    rw [h] at hd
    exact refRef_yes hd w
  · rw [if_neg h, decide_eq_false h]
    exact refRef_ne hd h w
end Go.Proofs.YtlgljnimfpiahaaDoor
