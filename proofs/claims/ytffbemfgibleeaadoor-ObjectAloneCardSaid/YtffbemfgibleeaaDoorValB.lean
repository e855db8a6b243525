/- The words of values: Enc, Dec, Ref of package value and of the document's own answer. -/
import Derived.Test.YtffbemfgibleeaaDoorValA
namespace Go.Proofs.YtffbemfgibleeaaDoor
open Go.RowKit

/-- Shifted by two with the tag laid in: four times, and the tag. -/
theorem enc_bits (x t : Int) (ht : 0 ≤ t ∧ t < 4) : bits .or .u64 (IntKind.u64.wrap (IntKind.u64.wrap x * 4)) t = (4 * x + t) % 18446744073709551616 := by
  have e : IntKind.u64.wrap (IntKind.u64.wrap x * 4) = (4 * x) % 18446744073709551616 := by rw [IntKind.wrap_u64, IntKind.wrap_u64]; omega
  obtain ⟨a, ha⟩ : ∃ a : Nat, (4 * x) % 18446744073709551616 = a := ⟨((4 * x) % 18446744073709551616).toNat, by omega⟩
  obtain ⟨b, rfl⟩ : ∃ b : Nat, t = b := ⟨t.toNat, by omega⟩
  rw [e, ha, u64_or_nat _ _ (by omega) (by omega), nat_join 2 _ _ (by omega) (by omega)]
  omega
theorem ref_bits (x t : Int) : IntKind.u64.wrap (IntKind.u64.wrap (4 * IntKind.u64.wrap x) + t) = (4 * x + t) % 18446744073709551616 := by
  rw [IntKind.wrap_u64, IntKind.wrap_u64, IntKind.wrap_u64]; omega
theorem and_three (w : Int) (h : 0 ≤ w ∧ w < 18446744073709551616) : bits .and .u64 w 3 = w % 4 := by
  obtain ⟨a, rfl⟩ : ∃ a : Nat, w = a := ⟨w.toNat, by omega⟩
  have := u64_and_nat a 3 (by omega) (by omega)
  rw [show ((3 : Nat) : Int) = 3 from rfl] at this
  rw [this, show (3 : Nat) = 2 ^ 2 - 1 from rfl, Nat.and_two_pow_sub_one_eq_mod]
  omega
theorem tag_in (k : Int) : 0 ≤ vtag k ∧ vtag k < 4 := by
  unfold vtag
  split
  · decide
  · split <;> decide
theorem may_kinds {k x : Int} (h : vmay k x = true) : (k = 0 ∧ x = 0) ∨ (k = 1 ∧ -2305843009213693952 ≤ x ∧ x ≤ 2305843009213693951) ∨ (k = 2 ∧ 0 ≤ x ∧ x ≤ 1099511627776) := by
  unfold vmay at h
  split at h
  · exact .inl ⟨‹_›, of_decide_eq_true h⟩
  · split at h
    · exact .inr (.inl ⟨‹_›, vin_iff.1 h⟩)
    · split at h
      · exact .inr (.inr ⟨‹_›, vin_iff.1 h⟩)
      · cases h

theorem enc_no (k x : Int) (h : vmay k x = false) (w : World) : Calls Tryd.prog 51 #[.agg #[.int .i64 k, .int .i64 x]] w fun e w' => e = .returned (.tuple #[.int .u64 0, .int .i64 1]) ∧ Only nob w w' := by
  have HM := Lib.hid h
  clear h
  go_enter Tryd.func51, Tryd.ntmps51
  go_wp2_with fail
  go_at_call 55
  refine (tagOf_any k x _).mono ?_
  rw [HM.out]
  rintro e w1 ⟨rfl, o⟩
  have O1 := Lib.hid (((Only.refl nob w).alloc (.cells #[.int .i64 k, .int .i64 x] 65)).trans o)
  clear o
  go_wp2
  go_ret2
  exact ⟨rfl, O1.out⟩
theorem enc_yes (k x : Int) (h : vmay k x = true) (w : World) : Calls Tryd.prog 51 #[.agg #[.int .i64 k, .int .i64 x]] w fun e w' => e = .returned (.tuple #[.int .u64 ((4 * x + vtag k) % 18446744073709551616), .int .i64 0]) ∧ Only nob w w' := by
  have HM := Lib.hid h
  clear h
  obtain ⟨W, hW, HB⟩ := box_val w k x
  have HWE := Lib.hid hW
  clear hW
  go_enter Tryd.func51, Tryd.ntmps51
  go_wp2_with fail
  rw [HWE.out]
  go_at_call 55
  refine (tagOf_any k x _).mono ?_
  rw [HM.out]
  rintro e w1 ⟨rfl, o⟩
  have c1 := o.keeps HB.out.2.2
  have O1 := Lib.hid (HB.out.1.trans o)
  clear o
  go_wp2
  go_ret2
  exact ⟨by rw [← enc_bits x _ (tag_in k)]; rfl, O1.out⟩
theorem encW_yes {k x : Int} (h : vmay k x = true) : encW k x = (4 * x + vtag k) % 18446744073709551616 := by unfold encW; rw [h]; rfl
theorem encE_yes {k x : Int} (h : vmay k x = true) : encE k x = 0 := by unfold encE; rw [h]; rfl
theorem encW_no {k x : Int} (h : vmay k x = false) : encW k x = 0 := by unfold encW; rw [h]; rfl
theorem encE_no {k x : Int} (h : vmay k x = false) : encE k x = 1 := by unfold encE; rw [h]; rfl
theorem enc_any (k x : Int) (w : World) : Calls Tryd.prog 51 #[.agg #[.int .i64 k, .int .i64 x]] w fun e w' => e = .returned (.tuple #[.int .u64 (encW k x), .int .i64 (encE k x)]) ∧ Only nob w w' := by
  rcases hm : vmay k x with _ | _
  · rw [encW_no hm, encE_no hm]; exact enc_no k x hm w
  · rw [encW_yes hm, encE_yes hm]; exact enc_yes k x hm w
end Go.Proofs.YtffbemfgibleeaaDoor
