/- Values as words: plain words; what package value and the document's own answer tell of a value's word. -/
import Derived.Test.YtmnehonmbjnnaaaMem
import Derived.Test.YtmnehonmbjnnaaaChecked
import Derived.Lib.Hide
import Derived.BigQuiet
namespace Go.Proofs.Ytmnehonmbjnnaaa
open Go.RowKit

/-- Is x from l to m? -/
def vin (x l m : Int) : Bool := decide (l ≤ x) && decide (x ≤ m)
theorem vin_yes {x l m : Int} (h1 : l ≤ x) (h2 : x ≤ m) : vin x l m = true := by unfold vin; rw [decide_eq_true h1, decide_eq_true h2]; rfl
theorem vin_lo {x l m : Int} (h : ¬ l ≤ x) : vin x l m = false := by unfold vin; rw [decide_eq_false h]; rfl
theorem vin_hi {x l m : Int} (h : ¬ x ≤ m) : vin x l m = false := by unfold vin; rw [decide_eq_false h, Bool.and_false]
theorem vin_iff {x l m : Int} : vin x l m = true ↔ l ≤ x ∧ x ≤ m := by unfold vin; rw [Bool.and_eq_true, decide_eq_true_eq, decide_eq_true_eq]
/-- May a value of kind k and number x be? -/
def vmay (k x : Int) : Bool := if k = 0 then decide (x = 0) else if k = 1 then vin x (-2305843009213693952) 2305843009213693951 else if k = 2 then vin x 0 1099511627776 else false
/-- The lowest two bits of its word. -/
def vtag (k : Int) : Int := if k = 1 then 1 else if k = 2 then 2 else 0
/-- Its word, and the error. -/
def encW (k x : Int) : Int := if vmay k x then (4 * x + vtag k) % 18446744073709551616 else 0
def encE (k x : Int) : Int := if vmay k x then 0 else 1

theorem may_0 (x : Int) : vmay 0 x = decide (x = 0) := rfl
theorem may_1 (x : Int) : vmay 1 x = vin x (-2305843009213693952) 2305843009213693951 := rfl
theorem may_2 (x : Int) : vmay 2 x = vin x 0 1099511627776 := rfl
theorem may_else {k : Int} (x : Int) (h0 : k ≠ 0) (h1 : k ≠ 1) (h2 : k ≠ 2) : vmay k x = false := by unfold vmay; rw [if_neg h0, if_neg h1, if_neg h2]
theorem tag_else {k : Int} (h1 : k ≠ 1) (h2 : k ≠ 2) : vtag k = 0 := by unfold vtag; rw [if_neg h1, if_neg h2]

theorem isIn_any (x l m : Int) (w : World) : Calls Try.prog 70 #[.int .i64 x, .int .i64 l, .int .i64 m] w fun e w' => e = .returned (.bool (vin x l m)) ∧ Only nob w w' := by
  by_cases h1 : l ≤ x
  · by_cases h2 : x ≤ m
    case' pos => have HK := Lib.hid (vin_yes h1 h2)
    case' neg => have HK := Lib.hid (vin_hi (l := l) h2)
    all_goals
      go_enter Try.func70, Try.ntmps70
      go_wp2
      go_ret
      exact ⟨ret_bool (by rw [HK.out]), Only.refl _ _⟩
  · have HK := Lib.hid (vin_lo (m := m) h1)
    go_enter Try.func70, Try.ntmps70
    go_wp2
    go_ret
    exact ⟨ret_bool (by rw [HK.out]), Only.refl _ _⟩

/-- A value of the call's own, in a block. -/
theorem box_val (w : World) (k x : Int) : ∃ W, w.alloc (.cells #[.int .i64 k, .int .i64 x] 43) = W ∧ Hid (Only nob w W ∧ W.cell? ⟨w.heap.size, 0, none⟩ = some (.int .i64 k) ∧ W.cell? ⟨w.heap.size, 1, none⟩ = some (.int .i64 x)) :=
  ⟨_, rfl, Lib.hid ⟨(Only.refl nob w).alloc _, (Blk.new w 43 #[.int .i64 k, .int .i64 x]).cell 0, (Blk.new w 43 #[.int .i64 k, .int .i64 x]).cell 1⟩⟩

theorem tagOf_0 (x : Int) (w : World) : Calls Try.prog 60 #[.agg #[.int .i64 0, .int .i64 x]] w fun e w' => e = .returned (.tuple #[.int .u64 0, .bool (vmay 0 x)]) ∧ Only nob w w' := by
  by_cases h : x = 0
  case' pos => have HM := Lib.hid (show vmay 0 x = true from (may_0 x).trans (decide_eq_true h))
  case' neg => have HM := Lib.hid (show vmay 0 x = false from (may_0 x).trans (decide_eq_false h))
  all_goals
    go_enter Try.func60, Try.ntmps60
    go_wp2
    go_quiet (fail)
    go_wp2
    go_ret2
    exact ⟨by rw [HM.out]; first | rfl | simp [h], ((Only.refl _ _).alloc _).drewN _⟩
theorem tagOf_1 (x : Int) (w : World) : Calls Try.prog 60 #[.agg #[.int .i64 1, .int .i64 x]] w fun e w' => e = .returned (.tuple #[.int .u64 1, .bool (vmay 1 x)]) ∧ Only nob w w' := by
  have HM := Lib.hid (may_1 x)
  go_enter Try.func60, Try.ntmps60
  go_wp2_with fail
  go_at_call 70
  refine (isIn_any x _ _ _).mono ?_
  rintro e w1 ⟨rfl, o⟩
  have O1 := Lib.hid (((Only.refl nob w).alloc (.cells #[.int .i64 1, .int .i64 x] 43)).trans o)
  clear o
  go_wp2
  go_ret2
  exact ⟨by rw [HM.out]; rfl, O1.out⟩
theorem tagOf_2 (x : Int) (w : World) : Calls Try.prog 60 #[.agg #[.int .i64 2, .int .i64 x]] w fun e w' => e = .returned (.tuple #[.int .u64 2, .bool (vmay 2 x)]) ∧ Only nob w w' := by
  have HM := Lib.hid (may_2 x)
  go_enter Try.func60, Try.ntmps60
  go_wp2_with fail
  go_at_call 70
  refine (isIn_any x _ _ _).mono ?_
  rintro e w1 ⟨rfl, o⟩
  have O1 := Lib.hid (((Only.refl nob w).alloc (.cells #[.int .i64 2, .int .i64 x] 43)).trans o)
  clear o
  go_wp2
  go_ret2
  exact ⟨by rw [HM.out]; rfl, O1.out⟩
theorem tagOf_else {k : Int} (x : Int) (h0 : k ≠ 0) (h1 : k ≠ 1) (h2 : k ≠ 2) (w : World) : Calls Try.prog 60 #[.agg #[.int .i64 k, .int .i64 x]] w fun e w' => e = .returned (.tuple #[.int .u64 0, .bool (vmay k x)]) ∧ Only nob w w' := by
  have HM := Lib.hid (may_else x h0 h1 h2)
  go_enter Try.func60, Try.ntmps60
  go_wp2
  go_ret2
  exact ⟨by rw [HM.out]; rfl, (Only.refl _ _).alloc _⟩
theorem tagOf_any (k x : Int) (w : World) : Calls Try.prog 60 #[.agg #[.int .i64 k, .int .i64 x]] w fun e w' => e = .returned (.tuple #[.int .u64 (vtag k), .bool (vmay k x)]) ∧ Only nob w w' := by
  by_cases h0 : k = 0
  · subst h0; exact tagOf_0 x w
  by_cases h1 : k = 1
  · subst h1; exact tagOf_1 x w
  by_cases h2 : k = 2
  · subst h2; exact tagOf_2 x w
  rw [tag_else h1 h2]
  exact tagOf_else x h0 h1 h2 w

theorem refMay_0 (x : Int) (w : World) : Calls Try.prog 57 #[.agg #[.int .i64 0, .int .i64 x]] w fun e w' => e = .returned (.bool (vmay 0 x)) ∧ Only nob w w' := by
  by_cases h : x = 0
  case' pos => have HM := Lib.hid (show vmay 0 x = true from (may_0 x).trans (decide_eq_true h))
  case' neg => have HM := Lib.hid (show vmay 0 x = false from (may_0 x).trans (decide_eq_false h))
  all_goals
    go_enter Try.func57, Try.ntmps57
    go_wp2
    go_ret
    exact ⟨by rw [HM.out] <;> simp [h], (Only.refl _ _).alloc _⟩
theorem refMay_1 (x : Int) (w : World) : Calls Try.prog 57 #[.agg #[.int .i64 1, .int .i64 x]] w fun e w' => e = .returned (.bool (vmay 1 x)) ∧ Only nob w w' := by
  by_cases h1 : -2305843009213693952 ≤ x
  · by_cases h2 : x ≤ 2305843009213693951
    case' pos => have HM := Lib.hid ((may_1 x).trans (vin_yes h1 h2))
    case' neg => have HM := Lib.hid ((may_1 x).trans (vin_hi h2))
    all_goals
      go_enter Try.func57, Try.ntmps57
      go_wp2
      go_ret
      exact ⟨ret_bool (by rw [HM.out]), (Only.refl _ _).alloc _⟩
  · have HM := Lib.hid ((may_1 x).trans (vin_lo h1))
    go_enter Try.func57, Try.ntmps57
    go_wp2
    go_ret
    exact ⟨ret_bool (by rw [HM.out]), (Only.refl _ _).alloc _⟩
theorem refMay_2 (x : Int) (w : World) : Calls Try.prog 57 #[.agg #[.int .i64 2, .int .i64 x]] w fun e w' => e = .returned (.bool (vmay 2 x)) ∧ Only nob w w' := by
  by_cases h1 : 0 ≤ x
  · by_cases h2 : x ≤ 1099511627776
    case' pos => have HM := Lib.hid ((may_2 x).trans (vin_yes h1 h2))
    case' neg => have HM := Lib.hid ((may_2 x).trans (vin_hi h2))
    all_goals
      go_enter Try.func57, Try.ntmps57
      go_wp2
      go_ret
      exact ⟨ret_bool (by rw [HM.out]), (Only.refl _ _).alloc _⟩
  · have HM := Lib.hid ((may_2 x).trans (vin_lo h1))
    go_enter Try.func57, Try.ntmps57
    go_wp2
    go_ret
    exact ⟨ret_bool (by rw [HM.out]), (Only.refl _ _).alloc _⟩
theorem refMay_else {k : Int} (x : Int) (h0 : k ≠ 0) (h1 : k ≠ 1) (h2 : k ≠ 2) (w : World) : Calls Try.prog 57 #[.agg #[.int .i64 k, .int .i64 x]] w fun e w' => e = .returned (.bool (vmay k x)) ∧ Only nob w w' := by
  have HM := Lib.hid (may_else x h0 h1 h2)
  go_enter Try.func57, Try.ntmps57
  go_wp2
  go_ret
  exact ⟨ret_bool (by rw [HM.out]), (Only.refl _ _).alloc _⟩
theorem refMay_any (k x : Int) (w : World) : Calls Try.prog 57 #[.agg #[.int .i64 k, .int .i64 x]] w fun e w' => e = .returned (.bool (vmay k x)) ∧ Only nob w w' := by
  by_cases h0 : k = 0
  · subst h0; exact refMay_0 x w
  by_cases h1 : k = 1
  · subst h1; exact refMay_1 x w
  by_cases h2 : k = 2
  · subst h2; exact refMay_2 x w
  exact refMay_else x h0 h1 h2 w
end Go.Proofs.Ytmnehonmbjnnaaa

/- The words of values: Enc, Dec, Ref of package value and of the document's own answer. -/
namespace Go.Proofs.Ytmnehonmbjnnaaa
open Go.RowKit

/-- Shifted by two with the tag laid in: four times, and the tag. -/
theorem enc_bits (x t : Int) (ht : 0 ≤ t ∧ t < 4) : bits .or .u64 (IntKind.u64.wrap (IntKind.u64.wrap x * 4)) t = (4 * x + t) % 18446744073709551616 := by
  have e : IntKind.u64.wrap (IntKind.u64.wrap x * 4) = (4 * x) % 18446744073709551616 := by rw [IntKind.wrap_u64, IntKind.wrap_u64]; omega
  obtain ⟨a, ha⟩ : ∃ a : Nat, (4 * x) % 18446744073709551616 = a := ⟨((4 * x) % 18446744073709551616).toNat, by omega⟩
  obtain ⟨b, rfl⟩ : ∃ b : Nat, t = b := ⟨t.toNat, by omega⟩
  rw [e, ha, u64_or_nat _ _ (by omega) (by omega), nat_join 2 _ _ (by omega) (by omega)]
  omega
theorem ref_bits (x t : Int) : IntKind.u64.wrap (IntKind.u64.wrap (4 * IntKind.u64.wrap x) + t) = (4 * x + t) % 18446744073709551616 := by
  rw [IntKind.wrap_u64, IntKind.wrap_u64, IntKind.wrap_u64]; omega
theorem and_three (w : Int) (h : 0 ≤ w ∧ w < 18446744073709551616) : bits .and .u64 w 3 = w % 4 := by
  obtain ⟨a, rfl⟩ : ∃ a : Nat, w = a := ⟨w.toNat, by omega⟩
  have := u64_and_nat a 3 (by omega) (by omega)
  rw [show ((3 : Nat) : Int) = 3 from rfl] at this
  rw [this, show (3 : Nat) = 2 ^ 2 - 1 from rfl, Nat.and_two_pow_sub_one_eq_mod]
  omega
theorem tag_in (k : Int) : 0 ≤ vtag k ∧ vtag k < 4 := by
  unfold vtag
  split
  · decide
  · split <;> decide
theorem may_kinds {k x : Int} (h : vmay k x = true) : (k = 0 ∧ x = 0) ∨ (k = 1 ∧ -2305843009213693952 ≤ x ∧ x ≤ 2305843009213693951) ∨ (k = 2 ∧ 0 ≤ x ∧ x ≤ 1099511627776) := by
  unfold vmay at h
  split at h
  · exact .inl ⟨‹_›, of_decide_eq_true h⟩
  · split at h
    · exact .inr (.inl ⟨‹_›, vin_iff.1 h⟩)
    · split at h
      · exact .inr (.inr ⟨‹_›, vin_iff.1 h⟩)
      · cases h

theorem enc_no (k x : Int) (h : vmay k x = false) (w : World) : Calls Try.prog 50 #[.agg #[.int .i64 k, .int .i64 x]] w fun e w' => e = .returned (.tuple #[.int .u64 0, .int .i64 1]) ∧ Only nob w w' := by
  have HM := Lib.hid h
  clear h
  go_enter Try.func50, Try.ntmps50
  go_wp2_with fail
  go_at_call 60
  refine (tagOf_any k x _).mono ?_
  rw [HM.out]
  rintro e w1 ⟨rfl, o⟩
  have O1 := Lib.hid (((Only.refl nob w).alloc (.cells #[.int .i64 k, .int .i64 x] 43)).trans o)
  clear o
  go_wp2
  go_ret2
  exact ⟨rfl, O1.out⟩
theorem enc_yes (k x : Int) (h : vmay k x = true) (w : World) : Calls Try.prog 50 #[.agg #[.int .i64 k, .int .i64 x]] w fun e w' => e = .returned (.tuple #[.int .u64 ((4 * x + vtag k) % 18446744073709551616), .int .i64 0]) ∧ Only nob w w' := by
  have HM := Lib.hid h
  clear h
  obtain ⟨W, hW, HB⟩ := box_val w k x
  have HWE := Lib.hid hW
  clear hW
  go_enter Try.func50, Try.ntmps50
  go_wp2_with fail
  rw [HWE.out]
  go_at_call 60
  refine (tagOf_any k x _).mono ?_
  rw [HM.out]
  rintro e w1 ⟨rfl, o⟩
  have c1 := o.keeps HB.out.2.2
  have O1 := Lib.hid (HB.out.1.trans o)
  clear o
  go_wp2
  go_ret2
  exact ⟨by rw [← enc_bits x _ (tag_in k)]; rfl, O1.out⟩
theorem encW_yes {k x : Int} (h : vmay k x = true) : encW k x = (4 * x + vtag k) % 18446744073709551616 := by unfold encW; rw [h]; rfl
theorem encE_yes {k x : Int} (h : vmay k x = true) : encE k x = 0 := by unfold encE; rw [h]; rfl
theorem encW_no {k x : Int} (h : vmay k x = false) : encW k x = 0 := by unfold encW; rw [h]; rfl
theorem encE_no {k x : Int} (h : vmay k x = false) : encE k x = 1 := by unfold encE; rw [h]; rfl
theorem enc_any (k x : Int) (w : World) : Calls Try.prog 50 #[.agg #[.int .i64 k, .int .i64 x]] w fun e w' => e = .returned (.tuple #[.int .u64 (encW k x), .int .i64 (encE k x)]) ∧ Only nob w w' := by
  rcases hm : vmay k x with _ | _
  · rw [encW_no hm, encE_no hm]; exact enc_no k x hm w
  · rw [encW_yes hm, encE_yes hm]; exact enc_yes k x hm w
end Go.Proofs.Ytmnehonmbjnnaaa

/- The values of words: Dec and Ref of package value and of the document's own answer. -/
namespace Go.Proofs.Ytmnehonmbjnnaaa
open Go.RowKit

/-- What kind, number and error a word tells. -/
def dK (w : Int) : Int := if w % 4 = 1 then 1 else if w % 4 = 2 ∧ w / 4 ≤ 1099511627776 then 2 else 0
def dX (w : Int) : Int := if w % 4 = 1 then (if w / 4 < 2305843009213693952 then w / 4 else w / 4 - 4611686018427387904) else if w % 4 = 2 ∧ w / 4 ≤ 1099511627776 then w / 4 else 0
def dE (w : Int) : Int := if w = 0 ∨ w % 4 = 1 ∨ (w % 4 = 2 ∧ w / 4 ≤ 1099511627776) then 0 else 3
theorem d_zero : dK 0 = 0 ∧ dX 0 = 0 ∧ dE 0 = 0 := by decide
theorem d_up {w : Int} (h : w % 4 = 1) (h1 : w / 4 < 2305843009213693952) : dK w = 1 ∧ dX w = w / 4 ∧ dE w = 0 := by
  unfold dK dX dE; rw [if_pos h, if_pos h, if_pos h1, if_pos (.inr (.inl h))]; exact ⟨rfl, rfl, rfl⟩
theorem d_down {w : Int} (h : w % 4 = 1) (h1 : ¬ w / 4 < 2305843009213693952) : dK w = 1 ∧ dX w = w / 4 - 4611686018427387904 ∧ dE w = 0 := by
  unfold dK dX dE; rw [if_pos h, if_pos h, if_neg h1, if_pos (.inr (.inl h))]; exact ⟨rfl, rfl, rfl⟩
theorem d_ref {w : Int} (h : w % 4 = 2) (h1 : w / 4 ≤ 1099511627776) : dK w = 2 ∧ dX w = w / 4 ∧ dE w = 0 := by
  unfold dK dX dE; rw [if_neg (by omega), if_pos ⟨h, h1⟩, if_neg (by omega), if_pos ⟨h, h1⟩, if_pos (.inr (.inr ⟨h, h1⟩))]; exact ⟨rfl, rfl, rfl⟩
theorem d_none {w : Int} (h0 : w ≠ 0) (h1 : w % 4 ≠ 1) (h2 : ¬ (w % 4 = 2 ∧ w / 4 ≤ 1099511627776)) : dK w = 0 ∧ dX w = 0 ∧ dE w = 3 := by
  unfold dK dX dE; rw [if_neg h1, if_neg h2, if_neg h1, if_neg h2, if_neg (by omega)]; exact ⟨rfl, rfl, rfl⟩

/-- A value handed back out of a cell of the call's own. -/
theorem res_val {w W : World} (o : Only nob w W) {b : Nat} (hb : w.heap.size ≤ b) (B : Blk W b 43 #[.int .i64 0, .int .i64 0]) (k x : Int) :
    ∃ W4, ((W.setCell ⟨b, 0, none⟩ (.int .i64 k)).setCell ⟨b, 1, none⟩ (.int .i64 x)) = W4 ∧ Only nob w W4 ∧ W4.cell? ⟨b, 0, none⟩ = some (.int .i64 k) ∧ W4.cell? ⟨b, 1, none⟩ = some (.int .i64 x) := by
  have B4 : Blk ((W.setCell ⟨b, 0, none⟩ (.int .i64 k)).setCell ⟨b, 1, none⟩ (.int .i64 x)) b 43 #[.int .i64 k, .int .i64 x] := by simpa using (B.put 0 (.int .i64 k)).put 1 (.int .i64 x)
  exact ⟨_, rfl, (o.setCell (p := ⟨b, 0, none⟩) (fun h => absurd h (Nat.not_lt_of_le hb)) _).setCell (p := ⟨b, 1, none⟩) (fun h => absurd h (Nat.not_lt_of_le hb)) _, B4.cell 0, B4.cell 1⟩
/-- The new cell of the result. -/
theorem new_val (w : World) : ∃ W, w.alloc (.cells #[.int .i64 0, .int .i64 0] 43) = W ∧ Hid (Only nob w W ∧ Blk W w.heap.size 43 #[.int .i64 0, .int .i64 0]) :=
  ⟨_, rfl, Lib.hid ⟨(Only.refl nob w).alloc _, Blk.new w 43 #[.int .i64 0, .int .i64 0]⟩⟩

end Go.Proofs.Ytmnehonmbjnnaaa

/- The reference of words: Ref of package value and of the document's own answer. -/
namespace Go.Proofs.Ytmnehonmbjnnaaa
open Go.RowKit

/-- Where a word leads, and whether it does. -/
def rX (n : Int) : Int := if dK n = 2 then dX n else 0
def rB (n : Int) : Bool := decide (dK n = 2)
theorem e_of_ref {n : Int} (h : dK n = 2) : dE n = 0 := by
  unfold dK at h; unfold dE
  split at h
  · cases h
  · split at h
    · rw [if_pos (.inr (.inr ‹_›))]
    · cases h
theorem e_two (n : Int) : dE n = 0 ∨ dE n = 3 := by unfold dE; split <;> simp
end Go.Proofs.Ytmnehonmbjnnaaa
