/- Contracts of the small functions of word and of the reference word (stage 1). -/
import Derived.Test.YthbodadmnhodfaaDoorRows
import Derived.Test.YthbodadmnhodfaaDoorWordMath
import Derived.WalkSpells
import Derived.Deep.QuietTactic
import Derived.BigQuiet
import Derived.Lib.Hide
namespace Go.Proofs.YthbodadmnhodfaaDoor
open Go.RowKit

set_option maxHeartbeats 400000 in
theorem isPart_any (a n : Int) (w : World) (ha : -9223372036854775808 ≤ a) (ha' : a ≤ 9223372036854775807) :
    Calls Tryd.prog 21 #[.int .i64 a, .int .i64 n] w fun e w' => e = .returned (.bool (decide (0 ≤ a ∧ 1 ≤ n ∧ n ≤ 64 - a))) ∧ w = w' := by
  by_cases h1 : 0 ≤ a <;> by_cases h2 : 1 ≤ n <;> by_cases h3 : n ≤ 64 - a
  all_goals
    go_enter Tryd.func21, Tryd.ntmps21
    go_wp2
    go_ret
    simp [h1, h2, h3]

set_option maxHeartbeats 400000 in
theorem refPart_any (a n : Int) (w : World) :
    Calls Tryd.prog 23 #[.int .i64 a, .int .i64 n] w fun e w' => e = .returned (.bool (decide (0 ≤ a ∧ 1 ≤ n ∧ n ≤ 64 - a))) ∧ w = w' := by
  by_cases h1 : 0 ≤ a
  · by_cases h2 : 1 ≤ n
    · by_cases h3 : 64 < a
      · have h5 : ¬ n < 1 := by omega
        go_enter Tryd.func23, Tryd.ntmps23
        go_wp2
        go_ret
        exact ⟨ret_bool (by simp; omega), rfl⟩
      · by_cases h4 : 64 < n
        · go_enter Tryd.func23, Tryd.ntmps23
          go_wp2
          go_ret
          exact ⟨ret_bool (by simp; omega), rfl⟩
        · go_enter Tryd.func23, Tryd.ntmps23
          go_wp2
          go_ret
          exact ⟨ret_bool (by rw [decide_eq_decide]; omega), rfl⟩
    · have h5 : n < 1 := by omega
      go_enter Tryd.func23, Tryd.ntmps23
      go_wp2
      go_ret
      exact ⟨ret_bool (by simp; omega), rfl⟩
  · have h5 : a < 0 := by omega
    go_enter Tryd.func23, Tryd.ntmps23
    go_wp2
    go_ret
    exact ⟨ret_bool (by simp; omega), rfl⟩

set_option maxHeartbeats 400000 in
theorem ones_any (n : Nat) (w : World) (hn : n ≤ 64) :
    Calls Tryd.prog 22 #[.int .i64 n] w fun e w' => e = .returned (.int .u64 (on n)) ∧ w = w' := by
  go_enter Tryd.func22, Tryd.ntmps22
  go_wp2
  go_ret
  exact ⟨ret_u64 (on_val n hn), rfl⟩

set_option maxHeartbeats 400000 in
theorem isOne_any (x i : Nat) (w : World) (hx : x < full) (hi : i < 64) :
    Calls Tryd.prog 28 #[.int .u64 x, .int .i64 i] w fun e w' => e = .returned (.bool (decide (bt x i = 1))) ∧ w = w' := by
  have hb := Lib.hid (isOne_bits x i hx)
  go_enter Tryd.func28, Tryd.ntmps28
  go_wp2
  go_ret
  exact ⟨ret_bool (by rw [hb.out, Bool.eq_iff_iff]; simp; omega), rfl⟩

set_option maxHeartbeats 400000 in
theorem power_any (n : Nat) (w : World) (hn : n < 64) :
    Calls Tryd.prog 25 #[.int .i64 n] w fun e w' => e = .returned (.int .u64 (pw n)) ∧ w = w' := by
  go_enter Tryd.func25, Tryd.ntmps25
  go_wp2
  go_loop [3, 4] (fun p i => ∃ k : Nat, k ≤ n ∧ i = .int .i64 k ∧ p = .int .u64 (pw k)) (fun _ i => n - (intOf i).toNat)
  case atStart => exact ⟨0, Nat.zero_le _, rfl, rfl⟩
  case round =>
    obtain ⟨k, hk, rfl, rfl⟩ := hrel
    by_cases hlt : k < n
    · have HW := Lib.hid (pw_succ k (by omega))
      go_wp2
      go_round
      case rel => exact ⟨k + 1, by omega, by go_num, by rw [← HW.out]⟩
      case measure => simp [intOf]; omega
    · have : k = n := by omega
      subst this
      go_wp2
      go_ret
      exact ⟨rfl, rfl⟩

set_option maxHeartbeats 400000 in
theorem refBit_any (x i : Nat) (w : World) (hx : x < full) (hi : i < 64) :
    Calls Tryd.prog 24 #[.int .u64 x, .int .i64 i] w fun e w' => e = .returned (.int .u64 (bt x i)) ∧ w = w' := by
  have hp := pw_pos i
  have hb := Lib.hid (bt_val x i hx)
  go_enter Tryd.func24, Tryd.ntmps24
  go_wp2_with (go_at_call 25; refine (power_any i _ hi).mono ?_; rintro e w' ⟨rfl, rfl⟩)
  go_ret
  exact ⟨ret_u64 (by rw [hb.out]), rfl⟩

set_option maxHeartbeats 400000 in
theorem get_any (x a n : Nat) (w : World) (hx : x < full) (h1 : 1 ≤ n) (h2 : a + n ≤ 64) :
    Calls Tryd.prog 6 #[.int .u64 x, .int .i64 a, .int .i64 n] w fun e w' => e = .returned (.tuple #[.int .u64 (gt x a n), .bool true]) ∧ ∃ m, w' = w.drewN m := by
  have hb := Lib.hid (get_bits x a n hx (by omega))
  have hd : decide (0 ≤ (a : Int) ∧ 1 ≤ (n : Int) ∧ (n : Int) ≤ 64 - a) = true := by simp; omega
  have HD := Lib.hid hd
  clear hd
  go_enter Tryd.func6, Tryd.ntmps6
  go_wp2_with (go_at_call 21; refine (isPart_any a n _ (by omega) (by omega)).mono ?_; rw [HD.out]; rintro e w' ⟨rfl, rfl⟩)
  go_quiet ((go_at_call 22; exact Calls.quiet_of_same ((ones_any n _ (by omega)).mono fun _ _ h => ⟨h.1, h.2.symm⟩)))
  go_wp2
  go_ret2
  exact ⟨by rw [hb.out]; rfl, _, rfl⟩

set_option maxHeartbeats 400000 in
theorem get_no (x a n : Int) (w : World) (ha : -9223372036854775808 ≤ a) (ha' : a ≤ 9223372036854775807) (h : ¬ (0 ≤ a ∧ 1 ≤ n ∧ n ≤ 64 - a)) :
    Calls Tryd.prog 6 #[.int .u64 x, .int .i64 a, .int .i64 n] w fun e w' => e = .returned (.tuple #[.int .u64 0, .bool false]) ∧ ∃ m, w' = w.drewN m := by
  have HD := Lib.hid (decide_eq_false h)
  clear h
  go_enter Tryd.func6, Tryd.ntmps6
  go_wp2_with (go_at_call 21; refine (isPart_any a n _ ha ha').mono ?_; rw [HD.out]; rintro e w' ⟨rfl, rfl⟩)
  go_ret2
  exact ⟨rfl, 0, rfl⟩

set_option maxHeartbeats 400000 in
theorem refGet_any (x a n : Nat) (w : World) (hx : x < full) (h1 : 1 ≤ n) (h2 : a + n ≤ 64) :
    Calls Tryd.prog 7 #[.int .u64 x, .int .i64 a, .int .i64 n] w fun e w' => e = .returned (.tuple #[.int .u64 (gt x a n), .bool true]) ∧ w = w' := by
  have hd : decide (0 ≤ (a : Int) ∧ 1 ≤ (n : Int) ∧ (n : Int) ≤ 64 - a) = true := by simp; omega
  have HD := Lib.hid hd
  clear hd
  go_enter Tryd.func7, Tryd.ntmps7
  go_wp2_with (go_at_call 23; refine (refPart_any a n _).mono ?_; rw [HD.out]; rintro e w' ⟨rfl, rfl⟩)
  go_loop [8, 9] (fun p i => ∃ k : Nat, k ≤ n ∧ i = .int .i64 (k - 1) ∧ p = .int .u64 (gt x (a + k) (n - k))) (fun _ i => (intOf i + 1).toNat)
  case atStart => exact ⟨n, Nat.le_refl _, by simp, by simp [gt, Nat.mod_one]⟩
  case round =>
    obtain ⟨k, hk, rfl, rfl⟩ := hrel
    rcases k with _ | k
    · go_wp2
      go_ret2
      exact ⟨rfl, rfl⟩
    · have HS := Lib.hid (gt_round x a n k (by omega) (by omega))
      go_wp2_with (go_at_call 24; refine (refBit_any x (a + k) _ hx (by omega)).mono ?_; rintro e w' ⟨rfl, rfl⟩)
      exact ⟨⟨k, by omega, rfl, by rw [HS.out]⟩, by simp [intOf]⟩

set_option maxHeartbeats 400000 in
theorem refGet_no (x a n : Int) (w : World) (h : ¬ (0 ≤ a ∧ 1 ≤ n ∧ n ≤ 64 - a)) :
    Calls Tryd.prog 7 #[.int .u64 x, .int .i64 a, .int .i64 n] w fun e w' => e = .returned (.tuple #[.int .u64 0, .bool false]) ∧ w = w' := by
  have HD := Lib.hid (decide_eq_false h)
  clear h
  go_enter Tryd.func7, Tryd.ntmps7
  go_wp2_with (go_at_call 23; refine (refPart_any a n _).mono ?_; rw [HD.out]; rintro e w' ⟨rfl, rfl⟩)
  go_ret2
  exact ⟨rfl, rfl⟩

set_option maxHeartbeats 400000 in
theorem put_any (w0 a n x : Nat) (w : World) (hw0 : w0 < full) (h1 : 1 ≤ n) (h2 : a + n ≤ 64) (hx : x ≤ on n) :
    Calls Tryd.prog 8 #[.int .u64 w0, .int .i64 a, .int .i64 n, .int .u64 x] w fun e w' => e = .returned (.tuple #[.int .u64 (pt w0 a n x), .bool true]) ∧ ∃ m, w' = w.drewN m := by
  have hb := Lib.hid (put_bits w0 a n x hw0 (lt_on.2 hx) h2)
  have hd : decide (0 ≤ (a : Int) ∧ 1 ≤ (n : Int) ∧ (n : Int) ≤ 64 - a) = true := by simp; omega
  have HD := Lib.hid hd
  have hx' : (x : Int) ≤ (on n : Int) := by omega
  clear hd
  go_enter Tryd.func8, Tryd.ntmps8
  go_wp2_with (first
    | (go_at_call 21; refine (isPart_any a n _ (by omega) (by omega)).mono ?_; rw [HD.out]; rintro e w' ⟨rfl, rfl⟩)
    | (go_at_call 22; refine (ones_any n _ (by omega)).mono ?_; rintro e w' ⟨rfl, rfl⟩))
  go_quiet ((go_at_call 22; exact Calls.quiet_of_same ((ones_any n _ (by omega)).mono fun _ _ h => ⟨h.1, h.2.symm⟩)))
  go_wp2
  go_ret2
  exact ⟨by rw [hb.out]; rfl, _, rfl⟩

set_option maxHeartbeats 400000 in
theorem put_no (w0 a n x : Int) (w : World) (ha : -9223372036854775808 ≤ a) (ha' : a ≤ 9223372036854775807) (h : ¬ (0 ≤ a ∧ 1 ≤ n ∧ n ≤ 64 - a)) :
    Calls Tryd.prog 8 #[.int .u64 w0, .int .i64 a, .int .i64 n, .int .u64 x] w fun e w' => e = .returned (.tuple #[.int .u64 0, .bool false]) ∧ ∃ m, w' = w.drewN m := by
  have HD := Lib.hid (decide_eq_false h)
  clear h
  go_enter Tryd.func8, Tryd.ntmps8
  go_wp2_with (go_at_call 21; refine (isPart_any a n _ ha ha').mono ?_; rw [HD.out]; rintro e w' ⟨rfl, rfl⟩)
  go_ret2
  exact ⟨rfl, 0, rfl⟩

set_option maxHeartbeats 400000 in
theorem put_big (w0 a n x : Nat) (w : World) (h1 : 1 ≤ n) (h2 : a + n ≤ 64) (hx : on n < x) :
    Calls Tryd.prog 8 #[.int .u64 w0, .int .i64 a, .int .i64 n, .int .u64 x] w fun e w' => e = .returned (.tuple #[.int .u64 0, .bool false]) ∧ ∃ m, w' = w.drewN m := by
  have hd : decide (0 ≤ (a : Int) ∧ 1 ≤ (n : Int) ∧ (n : Int) ≤ 64 - a) = true := by simp; omega
  have HD := Lib.hid hd
  have hx' : (on n : Int) < (x : Int) := by omega
  clear hd
  go_enter Tryd.func8, Tryd.ntmps8
  go_wp2_with (first
    | (go_at_call 21; refine (isPart_any a n _ (by omega) (by omega)).mono ?_; rw [HD.out]; rintro e w' ⟨rfl, rfl⟩)
    | (go_at_call 22; refine (ones_any n _ (by omega)).mono ?_; rintro e w' ⟨rfl, rfl⟩))
  go_ret2
  exact ⟨rfl, 0, rfl⟩

set_option maxHeartbeats 400000 in
theorem refPut_no (w0 a n x : Int) (w : World) (h : ¬ (0 ≤ a ∧ 1 ≤ n ∧ n ≤ 64 - a)) :
    Calls Tryd.prog 9 #[.int .u64 w0, .int .i64 a, .int .i64 n, .int .u64 x] w fun e w' => e = .returned (.tuple #[.int .u64 0, .bool false]) ∧ w = w' := by
  have HD := Lib.hid (decide_eq_false h)
  clear h
  go_enter Tryd.func9, Tryd.ntmps9
  go_wp2_with (go_at_call 23; refine (refPart_any a n _).mono ?_; rw [HD.out]; rintro e w' ⟨rfl, rfl⟩)
  go_ret2
  exact ⟨rfl, rfl⟩

set_option maxHeartbeats 400000 in
theorem refPut_big (w0 a n x : Nat) (w : World) (hx0 : x < full) (h1 : 1 ≤ n) (h2 : a + n ≤ 64) (hx : on n < x) :
    Calls Tryd.prog 9 #[.int .u64 w0, .int .i64 a, .int .i64 n, .int .u64 x] w fun e w' => e = .returned (.tuple #[.int .u64 0, .bool false]) ∧ w = w' := by
  have hd : decide (0 ≤ (a : Int) ∧ 1 ≤ (n : Int) ∧ (n : Int) ≤ 64 - a) = true := by simp; omega
  have HD := Lib.hid hd
  clear hd
  have h64 : n < 64 := by
    rcases Nat.lt_or_ge n 64 with h | h
    · exact h
    · obtain rfl : n = 64 := by omega
      exact absurd hx (by have : on 64 = full - 1 := rfl; omega)
  have hx' : (pw n : Int) ≤ (x : Int) := by have := @lt_on x n; unfold pw; omega
  go_enter Tryd.func9, Tryd.ntmps9
  go_wp2_with (first
    | (go_at_call 23; refine (refPart_any a n _).mono ?_; rw [HD.out]; rintro e w' ⟨rfl, rfl⟩)
    | (go_at_call 25; refine (power_any n _ h64).mono ?_; rintro e w' ⟨rfl, rfl⟩))
  go_ret2
  exact ⟨rfl, rfl⟩

set_option maxHeartbeats 1000000 in
theorem refPut_any (w0 a n x : Nat) (w : World) (hw0 : w0 < full) (hx0 : x < full) (h1 : 1 ≤ n) (h2 : a + n ≤ 64) (hx : x ≤ on n) :
    Calls Tryd.prog 9 #[.int .u64 w0, .int .i64 a, .int .i64 n, .int .u64 x] w fun e w' => e = .returned (.tuple #[.int .u64 (pt w0 a n x), .bool true]) ∧ w = w' := by
  have hd : decide (0 ≤ (a : Int) ∧ 1 ≤ (n : Int) ∧ (n : Int) ≤ 64 - a) = true := by simp; omega
  have HD := Lib.hid hd
  clear hd
  have HZ := Lib.hid (ptd_64 w0 a n x hw0 (lt_on.2 hx) h2)
  have HZ0 := Lib.hid (ptd_0 w0 a n x)
  have hpx : decide (pw n ≤ x) = false := by have := @lt_on x n; unfold pw; simp; omega
  by_cases h64 : n < 64
  case' pos => have hdn : decide (n < 64) = true := by simpa using h64
  case' neg =>
    have hdn : decide (n < 64) = false := by simpa using h64
    clear hpx
  all_goals
    go_enter Tryd.func9, Tryd.ntmps9
    go_wp2_with (first
      | (go_at_call 23; refine (refPart_any a n _).mono ?_; rw [HD.out]; rintro e w' ⟨rfl, rfl⟩)
      | (go_at_call 25; refine (power_any n _ h64).mono ?_; rintro e w' ⟨rfl, rfl⟩))
    go_loop [10, 11] (fun p i => ∃ k : Nat, k ≤ 64 ∧ i = .int .i64 (k - 1) ∧ p = .int .u64 (ptd w0 a n x k)) (fun _ i => (intOf i + 1).toNat)
    case atStart => exact ⟨64, Nat.le_refl _, rfl, by rw [HZ.out]; rfl⟩
    case round =>
      obtain ⟨k, hk, rfl, rfl⟩ := hrel
      rcases k with _ | k
      · go_wp2
        go_ret2
        exact ⟨by rw [HZ0.out]; rfl, rfl⟩
      · have HS := Lib.hid (pt_round w0 a n x k hw0 (lt_on.2 hx) h2)
        by_cases ha : a ≤ k
        · by_cases hb : k < a + n
          · have HE := Lib.hid (HS.out (bt x (k - a)) (by rw [if_pos ⟨ha, hb⟩]))
            have hsub : ((k : Int) - a) = ((k - a : Nat) : Int) := by omega
            have HU := Lib.hid hsub
            clear hsub HS
            go_wp2_with fail
            go_at_call 24
            refine (refBit_any w0 k _ hw0 (by omega)).mono ?_
            rintro e w' ⟨rfl, rfl⟩
            go_wp2_with fail
            go_at_call 24
            rw [HU.out]
            refine (refBit_any x (k - a) _ hx0 (by omega)).mono ?_
            rintro e w' ⟨rfl, rfl⟩
            go_wp2
            go_round
            case rel => exact ⟨k, by omega, rfl, by unfold ptd; rw [← HE.out]⟩
            case measure => simp [intOf]
          · try (exfalso; omega)
            all_goals
              have HE := Lib.hid (HS.out (bt w0 k) (by rw [if_neg (by omega)]))
              clear HS
              go_wp2_with (go_at_call 24; refine (refBit_any w0 k _ hw0 (by omega)).mono ?_; rintro e w' ⟨rfl, rfl⟩)
              go_round
              case rel => exact ⟨k, by omega, rfl, by unfold ptd; rw [← HE.out]⟩
              case measure => simp [intOf]
        · try (exfalso; omega)
          all_goals
            have HE := Lib.hid (HS.out (bt w0 k) (by rw [if_neg (by omega)]))
            clear HS
            go_wp2_with (go_at_call 24; refine (refBit_any w0 k _ hw0 (by omega)).mono ?_; rintro e w' ⟨rfl, rfl⟩)
            go_round
            case rel => exact ⟨k, by omega, rfl, by unfold ptd; rw [← HE.out]⟩
            case measure => simp [intOf]
end Go.Proofs.YthbodadmnhodfaaDoor
