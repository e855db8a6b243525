/- Plain mathematics of the parts of a word (stage 1): no program in it. -/
import Derived.Test.YtciidodmhigpdaaGreatDoorBase
import Derived.Test.YtciidodmhigpdaaGreatDoorRows
import Derived.WalkSpells
import Derived.Deep.QuietTactic
import Derived.BigQuiet
import Derived.Lib.Hide
namespace Go.Proofs.YtciidodmhigpdaaGreatDoor
open Go.RowKit

theorem wrap_id (a : Nat) (h : a < full) : IntKind.u64.wrap (a : Int) = a := by
  rw [IntKind.wrap_u64]; unfold full at h; omega

theorem pow_cast (n : Nat) : ((2 : Int) ^ n) = ((2 ^ n : Nat) : Int) := by simp

theorem ones_val (n : Nat) (hn : n ≤ 64) : IntKind.u64.wrap (IntKind.u64.wrap ((2 : Int) ^ n) - 1) = ((2 ^ n - 1 : Nat) : Int) := by
  have hp := Nat.two_pow_pos n
  rw [pow_cast, IntKind.wrap_u64, IntKind.wrap_u64]
  rcases Nat.lt_or_ge n 64 with h | h
  · have := pow_lt_full h; unfold full at this; omega
  · obtain rfl : n = 64 := by omega
    decide

/-- 2^n and a bit, behind names. -/
def pw (n : Nat) : Nat := 2 ^ n
def bt (w i : Nat) : Nat := w / 2 ^ i % 2
theorem pw_pos (n : Nat) : 0 < pw n := Nat.two_pow_pos n
theorem pw_lt {n : Nat} (h : n < 64) : pw n < full := pow_lt_full h
theorem pw_succ (n : Nat) (h : n + 1 < 64) : IntKind.u64.wrap ((pw n : Int) * 2) = (pw (n + 1) : Int) := by
  have := wrap_id (pw (n + 1)) (pow_lt_full h)
  unfold pw at this ⊢
  rw [Nat.pow_succ] at this ⊢
  exact_mod_cast this
theorem bt_val (w i : Nat) (hw : w < full) : (IntKind.u64.wrap ((w : Int) / (pw i : Int))).tmod 2 = (bt w i : Int) := by
  have e : ((w : Int) / (pw i : Int)) = ((w / pw i : Nat) : Int) := by simp
  rw [e, wrap_id _ (Nat.lt_of_le_of_lt (Nat.div_le_self _ _) hw)]
  rfl

def on (n : Nat) : Nat := 2 ^ n - 1
theorem on_val (n : Nat) (hn : n ≤ 64) : IntKind.u64.wrap (IntKind.u64.wrap ((2 : Int) ^ n) - 1) = (on n : Int) := ones_val n hn
theorem on_lt (n : Nat) (hn : n ≤ 64) : on n < full := by
  have := pow_le_full hn; have := Nat.two_pow_pos n; unfold on; omega
theorem lt_on {x n : Nat} : x < 2 ^ n ↔ x ≤ on n := by have := Nat.two_pow_pos n; unfold on; omega

/-- The part of w. -/
def gt (w a n : Nat) : Nat := w / 2 ^ a % 2 ^ n
/-- w with x as its part. -/
def pt (w a n x : Nat) : Nat := w % 2 ^ a + 2 ^ a * (x + 2 ^ n * (w / 2 ^ (a + n)))

theorem gt_lt (w a n : Nat) : gt w a n < 2 ^ n := Nat.mod_lt _ (Nat.two_pow_pos n)

theorem and_ones (x n : Nat) : x &&& (2 ^ n - 1) = x % 2 ^ n := Nat.and_two_pow_sub_one_eq_mod x n

theorem get_bits (w a n : Nat) (hw : w < full) (hn : n ≤ 64) : bits .and .u64 ((w : Int) / 2 ^ a) (on n : Int) = (gt w a n : Int) := by
  unfold on
  have e : ((w : Int) / 2 ^ a) = ((w / 2 ^ a : Nat) : Int) := by simp
  have hd : w / 2 ^ a < full := Nat.lt_of_le_of_lt (Nat.div_le_self _ _) hw
  have hp := pow_le_full hn
  have hq := Nat.two_pow_pos n
  rw [e, u64_and_nat _ _ hd (by unfold full at hp; omega), and_ones]
  rfl

theorem isOne_bits (w i : Nat) (hw : w < full) : bits .and .u64 ((w : Int) / 2 ^ i) 1 = (bt w i : Int) := by
  have := get_bits w i 1 hw (by decide)
  simpa [gt, bt, on] using this

theorem testBit_pt (w a n x j : Nat) (hx : x < 2 ^ n) : (pt w a n x).testBit j = if j < a then w.testBit j else if j < a + n then x.testBit (j - a) else w.testBit j := by
  unfold pt
  rw [Nat.add_comm, Nat.testBit_two_pow_mul_add _ (Nat.mod_lt _ (Nat.two_pow_pos a))]
  split
  · rename_i h; rw [Nat.testBit_mod_two_pow]; simp [h]
  · rename_i h
    rw [Nat.add_comm x, Nat.testBit_two_pow_mul_add _ hx]
    by_cases h2 : j < a + n
    · rw [if_pos (by omega), if_pos h2]
    · rw [if_neg (by omega), if_neg h2, Nat.testBit_div_two_pow]
      congr 1; omega

theorem pt_lt (w a n x : Nat) (hw : w < full) (hx : x < 2 ^ n) (han : a + n ≤ 64) : pt w a n x < full := by
  rw [full_eq]
  apply Nat.lt_pow_two_of_testBit
  intro i hi
  rw [testBit_pt _ _ _ _ _ hx, if_neg (by omega), if_neg (by omega)]
  exact Nat.testBit_lt_two_pow (Nat.lt_of_lt_of_le (by rw [full_eq] at hw; exact hw) (Nat.pow_le_pow_right (by decide) hi))

/-- What the code of Put comes to. -/
theorem put_nat (w a n x : Nat) (hw : w < full) (hx : x < 2 ^ n) (han : a + n ≤ 64) :
    (w &&& (full - 1 - (2 ^ n - 1) * 2 ^ a % full)) ||| (x * 2 ^ a % full) = pt w a n x := by
  have hlt : ∀ y, y < 2 ^ n → y * 2 ^ a < full := by
    intro y hy
    have h1 : y * 2 ^ a < 2 ^ n * 2 ^ a := Nat.mul_lt_mul_of_pos_right hy (Nat.two_pow_pos a)
    rw [← Nat.pow_add] at h1
    exact Nat.lt_of_lt_of_le h1 (pow_le_full (by omega))
  rw [Nat.mod_eq_of_lt (hlt x hx), Nat.mod_eq_of_lt (hlt _ (by have := Nat.two_pow_pos n; omega))]
  apply Nat.eq_of_testBit_eq
  intro j
  rw [testBit_pt _ _ _ _ _ hx, Nat.testBit_or, Nat.testBit_and, full_eq, show 2 ^ 64 - 1 - (2 ^ n - 1) * 2 ^ a = 2 ^ 64 - ((2 ^ n - 1) * 2 ^ a + 1) by omega,
    Nat.testBit_two_pow_sub_succ (by rw [← full_eq]; exact hlt _ (by have := Nat.two_pow_pos n; omega)), Nat.testBit_mul_two_pow, Nat.testBit_mul_two_pow, Nat.testBit_two_pow_sub_one]
  have hwj : 64 ≤ j → w.testBit j = false := fun h => Nat.testBit_lt_two_pow (Nat.lt_of_lt_of_le (by rw [full_eq] at hw; exact hw) (Nat.pow_le_pow_right (by decide) h))
  have hxj : n ≤ j - a → x.testBit (j - a) = false := fun h => Nat.testBit_lt_two_pow (Nat.lt_of_lt_of_le hx (Nat.pow_le_pow_right (by decide) h))
  by_cases h1 : j < a
  · have h64 : j < 64 := by omega
    simp [h1, h64, Nat.not_le.2 h1]
  · by_cases h2 : j < a + n
    · have h64 : j < 64 := by omega
      have h3 : j - a < n := by omega
      simp [h1, h2, h64, h3, Nat.le_of_not_lt h1]
    · have h3 : ¬ j - a < n := by omega
      rw [hxj (by omega)]
      by_cases h64 : j < 64
      · simp [h1, h2, h3, h64]
      · simp [h1, h2, h3, h64, hwj (by omega)]

theorem bit_val (w i : Nat) : w / 2 ^ i % 2 = (w.testBit i).toNat := by
  rw [Nat.toNat_testBit]

/-- One round of the reference's Get. -/
theorem gt_step (w a n i : Nat) (hi : i < n) : 2 * gt w (a + i + 1) (n - 1 - i) + w / 2 ^ (a + i) % 2 = gt w (a + i) (n - i) := by
  unfold gt
  have e : n - i = 1 + (n - 1 - i) := by omega
  rw [e, Nat.pow_add 2 1, Nat.mod_mul, Nat.div_div_eq_div_mul, ← Nat.pow_succ, show 2 ^ 1 = 2 from rfl, Nat.add_comm]

/-- One round of the reference's Put. -/
theorem pt_step (w a n x i : Nat) (hx : x < 2 ^ n) : 2 * (pt w a n x / 2 ^ (i + 1)) + (if a ≤ i ∧ i < a + n then x / 2 ^ (i - a) % 2 else w / 2 ^ i % 2) = pt w a n x / 2 ^ i := by
  have hb : (if a ≤ i ∧ i < a + n then x / 2 ^ (i - a) % 2 else w / 2 ^ i % 2) = pt w a n x / 2 ^ i % 2 := by
    rw [bit_val, bit_val, bit_val, testBit_pt _ _ _ _ _ hx]
    by_cases h1 : i < a
    · rw [if_neg (by omega), if_pos h1]
    · by_cases h2 : i < a + n
      · rw [if_pos (by omega), if_neg h1, if_pos h2]
      · rw [if_neg (by omega), if_neg h1, if_neg h2]
  rw [hb, Nat.pow_succ, ← Nat.div_div_eq_div_mul]
  omega
theorem gt_round (x a n k : Nat) (hn : n ≤ 64) (hk : k < n) : IntKind.u64.wrap (IntKind.u64.wrap (2 * (gt x (a + (k + 1)) (n - (k + 1)) : Int)) + (bt x (a + k) : Int)) = (gt x (a + k) (n - k) : Int) := by
  have h := gt_step x a n k hk
  have h1 := gt_lt x (a + k) (n - k)
  have h2 : 2 ^ (n - k) ≤ full := pow_le_full (by omega)
  unfold bt
  rw [show n - 1 - k = n - (k + 1) by omega, show a + k + 1 = a + (k + 1) by omega] at h
  have e : ((2 : Int) * (gt x (a + (k + 1)) (n - (k + 1)) : Int)) = ((2 * gt x (a + (k + 1)) (n - (k + 1)) : Nat) : Int) := by simp
  rw [e, wrap_id _ (by omega), ← Int.natCast_add, wrap_id _ (by omega), h]

theorem shl_val (x a : Nat) : IntKind.u64.wrap ((x : Int) * 2 ^ a) = ((x * 2 ^ a % full : Nat) : Int) := by
  rw [pow_cast, ← Int.natCast_mul, IntKind.wrap_u64]; rfl

theorem put_bits (w a n x : Nat) (hw : w < full) (hx : x < 2 ^ n) (han : a + n ≤ 64) :
    bits .or .u64 (bits .andNot .u64 (w : Int) (IntKind.u64.wrap ((on n : Int) * 2 ^ a))) (IntKind.u64.wrap ((x : Int) * 2 ^ a)) = (pt w a n x : Int) := by
  have hf : 0 < full := by decide
  have hA : on n * 2 ^ a % full < full := Nat.mod_lt _ hf
  have hB : x * 2 ^ a % full < full := Nat.mod_lt _ hf
  rw [shl_val, shl_val, u64_andNot_nat _ _ hw hA]
  have hl : w &&& (18446744073709551615 - on n * 2 ^ a % full) < full := Nat.lt_of_le_of_lt Nat.and_le_left hw
  rw [u64_or_nat _ _ hl hB]
  congr 1
  exact put_nat w a n x hw hx han

theorem pt_round (w a n x i : Nat) (hw : w < full) (hx : x < 2 ^ n) (han : a + n ≤ 64) (b : Nat) (hb : b = if a ≤ i ∧ i < a + n then bt x (i - a) else bt w i) :
    IntKind.u64.wrap (IntKind.u64.wrap (2 * (pt w a n x / 2 ^ (i + 1) : Nat)) + (b : Int)) = ((pt w a n x / 2 ^ i : Nat) : Int) := by
  have h := pt_step w a n x i hx
  have h1 := pt_lt w a n x hw hx han
  have h2 : pt w a n x / 2 ^ i ≤ pt w a n x := Nat.div_le_self _ _
  unfold bt at hb
  rw [← hb] at h
  have e : ((2 : Int) * ((pt w a n x / 2 ^ (i + 1) : Nat) : Int)) = ((2 * (pt w a n x / 2 ^ (i + 1)) : Nat) : Int) := by simp
  rw [e, wrap_id _ (by omega), ← Int.natCast_add, wrap_id _ (by omega), h]

/-- The reference's row of bits so far. -/
def ptd (w a n x i : Nat) : Nat := pt w a n x / 2 ^ i
theorem ptd_64 (w a n x : Nat) (hw : w < full) (hx : x < 2 ^ n) (han : a + n ≤ 64) : ptd w a n x 64 = 0 := Nat.div_eq_of_lt (pt_lt w a n x hw hx han)
theorem ptd_0 (w a n x : Nat) : ptd w a n x 0 = pt w a n x := by simp [ptd]
end Go.Proofs.YtciidodmhigpdaaGreatDoor

/- Contracts of the small functions of word and of the reference word (stage 1). -/
namespace Go.Proofs.YtciidodmhigpdaaGreatDoor
open Go.RowKit

set_option maxHeartbeats 400000 in
theorem isPart_any (a n : Int) (w : World) (ha : -9223372036854775808 ≤ a) (ha' : a ≤ 9223372036854775807) :
    Calls Tryz.prog 131 #[.int .i64 a, .int .i64 n] w fun e w' => e = .returned (.bool (decide (0 ≤ a ∧ 1 ≤ n ∧ n ≤ 64 - a))) ∧ w = w' := by
  by_cases h1 : 0 ≤ a <;> by_cases h2 : 1 ≤ n <;> by_cases h3 : n ≤ 64 - a
  all_goals
    go_enter Tryz.func131, Tryz.ntmps131
    go_wp2
    go_ret
    simp [h1, h2, h3]

set_option maxHeartbeats 400000 in
theorem ones_any (n : Nat) (w : World) (hn : n ≤ 64) :
    Calls Tryz.prog 132 #[.int .i64 n] w fun e w' => e = .returned (.int .u64 (on n)) ∧ w = w' := by
  go_enter Tryz.func132, Tryz.ntmps132
  go_wp2
  go_ret
  exact ⟨ret_u64 (on_val n hn), rfl⟩

set_option maxHeartbeats 400000 in
theorem get_any (x a n : Nat) (w : World) (hx : x < full) (h1 : 1 ≤ n) (h2 : a + n ≤ 64) :
    Calls Tryz.prog 109 #[.int .u64 x, .int .i64 a, .int .i64 n] w fun e w' => e = .returned (.tuple #[.int .u64 (gt x a n), .bool true]) ∧ ∃ m, w' = w.drewN m := by
  have hb := Lib.hid (get_bits x a n hx (by omega))
  have hd : decide (0 ≤ (a : Int) ∧ 1 ≤ (n : Int) ∧ (n : Int) ≤ 64 - a) = true := by simp; omega
  have HD := Lib.hid hd
  clear hd
  go_enter Tryz.func109, Tryz.ntmps109
  go_wp2_with (go_at_call 131; refine (isPart_any a n _ (by omega) (by omega)).mono ?_; rw [HD.out]; rintro e w' ⟨rfl, rfl⟩)
  go_quiet ((go_at_call 132; exact Calls.quiet_of_same ((ones_any n _ (by omega)).mono fun _ _ h => ⟨h.1, h.2.symm⟩)))
  go_wp2
  go_ret2
  exact ⟨by rw [hb.out]; rfl, _, rfl⟩

set_option maxHeartbeats 400000 in
theorem get_no (x a n : Int) (w : World) (ha : -9223372036854775808 ≤ a) (ha' : a ≤ 9223372036854775807) (h : ¬ (0 ≤ a ∧ 1 ≤ n ∧ n ≤ 64 - a)) :
    Calls Tryz.prog 109 #[.int .u64 x, .int .i64 a, .int .i64 n] w fun e w' => e = .returned (.tuple #[.int .u64 0, .bool false]) ∧ ∃ m, w' = w.drewN m := by
  have HD := Lib.hid (decide_eq_false h)
  clear h
  go_enter Tryz.func109, Tryz.ntmps109
  go_wp2_with (go_at_call 131; refine (isPart_any a n _ ha ha').mono ?_; rw [HD.out]; rintro e w' ⟨rfl, rfl⟩)
  go_ret2
  exact ⟨rfl, 0, rfl⟩

set_option maxHeartbeats 400000 in
theorem put_any (w0 a n x : Nat) (w : World) (hw0 : w0 < full) (h1 : 1 ≤ n) (h2 : a + n ≤ 64) (hx : x ≤ on n) :
    Calls Tryz.prog 111 #[.int .u64 w0, .int .i64 a, .int .i64 n, .int .u64 x] w fun e w' => e = .returned (.tuple #[.int .u64 (pt w0 a n x), .bool true]) ∧ ∃ m, w' = w.drewN m := by
  have hb := Lib.hid (put_bits w0 a n x hw0 (lt_on.2 hx) h2)
  have hd : decide (0 ≤ (a : Int) ∧ 1 ≤ (n : Int) ∧ (n : Int) ≤ 64 - a) = true := by simp; omega
  have HD := Lib.hid hd
  have hx' : (x : Int) ≤ (on n : Int) := by omega
  clear hd
  go_enter Tryz.func111, Tryz.ntmps111
  go_wp2_with (first
    | (go_at_call 131; refine (isPart_any a n _ (by omega) (by omega)).mono ?_; rw [HD.out]; rintro e w' ⟨rfl, rfl⟩)
    | (go_at_call 132; refine (ones_any n _ (by omega)).mono ?_; rintro e w' ⟨rfl, rfl⟩))
  go_quiet ((go_at_call 132; exact Calls.quiet_of_same ((ones_any n _ (by omega)).mono fun _ _ h => ⟨h.1, h.2.symm⟩)))
  go_wp2
  go_ret2
  exact ⟨by rw [hb.out]; rfl, _, rfl⟩

set_option maxHeartbeats 400000 in
theorem put_no (w0 a n x : Int) (w : World) (ha : -9223372036854775808 ≤ a) (ha' : a ≤ 9223372036854775807) (h : ¬ (0 ≤ a ∧ 1 ≤ n ∧ n ≤ 64 - a)) :
    Calls Tryz.prog 111 #[.int .u64 w0, .int .i64 a, .int .i64 n, .int .u64 x] w fun e w' => e = .returned (.tuple #[.int .u64 0, .bool false]) ∧ ∃ m, w' = w.drewN m := by
  have HD := Lib.hid (decide_eq_false h)
  clear h
  go_enter Tryz.func111, Tryz.ntmps111
  go_wp2_with (go_at_call 131; refine (isPart_any a n _ ha ha').mono ?_; rw [HD.out]; rintro e w' ⟨rfl, rfl⟩)
  go_ret2
  exact ⟨rfl, 0, rfl⟩

set_option maxHeartbeats 400000 in
theorem put_big (w0 a n x : Nat) (w : World) (h1 : 1 ≤ n) (h2 : a + n ≤ 64) (hx : on n < x) :
    Calls Tryz.prog 111 #[.int .u64 w0, .int .i64 a, .int .i64 n, .int .u64 x] w fun e w' => e = .returned (.tuple #[.int .u64 0, .bool false]) ∧ ∃ m, w' = w.drewN m := by
  have hd : decide (0 ≤ (a : Int) ∧ 1 ≤ (n : Int) ∧ (n : Int) ≤ 64 - a) = true := by simp; omega
  have HD := Lib.hid hd
  have hx' : (on n : Int) < (x : Int) := by omega
  clear hd
  go_enter Tryz.func111, Tryz.ntmps111
  go_wp2_with (first
    | (go_at_call 131; refine (isPart_any a n _ (by omega) (by omega)).mono ?_; rw [HD.out]; rintro e w' ⟨rfl, rfl⟩)
    | (go_at_call 132; refine (ones_any n _ (by omega)).mono ?_; rintro e w' ⟨rfl, rfl⟩))
  go_ret2
  exact ⟨rfl, 0, rfl⟩

end Go.Proofs.YtciidodmhigpdaaGreatDoor
