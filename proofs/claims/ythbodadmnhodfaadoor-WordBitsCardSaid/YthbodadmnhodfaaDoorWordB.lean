/- Contracts of the counting and the searching functions of word, and of the closure that tells places (stage 1). -/
import Derived.Test.YthbodadmnhodfaaDoorWordA
import Derived.WalkSmall
namespace Go.Proofs.YthbodadmnhodfaaDoor
open Go.RowKit

theorem below_drewN' (w : World) (m : Nat) : Below w.heap.size w (w.drewN m) := below_drewN (Below.refl _ _) m

/-- How many of the bits below k are 1. -/
def cnt (x : Nat) : Nat → Nat
  | 0 => 0
  | k + 1 => if bt x k = 1 then cnt x k + 1 else cnt x k
theorem cnt_le (x k : Nat) : cnt x k ≤ k := by
  induction k with
  | zero => exact Nat.le_refl _
  | succ k ih => unfold cnt; split <;> omega
theorem cnt_one {x k : Nat} (h : bt x k = 1) : cnt x (k + 1) = cnt x k + 1 := by show (if bt x k = 1 then _ else _) = _; rw [if_pos h]
theorem cnt_none {x k : Nat} (h : ¬ bt x k = 1) : cnt x (k + 1) = cnt x k := by show (if bt x k = 1 then _ else _) = _; rw [if_neg h]

/-- The first of the places f k, f (k + 1), .. (so many) whose bit is 1. -/
def scan (x : Nat) (f : Nat → Nat) (k : Nat) : Nat → Int
  | 0 => -1
  | m + 1 => if bt x (f k) = 1 then (f k : Int) else scan x f (k + 1) m
theorem scan_one {x k m : Nat} {f : Nat → Nat} (hk : k < m) (h : bt x (f k) = 1) : scan x f k (m - k) = f k := by
  obtain ⟨j, hj⟩ : ∃ j, m - k = j + 1 := ⟨m - k - 1, by omega⟩
  rw [hj]; show (if _ then _ else _) = _; rw [if_pos h]
theorem scan_none {x k m : Nat} {f : Nat → Nat} (hk : k < m) (h : ¬ bt x (f k) = 1) : scan x f k (m - k) = scan x f (k + 1) (m - (k + 1)) := by
  obtain ⟨j, hj⟩ : ∃ j, m - k = j + 1 := ⟨m - k - 1, by omega⟩
  rw [hj, show m - (k + 1) = j by omega]; show (if _ then _ else _) = _; rw [if_neg h]

set_option maxHeartbeats 400000 in
theorem ones_count (x : Nat) (w : World) (hx : x < full) :
    Calls Tryd.prog 13 #[.int .u64 x] w fun e w' => e = .returned (.int .i64 (cnt x 64)) ∧ w = w' := by
  go_enter Tryd.func13, Tryd.ntmps13
  go_wp2
  go_loop [3, 5] (fun c i => ∃ k : Nat, k ≤ 64 ∧ i = .int .i64 k ∧ c = .int .i64 (cnt x k)) (fun _ i => 64 - (intOf i).toNat)
  case atStart => exact ⟨0, Nat.zero_le _, rfl, rfl⟩
  case round =>
    obtain ⟨k, hk, rfl, rfl⟩ := hrel
    have hle := cnt_le x k
    by_cases hlt : k < 64
    · by_cases hb : bt x k = 1
      · have HD := Lib.hid (decide_eq_true hb)
        have HC := Lib.hid (cnt_one hb)
        clear hb
        go_wp2_with (go_at_call 28; refine (isOne_any x k _ hx hlt).mono ?_; rw [HD.out]; rintro e w' ⟨rfl, rfl⟩)
        go_round
        case rel => exact ⟨k + 1, by omega, by go_num, by rw [HC.out]; go_num⟩
        case measure => simp [intOf]; omega
      · have HD := Lib.hid (decide_eq_false hb)
        have HC := Lib.hid (cnt_none hb)
        clear hb
        go_wp2_with (go_at_call 28; refine (isOne_any x k _ hx hlt).mono ?_; rw [HD.out]; rintro e w' ⟨rfl, rfl⟩)
        go_round
        case rel => exact ⟨k + 1, by omega, by go_num, by rw [HC.out]⟩
        case measure => simp [intOf]; omega
    · obtain rfl : k = 64 := by omega
      go_wp2
      go_ret
      exact ⟨rfl, rfl⟩

set_option maxHeartbeats 400000 in
theorem refOnes_any (x : Nat) (w : World) (hx : x < full) :
    Calls Tryd.prog 14 #[.int .u64 x] w fun e w' => e = .returned (.int .i64 (cnt x 64)) ∧ w = w' := by
  go_enter Tryd.func14, Tryd.ntmps14
  go_wp2
  go_loop [3, 4] (fun c i => ∃ k : Nat, k ≤ 64 ∧ i = .int .i64 k ∧ c = .int .i64 (cnt x k)) (fun _ i => 64 - (intOf i).toNat)
  case atStart => exact ⟨0, Nat.zero_le _, rfl, rfl⟩
  case round =>
    obtain ⟨k, hk, rfl, rfl⟩ := hrel
    have hle := cnt_le x k
    by_cases hlt : k < 64
    · by_cases hb : bt x k = 1
      · have HC := Lib.hid (cnt_one hb)
        go_wp2_with (go_at_call 24; refine (refBit_any x k _ hx hlt).mono ?_; rintro e w' ⟨rfl, rfl⟩)
        go_round
        case rel => exact ⟨k + 1, by omega, by go_num, by rw [HC.out]; go_num⟩
        case measure => simp [intOf]; omega
      · have HC := Lib.hid (cnt_none hb)
        go_wp2_with (go_at_call 24; refine (refBit_any x k _ hx hlt).mono ?_; rintro e w' ⟨rfl, rfl⟩)
        go_round
        case rel => exact ⟨k + 1, by omega, by go_num, by rw [HC.out]⟩
        case measure => simp [intOf]; omega
    · obtain rfl : k = 64 := by omega
      go_wp2
      go_ret
      exact ⟨rfl, rfl⟩

/-- The closure of places, over the two blocks b and b + 1. -/
def plv (b : Nat) : Value := .func (Fn.func 30) #[] #[.pointer (some ⟨b, 0, none⟩), .pointer (some ⟨b + 1, 0, none⟩)]
/-- What the two blocks hold: the next place, and the step. -/
structure PL (w : World) (b : Nat) (a s : Int) : Prop where
  here : w.cell? ⟨b, 0, none⟩ = some (.int .i64 a)
  step : w.cell? ⟨b + 1, 0, none⟩ = some (.int .i64 s)
  free : w.frozen? ⟨b, 0, none⟩ = false
  size : b + 1 < w.heap.size

theorem pl_new (w : World) (a s : Int) : PL ((w.alloc (.cells #[.int .i64 a] 3)).alloc (.cells #[.int .i64 s] 3)) w.heap.size a s :=
  ⟨by go_simp, by go_simp, by go_simp, by simp⟩

theorem PL.drew {w : World} {b : Nat} {a s : Int} (h : PL w b a s) : PL w.drew b a s := ⟨h.here, h.step, h.free, h.size⟩
theorem PL.other {w : World} {b : Nat} {a s : Int} (h : PL w b a s) (p : Addr) (v : Value) (h0 : b ≠ p.block) (h1 : b + 1 ≠ p.block) : PL (w.setCell p v) b a s :=
  ⟨(World.cell?_of_block (Below.heap_setCell w p v b h0)).trans h.here, (World.cell?_of_block (Below.heap_setCell w p v (b + 1) h1)).trans h.step, (World.frozen?_of_block (Below.heap_setCell w p v b h0)).trans h.free, by have := h.size; simpa using this⟩
theorem pl_set {w : World} {b : Nat} {a s : Int} (h : PL w b a s) (a' : Int) : PL (w.setCell ⟨b, 0, none⟩ (.int .i64 a')) b a' s := by
  have h0 := h.here
  have h1 := h.step
  have h2 := h.free
  refine ⟨by go_simp, ?_, by go_simp, by have := h.size; simpa using this⟩
  rw [World.cell?_of_block (Below.heap_setCell w _ _ (b + 1) (by simp))]
  exact h1

set_option maxHeartbeats 400000 in
theorem places_any (a s : Int) (w : World) :
    Calls Tryd.prog 26 #[.int .i64 a, .int .i64 s] w fun e w' => e = .returned (plv w.heap.size) ∧ PL w' w.heap.size a s ∧ Below w.heap.size w w' := by
  go_enter Tryd.func26, Tryd.ntmps26
  go_wp2
  go_ret
  exact ⟨rfl, pl_new w a s, ((Below.refl _ _).alloc (Nat.le_refl _) _).alloc (by simp) _⟩

set_option maxHeartbeats 400000 in
theorem placer_any (a s : Int) (b : Nat) (w : World) (h : PL w b a s) (h1 : -9223372036854775808 ≤ a + s) (h2 : a + s ≤ 9223372036854775807) :
    Calls Tryd.prog 30 #[.pointer (some ⟨b, 0, none⟩), .pointer (some ⟨b + 1, 0, none⟩)] w fun e w' => e = .returned (.int .i64 a) ∧ w.setCell ⟨b, 0, none⟩ (.int .i64 (a + s)) = w' := by
  have h0 := h.here
  have h1 := h.step
  have h2 := h.free
  go_enter Tryd.func30, Tryd.ntmps30
  go_wp2
  go_ret
  exact ⟨rfl, rfl⟩

set_option maxHeartbeats 800000 in
theorem firstOne_any (x : Nat) (f : Nat → Nat) (s : Int) (b : Nat) (w : World) (hx : x < full) (hf : ∀ k, k < 64 → f k < 64) (hs : ∀ k, k < 64 → (f k : Int) + s = f (k + 1) ∨ k = 63) (hs0 : -1 ≤ s) (hs1 : s ≤ 1) (h : PL w b (f 0) s) :
    Calls Tryd.prog 29 #[.int .u64 x, plv b] w fun e w' => e = .returned (.int .i64 (scan x f 0 64)) ∧ Below b w w' := by
  have HS := Lib.hid hs
  clear hs
  unfold plv
  go_enter Tryd.func29, Tryd.ntmps29
  go_wp2
  go_loopw [6] (fun i wr => ∃ k : Nat, k ≤ 64 ∧ i = .int .i64 k ∧ scan x f 0 64 = scan x f k (64 - k) ∧ (k < 64 → PL wr b (f k) s) ∧ Below b w wr) (fun i _ => 64 - (intOf i).toNat)
  case atStart => exact ⟨0, Nat.zero_le _, rfl, rfl, fun _ => h, Below.refl _ _⟩
  case round =>
    obtain ⟨k, hk, rfl, hsc, hpl, hbl⟩ := hrel
    have HSC := Lib.hid hsc
    clear hsc
    by_cases hlt : k < 64
    · have hp := hpl hlt
      have hfk := hf k hlt
      have HP := Lib.hid hp
      have HB := Lib.hid hbl
      clear hpl hp hbl
      by_cases hb : bt x (f k) = 1
      · have HD := Lib.hid (decide_eq_true hb)
        have HC := Lib.hid (scan_one hlt hb)
        clear hb
        go_wp2_with (first
          | (go_at_call 30; refine (placer_any (f k) s b _ HP.out (by omega) (by omega)).mono ?_; rintro e w' ⟨rfl, rfl⟩)
          | (go_at_call 28; refine (isOne_any x (f k) _ hx hfk).mono ?_; rw [HD.out]; rintro e w' ⟨rfl, rfl⟩))
        go_ret
        exact ⟨ret_i64 (by rw [HSC.out, HC.out]), HB.out.setCell (Nat.le_refl _) _⟩
      · have HD := Lib.hid (decide_eq_false hb)
        have HC := Lib.hid (scan_none hlt hb)
        clear hb
        go_wp2_with (first
          | (go_at_call 30; refine (placer_any (f k) s b _ HP.out (by omega) (by omega)).mono ?_; rintro e w' ⟨rfl, rfl⟩)
          | (go_at_call 28; refine (isOne_any x (f k) _ hx hfk).mono ?_; rw [HD.out]; rintro e w' ⟨rfl, rfl⟩))
        go_roundw
        case rel =>
          refine ⟨k + 1, by omega, by go_num, by rw [HSC.out, HC.out], fun h1 => ?_, HB.out.setCell (Nat.le_refl _) _⟩
          rcases HS.out k hlt with h2 | h2
          · rw [← h2]; exact pl_set HP.out _
          · omega
        case measure => simp [intOf]; omega
    · obtain rfl : k = 64 := by omega
      clear hpl
      go_wp2
      go_ret
      exact ⟨ret_i64 (by rw [HSC.out]; rfl), hbl⟩
end Go.Proofs.YthbodadmnhodfaaDoor
