/- Contracts of Low, High, digitOf, Read of word, and of the reference's (stage 1). -/
import Derived.Test.YthbodadmnhodfaaDoorWordB
namespace Go.Proofs.YthbodadmnhodfaaDoor
open Go.RowKit

set_option maxHeartbeats 400000 in
theorem low_any (x : Nat) (w : World) (hx : x < full) :
    Calls Tryd.prog 15 #[.int .u64 x] w fun e w' => e = .returned (.int .i64 (scan x (fun k => k) 0 64)) ∧ Below w.heap.size w w' := by
  go_enter Tryd.func15, Tryd.ntmps15
  go_wp2_with fail
  go_at_call 26
  refine (places_any 0 1 _).mono ?_
  rintro e w1 ⟨rfl, hp, hb⟩
  have HP := Lib.hid hp
  have HB := Lib.hid hb
  clear hp hb
  go_wp2_with fail
  go_at_call 29
  refine (firstOne_any x (fun k => k) 1 _ _ hx (fun _ h => h) (fun _ _ => Or.inl rfl) (by omega) (by omega) HP.out).mono ?_
  rintro e w2 ⟨rfl, hb2⟩
  go_wp2
  go_ret
  exact ⟨rfl, HB.out.trans hb2⟩

set_option maxHeartbeats 400000 in
theorem high_any (x : Nat) (w : World) (hx : x < full) :
    Calls Tryd.prog 17 #[.int .u64 x] w fun e w' => e = .returned (.int .i64 (scan x (fun k => 63 - k) 0 64)) ∧ Below w.heap.size w w' := by
  go_enter Tryd.func17, Tryd.ntmps17
  go_wp2_with fail
  go_at_call 26
  refine (places_any 63 (-1) _).mono ?_
  rintro e w1 ⟨rfl, hp, hb⟩
  have HP := Lib.hid hp
  have HB := Lib.hid hb
  clear hp hb
  go_wp2_with fail
  go_at_call 29
  refine (firstOne_any x (fun k => 63 - k) (-1) _ _ hx (fun _ h => by show 63 - _ < 64; omega) (fun k hk => by show ((63 - k : Nat) : Int) + -1 = ((63 - (k + 1) : Nat) : Int) ∨ _; omega) (by omega) (by omega) HP.out).mono ?_
  rintro e w2 ⟨rfl, hb2⟩
  go_wp2
  go_ret
  exact ⟨rfl, HB.out.trans hb2⟩

set_option maxHeartbeats 400000 in
theorem refLow_any (x : Nat) (w : World) (hx : x < full) :
    Calls Tryd.prog 16 #[.int .u64 x] w fun e w' => e = .returned (.int .i64 (scan x (fun k => k) 0 64)) ∧ w = w' := by
  go_enter Tryd.func16, Tryd.ntmps16
  go_wp2
  go_loop [3] (fun i => ∃ k : Nat, k ≤ 64 ∧ i = .int .i64 k ∧ scan x (fun k => k) 0 64 = scan x (fun k => k) k (64 - k)) (fun i => 64 - (intOf i).toNat)
  case atStart => exact ⟨0, Nat.zero_le _, rfl, rfl⟩
  case round =>
    obtain ⟨k, hk, rfl, hsc⟩ := hrel
    have HSC := Lib.hid hsc
    clear hsc
    by_cases hlt : k < 64
    · by_cases hb : bt x k = 1
      · have HC := Lib.hid (scan_one (f := fun k => k) hlt hb)
        go_wp2_with (go_at_call 24; refine (refBit_any x k _ hx hlt).mono ?_; rintro e w' ⟨rfl, rfl⟩)
        go_ret
        exact ⟨ret_i64 (by rw [HSC.out, HC.out]), rfl⟩
      · have HC := Lib.hid (scan_none (f := fun k => k) hlt hb)
        go_wp2_with (go_at_call 24; refine (refBit_any x k _ hx hlt).mono ?_; rintro e w' ⟨rfl, rfl⟩)
        go_round
        case rel => exact ⟨k + 1, by omega, by go_num, by rw [HSC.out, HC.out]⟩
        case measure => simp [intOf]; omega
    · obtain rfl : k = 64 := by omega
      go_wp2
      go_ret
      exact ⟨ret_i64 (by rw [HSC.out]; rfl), rfl⟩

set_option maxHeartbeats 400000 in
theorem refHigh_any (x : Nat) (w : World) (hx : x < full) :
    Calls Tryd.prog 18 #[.int .u64 x] w fun e w' => e = .returned (.int .i64 (scan x (fun k => 63 - k) 0 64)) ∧ w = w' := by
  go_enter Tryd.func18, Tryd.ntmps18
  go_wp2
  go_loop [3] (fun i => ∃ k : Nat, k ≤ 64 ∧ i = .int .i64 (63 - k) ∧ scan x (fun k => 63 - k) 0 64 = scan x (fun k => 63 - k) k (64 - k)) (fun i => (intOf i + 1).toNat)
  case atStart => exact ⟨0, Nat.zero_le _, rfl, rfl⟩
  case round =>
    obtain ⟨k, hk, rfl, hsc⟩ := hrel
    have HSC := Lib.hid hsc
    clear hsc
    by_cases hlt : k < 64
    · have hsub : ((63 : Int) - k) = ((63 - k : Nat) : Int) := by omega
      have hnx : ((63 - k : Nat) : Int) - 1 = 63 - ((k + 1 : Nat) : Int) := by omega
      have HX := Lib.hid hnx
      clear hnx
      by_cases hb : bt x (63 - k) = 1
      · have HC := Lib.hid (scan_one (f := fun k => 63 - k) hlt hb)
        rw [hsub]
        clear hsub
        go_wp2_with (go_at_call 24; refine (refBit_any x (63 - k) _ hx (by omega)).mono ?_; rintro e w' ⟨rfl, rfl⟩)
        go_ret
        exact ⟨ret_i64 (by rw [HSC.out, HC.out]), rfl⟩
      · have HC := Lib.hid (scan_none (f := fun k => 63 - k) hlt hb)
        rw [hsub]
        clear hsub
        go_wp2_with (go_at_call 24; refine (refBit_any x (63 - k) _ hx (by omega)).mono ?_; rintro e w' ⟨rfl, rfl⟩)
        go_round
        case rel => exact ⟨k + 1, by omega, by rw [← HX.out], by rw [HSC.out, HC.out]⟩
        case measure => simp [intOf]
    · obtain rfl : k = 64 := by omega
      go_wp2
      go_ret
      exact ⟨ret_i64 (by rw [HSC.out]; rfl), rfl⟩

/-- The byte of a digit. -/
def dig (d : Nat) : Nat := if d < 10 then 48 + d else 87 + d
/-- The table of digits, as its cells. -/
def digC : Array Value := #[.int .u8 48, .int .u8 49, .int .u8 50, .int .u8 51, .int .u8 52, .int .u8 53, .int .u8 54, .int .u8 55, .int .u8 56, .int .u8 57, .int .u8 97, .int .u8 98, .int .u8 99, .int .u8 100, .int .u8 101, .int .u8 102]
theorem digC_at (d : Nat) (h : d < 16) : digC[d]? = some (.int .u8 (dig d)) := by
  have : d = 0 ∨ d = 1 ∨ d = 2 ∨ d = 3 ∨ d = 4 ∨ d = 5 ∨ d = 6 ∨ d = 7 ∨ d = 8 ∨ d = 9 ∨ d = 10 ∨ d = 11 ∨ d = 12 ∨ d = 13 ∨ d = 14 ∨ d = 15 := by omega
  rcases this with rfl | rfl | rfl | rfl | rfl | rfl | rfl | rfl | rfl | rfl | rfl | rfl | rfl | rfl | rfl | rfl <;> rfl
/-- The table is laid. -/
def Dig (w : World) : Prop := ∃ t fr, w.heap[0]? = some (.cells digC t fr)
theorem Dig.size {w : World} (h : Dig w) : 0 < w.heap.size := by
  obtain ⟨t, fr, h⟩ := h
  rcases Nat.lt_or_ge 0 w.heap.size with g | g
  · exact g
  · rw [Array.getElem?_eq_none g] at h; cases h
theorem Dig.below {w w' : World} {B : Nat} (h : Dig w) (hB : 0 < B) (hb : Below B w w') : Dig w' := by
  obtain ⟨t, fr, h⟩ := h
  exact ⟨t, fr, (hb.block _ hB).trans h⟩

/-- Which digit a byte is: 16, if none. -/
def dgt (c : Nat) : Nat := if 48 ≤ c ∧ c ≤ 57 then c - 48 else if 97 ≤ c ∧ c ≤ 102 then c - 87 else 16

theorem dgt_dig (d : Nat) (h : d < 16) : dgt (dig d) = d := by
  unfold dig dgt
  by_cases h1 : d < 10
  · rw [if_pos h1, if_pos (by omega)]; omega
  · rw [if_neg h1, if_neg (by omega), if_pos (by omega)]; omega
theorem dig_dgt (c : Nat) (h : dgt c < 16) : dig (dgt c) = c := by
  unfold dgt at h ⊢
  by_cases h1 : 48 ≤ c ∧ c ≤ 57
  · rw [if_pos h1]; unfold dig; rw [if_pos (by omega)]; omega
  · rw [if_neg h1] at h ⊢
    by_cases h2 : 97 ≤ c ∧ c ≤ 102
    · rw [if_pos h2]; unfold dig; rw [if_neg (by omega)]; omega
    · rw [if_neg h2] at h; omega
theorem dig_lt (d : Nat) (h : d < 16) : dig d < 256 := by unfold dig; split <;> omega
def dval (c : Nat) : Nat := if dgt c < 16 then dgt c else 0
def dok (c : Nat) : Bool := decide (dgt c < 16)
theorem dval_dig (d : Nat) (h : d < 16) : dval (dig d) = d := by unfold dval; rw [dgt_dig d h, if_pos h]
theorem dok_dig (d : Nat) (h : d < 16) : dok (dig d) = true := by unfold dok; rw [dgt_dig d h]; exact decide_eq_true h
theorem dval_none {c : Nat} (h : ¬ dgt c < 16) : dval c = 0 := if_neg h
theorem dok_none {c : Nat} (h : ¬ dgt c < 16) : dok c = false := decide_eq_false h
theorem dval_lt (c : Nat) : dval c < 16 := by unfold dval; split <;> omega
theorem dgt_none {c : Nat} (h : ∀ j, j < 16 → dig j ≠ c) : ¬ dgt c < 16 := fun h1 => h _ h1 (dig_dgt c h1)

theorem idx_digC (k : Nat) (hk : k < 16) (w : World) : (Instr.index 43 (.agg digC) (.int .i64 k)).run Tryd.prog w = .ok (.int .u8 (dig k)) w := by
  have : k = 0 ∨ k = 1 ∨ k = 2 ∨ k = 3 ∨ k = 4 ∨ k = 5 ∨ k = 6 ∨ k = 7 ∨ k = 8 ∨ k = 9 ∨ k = 10 ∨ k = 11 ∨ k = 12 ∨ k = 13 ∨ k = 14 ∨ k = 15 := by omega
  rcases this with rfl | rfl | rfl | rfl | rfl | rfl | rfl | rfl | rfl | rfl | rfl | rfl | rfl | rfl | rfl | rfl <;> rfl

set_option maxHeartbeats 400000 in
theorem digitOf_any (c : Nat) (w : World) (hD : Dig w) (hc : c < 256) :
    Calls Tryd.prog 27 #[.int .u8 c] w fun e w' => e = .returned (.tuple #[.int .u64 (dval c), .bool (dok c)]) ∧ w = w' := by
  obtain ⟨t, fr, hD⟩ := hD
  go_enter Tryd.func27, Tryd.ntmps27
  go_wp2_with (refine wpList_load_row rfl 43 _ rfl 0 rfl t digC fr _ hD Tryd.underlying43 rfl (by kernel_rfl) ?_)
  clear hD
  go_loop [7] (fun i => ∃ k : Nat, k ≤ 16 ∧ i = .int .i64 k ∧ ∀ j, j < k → dig j ≠ c) (fun i => 16 - (intOf i).toNat)
  case atStart => exact ⟨0, Nat.zero_le _, rfl, fun j h => absurd h (Nat.not_lt_zero j)⟩
  case round =>
    obtain ⟨k, hk, rfl, hn⟩ := hrel
    have HN := Lib.hid hn
    clear hn
    by_cases hlt : k < 16
    · have hx := idx_digC k hlt w
      have hdl := dig_lt k hlt
      by_cases hb : dig k = c
      · subst hb
        have HC := Lib.hid (dval_dig k hlt)
        have HC' := Lib.hid (dok_dig k hlt)
        go_wp2
        go_ret2
        exact ⟨by rw [HC.out, HC'.out]; rfl, rfl⟩
      · go_wp2
        go_round
        case rel =>
          refine ⟨k + 1, by omega, by go_num, fun j hj => ?_⟩
          rcases Nat.lt_or_ge j k with h | h
          · exact HN.out j h
          · obtain rfl : j = k := by omega
            exact hb
        case measure => simp [intOf]; omega
    · obtain rfl : k = 16 := by omega
      have h16 := dgt_none HN.out
      have H16 := Lib.hid h16
      clear h16
      go_wp2
      go_ret2
      exact ⟨by rw [dval_none H16.out, dok_none H16.out]; rfl, rfl⟩
end Go.Proofs.YthbodadmnhodfaaDoor
