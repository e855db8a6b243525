/- Contracts of package arena: what each call answers of an arena that reads as a list of words, and of one that is none. -/
import Derived.Test.YtffbemfgibleeaaDoorRows
import Derived.Test.YtffbemfgibleeaaDoorMem
import Derived.Deep.QuietTactic
import Derived.BigQuiet
namespace Go.Proofs.YtffbemfgibleeaaDoor
open Go.RowKit

/-- The arena in block b, whose words stand in block g. -/
structure Ar (w : World) (b g : Nat) (l : List Nat) : Prop where
  head : Blk w b 49 #[.bool true, .slice (some ⟨g, 0, none⟩) l.length l.length]
  row : Blk w g 31 (u64s l).toArray
  few : l.length ≤ 98304
  words : Words l
section
variable {w w' : World} {b g : Nat} {l : List Nat} {F : Nat → Prop}
theorem Ar.ne (h : Ar w b g l) : b ≠ g := h.head.ne h.row (by decide)
theorem Ar.keep (h : Ar w b g l) (ho : Only F w w') (hb : ¬ F b) (hg : ¬ F g) : Ar w' b g l := ⟨h.head.keep ho hb, h.row.keep ho hg, h.few, h.words⟩
theorem Ar.drewN (h : Ar w b g l) (n : Nat) : Ar (w.drewN n) b g l := ⟨h.head, h.row, h.few, h.words⟩
end

/-- What check tells. -/
def chk (len : Nat) (at_ n : Int) : Int := if n < 0 then 1 else if at_ < 0 ∨ (len : Int) - at_ < n then 2 else 0

set_option maxHeartbeats 400000 in
theorem isNone_ar (b g : Nat) (l : List Nat) (w : World) (h : Ar w b g l) :
    Calls Tryd.prog 27 #[.pointer (some ⟨b, 0, none⟩)] w fun e w' => e = .returned (.bool false) ∧ w = w' := by
  have h0 := h.head.cell 0
  simp at h0
  clear h
  go_enter Tryd.func27, Tryd.ntmps27
  go_wp2
  go_ret
  exact ⟨rfl, rfl⟩

theorem chk_1 {len : Nat} {a n : Int} (h : n < 0) : chk len a n = 1 := by unfold chk; rw [if_pos h]
theorem chk_2 {len : Nat} {a n : Int} (h : ¬ n < 0) (k : a < 0 ∨ (len : Int) - a < n) : chk len a n = 2 := by unfold chk; rw [if_neg h, if_pos k]
theorem chk_0 {len : Nat} {a n : Int} (h : ¬ n < 0) (k : ¬ (a < 0 ∨ (len : Int) - a < n)) : chk len a n = 0 := by unfold chk; rw [if_neg h, if_neg k]
/-- The error of a number below 0, else of a place. -/
def eno (n : Int) : Int := if n < 0 then 1 else 2
/-- n words stand from at on. -/
def Fits (len : Nat) (a n : Int) : Prop := 0 ≤ n ∧ 0 ≤ a ∧ n ≤ (len : Int) - a
theorem chk_ok {len : Nat} {a n : Int} (h : Fits len a n) : chk len a n = 0 := chk_0 (by unfold Fits at h; omega) (by unfold Fits at h; omega)
theorem chk_no {len : Nat} {a n : Int} (h : ¬ Fits len a n) : chk len a n ≠ 0 := by
  unfold Fits at h
  unfold chk
  split
  · decide
  · rw [if_pos (by omega)]; decide

set_option maxHeartbeats 400000 in
theorem check_ar (b g : Nat) (l : List Nat) (a n : Int) (w : World) (h : Ar w b g l) (ha : a ≤ 9223372036854775807) :
    Calls Tryd.prog 41 #[.pointer (some ⟨b, 0, none⟩), .int .i64 a, .int .i64 n] w fun e w' => e = .returned (.int .i64 (chk l.length a n)) ∧ w = w' := by
  have h1 := h.head.cell 1
  simp at h1
  have hl := h.few
  by_cases hn : n < 0
  · have HC := Lib.hid (chk_1 (len := l.length) (a := a) hn)
    go_enter Tryd.func41, Tryd.ntmps41
    go_wp2_with (go_at_call 27; refine (isNone_ar b g l _ h).mono ?_; rintro e w' ⟨rfl, rfl⟩)
    go_ret
    exact ⟨ret_int HC.out.symm, rfl⟩
  · by_cases h2 : a < 0
    · have HC := Lib.hid (chk_2 (len := l.length) (a := a) hn (.inl h2))
      go_enter Tryd.func41, Tryd.ntmps41
      go_wp2_with (go_at_call 27; refine (isNone_ar b g l _ h).mono ?_; rintro e w' ⟨rfl, rfl⟩)
      go_ret
      exact ⟨ret_int HC.out.symm, rfl⟩
    · by_cases h3 : (l.length : Int) - a < n
      · have HC := Lib.hid (chk_2 (len := l.length) (a := a) hn (.inr h3))
        go_enter Tryd.func41, Tryd.ntmps41
        go_wp2_with (go_at_call 27; refine (isNone_ar b g l _ h).mono ?_; rintro e w' ⟨rfl, rfl⟩)
        go_ret
        exact ⟨ret_int HC.out.symm, rfl⟩
      · have HC := Lib.hid (chk_0 (len := l.length) (a := a) hn (by omega))
        go_enter Tryd.func41, Tryd.ntmps41
        go_wp2_with (go_at_call 27; refine (isNone_ar b g l _ h).mono ?_; rintro e w' ⟨rfl, rfl⟩)
        go_ret
        exact ⟨ret_int HC.out.symm, rfl⟩

/-- Where a row of n words from a on begins: a cut of no words keeps the row's own beginning. -/
def rof (a n : Nat) : Nat := if n = 0 then 0 else a
theorem rof_pos {a n : Nat} (h : 0 < n) : rof a n = a := if_neg (by omega)

set_option maxHeartbeats 400000 in
theorem row_ar (b g : Nat) (l : List Nat) (a n : Nat) (w : World) (h : Ar w b g l) (hf : a + n ≤ l.length) :
    Calls Tryd.prog 28 #[.pointer (some ⟨b, 0, none⟩), .int .i64 a, .int .i64 n] w fun e w' => e = .returned (.slice (some ⟨g, rof a n, none⟩) n n) ∧ w = w' := by
  have h1 := h.head.cell 1
  simp at h1
  have hl := h.few
  by_cases h0 : n = 0
  · subst h0
    go_enter Tryd.func28, Tryd.ntmps28
    go_wp2
    go_ret
    exact ⟨rfl, rfl⟩
  · have HR := Lib.hid (rof_pos (a := a) (Nat.pos_of_ne_zero h0))
    have h0' : (n == 0) = false := by simpa using h0
    go_enter Tryd.func28, Tryd.ntmps28
    go_wp2
    go_ret
    exact ⟨by rw [HR.out]; show Ending.returned (Value.slice (some ⟨g, a, none⟩) (a + n - a) (a + n - a)) = _; rw [Nat.add_sub_cancel_left], rfl⟩

set_option maxHeartbeats 400000 in
theorem len_ar (b g : Nat) (l : List Nat) (w : World) (h : Ar w b g l) :
    Calls Tryd.prog 31 #[.pointer (some ⟨b, 0, none⟩)] w fun e w' => e = .returned (.int .i64 (l.length : Nat)) ∧ w = w' := by
  have h1 := h.head.cell 1
  simp at h1
  go_enter Tryd.func31, Tryd.ntmps31
  go_wp2_with (go_at_call 27; refine (isNone_ar b g l _ h).mono ?_; rintro e w' ⟨rfl, rfl⟩)
  go_ret
  exact ⟨rfl, rfl⟩

set_option maxHeartbeats 400000 in
theorem read_ar (b g : Nat) (l : List Nat) (a : Nat) (w : World) (h : Ar w b g l) (ha : a < l.length) :
    Calls Tryd.prog 22 #[.pointer (some ⟨b, 0, none⟩), .int .i64 a] w fun e w' => e = .returned (.tuple #[.int .u64 (wd l a : Nat), .int .i64 0]) ∧ w = w' := by
  have h1 := h.head.cell 1
  simp at h1
  have hl := h.few
  have hc : w.cell? ⟨g, a, none⟩ = some (.int .u64 (wd l a : Nat)) := by rw [h.row.cell]; simpa using u64s_wd l a ha
  have HK := Lib.hid (chk_ok (len := l.length) (a := a) (n := 1) ⟨by omega, by omega, by omega⟩)
  go_enter Tryd.func22, Tryd.ntmps22
  go_wp2_with (go_at_call 41; refine (check_ar b g l _ _ _ h (by omega)).mono ?_; rw [HK.out]; rintro e w' ⟨rfl, rfl⟩)
  go_ret2
  exact ⟨rfl, rfl⟩

set_option maxHeartbeats 400000 in
theorem read_ar_no (b g : Nat) (l : List Nat) (a : Int) (w : World) (h : Ar w b g l) (ha : a ≤ 9223372036854775807) (hn : ¬ (0 ≤ a ∧ a < l.length)) :
    Calls Tryd.prog 22 #[.pointer (some ⟨b, 0, none⟩), .int .i64 a] w fun e w' => e = .returned (.tuple #[.int .u64 0, .int .i64 2]) ∧ w = w' := by
  have HK := Lib.hid (chk_2 (len := l.length) (a := a) (n := 1) (by omega) (by omega))
  go_enter Tryd.func22, Tryd.ntmps22
  go_wp2_with (go_at_call 41; refine (check_ar b g l _ _ _ h (by omega)).mono ?_; rw [HK.out]; rintro e w' ⟨rfl, rfl⟩)
  go_ret2
  exact ⟨rfl, rfl⟩

theorem Ar.set {w : World} {b g : Nat} {l : List Nat} (h : Ar w b g l) (a x : Nat) (hx : x < full) : Ar (w.setCell ⟨g, a, none⟩ (.int .u64 (x : Nat))) b g (l.set a x) := by
  refine ⟨?_, ?_, by simpa using h.few, h.words.set a x hx⟩
  · have := h.head.other (p := ⟨g, a, none⟩) (fun e => h.ne e.symm) (.int .u64 (x : Nat))
    simpa using this
  · have := h.row.put a (.int .u64 (x : Nat))
    rw [List.setIfInBounds_toArray, u64s_set] at this
    exact this

set_option maxHeartbeats 400000 in
theorem write_ar (b g : Nat) (l : List Nat) (a x : Nat) (w : World) (h : Ar w b g l) (ha : a < l.length) (hx : x < full) :
    Calls Tryd.prog 38 #[.pointer (some ⟨b, 0, none⟩), .int .i64 a, .int .u64 x] w fun e w' => e = .returned (.int .i64 0) ∧ Ar w' b g (l.set a x) ∧ Only (isb g) w w' := by
  have h1 := h.head.cell 1
  simp at h1
  have hl := h.few
  have hc : w.cell? ⟨g, a, none⟩ = some (.int .u64 (wd l a : Nat)) := by rw [h.row.cell]; simpa using u64s_wd l a ha
  have hz := h.row.free a
  have HK := Lib.hid (chk_ok (len := l.length) (a := a) (n := 1) ⟨by omega, by omega, by omega⟩)
  go_enter Tryd.func38, Tryd.ntmps38
  go_wp2_with (go_at_call 41; refine (check_ar b g l _ _ _ h (by omega)).mono ?_; rw [HK.out]; rintro e w' ⟨rfl, rfl⟩)
  go_ret
  exact ⟨rfl, h.set a x hx, only_set _ _ _ _⟩

set_option maxHeartbeats 400000 in
theorem write_ar_no (b g : Nat) (l : List Nat) (a : Int) (x : Int) (w : World) (h : Ar w b g l) (ha : a ≤ 9223372036854775807) (hn : ¬ (0 ≤ a ∧ a < l.length)) :
    Calls Tryd.prog 38 #[.pointer (some ⟨b, 0, none⟩), .int .i64 a, .int .u64 x] w fun e w' => e = .returned (.int .i64 2) ∧ w = w' := by
  have HK := Lib.hid (chk_2 (len := l.length) (a := a) (n := 1) (by omega) (by omega))
  go_enter Tryd.func38, Tryd.ntmps38
  go_wp2_with (go_at_call 41; refine (check_ar b g l _ _ _ h (by omega)).mono ?_; rw [HK.out]; rintro e w' ⟨rfl, rfl⟩)
  go_ret
  exact ⟨rfl, rfl⟩
end Go.Proofs.YtffbemfgibleeaaDoor
