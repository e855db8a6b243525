/- Contracts of package arena: what each call answers of an arena that reads as a list of words, and of one that is none. -/
import Derived.Test.YtoeccbbjncgmlaaDoorRows
import Derived.Test.YtoeccbbjncgmlaaDoorMem
import Derived.Deep.QuietTactic
import Derived.BigQuiet
import Derived.Laws.MakeOwn
namespace Go.Proofs.YtoeccbbjncgmlaaDoor
open Go.RowKit

/-- The arena in block b, whose words stand in block g. -/
structure Ar (w : World) (b g : Nat) (l : List Nat) : Prop where
  head : Blk w b 74 #[.bool true, .slice (some ⟨g, 0, none⟩) l.length l.length]
  row : Blk w g 45 (u64s l).toArray
  few : l.length ≤ 98304
  words : Words l
section
variable {w w' : World} {b g : Nat} {l : List Nat} {F : Nat → Prop}
theorem Ar.ne (h : Ar w b g l) : b ≠ g := h.head.ne h.row (by decide)
theorem Ar.keep (h : Ar w b g l) (ho : Only F w w') (hb : ¬ F b) (hg : ¬ F g) : Ar w' b g l := ⟨h.head.keep ho hb, h.row.keep ho hg, h.few, h.words⟩
theorem Ar.drewN (h : Ar w b g l) (n : Nat) : Ar (w.drewN n) b g l := ⟨h.head, h.row, h.few, h.words⟩
end

/-- What check tells. -/
def chk (len : Nat) (at_ n : Int) : Int := if n < 0 then 1 else if at_ < 0 ∨ (len : Int) - at_ < n then 2 else 0

set_option maxHeartbeats 400000 in
theorem isNone_ar (b g : Nat) (l : List Nat) (w : World) (h : Ar w b g l) :
    Calls Tryd.prog 33 #[.pointer (some ⟨b, 0, none⟩)] w fun e w' => e = .returned (.bool false) ∧ w = w' := by
  have h0 := h.head.cell 0
  simp at h0
  clear h
  go_enter Tryd.func33, Tryd.ntmps33
  go_wp2
  go_ret
  exact ⟨rfl, rfl⟩

theorem chk_1 {len : Nat} {a n : Int} (h : n < 0) : chk len a n = 1 := by unfold chk; rw [if_pos h]
theorem chk_2 {len : Nat} {a n : Int} (h : ¬ n < 0) (k : a < 0 ∨ (len : Int) - a < n) : chk len a n = 2 := by unfold chk; rw [if_neg h, if_pos k]
theorem chk_0 {len : Nat} {a n : Int} (h : ¬ n < 0) (k : ¬ (a < 0 ∨ (len : Int) - a < n)) : chk len a n = 0 := by unfold chk; rw [if_neg h, if_neg k]
/-- The error of a number below 0, else of a place. -/
def eno (n : Int) : Int := if n < 0 then 1 else 2
/-- n words stand from at on. -/
def FitsA (len : Nat) (a n : Int) : Prop := 0 ≤ n ∧ 0 ≤ a ∧ n ≤ (len : Int) - a
theorem chk_ok {len : Nat} {a n : Int} (h : FitsA len a n) : chk len a n = 0 := chk_0 (by unfold FitsA at h; omega) (by unfold FitsA at h; omega)
theorem chk_no {len : Nat} {a n : Int} (h : ¬ FitsA len a n) : chk len a n ≠ 0 := by
  unfold FitsA at h
  unfold chk
  split
  · decide
  · rw [if_pos (by omega)]; decide

set_option maxHeartbeats 400000 in
theorem check_ar (b g : Nat) (l : List Nat) (a n : Int) (w : World) (h : Ar w b g l) (ha : a ≤ 9223372036854775807) :
    Calls Tryd.prog 32 #[.pointer (some ⟨b, 0, none⟩), .int .i64 a, .int .i64 n] w fun e w' => e = .returned (.int .i64 (chk l.length a n)) ∧ w = w' := by
  have h1 := h.head.cell 1
  simp at h1
  have hl := h.few
  by_cases hn : n < 0
  · have HC := Lib.hid (chk_1 (len := l.length) (a := a) hn)
    go_enter Tryd.func32, Tryd.ntmps32
    go_wp2_with (go_at_call 33; refine (isNone_ar b g l _ h).mono ?_; rintro e w' ⟨rfl, rfl⟩)
    go_ret
    exact ⟨ret_int HC.out.symm, rfl⟩
  · by_cases h2 : a < 0
    · have HC := Lib.hid (chk_2 (len := l.length) (a := a) hn (.inl h2))
      go_enter Tryd.func32, Tryd.ntmps32
      go_wp2_with (go_at_call 33; refine (isNone_ar b g l _ h).mono ?_; rintro e w' ⟨rfl, rfl⟩)
      go_ret
      exact ⟨ret_int HC.out.symm, rfl⟩
    · by_cases h3 : (l.length : Int) - a < n
      · have HC := Lib.hid (chk_2 (len := l.length) (a := a) hn (.inr h3))
        go_enter Tryd.func32, Tryd.ntmps32
        go_wp2_with (go_at_call 33; refine (isNone_ar b g l _ h).mono ?_; rintro e w' ⟨rfl, rfl⟩)
        go_ret
        exact ⟨ret_int HC.out.symm, rfl⟩
      · have HC := Lib.hid (chk_0 (len := l.length) (a := a) hn (by omega))
        go_enter Tryd.func32, Tryd.ntmps32
        go_wp2_with (go_at_call 33; refine (isNone_ar b g l _ h).mono ?_; rintro e w' ⟨rfl, rfl⟩)
        go_ret
        exact ⟨ret_int HC.out.symm, rfl⟩

/-- Where a row of n words from a on begins: a cut of no words keeps the row's own beginning. -/
def rof (a n : Nat) : Nat := if n = 0 then 0 else a
theorem rof_pos {a n : Nat} (h : 0 < n) : rof a n = a := if_neg (by omega)

set_option maxHeartbeats 400000 in
theorem row_ar (b g : Nat) (l : List Nat) (a n : Nat) (w : World) (h : Ar w b g l) (hf : a + n ≤ l.length) :
    Calls Tryd.prog 69 #[.pointer (some ⟨b, 0, none⟩), .int .i64 a, .int .i64 n] w fun e w' => e = .returned (.slice (some ⟨g, rof a n, none⟩) n n) ∧ w = w' := by
  have h1 := h.head.cell 1
  simp at h1
  have hl := h.few
  by_cases h0 : n = 0
  · subst h0
    go_enter Tryd.func69, Tryd.ntmps69
    go_wp2
    go_ret
    exact ⟨rfl, rfl⟩
  · have HR := Lib.hid (rof_pos (a := a) (Nat.pos_of_ne_zero h0))
    have h0' : (n == 0) = false := by simpa using h0
    go_enter Tryd.func69, Tryd.ntmps69
    go_wp2
    go_ret
    exact ⟨by rw [HR.out]; show Ending.returned (Value.slice (some ⟨g, a, none⟩) (a + n - a) (a + n - a)) = _; rw [Nat.add_sub_cancel_left], rfl⟩

set_option maxHeartbeats 400000 in
theorem len_ar (b g : Nat) (l : List Nat) (w : World) (h : Ar w b g l) :
    Calls Tryd.prog 14 #[.pointer (some ⟨b, 0, none⟩)] w fun e w' => e = .returned (.int .i64 (l.length : Nat)) ∧ w = w' := by
  have h1 := h.head.cell 1
  simp at h1
  go_enter Tryd.func14, Tryd.ntmps14
  go_wp2_with (go_at_call 33; refine (isNone_ar b g l _ h).mono ?_; rintro e w' ⟨rfl, rfl⟩)
  go_ret
  exact ⟨rfl, rfl⟩

set_option maxHeartbeats 400000 in
theorem read_ar (b g : Nat) (l : List Nat) (a : Nat) (w : World) (h : Ar w b g l) (ha : a < l.length) :
    Calls Tryd.prog 12 #[.pointer (some ⟨b, 0, none⟩), .int .i64 a] w fun e w' => e = .returned (.tuple #[.int .u64 (wd l a : Nat), .int .i64 0]) ∧ w = w' := by
  have h1 := h.head.cell 1
  simp at h1
  have hl := h.few
  have hc : w.cell? ⟨g, a, none⟩ = some (.int .u64 (wd l a : Nat)) := by rw [h.row.cell]; simpa using u64s_wd l a ha
  have HK := Lib.hid (chk_ok (len := l.length) (a := a) (n := 1) ⟨by omega, by omega, by omega⟩)
  go_enter Tryd.func12, Tryd.ntmps12
  go_wp2_with (go_at_call 32; refine (check_ar b g l _ _ _ h (by omega)).mono ?_; rw [HK.out]; rintro e w' ⟨rfl, rfl⟩)
  go_ret2
  exact ⟨rfl, rfl⟩

set_option maxHeartbeats 400000 in
theorem read_ar_no (b g : Nat) (l : List Nat) (a : Int) (w : World) (h : Ar w b g l) (ha : a ≤ 9223372036854775807) (hn : ¬ (0 ≤ a ∧ a < l.length)) :
    Calls Tryd.prog 12 #[.pointer (some ⟨b, 0, none⟩), .int .i64 a] w fun e w' => e = .returned (.tuple #[.int .u64 0, .int .i64 2]) ∧ w = w' := by
  have HK := Lib.hid (chk_2 (len := l.length) (a := a) (n := 1) (by omega) (by omega))
  go_enter Tryd.func12, Tryd.ntmps12
  go_wp2_with (go_at_call 32; refine (check_ar b g l _ _ _ h (by omega)).mono ?_; rw [HK.out]; rintro e w' ⟨rfl, rfl⟩)
  go_ret2
  exact ⟨rfl, rfl⟩

theorem Ar.set {w : World} {b g : Nat} {l : List Nat} (h : Ar w b g l) (a x : Nat) (hx : x < full) : Ar (w.setCell ⟨g, a, none⟩ (.int .u64 (x : Nat))) b g (l.set a x) := by
  refine ⟨?_, ?_, by simpa using h.few, h.words.set a x hx⟩
  · have := h.head.other (p := ⟨g, a, none⟩) (fun e => h.ne e.symm) (.int .u64 (x : Nat))
    simpa using this
  · have := h.row.put a (.int .u64 (x : Nat))
    rw [List.setIfInBounds_toArray, u64s_set] at this
    exact this

set_option maxHeartbeats 400000 in
theorem write_ar (b g : Nat) (l : List Nat) (a x : Nat) (w : World) (h : Ar w b g l) (ha : a < l.length) (hx : x < full) :
    Calls Tryd.prog 50 #[.pointer (some ⟨b, 0, none⟩), .int .i64 a, .int .u64 x] w fun e w' => e = .returned (.int .i64 0) ∧ Ar w' b g (l.set a x) ∧ Only (isb g) w w' := by
  have h1 := h.head.cell 1
  simp at h1
  have hl := h.few
  have hc : w.cell? ⟨g, a, none⟩ = some (.int .u64 (wd l a : Nat)) := by rw [h.row.cell]; simpa using u64s_wd l a ha
  have hz := h.row.free a
  have HK := Lib.hid (chk_ok (len := l.length) (a := a) (n := 1) ⟨by omega, by omega, by omega⟩)
  go_enter Tryd.func50, Tryd.ntmps50
  go_wp2_with (go_at_call 32; refine (check_ar b g l _ _ _ h (by omega)).mono ?_; rw [HK.out]; rintro e w' ⟨rfl, rfl⟩)
  go_ret
  exact ⟨rfl, h.set a x hx, only_set _ _ _ _⟩

set_option maxHeartbeats 400000 in
theorem write_ar_no (b g : Nat) (l : List Nat) (a : Int) (x : Int) (w : World) (h : Ar w b g l) (ha : a ≤ 9223372036854775807) (hn : ¬ (0 ≤ a ∧ a < l.length)) :
    Calls Tryd.prog 50 #[.pointer (some ⟨b, 0, none⟩), .int .i64 a, .int .u64 x] w fun e w' => e = .returned (.int .i64 2) ∧ w = w' := by
  have HK := Lib.hid (chk_2 (len := l.length) (a := a) (n := 1) (by omega) (by omega))
  go_enter Tryd.func50, Tryd.ntmps50
  go_wp2_with (go_at_call 32; refine (check_ar b g l _ _ _ h (by omega)).mono ?_; rw [HK.out]; rintro e w' ⟨rfl, rfl⟩)
  go_ret
  exact ⟨rfl, rfl⟩
end Go.Proofs.YtoeccbbjncgmlaaDoor

/- Contracts of package arena, further: the calls that make, move and fill. -/
namespace Go.Proofs.YtoeccbbjncgmlaaDoor
open Go.RowKit

theorem info_u64 : (Tryd.prog.info? 45).map (fun i => (i.zero, i.size, i.bytes)) = some (some (.int .u64 0), 1, 8) := by kernel_rfl
theorem size_u64 : (Tryd.prog.info? 45).map (·.size) = some 1 := by kernel_rfl
/-- make([]uint64, n). -/
theorem make_u64 (n : Nat) (hn : n ≤ 17592186044416) (w : World) : (Instr.makeSlice 72 (.int .i64 (n : Int)) (.int .i64 (n : Int))).run Tryd.prog w = .ok (.slice (some ⟨w.heap.size, 0, none⟩) n n) (w.alloc (.cells (u64s (List.replicate n 0)).toArray 45)) := by
  obtain ⟨i0, hi0, hz0, hz1, hz2⟩ := info_parts info_u64
  have h := run_make (P := Tryd.prog) w 72 45 i0 _ Tryd.underlying72 hi0 hz0 .i64 .i64 n n (by omega) (Int.le_refl _) (by rw [hz2]; omega) (by omega)
  rw [h]
  simp only [Int.toNat_natCast, hz1, Nat.mul_one]
  have e : madeCells (Value.int .u64 0).cells n = (u64s (List.replicate n 0)).toArray := by
    apply Array.ext'
    show (madeCells #[.int .u64 0] n).toList = _
    rw [toList_madeCells_one]
    simp [u64s]
  rw [e]

theorem info_ar : (Tryd.prog.info? 74).map (·.size) = some 2 := by kernel_rfl

set_option maxHeartbeats 400000 in
theorem new_any (n : Nat) (w : World) (hn : n ≤ 98304) :
    Calls Tryd.prog 31 #[.int .i64 n] w fun e w' => ∃ b g, e = .returned (.tuple #[.pointer (some ⟨b, 0, none⟩), .int .i64 0]) ∧ w.heap.size ≤ b ∧ w.heap.size ≤ g ∧ Ar w' b g (List.replicate n 0) ∧ Only nob w w' := by
  have hmk := make_u64 n (by omega)
  have hw : Words (List.replicate n 0) := fun x hx => by rw [List.eq_of_mem_replicate hx]; decide
  obtain ⟨L, hL⟩ : ∃ L, L = List.replicate n 0 := ⟨_, rfl⟩
  have hlen : L.length = n := by rw [hL]; simp
  rw [← hL] at hmk hw ⊢
  have HL := Lib.hid hlen
  clear hL hlen
  go_enter Tryd.func31, Tryd.ntmps31
  go_wp2
  go_ret2
  refine ⟨_, w.heap.size, rfl, ?_, Nat.le_refl _, ⟨?_, (Blk.new w _ _).alloc _, by rw [HL.out]; exact hn, hw⟩, ((Only.refl nob w).alloc _).alloc _⟩
  · simp
  · rw [HL.out]; exact Blk.newAt _ _ _ _ (by simp)

set_option maxHeartbeats 400000 in
theorem new_no (n : Int) (w : World) (hn : n < 0 ∨ 98304 < n) :
    Calls Tryd.prog 31 #[.int .i64 n] w fun e w' => e = .returned (.tuple #[.pointer none, .int .i64 1]) ∧ w = w' := by
  rcases hn with hn | hn
  · go_enter Tryd.func31, Tryd.ntmps31
    go_wp2
    go_ret2
    exact ⟨rfl, rfl⟩
  · have : ¬ n < 0 := by omega
    go_enter Tryd.func31, Tryd.ntmps31
    go_wp2
    go_ret2
    exact ⟨rfl, rfl⟩

/-- The words from f on, n of them. -/
def part (l : List Nat) (f n : Nat) : List Nat := (l.drop f).take n
theorem part_len (l : List Nat) (f n : Nat) (h : f + n ≤ l.length) : (part l f n).length = n := by simp [part]; omega
theorem part_get (l : List Nat) (f n k : Nat) (h : f + n ≤ l.length) (hk : k < n) : (part l f n)[k]? = some (wd l (f + k)) := by
  rw [wd_get l (f + k) (by omega)]
  simp [part, hk, List.getElem?_drop, List.getElem?_eq_getElem (show f + k < l.length by omega)]
theorem part_cell (w : World) (b g : Nat) (l : List Nat) (h : Ar w b g l) (f n : Nat) (hf : f + n ≤ l.length) (j : Nat) (v : Value) (hv : (u64s (part l f n))[j]? = some v) : w.cell? ⟨g, f + j, none⟩ = some v := by
  have hj : j < n := by
    rcases Nat.lt_or_ge j n with h' | h'
    · exact h'
    · rw [List.getElem?_eq_none (by rw [u64s_len, part_len l f n hf]; exact h')] at hv; cases hv
  rw [h.row.cell]
  have e : (u64s (part l f n))[j]? = some (.int .u64 (wd l (f + j) : Nat)) := by
    unfold u64s
    rw [List.getElem?_map, part_get l f n j hf hj]
    rfl
  rw [e] at hv
  rw [← hv]
  simpa using u64s_wd l (f + j) (by omega)

theorem fits_two {len : Nat} {a n : Int} (h : ¬ FitsA len a n) (hn : ¬ n < 0) : a < 0 ∨ (len : Int) - a < n := by unfold FitsA at h; omega

set_option maxHeartbeats 400000 in
theorem fill_ar_no (b g : Nat) (l : List Nat) (a n x : Int) (w : World) (h : Ar w b g l) (ha : a ≤ 9223372036854775807) (hn : ¬ FitsA l.length a n) :
    Calls Tryd.prog 49 #[.pointer (some ⟨b, 0, none⟩), .int .i64 a, .int .i64 n, .int .u64 x] w fun e w' => e = .returned (.int .i64 (eno n)) ∧ w = w' := by
  have HC1 := Lib.hid (check_ar b g l a n w h ha)
  by_cases hn0 : n < 0
  case' pos =>
    have HK1 := Lib.hid (chk_1 (len := l.length) (a := a) hn0)
    rw [show eno n = 1 from if_pos hn0]
  case' neg =>
    have HK1 := Lib.hid (chk_2 hn0 (fits_two hn hn0))
    rw [show eno n = 2 from if_neg hn0]
  all_goals
    clear hn
    go_enter Tryd.func49, Tryd.ntmps49
    go_wp2_with fail
    refine HC1.out.mono ?_
    rw [HK1.out]
    rintro e w' ⟨rfl, rfl⟩
    go_wp2
    go_ret
    exact ⟨rfl, rfl⟩

/-- An arena whose words from a on, k of them, are x. -/
def filled (l : List Nat) (a k x : Nat) : List Nat := splice l a (List.replicate k x)
theorem filled_len (l : List Nat) (a k x : Nat) (h : a + k ≤ l.length) : (filled l a k x).length = l.length := by unfold filled; exact splice_len _ _ _ (by simpa using h)
theorem filled_set (l : List Nat) (a k x : Nat) (h : a + k < l.length) : (filled l a k x).set (a + k) x = filled l a (k + 1) x := by
  unfold filled
  have := splice_snoc l a (List.replicate k x) x (by simpa using h)
  rw [List.length_replicate, ← List.replicate_succ'] at this
  exact this
theorem filled_zero (l : List Nat) (a x : Nat) : filled l a 0 x = l := by unfold filled; exact splice_nil l a

set_option maxHeartbeats 1000000 in
theorem fill_ar (b g : Nat) (l : List Nat) (a n x : Nat) (w : World) (h : Ar w b g l) (ha : a + n ≤ l.length) (hx : x < full) :
    Calls Tryd.prog 49 #[.pointer (some ⟨b, 0, none⟩), .int .i64 a, .int .i64 n, .int .u64 x] w fun e w' => e = .returned (.int .i64 0) ∧ Ar w' b g (filled l a n x) ∧ Only (isb g) w w' := by
  have hl := h.few
  have HK1 := Lib.hid (chk_ok (len := l.length) (a := a) (n := n) ⟨by omega, by omega, by omega⟩)
  have HC1 := Lib.hid (check_ar b g l a n w h (by omega))
  have HR1 := Lib.hid (row_ar b g l a n w h ha)
  have HA := Lib.hid h
  clear h
  go_enter Tryd.func49, Tryd.ntmps49
  go_wp2_with fail
  refine HC1.out.mono ?_
  rw [HK1.out]
  rintro e w' ⟨rfl, rfl⟩
  go_wp2_with fail
  refine HR1.out.mono ?_
  rintro e w' ⟨rfl, rfl⟩
  go_wp2_with fail
  go_loopw [11, 25] (fun _ i wr => ∃ k : Nat, k ≤ n ∧ i = .int .i64 k ∧ Ar wr b g (filled l a k x) ∧ Only (isb g) w wr) (fun _ i _ => n - (intOf i).toNat)
  case atStart => exact ⟨0, Nat.zero_le _, rfl, by rw [filled_zero]; exact HA.out, Only.refl _ _⟩
  case round =>
    obtain ⟨k, hk, rfl, hA, hO⟩ := hrel
    have HO := Lib.hid hO
    by_cases hlt : k < n
    · have HR := Lib.hid (rof_pos (a := a) (n := n) (by omega))
      have hc : wr.cell? ⟨g, a + k, none⟩ = some (.int .u64 (wd (filled l a k x) (a + k) : Nat)) := by
        rw [hA.row.cell]; simpa using u64s_wd (filled l a k x) (a + k) (by rw [filled_len _ _ _ _ (by omega)]; omega)
      have hz := hA.row.free (a + k)
      have hA' := hA.set (a + k) x hx
      rw [filled_set _ _ _ _ (by omega)] at hA'
      have HB := Lib.hid hA'
      have HA2 := Lib.hid hA
      clear hA hA' hO
      rw [HR.out]
      go_wp2
      go_roundw
      case rel => exact ⟨k + 1, by omega, by go_num, HB.out, HO.out.trans (only_set _ _ _ _)⟩
      case measure => simp [intOf]; omega
    · obtain rfl : k = n := by omega
      have HA2 := Lib.hid hA
      clear hA hO
      go_wp2
      go_ret
      exact ⟨rfl, HA2.out, HO.out⟩
end Go.Proofs.YtoeccbbjncgmlaaDoor

/- Contracts of the document's own answers for arenas. -/
namespace Go.Proofs.YtoeccbbjncgmlaaDoor
open Go.RowKit

/-- A list whose words from t on are k of those from f on. -/
def moved (l : List Nat) (t f k : Nat) : List Nat := splice l t (part l f k)
theorem moved_len (l : List Nat) (t f k : Nat) (h : t + k ≤ l.length) (h' : f + k ≤ l.length) : (moved l t f k).length = l.length := splice_len _ _ _ (by rw [part_len l f k h']; exact h)
theorem moved_zero (l : List Nat) (t f : Nat) : moved l t f 0 = l := by unfold moved part; simp [splice]
theorem part_snoc (l : List Nat) (f k : Nat) (h : f + k < l.length) : part l f (k + 1) = part l f k ++ [wd l (f + k)] := by
  unfold part
  rw [List.take_add_one, wd_get l _ h]
  simp [List.getElem?_drop, h]
theorem moved_set (l : List Nat) (t f k : Nat) (h : t + k < l.length) (h' : f + k < l.length) : (moved l t f k).set (t + k) (wd l (f + k)) = moved l t f (k + 1) := by
  unfold moved
  rw [part_snoc l f k h']
  have e := part_len l f k (by omega)
  have := splice_snoc l t (part l f k) (wd l (f + k)) (by rw [e]; exact h)
  rw [e] at this
  exact this

end Go.Proofs.YtoeccbbjncgmlaaDoor

/- Contracts of package arena for what is no arena; what the statements' awake answers. -/
namespace Go.Proofs.YtoeccbbjncgmlaaDoor
open Go.RowKit

/-- Nobody's arena: nil, or one that no call made. -/
def NoAr (w : World) (v : Value) : Prop := v = .pointer none ∨ ∃ b, v = .pointer (some ⟨b, 0, none⟩) ∧ Blk w b 74 #[.bool false, .slice none 0 0]

set_option maxHeartbeats 400000 in
theorem isNone_no (v : Value) (w : World) (h : NoAr w v) :
    Calls Tryd.prog 33 #[v] w fun e w' => e = .returned (.bool true) ∧ w = w' := by
  rcases h with rfl | ⟨b, rfl, h⟩
  · go_enter Tryd.func33, Tryd.ntmps33
    go_wp2
    go_ret
    exact ⟨rfl, rfl⟩
  · have h0 := h.cell 0
    simp at h0
    clear h
    go_enter Tryd.func33, Tryd.ntmps33
    go_wp2
    go_ret
    exact ⟨rfl, rfl⟩

set_option maxHeartbeats 400000 in
theorem check_none (v : Value) (a n : Int) (w : World) (h : NoAr w v) :
    Calls Tryd.prog 32 #[v, .int .i64 a, .int .i64 n] w fun e w' => e = .returned (.int .i64 10) ∧ w = w' := by
  go_enter Tryd.func32, Tryd.ntmps32
  go_wp2_with (go_at_call 33; refine (isNone_no v _ h).mono ?_; rintro e w' ⟨rfl, rfl⟩)
  go_ret
  exact ⟨rfl, rfl⟩

set_option maxHeartbeats 400000 in
theorem len_none (v : Value) (w : World) (h : NoAr w v) :
    Calls Tryd.prog 14 #[v] w fun e w' => e = .returned (.int .i64 0) ∧ w = w' := by
  go_enter Tryd.func14, Tryd.ntmps14
  go_wp2_with (go_at_call 33; refine (isNone_no v _ h).mono ?_; rintro e w' ⟨rfl, rfl⟩)
  go_ret
  exact ⟨rfl, rfl⟩

set_option maxHeartbeats 400000 in
theorem read_none (v : Value) (a : Int) (w : World) (h : NoAr w v) :
    Calls Tryd.prog 12 #[v, .int .i64 a] w fun e w' => e = .returned (.tuple #[.int .u64 0, .int .i64 10]) ∧ w = w' := by
  go_enter Tryd.func12, Tryd.ntmps12
  go_wp2_with (go_at_call 32; refine (check_none v _ _ _ h).mono ?_; rintro e w' ⟨rfl, rfl⟩)
  go_ret2
  exact ⟨rfl, rfl⟩

set_option maxHeartbeats 400000 in
theorem write_none (v : Value) (a x : Int) (w : World) (h : NoAr w v) :
    Calls Tryd.prog 50 #[v, .int .i64 a, .int .u64 x] w fun e w' => e = .returned (.int .i64 10) ∧ w = w' := by
  go_enter Tryd.func50, Tryd.ntmps50
  go_wp2_with (go_at_call 32; refine (check_none v _ _ _ h).mono ?_; rintro e w' ⟨rfl, rfl⟩)
  go_ret
  exact ⟨rfl, rfl⟩

set_option maxHeartbeats 400000 in
theorem fill_none (v : Value) (a n x : Int) (w : World) (h : NoAr w v) :
    Calls Tryd.prog 49 #[v, .int .i64 a, .int .i64 n, .int .u64 x] w fun e w' => e = .returned (.int .i64 10) ∧ w = w' := by
  go_enter Tryd.func49, Tryd.ntmps49
  go_wp2_with (go_at_call 32; refine (check_none v _ _ _ h).mono ?_; rintro e w' ⟨rfl, rfl⟩)
  go_ret
  exact ⟨rfl, rfl⟩
end Go.Proofs.YtoeccbbjncgmlaaDoor
