/- Contracts of package arena: what each call answers of an arena that reads as a list of words, and of one that is none. -/
import Derived.Test.YtciidodmhigpdaaGreatDoorRows
import Derived.Test.YtciidodmhigpdaaGreatDoorMem
import Derived.Deep.QuietTactic
import Derived.BigQuiet
import Derived.Laws.MakeOwn
namespace Go.Proofs.YtciidodmhigpdaaGreatDoor
open Go.RowKit

/-- The arena in block b, whose words stand in block g. -/
structure Ar (w : World) (b g : Nat) (l : List Nat) : Prop where
  head : Blk w b 92 #[.bool true, .slice (some ⟨g, 0, none⟩) l.length l.length]
  row : Blk w g 48 (u64s l).toArray
  few : l.length ≤ 98304
  words : Words l
section
variable {w w' : World} {b g : Nat} {l : List Nat} {F : Nat → Prop}
theorem Ar.ne (h : Ar w b g l) : b ≠ g := h.head.ne h.row (by decide)
theorem Ar.keep (h : Ar w b g l) (ho : Only F w w') (hb : ¬ F b) (hg : ¬ F g) : Ar w' b g l := ⟨h.head.keep ho hb, h.row.keep ho hg, h.few, h.words⟩
theorem Ar.drewN (h : Ar w b g l) (n : Nat) : Ar (w.drewN n) b g l := ⟨h.head, h.row, h.few, h.words⟩
end

/-- What check tells. -/
def chk (len : Nat) (at_ n : Int) : Int := if n < 0 then 1 else if at_ < 0 ∨ (len : Int) - at_ < n then 2 else 0

set_option maxHeartbeats 400000 in
theorem isNone_ar (b g : Nat) (l : List Nat) (w : World) (h : Ar w b g l) :
    Calls Tryz.prog 93 #[.pointer (some ⟨b, 0, none⟩)] w fun e w' => e = .returned (.bool false) ∧ w = w' := by
  have h0 := h.head.cell 0
  simp at h0
  clear h
  go_enter Tryz.func93, Tryz.ntmps93
  go_wp2
  go_ret
  exact ⟨rfl, rfl⟩

theorem chk_1 {len : Nat} {a n : Int} (h : n < 0) : chk len a n = 1 := by unfold chk; rw [if_pos h]
theorem chk_2 {len : Nat} {a n : Int} (h : ¬ n < 0) (k : a < 0 ∨ (len : Int) - a < n) : chk len a n = 2 := by unfold chk; rw [if_neg h, if_pos k]
theorem chk_0 {len : Nat} {a n : Int} (h : ¬ n < 0) (k : ¬ (a < 0 ∨ (len : Int) - a < n)) : chk len a n = 0 := by unfold chk; rw [if_neg h, if_neg k]
/-- The error of a number below 0, else of a place. -/
def eno (n : Int) : Int := if n < 0 then 1 else 2
/-- n words stand from at on. -/
def FitsA (len : Nat) (a n : Int) : Prop := 0 ≤ n ∧ 0 ≤ a ∧ n ≤ (len : Int) - a
theorem chk_ok {len : Nat} {a n : Int} (h : FitsA len a n) : chk len a n = 0 := chk_0 (by unfold FitsA at h; omega) (by unfold FitsA at h; omega)
theorem chk_no {len : Nat} {a n : Int} (h : ¬ FitsA len a n) : chk len a n ≠ 0 := by
  unfold FitsA at h
  unfold chk
  split
  · decide
  · rw [if_pos (by omega)]; decide

set_option maxHeartbeats 400000 in
theorem check_ar (b g : Nat) (l : List Nat) (a n : Int) (w : World) (h : Ar w b g l) (ha : a ≤ 9223372036854775807) :
    Calls Tryz.prog 92 #[.pointer (some ⟨b, 0, none⟩), .int .i64 a, .int .i64 n] w fun e w' => e = .returned (.int .i64 (chk l.length a n)) ∧ w = w' := by
  have h1 := h.head.cell 1
  simp at h1
  have hl := h.few
  by_cases hn : n < 0
  · have HC := Lib.hid (chk_1 (len := l.length) (a := a) hn)
    go_enter Tryz.func92, Tryz.ntmps92
    go_wp2_with (go_at_call 93; refine (isNone_ar b g l _ h).mono ?_; rintro e w' ⟨rfl, rfl⟩)
    go_ret
    exact ⟨ret_int HC.out.symm, rfl⟩
  · by_cases h2 : a < 0
    · have HC := Lib.hid (chk_2 (len := l.length) (a := a) hn (.inl h2))
      go_enter Tryz.func92, Tryz.ntmps92
      go_wp2_with (go_at_call 93; refine (isNone_ar b g l _ h).mono ?_; rintro e w' ⟨rfl, rfl⟩)
      go_ret
      exact ⟨ret_int HC.out.symm, rfl⟩
    · by_cases h3 : (l.length : Int) - a < n
      · have HC := Lib.hid (chk_2 (len := l.length) (a := a) hn (.inr h3))
        go_enter Tryz.func92, Tryz.ntmps92
        go_wp2_with (go_at_call 93; refine (isNone_ar b g l _ h).mono ?_; rintro e w' ⟨rfl, rfl⟩)
        go_ret
        exact ⟨ret_int HC.out.symm, rfl⟩
      · have HC := Lib.hid (chk_0 (len := l.length) (a := a) hn (by omega))
        go_enter Tryz.func92, Tryz.ntmps92
        go_wp2_with (go_at_call 93; refine (isNone_ar b g l _ h).mono ?_; rintro e w' ⟨rfl, rfl⟩)
        go_ret
        exact ⟨ret_int HC.out.symm, rfl⟩

/-- Where a row of n words from a on begins: a cut of no words keeps the row's own beginning. -/
def rof (a n : Nat) : Nat := if n = 0 then 0 else a
theorem rof_pos {a n : Nat} (h : 0 < n) : rof a n = a := if_neg (by omega)

set_option maxHeartbeats 400000 in
theorem len_ar (b g : Nat) (l : List Nat) (w : World) (h : Ar w b g l) :
    Calls Tryz.prog 64 #[.pointer (some ⟨b, 0, none⟩)] w fun e w' => e = .returned (.int .i64 (l.length : Nat)) ∧ w = w' := by
  have h1 := h.head.cell 1
  simp at h1
  go_enter Tryz.func64, Tryz.ntmps64
  go_wp2_with (go_at_call 93; refine (isNone_ar b g l _ h).mono ?_; rintro e w' ⟨rfl, rfl⟩)
  go_ret
  exact ⟨rfl, rfl⟩

set_option maxHeartbeats 400000 in
theorem read_ar (b g : Nat) (l : List Nat) (a : Nat) (w : World) (h : Ar w b g l) (ha : a < l.length) :
    Calls Tryz.prog 63 #[.pointer (some ⟨b, 0, none⟩), .int .i64 a] w fun e w' => e = .returned (.tuple #[.int .u64 (wd l a : Nat), .int .i64 0]) ∧ w = w' := by
  have h1 := h.head.cell 1
  simp at h1
  have hl := h.few
  have hc : w.cell? ⟨g, a, none⟩ = some (.int .u64 (wd l a : Nat)) := by rw [h.row.cell]; simpa using u64s_wd l a ha
  have HK := Lib.hid (chk_ok (len := l.length) (a := a) (n := 1) ⟨by omega, by omega, by omega⟩)
  go_enter Tryz.func63, Tryz.ntmps63
  go_wp2_with (go_at_call 92; refine (check_ar b g l _ _ _ h (by omega)).mono ?_; rw [HK.out]; rintro e w' ⟨rfl, rfl⟩)
  go_ret2
  exact ⟨rfl, rfl⟩

set_option maxHeartbeats 400000 in
theorem read_ar_no (b g : Nat) (l : List Nat) (a : Int) (w : World) (h : Ar w b g l) (ha : a ≤ 9223372036854775807) (hn : ¬ (0 ≤ a ∧ a < l.length)) :
    Calls Tryz.prog 63 #[.pointer (some ⟨b, 0, none⟩), .int .i64 a] w fun e w' => e = .returned (.tuple #[.int .u64 0, .int .i64 2]) ∧ w = w' := by
  have HK := Lib.hid (chk_2 (len := l.length) (a := a) (n := 1) (by omega) (by omega))
  go_enter Tryz.func63, Tryz.ntmps63
  go_wp2_with (go_at_call 92; refine (check_ar b g l _ _ _ h (by omega)).mono ?_; rw [HK.out]; rintro e w' ⟨rfl, rfl⟩)
  go_ret2
  exact ⟨rfl, rfl⟩

theorem Ar.set {w : World} {b g : Nat} {l : List Nat} (h : Ar w b g l) (a x : Nat) (hx : x < full) : Ar (w.setCell ⟨g, a, none⟩ (.int .u64 (x : Nat))) b g (l.set a x) := by
  refine ⟨?_, ?_, by simpa using h.few, h.words.set a x hx⟩
  · have := h.head.other (p := ⟨g, a, none⟩) (fun e => h.ne e.symm) (.int .u64 (x : Nat))
    simpa using this
  · have := h.row.put a (.int .u64 (x : Nat))
    rw [List.setIfInBounds_toArray, u64s_set] at this
    exact this

end Go.Proofs.YtciidodmhigpdaaGreatDoor

/- Contracts of package arena, further: the calls that make, move and fill. -/
namespace Go.Proofs.YtciidodmhigpdaaGreatDoor
open Go.RowKit

theorem info_u64 : (Tryz.prog.info? 48).map (fun i => (i.zero, i.size, i.bytes)) = some (some (.int .u64 0), 1, 8) := by kernel_rfl
theorem size_u64 : (Tryz.prog.info? 48).map (·.size) = some 1 := by kernel_rfl
/-- make([]uint64, n). -/
theorem make_u64 (n : Nat) (hn : n ≤ 17592186044416) (w : World) : (Instr.makeSlice 24 (.int .i64 (n : Int)) (.int .i64 (n : Int))).run Tryz.prog w = .ok (.slice (some ⟨w.heap.size, 0, none⟩) n n) (w.alloc (.cells (u64s (List.replicate n 0)).toArray 48)) := by
  obtain ⟨i0, hi0, hz0, hz1, hz2⟩ := info_parts info_u64
  have h := run_make (P := Tryz.prog) w 24 48 i0 _ Tryz.underlying24 hi0 hz0 .i64 .i64 n n (by omega) (Int.le_refl _) (by rw [hz2]; omega) (by omega)
  rw [h]
  simp only [Int.toNat_natCast, hz1, Nat.mul_one]
  have e : madeCells (Value.int .u64 0).cells n = (u64s (List.replicate n 0)).toArray := by
    apply Array.ext'
    show (madeCells #[.int .u64 0] n).toList = _
    rw [toList_madeCells_one]
    simp [u64s]
  rw [e]

set_option maxHeartbeats 400000 in
theorem clone_any (v : Value) (l : List Nat) (w : World) (h : Sl w w.heap.size 1 v l.length (u64s l)) (hn : l.length ≤ 98304) :
    Calls Tryz.prog 60 #[v] w fun e w' => ∃ g, e = .returned (.slice (some ⟨g, 0, none⟩) l.length l.length) ∧ w.heap.size ≤ g ∧ Blk w' g 48 (u64s l).toArray ∧ Only nob w w' := by
  obtain ⟨A, c, rfl, h1, h2, h3, h4⟩ := h
  have hmk := make_u64 l.length (by omega)
  go_enter Tryz.func60, Tryz.ntmps60
  go_wp2_with (with_reducible refine wpList_copy_only (o := ⟨some 9, _, _, _, _, _⟩) rfl (.tmp 7) (.tmp 8) _ _ rfl 48 Tryz.underlying24 size_u64 (some ⟨w.heap.size, 0, none⟩) A l.length l.length c rfl rfl w.heap.size 0 (u64s (List.replicate l.length 0)).toArray 48 ?c0 (u64s l) (u64s_len l) ?c1 ?c2 (u64s_one l) ?c3)
  case c0 => exact Blk.new _ _ _
  case c1 =>
    intro hp
    obtain ⟨b, o, e, hb, hc⟩ := h4 hp
    exact ⟨b, o, e, fun j v hv => (World.cell?_alloc_lt w _ ⟨b, o + j, none⟩ hb).trans (hc j v hv)⟩
  case c2 => simp [u64s_len]
  case c3 =>
    intro w1 H1 o1
    have hb : Blk w1 w.heap.size 48 (u64s l).toArray := by
      have := H1.out
      rw [u64s_splice, splice_full _ _ (by simp)] at this
      exact this
    have HB := Lib.hid hb
    clear hb H1 h4 hmk
    go_wp2
    go_ret
    exact ⟨_, rfl, Nat.le_refl _, HB.out, (Only.refl nob w).alloc _ |>.andThen o1 fun i hi e => by unfold isb at e; omega⟩

theorem info_ar : (Tryz.prog.info? 92).map (·.size) = some 2 := by kernel_rfl

set_option maxHeartbeats 400000 in
theorem of_any (v : Value) (l : List Nat) (w : World) (h : Sl w w.heap.size 1 v l.length (u64s l)) (hn : l.length ≤ 98304) (hw : Words l) :
    Calls Tryz.prog 26 #[v] w fun e w' => ∃ b g, e = .returned (.tuple #[.pointer (some ⟨b, 0, none⟩), .int .i64 0]) ∧ w.heap.size ≤ b ∧ w.heap.size ≤ g ∧ Ar w' b g l ∧ Only nob w w' := by
  have H := Lib.hid h
  obtain ⟨A, c, rfl, h1, h2, -⟩ := h
  go_enter Tryz.func26, Tryz.ntmps26
  go_wp2_with fail
  refine (clone_any _ l _ H.out hn).mono ?_
  rintro e w1 ⟨g, rfl, hg, hb, ho⟩
  have HB := Lib.hid hb
  clear hb
  go_wp2
  go_ret2
  have hb := HB.out
  exact ⟨w1.heap.size, g, rfl, ho.size, hg, ⟨Blk.new _ _ _, hb.alloc _, hn, hw⟩, ho.alloc _⟩

set_option maxHeartbeats 400000 in
/-- Too many words. -/
theorem of_no (A : Option Addr) (n c : Nat) (w : World) (hn : 98304 < n) :
    Calls Tryz.prog 26 #[.slice A n c] w fun e w' => e = .returned (.tuple #[.pointer none, .int .i64 1]) ∧ w = w' := by
  go_enter Tryz.func26, Tryz.ntmps26
  go_wp2
  go_ret2
  exact ⟨rfl, rfl⟩

/-- The words from f on, n of them. -/
def part (l : List Nat) (f n : Nat) : List Nat := (l.drop f).take n
theorem part_len (l : List Nat) (f n : Nat) (h : f + n ≤ l.length) : (part l f n).length = n := by simp [part]; omega
theorem part_get (l : List Nat) (f n k : Nat) (h : f + n ≤ l.length) (hk : k < n) : (part l f n)[k]? = some (wd l (f + k)) := by
  rw [wd_get l (f + k) (by omega)]
  simp [part, hk, List.getElem?_drop, List.getElem?_eq_getElem (show f + k < l.length by omega)]
theorem part_cell (w : World) (b g : Nat) (l : List Nat) (h : Ar w b g l) (f n : Nat) (hf : f + n ≤ l.length) (j : Nat) (v : Value) (hv : (u64s (part l f n))[j]? = some v) : w.cell? ⟨g, f + j, none⟩ = some v := by
  have hj : j < n := by
    rcases Nat.lt_or_ge j n with h' | h'
    · exact h'
    · rw [List.getElem?_eq_none (by rw [u64s_len, part_len l f n hf]; exact h')] at hv; cases hv
  rw [h.row.cell]
  have e : (u64s (part l f n))[j]? = some (.int .u64 (wd l (f + j) : Nat)) := by
    unfold u64s
    rw [List.getElem?_map, part_get l f n j hf hj]
    rfl
  rw [e] at hv
  rw [← hv]
  simpa using u64s_wd l (f + j) (by omega)

theorem fits_two {len : Nat} {a n : Int} (h : ¬ FitsA len a n) (hn : ¬ n < 0) : a < 0 ∨ (len : Int) - a < n := by unfold FitsA at h; omega

/-- An arena whose words from a on, k of them, are x. -/
def filled (l : List Nat) (a k x : Nat) : List Nat := splice l a (List.replicate k x)
theorem filled_len (l : List Nat) (a k x : Nat) (h : a + k ≤ l.length) : (filled l a k x).length = l.length := by unfold filled; exact splice_len _ _ _ (by simpa using h)
theorem filled_set (l : List Nat) (a k x : Nat) (h : a + k < l.length) : (filled l a k x).set (a + k) x = filled l a (k + 1) x := by
  unfold filled
  have := splice_snoc l a (List.replicate k x) x (by simpa using h)
  rw [List.length_replicate, ← List.replicate_succ'] at this
  exact this
theorem filled_zero (l : List Nat) (a x : Nat) : filled l a 0 x = l := by unfold filled; exact splice_nil l a

end Go.Proofs.YtciidodmhigpdaaGreatDoor

/- Contracts of the document's own answers for arenas. -/
namespace Go.Proofs.YtciidodmhigpdaaGreatDoor
open Go.RowKit

set_option maxHeartbeats 1000000 in
theorem same_any (va vb : Value) (l : List Nat) (B B' : Nat) (w : World) (ha : Sl w B 1 va l.length (u64s l)) (hb : Sl w B' 1 vb l.length (u64s l)) :
    Calls Tryz.prog 49 #[va, vb] w fun e w' => e = .returned (.bool true) ∧ ∃ m, w' = w.drewN m := by
  have HA := Lib.hid ha
  have HB := Lib.hid hb
  obtain ⟨A, ca, rfl, hac, ham, -⟩ := ha
  obtain ⟨A', cb, rfl, hbc, hbm, -⟩ := hb
  unfold maxLen at ham hbm
  go_enter Tryz.func49, Tryz.ntmps49
  go_wp2
  go_loopw [5] (fun i wr => ∃ k m : Nat, k ≤ l.length ∧ i = .int .i64 k ∧ wr = w.drewN m) (fun i _ => l.length - (intOf i).toNat)
  case atStart => exact ⟨0, 0, Nat.zero_le _, rfl, rfl⟩
  case round =>
    obtain ⟨k, m, hk, rfl, rfl⟩ := hrel
    by_cases hlt : k < l.length
    · obtain ⟨b1, o1, c1, e1, -, -, -, hc1⟩ := HA.out.at_ (by omega)
      obtain ⟨b2, o2, c2, e2, -, -, -, hc2⟩ := HB.out.at_ (by omega)
      obtain ⟨rfl, rfl⟩ : A = some ⟨b1, o1, none⟩ ∧ ca = c1 := by simpa using e1
      obtain ⟨rfl, rfl⟩ : A' = some ⟨b2, o2, none⟩ ∧ cb = c2 := by simpa using e2
      have g1 := hc1 k _ (u64s_wd l k hlt)
      have g2 := hc2 k _ (u64s_wd l k hlt)
      clear hc1 hc2 e1 e2
      go_wp2
      go_quiet (fail)
      go_wp2
      go_roundw
      case rel => exact ⟨k + 1, _, by omega, by go_num, rfl⟩
      case measure => simp [intOf]; omega
    · obtain rfl : k = l.length := by omega
      go_wp2
      go_ret
      exact ⟨rfl, _, rfl⟩

/-- A list whose words from t on are k of those from f on. -/
def moved (l : List Nat) (t f k : Nat) : List Nat := splice l t (part l f k)
theorem moved_len (l : List Nat) (t f k : Nat) (h : t + k ≤ l.length) (h' : f + k ≤ l.length) : (moved l t f k).length = l.length := splice_len _ _ _ (by rw [part_len l f k h']; exact h)
theorem moved_zero (l : List Nat) (t f : Nat) : moved l t f 0 = l := by unfold moved part; simp [splice]
theorem part_snoc (l : List Nat) (f k : Nat) (h : f + k < l.length) : part l f (k + 1) = part l f k ++ [wd l (f + k)] := by
  unfold part
  rw [List.take_add_one, wd_get l _ h]
  simp [List.getElem?_drop, h]
theorem moved_set (l : List Nat) (t f k : Nat) (h : t + k < l.length) (h' : f + k < l.length) : (moved l t f k).set (t + k) (wd l (f + k)) = moved l t f (k + 1) := by
  unfold moved
  rw [part_snoc l f k h']
  have e := part_len l f k (by omega)
  have := splice_snoc l t (part l f k) (wd l (f + k)) (by rw [e]; exact h)
  rw [e] at this
  exact this

end Go.Proofs.YtciidodmhigpdaaGreatDoor

/- Contracts of package arena for what is no arena; what the statements' awake answers. -/
namespace Go.Proofs.YtciidodmhigpdaaGreatDoor
open Go.RowKit

/-- Nobody's arena: nil, or one that no call made. -/
def NoAr (w : World) (v : Value) : Prop := v = .pointer none ∨ ∃ b, v = .pointer (some ⟨b, 0, none⟩) ∧ Blk w b 92 #[.bool false, .slice none 0 0]

set_option maxHeartbeats 400000 in
theorem isNone_no (v : Value) (w : World) (h : NoAr w v) :
    Calls Tryz.prog 93 #[v] w fun e w' => e = .returned (.bool true) ∧ w = w' := by
  rcases h with rfl | ⟨b, rfl, h⟩
  · go_enter Tryz.func93, Tryz.ntmps93
    go_wp2
    go_ret
    exact ⟨rfl, rfl⟩
  · have h0 := h.cell 0
    simp at h0
    clear h
    go_enter Tryz.func93, Tryz.ntmps93
    go_wp2
    go_ret
    exact ⟨rfl, rfl⟩

set_option maxHeartbeats 400000 in
theorem check_none (v : Value) (a n : Int) (w : World) (h : NoAr w v) :
    Calls Tryz.prog 92 #[v, .int .i64 a, .int .i64 n] w fun e w' => e = .returned (.int .i64 10) ∧ w = w' := by
  go_enter Tryz.func92, Tryz.ntmps92
  go_wp2_with (go_at_call 93; refine (isNone_no v _ h).mono ?_; rintro e w' ⟨rfl, rfl⟩)
  go_ret
  exact ⟨rfl, rfl⟩

set_option maxHeartbeats 400000 in
theorem len_none (v : Value) (w : World) (h : NoAr w v) :
    Calls Tryz.prog 64 #[v] w fun e w' => e = .returned (.int .i64 0) ∧ w = w' := by
  go_enter Tryz.func64, Tryz.ntmps64
  go_wp2_with (go_at_call 93; refine (isNone_no v _ h).mono ?_; rintro e w' ⟨rfl, rfl⟩)
  go_ret
  exact ⟨rfl, rfl⟩

set_option maxHeartbeats 400000 in
theorem read_none (v : Value) (a : Int) (w : World) (h : NoAr w v) :
    Calls Tryz.prog 63 #[v, .int .i64 a] w fun e w' => e = .returned (.tuple #[.int .u64 0, .int .i64 10]) ∧ w = w' := by
  go_enter Tryz.func63, Tryz.ntmps63
  go_wp2_with (go_at_call 92; refine (check_none v _ _ _ h).mono ?_; rintro e w' ⟨rfl, rfl⟩)
  go_ret2
  exact ⟨rfl, rfl⟩

end Go.Proofs.YtciidodmhigpdaaGreatDoor
