/- New heaps: blocks of their own, what they hold. -/
import Derived.Test.YtciidodmhigpdaaGreatDoorStProg
import Derived.Test.YtciidodmhigpdaaGreatDoorStBase
import Derived.Test.YtciidodmhigpdaaGreatDoorLayABC
import Derived.Test.YtciidodmhigpdaaGreatDoorSpanIter
import Derived.Test.YtciidodmhigpdaaGreatDoorSlotAll
import Derived.Test.YtciidodmhigpdaaGreatDoorStLook
namespace Go.Proofs.YtciidodmhigpdaaGreatDoor
open Go.RowKit
set_option maxRecDepth 100000
set_option linter.unusedSimpArgs false
set_option linter.unusedVariables false

theorem zero_state_drew (w : World) : ∃ W, (w.alloc (.cells #[.int .i64 0, .int .i64 0, .int .i64 0, .int .i64 0, .bool false, .slice none 0 0, .int .i64 0, .slice none 0 0, .slice none 0 0, .slice none 0 0] 28)).drew = W ∧ Hid (Only nob w.drew W ∧ Blk W w.heap.size 28 #[.int .i64 0, .int .i64 0, .int .i64 0, .int .i64 0, .bool false, .slice none 0 0, .int .i64 0, .slice none 0 0, .slice none 0 0, .slice none 0 0]) :=
  ⟨_, rfl, Lib.hid ⟨(show Only nob w.drew (w.drew.alloc _) from (Only.refl nob w.drew).alloc _), Blk.new w _ _⟩⟩
theorem box_words15 (n : Nat) (w : World) : ∃ W, w.alloc (.cells (u64s (List.replicate n 0)).toArray 48) = W ∧ Hid (Only nob w W ∧ Blk W w.heap.size 48 (u64s (List.replicate n 0)).toArray) :=
  ⟨_, rfl, Lib.hid ⟨(Only.refl nob w).alloc _, Blk.new w _ _⟩⟩
theorem box_slots15 (n : Nat) (w : World) : ∃ W, w.alloc (.cells (slc (List.replicate n ((false, 0, 0) : Slt))).toArray 52) = W ∧ Hid (Only nob w W ∧ Blk W w.heap.size 52 (slc (List.replicate n ((false, 0, 0) : Slt))).toArray) :=
  ⟨_, rfl, Lib.hid ⟨(Only.refl nob w).alloc _, Blk.new w _ _⟩⟩
theorem box_slots15_drew (n : Nat) (w : World) : ∃ W, (w.alloc (.cells (slc (List.replicate n ((false, 0, 0) : Slt))).toArray 52)).drew = W ∧ Hid (Only nob w.drew W ∧ Blk W w.heap.size 52 (slc (List.replicate n ((false, 0, 0) : Slt))).toArray) :=
  ⟨_, rfl, Lib.hid ⟨(show Only nob w.drew (w.drew.alloc _) from (Only.refl nob w.drew).alloc _), Blk.new w _ _⟩⟩
/-- A list of spans none of which begins at 0 does not lie in a heap's box that is all zero. -/
theorem late15 {W W' : World} {B b : Nat} {v : Value} {l : List Sp} (hnz : ∀ x ∈ l, x.1 ≠ 0) (h : Sl W B 2 v l.length (spc l)) (hb : Blk W b 28 #[.int .i64 0, .int .i64 0, .int .i64 0, .int .i64 0, .bool false, .slice none 0 0, .int .i64 0, .slice none 0 0, .slice none 0 0, .slice none 0 0]) (o : Only (isb b) W W') (hB : B ≤ W.heap.size) : Sl W' W'.heap.size 2 v l.length (spc l) := by
  obtain ⟨A, c, rfl, h1, h2, h3, h4⟩ := h
  refine ⟨A, c, rfl, h1, h2, h3, fun hn => ?_⟩
  obtain ⟨g, f, rfl, hg, hc⟩ := h4 hn
  have hne : g ≠ b := by
    rintro rfl
    obtain ⟨x, hx⟩ : ∃ x, l[0]? = some x := ⟨_, List.getElem?_eq_getElem hn⟩
    have h5 : (spc l)[0]? = some (.int .i64 x.1) := by
      cases l with
      | nil => cases hx
      | cons y m => obtain rfl : y = x := by simpa using hx
                    simp [spc]
    have h6 := hc 0 _ h5
    have h7 := hb.cell (f + 0)
    rw [h6] at h7
    have h8 := hnz x (List.mem_of_getElem? hx)
    rw [Nat.add_zero] at h7
    match f, h7 with
    | 0, h7 => simp at h7; exact h8 h7
    | 1, h7 => simp at h7; exact h8 h7
    | 2, h7 => simp at h7; exact h8 h7
    | 3, h7 => simp at h7; exact h8 h7
    | 4, h7 => simp at h7
    | 5, h7 => simp at h7
    | 6, h7 => simp at h7; exact h8 h7
    | 7, h7 => simp at h7
    | 8, h7 => simp at h7
    | 9, h7 => simp at h7
    | n + 10, h7 => simp at h7
  exact ⟨g, f, rfl, Nat.lt_of_lt_of_le hg (Nat.le_trans hB o.size), fun k u hu => (o.cell (p := ⟨g, f + k, none⟩) (Nat.lt_of_lt_of_le hg hB) hne).trans (hc k u hu)⟩

theorem late15s {W W' : World} {B b m : Nat} {v : Value} {l : List Slt} (hl : l = List.replicate m ((false, 0, 0) : Slt)) (h : Sl W B 3 v l.length (slc l)) (hb : Blk W b 28 #[.int .i64 0, .int .i64 0, .int .i64 0, .int .i64 0, .bool false, .slice none 0 0, .int .i64 0, .slice none 0 0, .slice none 0 0, .slice none 0 0]) (o : Only (isb b) W W') (hB : B ≤ W.heap.size) : Sl W' W'.heap.size 3 v l.length (slc l) := by
  obtain ⟨A, c, rfl, h1, h2, h3, h4⟩ := h
  refine ⟨A, c, rfl, h1, h2, h3, fun hn => ?_⟩
  obtain ⟨g, f, rfl, hg, hc⟩ := h4 hn
  have hne : g ≠ b := by
    rintro rfl
    obtain ⟨x, hx⟩ : ∃ x, l[0]? = some x := ⟨_, List.getElem?_eq_getElem hn⟩
    have hx2 : x = ((false, 0, 0) : Slt) := by
      have := List.mem_of_getElem? hx
      rw [hl, List.mem_replicate] at this
      exact this.2
    have h5 : (slc l)[0]? = some (.bool false) ∧ (slc l)[1]? = some (.int .i64 0) := by
      cases l with
      | nil => cases hx
      | cons y q =>
        obtain rfl : y = x := by simpa using hx
        rw [hx2]
        simp [slc, slE]
    have h6 := hc 0 _ h5.1
    have h6' := hc 1 _ h5.2
    have h7 := hb.cell (f + 0)
    have h7' := hb.cell (f + 1)
    rw [h6] at h7
    rw [h6'] at h7'
    rw [Nat.add_zero] at h7
    match f, h7, h7' with
    | 0, h7, _ => simp at h7
    | 1, h7, _ => simp at h7
    | 2, h7, _ => simp at h7
    | 3, h7, _ => simp at h7
    | 4, _, h7' => simp at h7'
    | 5, h7, _ => simp at h7
    | 6, h7, _ => simp at h7
    | 7, h7, _ => simp at h7
    | 8, h7, _ => simp at h7
    | 9, h7, _ => simp at h7
    | n + 10, h7, _ => simp at h7
  exact ⟨g, f, rfl, Nat.lt_of_lt_of_le hg (Nat.le_trans hB o.size), fun k u hu => (o.cell (p := ⟨g, f + k, none⟩) (Nat.lt_of_lt_of_le hg hB) hne).trans (hc k u hu)⟩

/-- The free words of a new heap. -/
def frN (c : Cf) : List Sp := if 0 < c.large then [cLarge c] else []
theorem frN_nz {c : Cf} (h : c.ok) : ∀ x ∈ frN c, x.1 ≠ 0 := by
  intro x hx
  have h' := h
  unfold Cf.ok at h'
  unfold frN at hx
  split at hx
  · rw [List.mem_singleton.1 hx]
    unfold cLarge
    rw [if_pos ⟨h, by omega⟩]
    simp only
    omega
  · cases hx
theorem frN_is {c : Cf} (h : c.ok) {O : List Sp} (hJ : Joined O) (hO : ∀ p, cov O p ↔ ((cLarge c).has p ∧ ¬ cov [] p)) : O = frN c := by
  have h' := h
  unfold Cf.ok at h'
  refine joined_unique hJ ?_ fun p => ?_
  · unfold frN
    split
    · refine ⟨fun y hy => ?_, List.pairwise_singleton _ _⟩
      rw [List.mem_singleton.1 hy]
      exact cLarge_ok h (by assumption)
    · exact Joined.nil
  · rw [hO p]
    unfold frN
    split
    · constructor
      · exact fun ⟨h1, _⟩ => ⟨_, List.mem_singleton.2 rfl, h1⟩
      · rintro ⟨y, hy, hp⟩
        rw [List.mem_singleton.1 hy] at hp
        exact ⟨hp, cov_nil p⟩
    · constructor
      · rintro ⟨h1, _⟩
        exfalso
        unfold cLarge at h1
        rw [if_neg (by omega)] at h1
        have := h1.1
        unfold Sp.ok at this
        simp only at this
        omega
      · rintro ⟨y, hy, _⟩
        cases hy
/-- A new heap's values read. -/
theorem rd_new {w : World} {c : Cf} (h : c.ok) {rg n : Nat} {vf vs : Value} (hn : n = (cWords c).toNat) (hb : Blk w rg 48 (u64s (List.replicate n 0)).toArray) (hf : Sl w w.heap.size 2 vf (frN c).length (spc (frN c))) (hs : Sl w w.heap.size 3 vs (List.replicate c.slots.toNat ((false, 0, 0) : Slt)).length (slc (List.replicate c.slots.toNat ((false, 0, 0) : Slt)))) :
    Rd w w.heap.size (newS c) (.slice (some ⟨rg, 0, none⟩) n n) (.slice none 0 0) vf vs := by
  have hw := cWords_ok h
  rw [newS_ok h]
  subst hn
  refine ⟨?_, Sl.nil_, hf, hs⟩
  have h1 := Sl.of_blk (size := 1) (n := (cWords c).toNat) (c := (cWords c).toNat) hb (by simp [u64s]) (Nat.le_refl _) (by unfold maxLen; omega)
  simpa using h1
end Go.Proofs.YtciidodmhigpdaaGreatDoor
