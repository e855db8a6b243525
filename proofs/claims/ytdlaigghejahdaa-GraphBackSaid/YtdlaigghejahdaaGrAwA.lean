/- Chapter 16's example: its graphs, in plain words and in memory. -/
import Derived.Test.YtdlaigghejahdaaGrRen
import Derived.Test.YtdlaigghejahdaaGrSum
import Derived.Test.YtdlaigghejahdaaGrSame
import Derived.Test.YtdlaigghejahdaaRef16H
namespace Go.Proofs.Ytdlaigghejahdaa
open Go.RowKit Go.Lib
set_option maxRecDepth 100000
set_option linter.unusedSimpArgs false
set_option linter.unusedVariables false

def gA : Gr := ⟨[⟨0, [(2, 1)], []⟩, ⟨3, [(2, 0)], [7]⟩], [(2, 0)]⟩
def gA2 : Gr := ⟨[⟨3, [(2, 1)], [7]⟩, ⟨0, [(2, 0)], []⟩], [(2, 1)]⟩
def gB : Gr := ⟨[⟨0, [(2, 2)], []⟩, ⟨3, [(2, 0)], [7]⟩], [(2, 0)]⟩
theorem gA_ok : grOk gA = true := by decide
theorem gB_bad : grOk gB = false := by decide
theorem gA_rn : rnE gA [1, 0] = 0 ∧ rnG gA [1, 0] = gA2 := ⟨by decide, by unfold rnG; rw [if_pos (by decide)]; rfl⟩
theorem gA_rn2 : rnE gA [1] = 2 ∧ rnG gA [1] = ⟨[], []⟩ := ⟨by decide, by unfold rnG; rw [if_neg (by decide)]⟩
theorem gA_rn1 : rnE gA [1, 1] = 1 ∧ rnG gA [1, 1] = ⟨[], []⟩ := ⟨by decide, by unfold rnG; rw [if_neg (by decide)]⟩
theorem gA_words : sumW gA [0, 1, 1] = 8 := by
  unfold sumW
  rw [show ([0, 1, 1].map (wAt gA)).sum = 8 by decide]
  unfold wrap64; omega
theorem gA_fields : sumF gA [0, 1] = 2 := by
  unfold sumF
  rw [show ([0, 1].map (fAt gA)).sum = 2 by decide]
  unfold wrap64; omega
theorem gA_leads : leadsG gA 0 = [1] := by decide
theorem gA_size : ndSz ⟨3, [(2, 0)], [7]⟩ = 3 := by
  unfold ndSz
  rw [show ndRaw ⟨3, [(2, 0)], [7]⟩ = 3 by decide]
  unfold wrap64; omega
theorem gAB : sameG gA gB = false := by
  cases h : sameG gA gB with
  | false => rfl
  | true =>
    have := (sameG_iff.1 h).1
    simp [gA, gB] at this
theorem gA_put : setG gA (0, 0) ((plcV gA (0, 0)).1, 2) = gB := by rfl
theorem gA_fit : GrFit gA := ⟨fun d hd => by simp [gA] at hd; rcases hd with rfl | rfl <;> simp, fun d hd v hv => by simp [gA] at hd; rcases hd with rfl | rfl <;> (simp at hv; subst hv; simp), fun d hd v hv => by simp [gA] at hd; rcases hd with rfl | rfl <;> simp at hv; subst hv; decide, fun v hv => by simp [gA] at hv; subst hv; simp⟩
theorem gB_fit : GrFit gB := ⟨fun d hd => by simp [gB] at hd; rcases hd with rfl | rfl <;> simp, fun d hd v hv => by simp [gB] at hd; rcases hd with rfl | rfl <;> (simp at hv; subst hv; simp), fun d hd v hv => by simp [gB] at hd; rcases hd with rfl | rfl <;> simp at hv; subst hv; decide, fun v hv => by simp [gB] at hv; subst hv; simp⟩
abbrev sl1 (b : Nat) : Value := .slice (some ⟨b, 0, none⟩) 1 1
/-- The literal. -/
theorem laidA (w : World) : ∃ V, ((((((w.alloc (.cells #[.int .i64 2, .int .i64 1] 46)).alloc (.cells #[.int .i64 2, .int .i64 0] 46)).alloc (.cells #[.int .u64 7] 47)).alloc (.cells #[.int .i64 0, .slice (some ⟨w.heap.size, 0, none⟩) 1 1, .slice none 0 0, .int .i64 3, .slice (some ⟨w.heap.size + 1, 0, none⟩) 1 1, .slice (some ⟨w.heap.size + 1 + 1, 0, none⟩) 1 1] 34)).alloc (.cells #[.int .i64 2, .int .i64 0] 46)).alloc (.cells #[.slice (some ⟨w.heap.size + 1 + 1 + 1, 0, none⟩) 2 2, .slice (some ⟨w.heap.size + 1 + 1 + 1 + 1, 0, none⟩) 1 1] 25)) = V ∧
    Hid (Only nob w V ∧ RdG V V.heap.size gA (.slice (some ⟨w.heap.size + 1 + 1 + 1, 0, none⟩) 2 2) (.slice (some ⟨w.heap.size + 1 + 1 + 1 + 1, 0, none⟩) 1 1) [(.slice (some ⟨w.heap.size, 0, none⟩) 1 1, .slice none 0 0), (.slice (some ⟨w.heap.size + 1, 0, none⟩) 1 1, .slice (some ⟨w.heap.size + 1 + 1, 0, none⟩) 1 1)] ∧
      Blk V (w.heap.size + 1 + 1 + 1 + 1 + 1) 25 #[.slice (some ⟨w.heap.size + 1 + 1 + 1, 0, none⟩) 2 2, .slice (some ⟨w.heap.size + 1 + 1 + 1 + 1, 0, none⟩) 1 1]) := by
  obtain ⟨V, hV⟩ : ∃ V, ((((((w.alloc (.cells #[.int .i64 2, .int .i64 1] 46)).alloc (.cells #[.int .i64 2, .int .i64 0] 46)).alloc (.cells #[.int .u64 7] 47)).alloc (.cells #[.int .i64 0, .slice (some ⟨w.heap.size, 0, none⟩) 1 1, .slice none 0 0, .int .i64 3, .slice (some ⟨w.heap.size + 1, 0, none⟩) 1 1, .slice (some ⟨w.heap.size + 1 + 1, 0, none⟩) 1 1] 34)).alloc (.cells #[.int .i64 2, .int .i64 0] 46)).alloc (.cells #[.slice (some ⟨w.heap.size + 1 + 1 + 1, 0, none⟩) 2 2, .slice (some ⟨w.heap.size + 1 + 1 + 1 + 1, 0, none⟩) 1 1] 25)) = V := ⟨_, rfl⟩
  refine ⟨V, hV, Lib.hid ⟨by rw [← hV]; exact ((((((Only.refl nob w).alloc _).alloc _).alloc _).alloc _).alloc _).alloc _, ?_, by rw [← hV]; exact Blk.newAt _ _ _ _ (by simp)⟩⟩
  have b0 : Blk V w.heap.size 46 #[.int .i64 2, .int .i64 1] := by rw [← hV]; exact (((((Blk.new w _ _).alloc _).alloc _).alloc _).alloc _).alloc _
  have b1 : Blk V (w.heap.size + 1) 46 #[.int .i64 2, .int .i64 0] := by rw [← hV]; exact ((((Blk.newAt _ _ _ _ (by simp)).alloc _).alloc _).alloc _).alloc _
  have b2 : Blk V (w.heap.size + 1 + 1) 47 #[.int .u64 7] := by rw [← hV]; exact (((Blk.newAt _ _ _ _ (by simp)).alloc _).alloc _).alloc _
  have b3 : Blk V (w.heap.size + 1 + 1 + 1) 34 #[.int .i64 0, .slice (some ⟨w.heap.size, 0, none⟩) 1 1, .slice none 0 0, .int .i64 3, .slice (some ⟨w.heap.size + 1, 0, none⟩) 1 1, .slice (some ⟨w.heap.size + 1 + 1, 0, none⟩) 1 1] := by rw [← hV]; exact ((Blk.newAt _ _ _ _ (by simp)).alloc _).alloc _
  have b4 : Blk V (w.heap.size + 1 + 1 + 1 + 1) 46 #[.int .i64 2, .int .i64 0] := by rw [← hV]; exact (Blk.newAt _ _ _ _ (by simp)).alloc _
  clear hV
  have s0 := Sl.of_blk (size := 2) (n := 1) (c := 1) b0 rfl (Nat.le_refl _) (by decide)
  have s1 := Sl.of_blk (size := 2) (n := 1) (c := 1) b1 rfl (Nat.le_refl _) (by decide)
  have s2 := Sl.of_blk (size := 1) (n := 1) (c := 1) b2 rfl (Nat.le_refl _) (by decide)
  have s3 := Sl.of_blk (size := 3) (n := 2) (c := 2) b3 rfl (Nat.le_refl _) (by decide)
  have s4 := Sl.of_blk (size := 2) (n := 1) (c := 1) b4 rfl (Nat.le_refl _) (by decide)
  refine ⟨rfl, s3, fun i d h hd hh => ?_, s4⟩
  match i, hd, hh with
  | 0, hd, hh =>
    obtain rfl : d = ⟨0, [(2, 1)], []⟩ := by simpa [gA] using hd.symm
    obtain rfl := Option.some.inj hh
    exact ⟨s0, Sl.nil_⟩
  | 1, hd, hh =>
    obtain rfl : d = ⟨3, [(2, 0)], [7]⟩ := by simpa [gA] using hd.symm
    obtain rfl := Option.some.inj hh
    exact ⟨s1, s2⟩
  | n + 2, hd, _ => simp [gA] at hd
end Go.Proofs.Ytdlaigghejahdaa
