/- Chapter 17's example: what its plans come to. -/
import Derived.Test.YtkjdnccnfnhkoaaReSort
namespace Go.Proofs.Ytkjdnccnfnhkoaa
open Go.RowKit Go.Lib
set_option maxRecDepth 100000
set_option linter.unusedSimpArgs false
set_option linter.unusedVariables false
def gW : Gr := ⟨[⟨0, [(2, 1), (2, 2)], []⟩, ⟨0, [(2, 3)], []⟩, ⟨0, [], [1, 2, 3]⟩, ⟨0, [], []⟩, ⟨0, [], []⟩], [(2, 0)]⟩
def gV : Gr := ⟨[], [(2, 0)]⟩
theorem gW_ok : grOk gW = true := by decide
theorem gV_bad : grOk gV = false := by decide
theorem gW_0 : (planS gW 1000000 0 1).small = [0, 1, 2, 3] := by decide +kernel
theorem gW_2 : (planS gW 3 2 4).small = [0, 1, 3] ∧ (planS gW 3 2 4).large = [2] := by decide +kernel
theorem gW_3 : (planS gW 3 0 1).small = [0, 1, 3] ∧ (planS gW 3 0 1).large = [2] := by decide +kernel
/-- Depth first, by the depth alone. -/
def lookP17 (g : Gr) (lim : Int) (r : List Sp → PSt → PSt) : List Sp → PSt → PSt
  | [], s => s
  | v :: l, s => lookP17 g lim r l (if meetB g lim v s = true then r (fsAt g v.2) ((meetS g lim v s).mark s.small.length) else meetS g lim v s)
def lookE17 (g : Gr) (lim : Int) : Nat → List Sp → PSt → PSt
  | 0 => lookW g lim
  | n + 1 => lookP17 g lim (lookE17 g lim n)
theorem lookE_is (g : Gr) (lim : Int) : ∀ (n : Nat) (l : List Sp) (s : PSt), lookD g lim n l s = lookE17 g lim n l s := by
  intro n
  induction n with
  | zero =>
    intro l
    induction l with
    | nil => intro s; rw [lookD]; rfl
    | cons v l ih => intro s; rw [lookD, ih]; rfl
  | succ n ihn =>
    intro l
    induction l with
    | nil => intro s; rw [lookD]; rfl
    | cons v l ih => intro s; rw [lookD, ih, ihn]; rfl
theorem gW_d : lookO gW 1000000 1 gW.rt .none = lookE17 gW 1000000 6 gW.rt .none := by
  unfold lookO
  rw [if_pos rfl, lookE_is]
  rfl
theorem gW_1 : (planS gW 1000000 1 1).small = [0, 1, 3, 2] := by
  unfold planS
  rw [gW_d]
  decide +kernel
theorem flat_small {g : Gr} {order : Int} {l : List Int} (hg : grOk g = true) (h : (planS g 1000000 order 1).small = l) : flatE g = 0 ∧ flatL g order = l := by
  unfold flatE flatL
  rw [if_pos hg, if_pos hg]
  exact ⟨rfl, h⟩
theorem gW_f0 : flatE gW = 0 ∧ flatL gW 0 = [0, 1, 2, 3] := flat_small gW_ok gW_0
theorem gW_f1 : flatE gW = 0 ∧ flatL gW 1 = [0, 1, 3, 2] := flat_small gW_ok gW_1
theorem gW_rl : (reachL gW).length = 4 := by rw [reach_len, gW_f0.2]; rfl
theorem gW_p2 : planE gW 3 2 4 = 0 ∧ planSm gW 3 2 4 = [0, 1, 3] ∧ planLg gW 3 2 4 = [2] := by
  have h : planE gW 3 2 4 = 0 := by decide
  unfold planSm planLg
  rw [h, if_pos rfl, if_pos rfl]
  exact ⟨rfl, gW_2⟩
theorem gW_p3 : planE gW 3 0 1 = 0 ∧ planSm gW 3 0 1 = [0, 1, 3] ∧ planLg gW 3 0 1 = [2] := by
  have h : planE gW 3 0 1 = 0 := by decide
  unfold planSm planLg
  rw [h, if_pos rfl, if_pos rfl]
  exact ⟨rfl, gW_3⟩
theorem gW_p1 : planE gW 3 3 4 = 1 ∧ planSm gW 3 3 4 = [] ∧ planLg gW 3 3 4 = [] := by
  have h : planE gW 3 3 4 = 1 := by decide
  unfold planSm planLg
  rw [h, if_neg (by decide), if_neg (by decide)]
  exact ⟨rfl, rfl, rfl⟩
theorem gW_lv : sumW gW [0, 1, 3] = 6 ∧ sumW gW [2] = 4 ∧ wrap64 (sumF gW [0, 1, 3] + sumF gW [2]) = 3 := by decide +kernel
theorem gV_f : flatE gV = 4 ∧ flatL gV 0 = [] := by
  unfold flatE flatL
  rw [if_neg (by decide), if_neg (by decide)]
  exact ⟨rfl, rfl⟩
theorem gW_fit : GrFit gW := ⟨fun d hd => by simp [gW] at hd; rcases hd with rfl | rfl | rfl | rfl <;> simp, fun d hd v hv => by simp [gW] at hd; rcases hd with rfl | rfl | rfl | rfl <;> (simp at hv <;> first | (rcases hv with rfl | rfl <;> simp) | (subst hv; simp)), fun d hd v hv => by simp [gW] at hd; rcases hd with rfl | rfl | rfl | rfl <;> simp at hv; rcases hv with rfl | rfl | rfl <;> decide, fun v hv => by simp [gW] at hv; subst hv; simp⟩
theorem gV_fit : GrFit gV := ⟨fun d hd => by simp [gV] at hd, fun d hd => by simp [gV] at hd, fun d hd => by simp [gV] at hd, fun v hv => by simp [gV] at hv; subst hv; simp⟩
theorem gW_bd : GrBd gW := ⟨by decide, by decide⟩
theorem gV_bd : GrBd gV := ⟨by decide, by decide⟩
end Go.Proofs.Ytkjdnccnfnhkoaa
