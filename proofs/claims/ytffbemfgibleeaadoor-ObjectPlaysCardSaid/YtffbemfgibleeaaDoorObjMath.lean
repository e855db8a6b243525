/- Objects in a row of words: what each call tells and leaves, in plain words. -/
import Derived.Test.YtffbemfgibleeaaDoorArenaB
import Derived.Test.YtffbemfgibleeaaDoorHeadE
namespace Go.Proofs.YtffbemfgibleeaaDoor
open Go.RowKit

theorem wOk_may {n : Nat} (h : wOk n = true) : hmay (wK n) (wF n) (wR n) (wC n) = true := by
  unfold wOk at h
  rw [Bool.and_eq_true] at h
  exact h.2
theorem wOk_bounds {n : Nat} (h : wOk n = true) : 0 ≤ wF n ∧ wF n ≤ 4096 ∧ 0 ≤ wR n ∧ wR n ≤ 4096 := by
  have := hmay_iff.1 (wOk_may h)
  omega
theorem hW_lt {k f r c : Int} (m : Bool) (h : hmay k f r c = true) : 0 ≤ hW k f r m c ∧ hW k f r m c < 18446744073709551616 := by
  have h1 := hmay_iff.1 h
  have h2 := bi_in m
  unfold hW
  omega

/-- An object stands at a. -/
structure Ob (l : List Nat) (a : Nat) : Prop where
  there : a < l.length
  ok : wOk (wd l a) = true
  far : 1 + wF (wd l a) + wR (wd l a) ≤ (l.length : Int) - a

/-- Head's error, and its header. -/
def ohE (l : List Nat) (a : Int) : Int :=
  if 0 ≤ a ∧ a < (l.length : Int) then (if wOk (wd l a.toNat) = true then (if 1 + wF (wd l a.toNat) + wR (wd l a.toNat) ≤ (l.length : Int) - a then 0 else 2) else 3) else 2
def ohK (l : List Nat) (a : Int) : Int := if ohE l a = 0 then wK (wd l a.toNat) else 0
def ohF (l : List Nat) (a : Int) : Int := if ohE l a = 0 then wF (wd l a.toNat) else 0
def ohR (l : List Nat) (a : Int) : Int := if ohE l a = 0 then wR (wd l a.toNat) else 0
def ohM (l : List Nat) (a : Int) : Bool := if ohE l a = 0 then wM (wd l a.toNat) else false
def ohC (l : List Nat) (a : Int) : Int := if ohE l a = 0 then wC (wd l a.toNat) else 0
section
variable {l : List Nat} {a : Int}
theorem oh_none (h : ohE l a ≠ 0) : ohK l a = 0 ∧ ohF l a = 0 ∧ ohR l a = 0 ∧ ohM l a = false ∧ ohC l a = 0 := by
  unfold ohK ohF ohR ohM ohC
  simp [h]
theorem oh_out (h : ¬ (0 ≤ a ∧ a < (l.length : Int))) : ohE l a = 2 := by unfold ohE; rw [if_neg h]
theorem oh_tag (h : 0 ≤ a ∧ a < (l.length : Int)) (k : wOk (wd l a.toNat) = false) : ohE l a = 3 := by
  unfold ohE
  rw [if_pos h, if_neg (by rw [k]; decide)]
theorem oh_far (h : 0 ≤ a ∧ a < (l.length : Int)) (k : wOk (wd l a.toNat) = true) (hf : ¬ 1 + wF (wd l a.toNat) + wR (wd l a.toNat) ≤ (l.length : Int) - a) : ohE l a = 2 := by
  unfold ohE
  rw [if_pos h, if_pos k, if_neg hf]
theorem oh_zero {a : Nat} (h : Ob l a) : ohE l a = 0 := by
  unfold ohE
  rw [if_pos ⟨by omega, by have := h.there; omega⟩, Int.toNat_natCast, if_pos h.ok, if_pos h.far]
theorem oh_yes {a : Nat} (h : Ob l a) : ohE l a = 0 ∧ ohK l a = wK (wd l a) ∧ ohF l a = wF (wd l a) ∧ ohR l a = wR (wd l a) ∧ ohM l a = wM (wd l a) ∧ ohC l a = wC (wd l a) := by
  have h0 := oh_zero h
  unfold ohK ohF ohR ohM ohC
  rw [if_pos h0, if_pos h0, if_pos h0, if_pos h0, if_pos h0, Int.toNat_natCast]
  exact ⟨h0, rfl, rfl, rfl, rfl, rfl⟩
theorem ob_of (h : ohE l a = 0) : ∃ n : Nat, a = n ∧ Ob l n := by
  unfold ohE at h
  split at h
  case isTrue h1 =>
    split at h
    case isTrue h2 =>
      split at h
      case isTrue h3 => exact ⟨a.toNat, by omega, ⟨by omega, h2, by omega⟩⟩
      case isFalse => cases h
    case isFalse => cases h
  case isFalse => cases h
/-- The header's numbers are small, and its object ends in the row. -/
theorem oh_bounds (h : ohE l a = 0) : 0 ≤ ohF l a ∧ 0 ≤ ohR l a ∧ 0 ≤ a ∧ a + 1 + ohF l a + ohR l a ≤ (l.length : Int) ∧ ohF l a ≤ 4096 ∧ ohR l a ≤ 4096 ∧ hmay (ohK l a) (ohF l a) (ohR l a) (ohC l a) = true := by
  obtain ⟨n, rfl, ho⟩ := ob_of h
  obtain ⟨-, h1, h2, h3, -, h4⟩ := oh_yes ho
  rw [h1, h2, h3, h4]
  have := wOk_bounds ho.ok
  have := ho.far
  exact ⟨by omega, by omega, by omega, by omega, by omega, by omega, wOk_may ho.ok⟩
end

/-- How many there are of a kind of words, and where the first stands. -/
def many (raw : Bool) (l : List Nat) (a : Int) : Int := if raw then ohR l a else ohF l a
def first (raw : Bool) (l : List Nat) (a : Int) : Int := if raw then a + 1 + ohF l a else a + 1
/-- The error of a place, and the place. -/
def plE (raw : Bool) (l : List Nat) (a i : Int) : Int := if ohE l a = 0 then (if 0 ≤ i ∧ i < many raw l a then 0 else 1) else ohE l a
def plP (raw : Bool) (l : List Nat) (a i : Int) : Int := if plE raw l a i = 0 then first raw l a + i else 0
section
variable {raw : Bool} {l : List Nat} {a i : Int}
theorem pl_head (h : ohE l a ≠ 0) : plE raw l a i = ohE l a ∧ plP raw l a i = 0 := by
  have : plE raw l a i = ohE l a := by unfold plE; rw [if_neg h]
  exact ⟨this, by unfold plP; rw [if_neg (by rw [this]; exact h)]⟩
theorem pl_no (h : ohE l a = 0) (k : ¬ (0 ≤ i ∧ i < many raw l a)) : plE raw l a i = 1 ∧ plP raw l a i = 0 := by
  have : plE raw l a i = 1 := by unfold plE; rw [if_pos h, if_neg k]
  exact ⟨this, by unfold plP; rw [this]; rfl⟩
theorem pl_yes (h : ohE l a = 0) (k : 0 ≤ i ∧ i < many raw l a) : plE raw l a i = 0 ∧ plP raw l a i = first raw l a + i := by
  have : plE raw l a i = 0 := by unfold plE; rw [if_pos h, if_pos k]
  exact ⟨this, by unfold plP; rw [this]; rfl⟩
theorem pl_in (h : plE raw l a i = 0) : ∃ p : Nat, plP raw l a i = p ∧ p < l.length ∧ ohE l a = 0 ∧ 0 ≤ i ∧ i < many raw l a ∧ a < p := by
  have h0 : ohE l a = 0 := by
    by_cases h0 : ohE l a = 0
    · exact h0
    · rw [(pl_head h0).1] at h; exact h
  have hi : 0 ≤ i ∧ i < many raw l a := by
    by_cases hi : 0 ≤ i ∧ i < many raw l a
    · exact hi
    · rw [(pl_no h0 hi).1] at h; cases h
  have hb := oh_bounds h0
  have hp := (pl_yes h0 hi).2
  have : 0 ≤ first raw l a + i ∧ first raw l a + i < l.length ∧ a < first raw l a + i := by
    cases raw <;> simp only [first, many] at hi ⊢ <;> simp at hi ⊢ <;> omega
  exact ⟨(plP raw l a i).toNat, by rw [hp]; omega, by rw [hp]; omega, h0, hi.1, hi.2, by rw [hp]; omega⟩
end
/-- What is read. -/
def rdW (raw : Bool) (l : List Nat) (a i : Int) : Nat := if plE raw l a i = 0 then wd l (plP raw l a i).toNat else 0
/-- The error of a word that is set, and the words behind. -/
def stE (raw : Bool) (l : List Nat) (a i : Int) (x : Nat) : Int := if plE raw l a i = 0 then (if raw then 0 else dE x) else plE raw l a i
def stL (raw : Bool) (l : List Nat) (a i : Int) (x : Nat) : List Nat := if stE raw l a i x = 0 then l.set (plP raw l a i).toNat x else l
/-- The error of a header that is set, and the words behind. -/
def shE (l : List Nat) (a k f r c : Int) : Int := if ohE l a = 0 then (if hmay k f r c = true ∧ f + r = ohF l a + ohR l a then 0 else 1) else ohE l a
def shL (l : List Nat) (a k f r : Int) (m : Bool) (c : Int) : List Nat := if shE l a k f r c = 0 then l.set a.toNat (hW k f r m c).toNat else l
/-- The error of an object that is put, and the words behind. -/
def ptE (l : List Nat) (a k f r c : Int) : Int := if hmay k f r c = true then (if 0 ≤ a ∧ 1 + f + r ≤ (l.length : Int) - a then 0 else 2) else 1
def ptL (l : List Nat) (a k f r : Int) (m : Bool) (c : Int) : List Nat := if ptE l a k f r c = 0 then (filled l a.toNat (1 + f + r).toNat 0).set a.toNat (hW k f r m c).toNat else l
end Go.Proofs.YtffbemfgibleeaaDoor
