/- The walk of LayoutParts, out of the contracts of packages layout and span. -/
import Derived.Test.YtmlpppcdammelaaLayLaw1
import Derived.Test.YtmlpppcdammelaaSpanSaid
import Derived.Test.YtmlpppcdammelaaSpanApart
namespace Go.Proofs.Ytmlpppcdammelaa
open Go.RowKit Go.Sort

/-- A config's parts, as the statement lists them. -/
def cParts (c : Cf) (s : Bool) : List Sp := [cFrom c s, cTo c s] ++ if 0 < c.large then [cLarge c] else []
def cntP (l : List Sp) (p : Int) : Int := (l.filter fun x => decide (x.has p)).length
theorem cntP_next {l : List Sp} {k : Nat} {x : Sp} (h : l[k]? = some x) (p : Int) : cntP (l.take (k + 1)) p = cntP (l.take k) p + if x.has p then 1 else 0 := by
  unfold cntP
  rw [take_snoc_get h, List.filter_append, List.length_append]
  by_cases hp : x.has p <;> simp [hp]
theorem cntP_lo (l : List Sp) (p : Int) : 0 ≤ cntP l p ∧ cntP l p ≤ l.length := by
  unfold cntP
  have := List.length_filter_le (fun x : Sp => decide (x.has p)) l
  omega
theorem parts_facts {c : Cf} (h : c.ok) (s : Bool) : ∃ a b : Int, ((a = 0 ∧ b = c.semi) ∨ (a = c.semi ∧ b = 0)) ∧ cFrom c s = (a, c.semi) ∧ cTo c s = (b, c.semi) ∧ cLarge c = (if 0 < c.large then (c.semi + c.semi, c.large) else (0, 0)) ∧ cWords c = c.semi + c.semi + c.large := by
  have hl : cLarge c = (if 0 < c.large then (c.semi + c.semi, c.large) else (0, 0)) := by
    unfold cLarge
    have := h.2.2.1
    by_cases hq : 0 < c.large
    · rw [if_pos hq, if_pos ⟨h, by omega⟩]
    · rw [if_neg hq, if_neg (fun q => q.2 (by omega))]
  have hw : cWords c = c.semi + c.semi + c.large := by unfold cWords; rw [if_pos h]
  cases s
  · exact ⟨0, c.semi, .inl ⟨rfl, rfl⟩, by simp [cFrom, cHalf, h], by simp [cTo, cFrom, cHalf, h], hl, hw⟩
  · exact ⟨c.semi, 0, .inr ⟨rfl, rfl⟩, by simp [cFrom, cHalf, h], by simp [cTo, cFrom, cHalf, h], hl, hw⟩
theorem has_iff' (a s p : Int) (h : 0 ≤ a) (h1 : 1 ≤ s) (h2 : a ≤ 100000) (h3 : s ≤ 100000) : Sp.has (a, s) p ↔ a ≤ p ∧ p < a + s := by
  unfold Sp.has Sp.ok most; simp only; omega
theorem ok_small (a s : Int) (h : 0 ≤ a) (h1 : 1 ≤ s) (h2 : a ≤ 100000) (h3 : s ≤ 100000) : Sp.ok (a, s) := by unfold Sp.ok most; simp only; omega
structure PartsAre (c : Cf) (s : Bool) : Prop where
  ok : ∀ x ∈ cParts c s, Sp.ok x
  apart : ApartL (cParts c s)
  words : ∀ p, cov (cParts c s) p ↔ 0 ≤ p ∧ p < cWords c
  count : ∀ p, cntP (cParts c s) p = if 0 ≤ p ∧ p < cWords c then 1 else 0
  whole : Joined [(0, cWords c)]
  wholeWords : ∀ p, cov [(0, cWords c)] p ↔ 0 ≤ p ∧ p < cWords c
theorem parts_are {c : Cf} (h : c.ok) (s : Bool) : PartsAre c s := by
  obtain ⟨a, b, hab, hf, ht, hl, hw⟩ := parts_facts h s
  have hc := h
  unfold Cf.ok at hc
  have oa : Sp.ok (a, c.semi) := ok_small _ _ (by omega) (by omega) (by omega) (by omega)
  have ob : Sp.ok (b, c.semi) := ok_small _ _ (by omega) (by omega) (by omega) (by omega)
  have ow : Sp.ok (0, cWords c) := ok_small _ _ (by omega) (by omega) (by omega) (by omega)
  have ha := fun p => has_iff' a c.semi p (by omega) (by omega) (by omega) (by omega)
  have hb := fun p => has_iff' b c.semi p (by omega) (by omega) (by omega) (by omega)
  have hww := fun p => has_iff' 0 (cWords c) p (by omega) (by omega) (by omega) (by omega)
  have e : cParts c s = [(a, c.semi), (b, c.semi)] ++ if 0 < c.large then [(c.semi + c.semi, c.large)] else [] := by
    unfold cParts
    rw [hf, ht, hl]
    split <;> rfl
  have j1 : Joined [(0, cWords c)] := ⟨fun x hx => by rw [List.mem_singleton.1 hx]; exact ow, List.pairwise_singleton _ _⟩
  have j2 : ∀ p, cov [(0, cWords c)] p ↔ 0 ≤ p ∧ p < cWords c := fun p => by rw [cov_one, hww]; omega
  by_cases hq : 0 < c.large
  · rw [if_pos hq] at e
    have ol : Sp.ok (c.semi + c.semi, c.large) := ok_small _ _ (by omega) (by omega) (by omega) (by omega)
    have hlg := fun p => has_iff' (c.semi + c.semi) c.large p (by omega) (by omega) (by omega) (by omega)
    refine ⟨?_, ?_, fun p => ?_, fun p => ?_, j1, j2⟩
    · rw [e]; intro x hx; simp at hx; rcases hx with rfl | rfl | rfl <;> assumption
    · rw [e]
      refine ⟨by intro x hx; simp at hx; rcases hx with rfl | rfl | rfl <;> assumption, ?_⟩
      simp only [List.cons_append, List.nil_append, List.pairwise_cons, List.mem_cons, List.not_mem_nil, or_false, forall_eq_or_imp, forall_eq, List.Pairwise.nil, and_true, implies_true, false_imp_iff]
      refine ⟨⟨?_, ?_⟩, ?_⟩
      · rw [meets_lt ob oa]; rcases hab with ⟨rfl, rfl⟩ | ⟨rfl, rfl⟩ <;> simp only <;> omega
      · rw [meets_lt ol oa]; rcases hab with ⟨rfl, rfl⟩ | ⟨rfl, rfl⟩ <;> simp only <;> omega
      · rw [meets_lt ol ob]; rcases hab with ⟨rfl, rfl⟩ | ⟨rfl, rfl⟩ <;> simp only <;> omega
    · rw [e]; simp only [List.cons_append, List.nil_append, cov_cons, ha, hb, hlg]
      have := cov_nil p
      constructor
      · rintro (q | q | q | q)
        · omega
        · omega
        · omega
        · exact absurd q this
      · intro q
        rcases Int.lt_or_le p (c.semi + c.semi) with r | r
        · rcases Int.lt_or_le p c.semi with r' | r' <;> rcases hab with ⟨rfl, rfl⟩ | ⟨rfl, rfl⟩ <;> omega
        · exact .inr (.inr (.inl (by omega)))
    · rw [e]
      unfold cntP
      have d1 : decide (Sp.has (a, c.semi) p) = decide (a ≤ p ∧ p < a + c.semi) := decide_eq_decide.2 (ha p)
      have d2 : decide (Sp.has (b, c.semi) p) = decide (b ≤ p ∧ p < b + c.semi) := decide_eq_decide.2 (hb p)
      have d3 : decide (Sp.has (c.semi + c.semi, c.large) p) = decide (c.semi + c.semi ≤ p ∧ p < c.semi + c.semi + c.large) := decide_eq_decide.2 (hlg p)
      simp only [List.cons_append, List.nil_append, List.filter_cons, List.filter_nil, d1, d2, d3]
      rcases hab with ⟨rfl, rfl⟩ | ⟨rfl, rfl⟩ <;> (repeat' split) <;> simp_all <;> omega
  · rw [if_neg hq, List.append_nil] at e
    refine ⟨?_, ?_, fun p => ?_, fun p => ?_, j1, j2⟩
    · rw [e]; intro x hx; simp at hx; rcases hx with rfl | rfl <;> assumption
    · rw [e]
      refine ⟨by intro x hx; simp at hx; rcases hx with rfl | rfl <;> assumption, ?_⟩
      simp only [List.pairwise_cons, List.mem_cons, List.not_mem_nil, or_false, forall_eq, List.Pairwise.nil, and_true, implies_true, false_imp_iff]
      rw [meets_lt ob oa]; rcases hab with ⟨rfl, rfl⟩ | ⟨rfl, rfl⟩ <;> simp only <;> omega
    · rw [e]; simp only [cov_cons, ha, hb]
      have := cov_nil p
      constructor
      · rintro (q | q | q)
        · omega
        · omega
        · exact absurd q this
      · intro q
        have hz : p < c.semi + c.semi := by omega
        rcases Int.lt_or_le p c.semi with r' | r' <;> rcases hab with ⟨h1, h2⟩ | ⟨h1, h2⟩
        · exact .inl (by omega)
        · exact .inr (.inl (by omega))
        · exact .inr (.inl (by omega))
        · exact .inl (by omega)
    · rw [e]
      unfold cntP
      have d1 : decide (Sp.has (a, c.semi) p) = decide (a ≤ p ∧ p < a + c.semi) := decide_eq_decide.2 (ha p)
      have d2 : decide (Sp.has (b, c.semi) p) = decide (b ≤ p ∧ p < b + c.semi) := decide_eq_decide.2 (hb p)
      simp only [List.filter_cons, List.filter_nil, d1, d2]
      rcases hab with ⟨rfl, rfl⟩ | ⟨rfl, rfl⟩ <;> (repeat' split) <;> simp only [List.length_cons, List.length_nil, decide_eq_true_eq] at * <;> omega
end Go.Proofs.Ytmlpppcdammelaa
