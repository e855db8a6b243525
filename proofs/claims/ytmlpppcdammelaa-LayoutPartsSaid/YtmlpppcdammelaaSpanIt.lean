/- Plain mathematics of going over sorted spans row by row. No program in it. -/
import Derived.Test.YtmlpppcdammelaaSpanMerge
namespace Go.Proofs.Ytmlpppcdammelaa

/-- Where a joined span begins, one of the spans begins. -/
theorem joined_starts {l O : List Sp} {y : Sp} (hj : Joined O) (hc : ∀ p, cov O p ↔ cov l p) (hy : y ∈ O) : ∃ z ∈ l, z.1 = y.1 := by
  have hok := hj.1 y hy
  have h0 : y.has y.1 := ⟨hok, Int.le_refl _, by have := hok.2.1; omega⟩
  obtain ⟨z, hz, hzp⟩ := (hc _).1 ⟨y, hy, h0⟩
  refine ⟨z, hz, ?_⟩
  rcases Int.lt_or_eq_of_le hzp.2.1 with hlt | he
  · exfalso
    have h1 : z.has (y.1 - 1) := ⟨hzp.1, by omega, by have := hzp.2.2; omega⟩
    obtain ⟨u, hu, hup⟩ := (hc _).2 ⟨z, hz, h1⟩
    obtain ⟨i, hi, rfl⟩ := List.getElem_of_mem hy
    obtain ⟨j, hjj, rfl⟩ := List.getElem_of_mem hu
    have h2 := hup.2.1
    have h3 := hup.2.2
    rcases Nat.lt_trichotomy i j with h | h | h
    · have := List.pairwise_iff_getElem.1 hj.2 i j hi hjj h
      have := hok.2.1
      omega
    · subst h; omega
    · have := List.pairwise_iff_getElem.1 hj.2 j i hjj hi h
      omega
  · exact he
theorem merge_exists : ∀ (n : Nat) (M : List Sp), M.length = n → Sorted M → (∀ x ∈ M, Sp.ok x) → M ≠ [] → ∃ out cur, Merge M out cur
  | 0, M, h, _, _, hne => absurd (List.eq_nil_of_length_eq_zero h) hne
  | n + 1, M, h, hs, hok, hne => by
    rcases List.eq_nil_or_concat M with rfl | ⟨M', x, rfl⟩
    · exact absurd rfl hne
    · rw [List.concat_eq_append] at *
      have hx := hok x (by simp)
      have hs' : Sorted M' := (List.pairwise_append.1 hs).1
      have hlt := (List.pairwise_append.1 hs).2.2
      by_cases hM : M' = []
      · subst hM; exact ⟨[], x, Merge.first (fun p => cov_nil p) hx⟩
      · obtain ⟨out, cur, m⟩ := merge_exists n M' (by simpa using h) hs' (fun y hy => hok y (List.mem_append_left _ hy)) hM
        by_cases hb : cur.1 + cur.2 < x.1
        · exact ⟨_, _, m.next hx hb⟩
        · obtain ⟨z, hz, he⟩ := joined_starts m.joined m.words (y := cur) (by simp)
          have := hlt z hz x (by simp)
          unfold Sp.le at this
          exact ⟨_, _, m.grow hx (by omega) (by omega) rfl⟩
theorem join_exists (M : List Sp) (hs : Sorted M) (hok : ∀ x ∈ M, Sp.ok x) : ∃ O, Joined O ∧ ∀ p, cov O p ↔ cov M p := by
  by_cases hM : M = []
  · subst hM; exact ⟨[], Joined.nil, fun _ => Iff.rfl⟩
  · obtain ⟨out, cur, m⟩ := merge_exists _ M rfl hs hok hM
    exact ⟨_, m.joined, m.words⟩

/-- P: the rows of the first k of L's spans; none of them reaches the next one. -/
structure Past (L : List Sp) (k : Nat) (P : List Sp) : Prop where
  joined : Joined P
  words : ∀ p, cov P p ↔ cov (L.take k) p
  ends : ∀ y ∈ P, ∀ x, L[k]? = some x → y.1 + y.2 < x.1
  len : P.length ≤ k
  kle : k ≤ L.length
theorem Past.start (L : List Sp) : Past L 0 [] := ⟨Joined.nil, fun p => by simp [cov], (fun _ h => by cases h), Nat.le_refl _, Nat.zero_le _⟩
theorem sorted_ge {L : List Sp} (hs : Sorted L) {k : Nat} {x z : Sp} (hx : L[k]? = some x) (hz : z ∈ L.drop k) : x.1 ≤ z.1 := by
  obtain ⟨j, hj, rfl⟩ := List.getElem_of_mem hz
  obtain ⟨h1, rfl⟩ := List.getElem?_eq_some_iff.1 hx
  rw [List.getElem_drop]
  rcases Nat.eq_zero_or_pos j with h0 | h0
  · subst h0; exact Int.le_refl _
  · have := List.pairwise_iff_getElem.1 hs k (k + j) h1 (by simp at hj; omega) (by omega)
    unfold Sp.le at this; omega
theorem Past.next {L P : List Sp} {k m : Nat} {r : Sp} (h : Past L k P) (hs : Sorted L) (hm1 : 1 ≤ m) (hm2 : m ≤ (L.drop k).length) (hM : Merge ((L.drop k).take m) [] r) (hn : ∀ x, (L.drop k)[m]? = some x → r.1 + r.2 < x.1) : Past L (k + m) (P ++ [r]) := by
  have hlen : k + m ≤ L.length := by rw [List.length_drop] at hm2; omega
  obtain ⟨x, hx⟩ : ∃ x, L[k]? = some x := ⟨_, List.getElem?_eq_getElem (by omega)⟩
  have hr := hM.joined.1 r (by simp)
  obtain ⟨z, hz, he⟩ := joined_starts hM.joined hM.words (y := r) (by simp)
  have hxr : x.1 ≤ r.1 := by rw [← he]; exact sorted_ge hs hx (List.mem_of_mem_take hz)
  refine ⟨h.joined.snoc hr fun y hy => ?_, fun p => ?_, fun y hy u hu => ?_, by simp; have := h.len; omega, hlen⟩
  · have := h.ends y hy x hx; omega
  · rw [cov_append, h.words, List.take_add, cov_append]
    have := hM.words p
    rw [List.nil_append] at this
    rw [this]
  · have hu' : (L.drop k)[m]? = some u := by rw [List.getElem?_drop]; exact hu
    rcases List.mem_append.1 hy with hy | hy
    · have h1 := h.ends y hy x hx
      have h2 := sorted_ge hs hx (List.mem_of_getElem? hu')
      omega
    · rw [List.mem_singleton.1 hy]; exact hn u hu'
theorem Past.all {L P : List Sp} (h : Past L L.length P) : Joined P ∧ ∀ p, cov P p ↔ cov L p := ⟨h.joined, fun p => by rw [h.words, List.take_length]⟩
theorem Past.more {L P : List Sp} {k : Nat} (h : Past L k P) (hs : Sorted L) (hok : ∀ x ∈ L, Sp.ok x) : ∃ Q, Joined (P ++ Q) ∧ ∀ p, cov (P ++ Q) p ↔ cov L p := by
  obtain ⟨Q, hQ, hc⟩ := join_exists (L.drop k) (hs.sublist (List.drop_sublist _ _)) fun x hx => hok x (List.mem_of_mem_drop hx)
  refine ⟨Q, ⟨fun x hx => ?_, List.pairwise_append.2 ⟨h.joined.2, hQ.2, fun a ha b hb => ?_⟩⟩, fun p => ?_⟩
  · rcases List.mem_append.1 hx with hx | hx
    · exact h.joined.1 x hx
    · exact hQ.1 x hx
  · obtain ⟨z, hz, he⟩ := joined_starts hQ hc hb
    have hlt : k < L.length := by
      rcases Nat.lt_or_ge k L.length with h1 | h1
      · exact h1
      · rw [List.drop_eq_nil_of_le h1] at hz; cases hz
    obtain ⟨x, hx⟩ : ∃ x, L[k]? = some x := ⟨_, List.getElem?_eq_getElem hlt⟩
    have h1 := h.ends a ha x hx
    have h2 := sorted_ge hs hx hz
    omega
  · rw [cov_append, h.words, hc, ← cov_append, List.take_append_drop]
end Go.Proofs.Ytmlpppcdammelaa
