/- Plain mathematics: spans that lie apart, seen in their order. No program in it. -/
import Derived.Test.YtpgkmjkickkieaaSpanPlain
namespace Go.Proofs.Ytpgkmjkickkieaa

theorem meets_symm' {x y : Sp} (h : Sp.meets x y) : Sp.meets y x := ⟨h.2.1, h.1, h.2.2.symm⟩
theorem meets_lt {x y : Sp} (hx : x.ok) (hy : y.ok) : Sp.meets x y ↔ x.1 < y.1 + y.2 ∧ y.1 < x.1 + x.2 := by
  unfold Sp.meets Sp.has
  simp only [hx, hy, true_and]
  unfold Sp.ok at hx hy
  omega
theorem apart_perm {l m : List Sp} (h : l.Perm m) : ApartL l ↔ ApartL m := by
  unfold ApartL
  rw [h.pairwise_iff (R := fun x y => ¬ Sp.meets y x) (fun {a b} hab hba => hab (meets_symm' hba))]
  exact ⟨fun ⟨a, b⟩ => ⟨fun x hx => a x (h.mem_iff.2 hx), b⟩, fun ⟨a, b⟩ => ⟨fun x hx => a x (h.mem_iff.1 hx), b⟩⟩
theorem apart_next {l : List Sp} {x : Sp} (h : ApartL l) (hx : x.ok) (hb : ∀ y ∈ l, y.1 + y.2 ≤ x.1) : ApartL (l ++ [x]) := by
  constructor
  · intro y hy
    rcases List.mem_append.1 hy with hy | hy
    · exact h.1 y hy
    · rw [List.mem_singleton.1 hy]; exact hx
  · refine List.pairwise_append.2 ⟨h.2, List.pairwise_singleton _ _, fun a ha b hb' => ?_⟩
    rw [List.mem_singleton.1 hb', meets_lt hx (h.1 a ha)]
    have := hb a ha
    omega
theorem apart_not {l : List Sp} {i k : Nat} {x y : Sp} (hx : l[i]? = some x) (hy : l[k]? = some y) (hk : k < i) (h1 : y.1 ≤ x.1) (h2 : x.1 < y.1 + y.2) : ¬ ApartL l := by
  intro ha
  refine apart_no2 hx hy hk ?_ ha
  have hxo := ha.1 x (List.mem_of_getElem? hx)
  have hyo := ha.1 y (List.mem_of_getElem? hy)
  rw [meets_lt hxo hyo]
  unfold Sp.ok at hxo
  omega
end Go.Proofs.Ytpgkmjkickkieaa
