/- What came in, opened: a slice of structs of any fields, element by element. No program in it. -/
import Derived.Test.YtffbemfgibleeaaDoorOpenMore
namespace Go.Proofs.YtffbemfgibleeaaDoor
open Go.ChangeShapes Go.WideShapes Go.RowKit Go.Deep

section
variable {H : Type} {enc : TypeId × Value → H} {P : Program} {w : World} {base b0 : Nat} {r : Reach} {sp : Nat → Bool} {held : Bool}
theorem open_elems {t e : TypeId} {v : Value} {d : DataW H} {p : List MemPlace} (m : Nat) (ht : P.underlying t = some (.slice e)) (hC : P.cellsOf e = m) (hpos : 0 < m)
    (hv : Value.okWide P w r b0 t v) (h : DataW.Trod enc P w base sp held t v d p) :
    ∃ (n : Nat) (xs : List Value), Sl w w.heap.size m v n xs ∧
      ∀ i, i < n → ∃ (cs : List Value) (k : Nat) (y : DataW H × List MemPlace), cs.length = m ∧ (∀ j, j < m → xs[i * m + j]? = cs[j]?) ∧ DataW.trod enc P w base sp held k e cs = some y := by
  subst hC
  obtain ⟨A, len, cap, rfl⟩ := okWide_slice ht hv
  obtain ⟨fuel, hf⟩ := h
  rcases open_slice ht hf with ⟨hcs, _⟩ | ⟨a, len', cap', m, k, D, Pl, hcs, _, hl, hmx, hmm, _, hi⟩
  · obtain ⟨rfl, rfl, rfl⟩ : A = none ∧ len = 0 ∧ cap = 0 := by simpa [Value.cells] using hcs
    exact ⟨0, [], Sl.nil_, fun i hi => absurd hi (Nat.not_lt_zero i)⟩
  · obtain ⟨rfl, rfl, rfl⟩ : A = some a ∧ len = len' ∧ cap = cap' := by simpa [Value.cells] using hcs
    have hlm : len ≤ m := by rw [hmm]; split <;> omega
    have hall : ∀ i, i < len → ∃ (cs : List Value) (k : Nat) (y : DataW H × List MemPlace), cs.length = P.cellsOf e ∧ (∀ j, j < P.cellsOf e → w.cell? (a.add (i * P.cellsOf e + j)) = cs[j]?) ∧ DataW.trod enc P w base sp held k e cs = some y := by
      intro i hi'
      obtain ⟨cs', hc, hd⟩ := hi i (by omega)
      obtain ⟨_, hcl, hat⟩ := World.cells?_some hc
      refine ⟨cs', _, _, hcl, fun j hj => ?_, hd⟩
      have hcell := hat j hj
      rw [Go.Deep.add_add] at hcell
      exact hcell
    let cell (k : Nat) : Value := (w.cell? (a.add k)).getD undef
    have hcellAt : ∀ k, k < len * P.cellsOf e → w.cell? (a.add k) = some (cell k) := by
      intro k hk
      have hi' : k / P.cellsOf e < len := (Nat.div_lt_iff_lt_mul hpos).2 hk
      obtain ⟨cs, _, _, hl, hat, _⟩ := hall (k / P.cellsOf e) hi'
      have hm := Nat.mod_lt k hpos
      have hu := hat (k % P.cellsOf e) hm
      rw [Nat.div_add_mod', List.getElem?_eq_getElem (by omega : k % P.cellsOf e < cs.length)] at hu
      simp only [cell, hu, Option.getD_some]
    refine ⟨len, (List.range (len * P.cellsOf e)).map cell, ⟨some a, cap, rfl, hl, hmx, by simp, fun hn => ?_⟩, fun i hi' => ?_⟩
    · have h0 := hcellAt 0 (Nat.mul_pos hn hpos)
      obtain ⟨b, o, rfl, hb⟩ := plain_addr h0
      refine ⟨b, o, rfl, hb, fun k u hu => ?_⟩
      have hk : k < len * P.cellsOf e := by
        rcases Nat.lt_or_ge k (len * P.cellsOf e) with h' | h'
        · exact h'
        · rw [List.getElem?_eq_none (by simpa using h')] at hu; cases hu
      rw [← add_plain, hcellAt k hk, ← hu]
      simp [hk]
    · obtain ⟨cs, k, y, hl', hat, hd⟩ := hall i hi'
      refine ⟨cs, k, y, hl', fun j hj => ?_, hd⟩
      have hk : i * P.cellsOf e + j < len * P.cellsOf e := by
        have : (i + 1) * P.cellsOf e ≤ len * P.cellsOf e := Nat.mul_le_mul_right _ hi'
        rw [Nat.add_mul] at this
        omega
      rw [← hat j hj, hcellAt _ hk]
      simp [hk]
end
end Go.Proofs.YtffbemfgibleeaaDoor
