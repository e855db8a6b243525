/- What came in, opened: slices of integers, of structs of one-cell fields, as rows that read. -/
import Derived.Test.YtffbemfgibleeaaDoorMem
import Derived.ProofKit
import Derived.OpenShut
import Derived.Deep.Slices
import Derived.Deep.Fields
import Derived.ChangeSame
namespace Go.Proofs.YtffbemfgibleeaaDoor
open Go.ChangeShapes Go.WideShapes Go.RowKit Go.Deep

section
variable {H : Type} {enc : TypeId × Value → H} {P : Program} {w : World} {base b0 : Nat} {r : Reach} {sp : Nat → Bool} {held : Bool}

/-- An address at which a cell is, is a plain one. -/
theorem plain_addr {a : Addr} {u : Value} (h : w.cell? (a.add 0) = some u) : ∃ b o, a = ⟨b, o, none⟩ ∧ b < w.heap.size := by
  have e : a.add 0 = a := by unfold Addr.add; rw [if_pos rfl]
  rw [e] at h
  obtain ⟨b, o, s⟩ := a
  obtain rfl : s = none := World.cell?_spot h
  exact ⟨b, o, rfl, World.block_lt_of_cell? w _ h⟩

theorem open_row {t e : TypeId} {k : IntKind} {v : Value} {d : DataW H} {p : List MemPlace} (ht : P.underlying t = some (.slice e)) (he : P.underlying e = some (.int k)) (hc : P.cellsOf e = 1)
    (hv : Value.okWide P w r b0 t v) (h : DataW.Trod enc P w base sp held t v d p) :
    ∃ zs : List Int, Sl w w.heap.size 1 v zs.length (zs.map fun z => .int k z) ∧ ∀ z ∈ zs, (Lit.int k z).wf = true := by
  obtain ⟨A, len, cap, rfl⟩ := okWide_slice ht hv
  obtain ⟨fuel, hf⟩ := h
  rcases open_ints ht he hc hf with ⟨hcs, _⟩ | ⟨a, len', cap', zs, hcs, _, hl, hm, hz, _, hcell, hwz⟩
  · obtain ⟨rfl, rfl, rfl⟩ : A = none ∧ len = 0 ∧ cap = 0 := by simpa [Value.cells] using hcs
    exact ⟨[], Sl.nil_, fun _ h => by cases h⟩
  · obtain ⟨rfl, rfl, rfl⟩ : A = some a ∧ len = len' ∧ cap = cap' := by simpa [Value.cells] using hcs
    have hzl : len ≤ zs.length := by rw [hz]; split <;> omega
    refine ⟨zs.take len, ⟨some a, cap, by simp [Nat.min_eq_left hzl], by simp; omega, hm, by simp, fun hn => ?_⟩, fun z hz' => hwz z (List.mem_of_mem_take hz')⟩
    have hn0 : 0 < zs.length := by simp at hn; omega
    obtain ⟨b, o, rfl, hb⟩ := plain_addr (hcell 0 hn0)
    refine ⟨b, o, rfl, hb, fun j u hu => ?_⟩
    have hj : j < len ∧ j < zs.length := by
      rcases Nat.lt_or_ge j (zs.take len).length with h' | h'
      · simp at h'; omega
      · rw [List.getElem?_eq_none (by simpa using h')] at hu; cases hu
    have h1 := hcell j hj.2
    rw [add_plain] at h1
    rw [h1, ← hu]
    simp [hj.1, hj.2]

theorem nat_of_word {a : Int} (h : (Lit.int .u64 a).wf = true) : a = (a.toNat : Int) ∧ a.toNat < full := by
  have := bounds_u64 h
  exact ⟨by omega, by unfold full; omega⟩

/-- []uint64. -/
theorem open_words {t e : TypeId} {v : Value} {d : DataW H} {p : List MemPlace} (ht : P.underlying t = some (.slice e)) (he : P.underlying e = some (.int .u64)) (hc : P.cellsOf e = 1)
    (hv : Value.okWide P w r b0 t v) (h : DataW.Trod enc P w base sp held t v d p) :
    ∃ l : List Nat, Sl w w.heap.size 1 v l.length (u64s l) ∧ Words l := by
  obtain ⟨zs, hs, hw⟩ := open_row ht he hc hv h
  have e1 : zs.map (fun z => Value.int .u64 z) = u64s (zs.map Int.toNat) := by
    unfold u64s
    rw [List.map_map]
    refine List.map_congr_left fun z hz => ?_
    rw [(nat_of_word (hw z hz)).1]
    rfl
  refine ⟨zs.map Int.toNat, by rw [e1] at hs; simpa using hs, fun x hx => ?_⟩
  simp only [List.mem_map] at hx
  obtain ⟨z, hz, rfl⟩ := hx
  exact (nat_of_word (hw z hz)).2

/-- A slice of structs whose fields are one cell each: the cells, one behind the other, and each field's own reading. -/
theorem open_structs {t e : TypeId} {fs : Array Field} {v : Value} {d : DataW H} {p : List MemPlace} (m : Nat) (ht : P.underlying t = some (.slice e)) (he : P.underlying e = some (.struct fs)) (hone : oneCellFields P fs = true)
    (hm : fs.size = m) (hC : P.cellsOf e = m) (hpos : 0 < m) (hv : Value.okWide P w r b0 t v) (h : DataW.Trod enc P w base sp held t v d p) :
    ∃ (n : Nat) (xs : List Value), Sl w w.heap.size m v n xs ∧
      ∀ i j f, i < n → fs[j]? = some f → ∃ (u : Value) (y : DataW H × List MemPlace) (k : Nat), xs[i * m + j]? = some u ∧ DataW.trod enc P w base sp held k f.type [u] = some y := by
  subst hm
  obtain ⟨A, len, cap, rfl⟩ := okWide_slice ht hv
  obtain ⟨fuel, hf⟩ := h
  rcases open_slice ht hf with ⟨hcs, _⟩ | ⟨a, len', cap', m, k, D, Pl, hcs, _, hl, hmx, hmm, _, hi⟩
  · obtain ⟨rfl, rfl, rfl⟩ : A = none ∧ len = 0 ∧ cap = 0 := by simpa [Value.cells] using hcs
    exact ⟨0, [], Sl.nil_, fun i _ _ hi _ => absurd hi (Nat.not_lt_zero i)⟩
  · obtain ⟨rfl, rfl, rfl⟩ : A = some a ∧ len = len' ∧ cap = cap' := by simpa [Value.cells] using hcs
    have hlm : len ≤ m := by rw [hmm]; split <;> omega
    -- each cell is there
    have hall : ∀ i j, i < len → j < fs.size → ∃ u, w.cell? (a.add (i * fs.size + j)) = some u ∧ ∀ f, fs[j]? = some f → ∃ (y : DataW H × List MemPlace) (k : Nat), DataW.trod enc P w base sp held k f.type [u] = some y := by
      intro i j hi' hj
      obtain ⟨cs', hc, hd⟩ := hi i (by omega)
      rw [hC] at hc
      obtain ⟨ys, n', -, -, hlen, hyl, hg⟩ := DataW.trod_struct he hd
      obtain ⟨_, hcl, hat⟩ := World.cells?_some hc
      have hcell := hat j hj
      rw [Go.Deep.add_add, List.getElem?_eq_getElem (by omega : j < cs'.length)] at hcell
      refine ⟨_, hcell, fun f hfj => ?_⟩
      obtain ⟨ho, hk⟩ := hone_of hone j f hfj
      have h1 := hg j f hfj
      rw [ho, hk] at h1
      have e1 : (cs'.drop j).take 1 = [cs'[j]'(by omega)] := by
        rw [List.drop_eq_getElem_cons (by omega)]
        rfl
      rw [e1, List.getElem?_eq_getElem (by omega : j < ys.length)] at h1
      exact ⟨_, _, h1⟩
    let cell (k : Nat) : Value := (w.cell? (a.add k)).getD undef
    have hcellAt : ∀ k, k < len * fs.size → w.cell? (a.add k) = some (cell k) := by
      intro k hk
      have hi' : k / fs.size < len := (Nat.div_lt_iff_lt_mul hpos).2 hk
      obtain ⟨u, hu, _⟩ := hall (k / fs.size) (k % fs.size) hi' (Nat.mod_lt _ hpos)
      rw [Nat.div_add_mod'] at hu
      simp only [cell, hu, Option.getD_some]
    refine ⟨len, (List.range (len * fs.size)).map cell, ⟨some a, cap, rfl, hl, hmx, by simp, fun hn => ?_⟩, fun i j f hi' hj => ?_⟩
    · have h0 := hcellAt 0 (Nat.mul_pos hn hpos)
      obtain ⟨b, o, rfl, hb⟩ := plain_addr h0
      refine ⟨b, o, rfl, hb, fun k u hu => ?_⟩
      have hk : k < len * fs.size := by
        rcases Nat.lt_or_ge k (len * fs.size) with h' | h'
        · exact h'
        · rw [List.getElem?_eq_none (by simpa using h')] at hu; cases hu
      rw [← add_plain, hcellAt k hk, ← hu]
      simp [hk]
    · have hjl : j < fs.size := (Array.getElem?_eq_some_iff.1 hj).1
      have hk : i * fs.size + j < len * fs.size := by
        have : (i + 1) * fs.size ≤ len * fs.size := Nat.mul_le_mul_right _ hi'
        rw [Nat.add_mul] at this
        omega
      obtain ⟨u, hu, hy⟩ := hall i j hi' hjl
      obtain ⟨y, k', hy'⟩ := hy f hj
      refine ⟨u, y, k', ?_, hy'⟩
      have := hcellAt _ hk
      rw [hu] at this
      simp [hk, ← Option.some.inj this]
end
end Go.Proofs.YtffbemfgibleeaaDoor
