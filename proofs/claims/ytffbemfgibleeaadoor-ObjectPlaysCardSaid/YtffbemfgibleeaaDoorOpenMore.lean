/- What came in, opened: a struct of one-cell fields by value, of any number of fields; a table that is an array of structs of integers; a variable's block. No program in it. -/
import Derived.Test.YtffbemfgibleeaaDoorOpen
import Derived.LaidMore
import Derived.Stop.Joined
namespace Go.Proofs.YtffbemfgibleeaaDoor
open Go.ChangeShapes Go.WideShapes Go.RowKit Go.Deep

section
variable {H : Type} {enc : TypeId × Value → H} {P : Program} {w : World} {base b0 : Nat} {r : Reach} {sp : Nat → Bool} {held : Bool}

/-- The cells of a struct, and each field's own reading. -/
theorem cells_of_struct {t : TypeId} {fs : Array Field} {fuel : Nat} {cs : List Value} {x : DataW H × List MemPlace} (hs : P.underlying t = some (.struct fs)) (hone : oneCellFields P fs = true) (hC : P.cellsOf t = fs.size)
    (h : DataW.trod enc P w base sp held fuel t cs = some x) :
    cs.length = fs.size ∧ ∃ (ys : List (DataW H × List MemPlace)) (k : Nat), x.1 = .agg (ys.map (·.1)) ∧ ys.length = fs.size ∧ ∀ (j : Nat) (f : Field), fs[j]? = some f → ∃ u y, cs[j]? = some u ∧ ys[j]? = some y ∧ DataW.trod enc P w base sp held k f.type [u] = some y := by
  obtain ⟨ys, n, -, rfl, hl, hyl, hg⟩ := DataW.trod_struct hs h
  rw [hC] at hl
  refine ⟨hl, ys, n, rfl, hyl, fun j f hj => ?_⟩
  obtain ⟨ho, hk⟩ := hone_of hone j f hj
  have hjl : j < fs.size := (Array.getElem?_eq_some_iff.1 hj).1
  have h1 := hg j f hj
  have e1 : (cs.drop j).take 1 = [cs[j]'(by omega)] := by rw [List.drop_eq_getElem_cons (by omega)]; rfl
  rw [ho, hk, e1, List.getElem?_eq_getElem (by omega : j < ys.length)] at h1
  exact ⟨_, _, List.getElem?_eq_getElem (by omega), List.getElem?_eq_getElem (by omega), h1⟩
theorem open_fields {t : TypeId} {fs : Array Field} {v : Value} {d : DataW H} {p : List MemPlace} (hs : P.underlying t = some (.struct fs)) (hone : oneCellFields P fs = true) (hC : P.cellsOf t = fs.size)
    (hv : Value.okWide P w r b0 t v) (h : DataW.Trod enc P w base sp held t v d p) :
    ∃ cs : Array Value, v = .agg cs ∧ cs.size = fs.size ∧ ∃ k, ∀ (j : Nat) (f : Field), fs[j]? = some f → ∃ u y, cs[j]? = some u ∧ DataW.trod enc P w base sp held k f.type [u] = some y := by
  obtain ⟨cs, rfl, hsz⟩ := okWide_struct hs hv
  obtain ⟨fuel, hf⟩ := h
  obtain ⟨hl, ys, k, -, -, hg⟩ := cells_of_struct hs hone hC hf
  refine ⟨cs, rfl, by simpa [Value.cells] using hl, k, fun j f hj => ?_⟩
  obtain ⟨u, y, hu, -, hd⟩ := hg j f hj
  exact ⟨u, y, by simpa [Value.cells] using hu, hd⟩

/-- A struct of integers that reads as these. -/
theorem ints_of_struct {t : TypeId} {fs : Array Field} {fuel : Nat} {cs : List Value} {ns : List Int} {q : List MemPlace} (hs : P.underlying t = some (.struct fs)) (hone : oneCellFields P fs = true) (hC : P.cellsOf t = fs.size)
    (hint : (fs.toList.all fun f => match P.underlying f.type with | some (.int .i64) => true | _ => false) = true)
    (h : DataW.trod enc P w base sp held fuel t cs = some (.agg (ns.map fun m => .lit (.int .i64 m)), q)) : cs = ns.map (Value.int .i64) := by
  obtain ⟨hl, ys, k, hx, hyl, hg⟩ := cells_of_struct hs hone hC h
  simp only [DataW.agg.injEq] at hx
  have hnl : ns.length = fs.size := by have := congrArg List.length hx; simpa [hyl] using this
  apply List.ext_getElem?
  intro i
  by_cases hi : i < fs.size
  · obtain ⟨u, y, hu, hy, hd⟩ := hg i fs[i] (by simp [hi])
    have hf : P.underlying (fs[i]).type = some (.int .i64) := by
      have := List.all_eq_true.1 hint fs[i] (by simp)
      split at this
      · assumption
      · cases this
    obtain ⟨z, e1, e2, _⟩ := DataW.trod_int hf hd
    have e3 : (ns.map fun m => (DataW.lit (Lit.int .i64 m) : DataW H))[i]? = (ys.map (·.1))[i]? := by rw [hx]
    rw [List.getElem?_map, List.getElem?_map, hy, List.getElem?_eq_getElem (by omega : i < ns.length)] at e3
    simp only [Option.map_some, Option.some.injEq] at e3
    rw [e2] at e3
    simp only [DataW.lit.injEq, Lit.int.injEq, true_and] at e3
    obtain rfl : u = .int .i64 z := by simpa using e1
    rw [hu, List.getElem?_map, List.getElem?_eq_getElem (by omega : i < ns.length), e3]
    rfl
  · rw [List.getElem?_eq_none (by omega), List.getElem?_eq_none (by simp; omega)]

theorem flat_of_chunks {α : Type} (c : Nat) : ∀ (rows : List (List α)) (cs : List α), cs.length = rows.length * c → (∀ i r, rows[i]? = some r → (cs.drop (i * c)).take c = r) → cs = rows.flatten
  | [], cs, hl, _ => List.eq_nil_of_length_eq_zero (by simpa using hl)
  | r :: rows, cs, hl, h => by
    have h0 := h 0 r rfl
    rw [Nat.zero_mul, List.drop_zero] at h0
    have ih := flat_of_chunks c rows (cs.drop c) (by rw [List.length_drop, hl, List.length_cons, Nat.add_mul]; omega) fun i r' hi => by
      rw [List.drop_drop]
      have := h (i + 1) r' hi
      rwa [Nat.add_mul, Nat.one_mul, Nat.add_comm] at this
    rw [List.flatten_cons, ← ih, ← h0, List.take_append_drop]
/-- An array of structs of integers that reads as these. -/
theorem rows_of_array {t e : TypeId} {n : Nat} {fs : Array Field} {fuel : Nat} {cs : List Value} {rows : List (List Int)} {q : List MemPlace} (ht : P.underlying t = some (.array n e)) (hs : P.underlying e = some (.struct fs)) (hone : oneCellFields P fs = true) (hC : P.cellsOf e = fs.size)
    (hint : (fs.toList.all fun f => match P.underlying f.type with | some (.int .i64) => true | _ => false) = true) (hct : P.cellsOf t = n * fs.size)
    (h : DataW.trod enc P w base sp held fuel t cs = some (.agg (rows.map fun r => .agg (r.map fun m => .lit (.int .i64 m))), q)) : cs = (rows.map fun r => r.map (Value.int .i64)).flatten := by
  obtain ⟨xs, m, -, hx, hlen, hn, hel⟩ := DataW.trod_array ht h
  simp only [Prod.mk.injEq, DataW.agg.injEq] at hx
  have hnl : rows.length = n := by have := congrArg List.length hx.1; simpa [hn] using this
  refine flat_of_chunks fs.size _ cs (by rw [List.length_map, hlen, hct, hnl]) fun i r hr => ?_
  rw [List.getElem?_map] at hr
  have hi : i < rows.length := by
    rcases Nat.lt_or_ge i rows.length with h' | h'
    · exact h'
    · rw [List.getElem?_eq_none h'] at hr; cases hr
  rw [List.getElem?_eq_getElem hi] at hr
  simp only [Option.map_some, Option.some.injEq] at hr
  have h1 := hel i (by omega)
  have e3 : (rows.map fun r => (DataW.agg (r.map fun m => .lit (.int .i64 m)) : DataW H))[i]? = (xs.map (·.1))[i]? := by rw [hx.1]
  rw [List.getElem?_map, List.getElem?_map, List.getElem?_eq_getElem hi, List.getElem?_eq_getElem (by omega : i < xs.length)] at e3
  simp only [Option.map_some, Option.some.injEq] at e3
  rw [hC, List.getElem?_eq_getElem (by omega : i < xs.length)] at h1
  rw [← hr]
  refine ints_of_struct hs hone hC hint (q := (xs[i]'(by omega)).2) (h1.trans ?_)
  rw [e3]
/-- A variable's block. -/
theorem var_block {n : String} {g : Nat} {cs : Array Value} (hg : P.globalNamed n = some g) (h : w.var? P n = some cs) : ∃ t fr, w.heap[g]? = some (.cells cs t fr) := by
  unfold World.var? at h
  rw [hg] at h
  simp only [Option.bind_some] at h
  split at h
  · rename_i c t fr hh
    obtain rfl := Option.some.inj h
    exact ⟨t, fr, hh⟩
  · cases h
end
end Go.Proofs.YtffbemfgibleeaaDoor
