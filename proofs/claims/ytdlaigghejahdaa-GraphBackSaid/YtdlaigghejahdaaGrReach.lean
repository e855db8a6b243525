/- How long a row inside a graph that came in can be: the form's own reach. -/
import Derived.Test.YtdlaigghejahdaaGrOpen
import Derived.SizedLaws
namespace Go.Proofs.Ytdlaigghejahdaa
open Go.ChangeShapes Go.WideShapes Go.RowKit Go.Deep
set_option maxRecDepth 100000

section
variable {H : Type} {enc : TypeId × Value → H} {P : Program} {w : World} {base : Nat} {sp : Nat → Bool} {held : Bool}
theorem weights_all_mem {e : TypeId} : ∀ (l : List (DataW H)) (d : DataW H), d ∈ l → ∀ n ∈ d.weights P e, n ∈ DataW.weightsAll P e l
  | [], _, h, _, _ => by cases h
  | x :: l, d, h, n, hn => by
    unfold DataW.weightsAll
    rcases List.mem_cons.1 h with rfl | h
    · exact List.mem_append.2 (.inl hn)
    · exact List.mem_append.2 (.inr (weights_all_mem l d h n hn))
theorem slice_weight {t e : TypeId} {fuel : Nat} {A : Option Addr} {n c : Nat} {x : DataW H × List MemPlace} (ht : P.underlying t = some (.slice e)) (h : DataW.trod enc P w base sp held fuel t [.slice A n c] = some x) :
    n = 0 ∨ ∃ m, m ∈ x.1.weights P t ∧ n * P.bytesOf e ≤ m := by
  rcases DataW.trod_slice ht h with ⟨hcs, _⟩ | ⟨a, len, cap, elems, rest, k, _, hcs, hx, _, _, _, hlen, _⟩
  · left; simpa using (by simpa using hcs : A = none ∧ n = 0 ∧ c = 0).2.1
  · right
    obtain ⟨-, rfl, -⟩ : A = some a ∧ n = len ∧ c = cap := by simpa using hcs
    refine ⟨((elems.map (·.1)).length + (rest.map (·.1)).length) * P.bytesOf e, ?_, Nat.mul_le_mul_right _ (by rw [List.length_map, hlen]; omega)⟩
    rw [hx]
    simp [DataW.weights, ht]
theorem slice_elem_weight {t e : TypeId} {fuel : Nat} {a : Addr} {n c : Nat} {x : DataW H × List MemPlace} (ht : P.underlying t = some (.slice e)) (h : DataW.trod enc P w base sp held fuel t [.slice (some a) n c] = some x) {i : Nat} (hi : i < n) :
    ∃ (k : Nat) (cs : List Value) (y : DataW H × List MemPlace), w.cells? base (a.add (i * P.cellsOf e)) (P.cellsOf e) = some cs ∧ DataW.trod enc P w base sp held k e cs = some y ∧ ∀ m ∈ y.1.weights P e, m ∈ x.1.weights P t := by
  rcases DataW.trod_slice ht h with ⟨hcs, _⟩ | ⟨a', len, cap, elems, rest, k, _, hcs, hx, _, _, _, hlen, hel, _⟩
  · simp at hcs
  · obtain ⟨rfl, rfl, rfl⟩ : a = a' ∧ n = len ∧ c = cap := by simpa using hcs
    have h1 := hel i hi
    rw [List.getElem?_eq_getElem (by omega : i < elems.length)] at h1
    cases hc : w.cells? base (a.add (i * P.cellsOf e)) (P.cellsOf e) with
    | none => rw [hc] at h1; cases h1
    | some cs =>
      rw [hc] at h1
      refine ⟨k, cs, _, rfl, h1, fun m hm => ?_⟩
      rw [hx]
      simp only [DataW.weights, ht, List.mem_cons, List.mem_append]
      exact .inr (.inl (weights_all_mem _ _ (List.mem_map.2 ⟨_, List.getElem_mem _, rfl⟩) m hm))
theorem struct_weight {t : TypeId} {fs : Array Field} {fuel : Nat} {cs : List Value} {x : DataW H × List MemPlace} (ht : P.underlying t = some (.struct fs)) (h : DataW.trod enc P w base sp held fuel t cs = some x) {j : Nat} {f : Field} (hf : fs[j]? = some f) :
    ∃ (k : Nat) (y : DataW H × List MemPlace), DataW.trod enc P w base sp held k f.type ((cs.drop f.offset).take (P.cellsOf f.type)) = some y ∧ ∀ m ∈ y.1.weights P f.type, m ∈ x.1.weights P t := by
  obtain ⟨ys, n, -, rfl, -, hyl, hg⟩ := DataW.trod_struct ht h
  have hj : j < ys.length := by
    rw [hyl]
    exact (Array.getElem?_eq_some_iff.1 hf).1
  have h1 := hg j f hf
  rw [List.getElem?_eq_getElem hj] at h1
  refine ⟨n, _, h1, fun m hm => ?_⟩
  simp only [DataW.weights, ht]
  exact DataW.weights_mem_each (j := j) (t := f.type) (d := (ys[j]).1) (by rw [List.getElem?_map, Array.getElem?_toList, hf]; rfl) (by rw [List.getElem?_map, List.getElem?_eq_getElem hj]; rfl) m hm
end
theorem addr_add16 (b o i j : Nat) : ((⟨b, o, none⟩ : Addr).add i).add j = ⟨b, o + i + j, none⟩ := by
  have h : ∀ (o k : Nat), (⟨b, o, none⟩ : Addr).add k = ⟨b, o + k, none⟩ := fun o k => by
    unfold Addr.add
    by_cases hk : k = 0
    · simp [hk]
    · simp [hk]
  rw [h, h]
theorem bytes_val16 : Try.prog.bytesOf 46 = 16 := by kernel_rfl
theorem bytes_word16 : Try.prog.bytesOf 47 = 8 := by kernel_rfl
section
variable {H : Type} {enc : TypeId × Value → H} {w : World} {base : Nat} {sp : Nat → Bool} {held : Bool}
theorem rows_reach {g : Gr} {vn vr : Value} {hs : List (Value × Value)} {d : DataW H} {p : List MemPlace} (h : DataW.Trod enc Try.prog w base sp held 25 (.agg #[vn, vr]) d p) (hr : RdG w w.heap.size g vn vr hs)
    (hw : ∀ n ∈ d.weights Try.prog 25, n ≤ reachBytes) : ∀ x ∈ g.nd, x.fs.length * 16 ≤ reachBytes ∧ x.rs.length * 8 ≤ reachBytes := by
  intro x hx
  obtain ⟨i, hi⟩ := List.getElem?_of_mem hx
  have hlt : i < g.nd.length := (List.getElem?_eq_some_iff.1 hi).1
  obtain ⟨fuel, hf⟩ := h
  obtain ⟨k0, y0, t0, m0⟩ := struct_weight Try.underlying25 hf (j := 0) rfl
  have t0' : DataW.trod enc Try.prog w base sp held k0 22 [vn] = some y0 := t0
  have m0' : ∀ m ∈ y0.1.weights Try.prog 22, m ∈ d.weights Try.prog 25 := m0
  obtain ⟨A, c, rfl, -⟩ := hr.nodes.form
  obtain ⟨bb, o, fv, rv, hA, -, hh, -, e1, e2, hnd⟩ := hr.at_ (Below.refl _ _) hi
  obtain rfl : A = some ⟨bb, o, none⟩ := by simpa using hA
  obtain ⟨k1, cs, y1, hc, t1, m1⟩ := slice_elem_weight Try.underlying22 t0' hlt
  obtain ⟨hcl, hcl2, hat⟩ := World.cells?_some hc
  have hC : Try.prog.cellsOf 34 = 3 := by kernel_rfl
  rw [hC] at hat hcl2 hc
  have c1 : cs[1]? = some fv := by
    have := hat 1 (by omega)
    rw [← this]; rw [addr_add16]; exact e1
  have c2 : cs[2]? = some rv := by
    have := hat 2 (by omega)
    rw [← this]; rw [addr_add16]; exact e2
  match cs, hcl2 with
  | [u0, u1, u2], _ =>
    obtain rfl : u1 = fv := by simpa using c1
    obtain rfl : u2 = rv := by simpa using c2
    obtain ⟨k2, y2, t2, m2⟩ := struct_weight Try.underlying34 t1 (j := 1) rfl
    obtain ⟨k3, y3, t3, m3⟩ := struct_weight Try.underlying34 t1 (j := 2) rfl
    have t2' : DataW.trod enc Try.prog w base sp held k2 23 [u1] = some y2 := t2
    have t3' : DataW.trod enc Try.prog w base sp held k3 32 [u2] = some y3 := t3
    obtain ⟨Af, cf, hfv, -⟩ := hnd.fields.form
    obtain ⟨Ar, cr, hrv, -⟩ := hnd.raws.form
    simp only at hfv hrv
    subst hfv hrv
    constructor
    · rcases slice_weight Try.underlying23 t2' with h0 | ⟨m, hm, hle⟩
      · rw [h0]; exact Nat.zero_le _
      · rw [bytes_val16] at hle
        exact Nat.le_trans hle (hw m (m0' m (m1 m (m2 m hm))))
    · rcases slice_weight Try.underlying32 t3' with h0 | ⟨m, hm, hle⟩
      · rw [h0]; exact Nat.zero_le _
      · rw [bytes_word16] at hle
        exact Nat.le_trans hle (hw m (m0' m (m1 m (m3 m hm))))
end
end Go.Proofs.Ytdlaigghejahdaa
