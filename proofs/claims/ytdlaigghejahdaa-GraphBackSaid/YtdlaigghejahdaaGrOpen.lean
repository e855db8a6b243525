/- A graph that came in by value, opened: rows of nodes, each with two rows. (Written ahead of stage 16's code.) -/
import Derived.Test.YtdlaigghejahdaaGrSay
import Derived.Test.YtdlaigghejahdaaOpens
namespace Go.Proofs.Ytdlaigghejahdaa
open Go.ChangeShapes Go.WideShapes Go.RowKit Go.Deep
set_option maxRecDepth 100000

theorem list_of {α : Type} {P : Nat → α → Prop} : ∀ (n : Nat), (∀ i, i < n → ∃ x, P i x) → ∃ l : List α, l.length = n ∧ ∀ i x, l[i]? = some x → P i x
  | 0, _ => ⟨[], rfl, fun _ _ h => by cases h⟩
  | n + 1, h => by
    obtain ⟨l, hl, hp⟩ := list_of n fun i hi => h i (by omega)
    obtain ⟨x, hx⟩ := h n (by omega)
    refine ⟨l ++ [x], by simp [hl], fun i y hy => ?_⟩
    rcases Nat.lt_or_ge i n with hi | hi
    · rw [List.getElem?_append_left (by omega)] at hy
      exact hp i y hy
    · have hi2 : i = n := by
        have := (List.getElem?_eq_some_iff.1 hy).1
        simp [hl] at this
        omega
      subst hi2
      rw [List.getElem?_append_right (by omega), hl] at hy
      simp at hy
      rw [← hy]; exact hx
theorem ndc_of : ∀ (l : List Nd) (hs : List (Value × Value)) (xs : List Value), hs.length = l.length → xs.length = l.length * 3 →
    (∀ i d h, l[i]? = some d → hs[i]? = some h → xs[i * 3 + 0]? = some (.int .i64 d.kd) ∧ xs[i * 3 + 1]? = some h.1 ∧ xs[i * 3 + 2]? = some h.2) → xs = ndc l hs
  | [], [], xs, _, hx, _ => by simpa [ndc] using hx
  | [], _ :: _, _, h, _, _ => by cases h
  | _ :: _, [], _, h, _, _ => by cases h
  | _ :: _, _ :: _, [], _, hx, _ => by simp at hx
  | _ :: _, _ :: _, [_], _, hx, _ => by simp at hx; omega
  | _ :: _, _ :: _, [_, _], _, hx, _ => by simp at hx; omega
  | d :: l, h :: hs, a :: b :: c :: xs, hl, hx, H => by
    obtain ⟨e0, e1, e2⟩ := H 0 d h rfl rfl
    obtain rfl : a = .int .i64 d.kd := by simpa using e0
    obtain rfl : b = h.1 := by simpa using e1
    obtain rfl : c = h.2 := by simpa using e2
    have ih := ndc_of l hs xs (by simpa using hl) (by simp at hx; omega) fun i d h hd hh => by
      have := H (i + 1) d h (by simpa using hd) (by simpa using hh)
      simpa [Nat.add_mul] using this
    simp only [ndc]
    rw [← ih]
theorem pairs_spc16 : ∀ (n : Nat) (xs : List Value), xs.length = n * 2 → (∀ j, j < n * 2 → ∃ z : Int, xs[j]? = some (.int .i64 z) ∧ -9223372036854775808 ≤ z ∧ z ≤ 9223372036854775807) → ∃ l : List Sp, l.length = n ∧ xs = spc l ∧ VlOk l
  | 0, [], _, _ => ⟨[], rfl, rfl, fun _ h => by cases h⟩
  | 0, _ :: _, hl, _ => by simp at hl
  | n + 1, [], hl, _ => by simp at hl
  | n + 1, [_], hl, _ => by simp at hl; omega
  | n + 1, a :: b :: xs, hl, h => by
    obtain ⟨x, e0, b0⟩ := h 0 (by omega)
    obtain ⟨y, e1, b1⟩ := h 1 (by omega)
    obtain rfl : a = .int .i64 x := by simpa using e0
    obtain rfl : b = .int .i64 y := by simpa using e1
    obtain ⟨l, hl', rfl, hF⟩ := pairs_spc16 n xs (by simp at hl; omega) fun j hj => by
      have := h (j + 2) (by omega)
      simpa using this
    exact ⟨(x, y) :: l, by simp [hl'], by simp [spc], fun z hz => by
      rcases List.mem_cons.1 hz with rfl | hz
      · exact ⟨b0, b1⟩
      · exact hF z hz⟩
section
variable {H : Type} {enc : TypeId × Value → H} {w : World} {base b0 : Nat} {r : Reach} {sp : Nat → Bool} {held : Bool}
theorem vals_of_trod {fuel : Nat} {u : Value} {x : DataW H × List MemPlace} (h : DataW.trod enc Try.prog w base sp held fuel 23 [u] = some x) : ∃ l : List Sp, Sl w w.heap.size 2 u l.length (spc l) ∧ VlOk l := by
  obtain ⟨hv, ht⟩ := slice_of_trod Try.underlying23 h
  obtain ⟨n, xs, hs, hf⟩ := open_structs_of 2 Try.underlying23 Try.underlying46 (by kernel_rfl) (by kernel_rfl) (by kernel_rfl) (by decide) hv ht
  have hcell : ∀ j, j < n * 2 → ∃ z : Int, xs[j]? = some (.int .i64 z) ∧ -9223372036854775808 ≤ z ∧ z ≤ 9223372036854775807 := by
    intro j hj
    have hi : j / 2 < n := by omega
    have h2 : j % 2 = 0 ∨ j % 2 = 1 := by omega
    have hj2 : j / 2 * 2 + j % 2 = j := by omega
    rcases h2 with h2 | h2
    · obtain ⟨u, y, k, hu, hd⟩ := hf (j / 2) 0 _ hi rfl
      obtain ⟨z, e0, -, w0⟩ := DataW.trod_int (k := .i64) (by kernel_rfl) hd
      obtain rfl : u = .int .i64 z := by simpa using e0
      exact ⟨z, by rw [← hj2, h2]; exact hu, bounds_i64 w0⟩
    · obtain ⟨u, y, k, hu, hd⟩ := hf (j / 2) 1 _ hi rfl
      obtain ⟨z, e0, -, w0⟩ := DataW.trod_int (k := .i64) (by kernel_rfl) hd
      obtain rfl : u = .int .i64 z := by simpa using e0
      exact ⟨z, by rw [← hj2, h2]; exact hu, bounds_i64 w0⟩
  obtain ⟨A, c, rfl, _, _, hl, _⟩ := id hs
  obtain ⟨l, rfl, rfl, hF⟩ := pairs_spc16 n xs hl hcell
  exact ⟨l, hs, hF⟩
theorem words16_of_trod {fuel : Nat} {u : Value} {x : DataW H × List MemPlace} (h : DataW.trod enc Try.prog w base sp held fuel 32 [u] = some x) : ∃ l : List Nat, Sl w w.heap.size 1 u l.length (u64s l) ∧ Words l := by
  obtain ⟨hv, ht⟩ := slice_of_trod Try.underlying32 h
  exact open_words_of Try.underlying32 Try.underlying47 (by kernel_rfl) hv ht
theorem nodes_of_trod {fuel : Nat} {u : Value} {x : DataW H × List MemPlace} (h : DataW.trod enc Try.prog w base sp held fuel 22 [u] = some x) :
    ∃ (l : List Nd) (hs : List (Value × Value)), hs.length = l.length ∧ Sl w w.heap.size 3 u l.length (ndc l hs) ∧ (∀ (i : Nat) d h, l[i]? = some d → hs[i]? = some h → NdR w w.heap.size d h) ∧
      (∀ d ∈ l, -9223372036854775808 ≤ d.kd ∧ d.kd ≤ 9223372036854775807) ∧ (∀ d ∈ l, VlOk d.fs) ∧ ∀ d ∈ l, Words d.rs := by
  obtain ⟨hv, ht⟩ := slice_of_trod Try.underlying22 h
  obtain ⟨n, xs, hS, hf⟩ := open_structs_of 3 Try.underlying22 Try.underlying34 (by kernel_rfl) (by kernel_rfl) (by kernel_rfl) (by decide) hv ht
  obtain ⟨A, c, rfl, _, _, hl, _⟩ := id hS
  have hone : ∀ i, i < n → ∃ p : Nd × (Value × Value), xs[i * 3 + 0]? = some (.int .i64 p.1.kd) ∧ xs[i * 3 + 1]? = some p.2.1 ∧ xs[i * 3 + 2]? = some p.2.2 ∧ NdR w w.heap.size p.1 p.2 ∧ (-9223372036854775808 ≤ p.1.kd ∧ p.1.kd ≤ 9223372036854775807) ∧ VlOk p.1.fs ∧ Words p.1.rs := by
    intro i hi
    obtain ⟨u0, y0, k0, e0, d0⟩ := hf i 0 _ hi rfl
    obtain ⟨z, i0, -, w0⟩ := DataW.trod_int (k := .i64) (by kernel_rfl) d0
    obtain rfl : u0 = .int .i64 z := by simpa using i0
    obtain ⟨u1, y1, k1, e1, d1⟩ := hf i 1 _ hi rfl
    obtain ⟨fs, s1, f1⟩ := vals_of_trod d1
    obtain ⟨u2, y2, k2, e2, d2⟩ := hf i 2 _ hi rfl
    obtain ⟨rs, s2, f2⟩ := words16_of_trod d2
    exact ⟨(⟨z, fs, rs⟩, (u1, u2)), e0, e1, e2, ⟨s1, s2⟩, bounds_i64 w0, f1, f2⟩
  obtain ⟨ps, hpl, hp⟩ := list_of n hone
  have hg : ∀ (i : Nat) d h, (ps.map (·.1))[i]? = some d → (ps.map (·.2))[i]? = some h → ps[i]? = some (d, h) := by
    intro i d h hd hh
    rw [List.getElem?_map] at hd hh
    cases hq : ps[i]? with
    | none => rw [hq] at hd; cases hd
    | some q =>
      rw [hq] at hd hh
      simp at hd hh
      rw [← hd, ← hh]
  have hmem : ∀ d ∈ ps.map (·.1), ∃ (i : Nat) (q : Nd × (Value × Value)), ps[i]? = some q ∧ q.1 = d := by
    intro d hd
    obtain ⟨q, hq, rfl⟩ := List.mem_map.1 hd
    obtain ⟨i, hi⟩ := List.getElem?_of_mem hq
    exact ⟨i, q, hi, rfl⟩
  have hxs : xs = ndc (ps.map (·.1)) (ps.map (·.2)) := ndc_of _ _ xs (by simp) (by simp [hpl, hl]) fun i d h hd hh => by
    obtain ⟨a, b, c, -⟩ := hp i _ (hg i d h hd hh)
    exact ⟨a, b, c⟩
  refine ⟨ps.map (·.1), ps.map (·.2), by simp, ?_, fun i d h hd hh => (hp i _ (hg i d h hd hh)).2.2.2.1, fun d hd => ?_, fun d hd => ?_, fun d hd => ?_⟩
  · rw [← hxs, List.length_map, hpl]; exact hS
  · obtain ⟨i, q, hi, rfl⟩ := hmem d hd; exact (hp i q hi).2.2.2.2.1
  · obtain ⟨i, q, hi, rfl⟩ := hmem d hd; exact (hp i q hi).2.2.2.2.2.1
  · obtain ⟨i, q, hi, rfl⟩ := hmem d hd; exact (hp i q hi).2.2.2.2.2.2
theorem open_graph {v : Value} {d : DataW H} {p : List MemPlace} (hv : Value.okWide Try.prog w r b0 25 v) (h : DataW.Trod enc Try.prog w base sp held 25 v d p) :
    ∃ (g : Gr) (vn vr : Value) (hs : List (Value × Value)), v = .agg #[vn, vr] ∧ RdG w w.heap.size g vn vr hs ∧ GrFit g := by
  obtain ⟨⟨cs⟩, rfl, hsz⟩ := okWide_struct Try.underlying25 hv
  obtain ⟨fuel, hf⟩ := h
  obtain ⟨ys, n, -, -, hl, hyl, hg⟩ := DataW.trod_struct Try.underlying25 hf
  have hl2 : cs.length = 2 := by
    have : Try.prog.cellsOf 25 = 2 := by kernel_rfl
    rw [this] at hl
    simpa [Value.cells] using hl
  match cs, hl2 with
  | [u0, u1], _ =>
    have key : ∀ {x : Option (DataW H × List MemPlace)} {j : Nat}, j < ys.length → x = ys[j]? → ∃ y, x = some y := fun hj e => ⟨_, e.trans (List.getElem?_eq_getElem hj)⟩
    have hys : ys.length = 2 := hyl
    obtain ⟨y0, h0⟩ := key (by omega) (hg 0 _ rfl)
    obtain ⟨y1, h1⟩ := key (by omega) (hg 1 _ rfl)
    have g0 : DataW.trod enc Try.prog w base sp held n 22 [u0] = some y0 := h0
    have g1 : DataW.trod enc Try.prog w base sp held n 23 [u1] = some y1 := h1
    obtain ⟨l, hs, e0, e1, e2, e3, e4, e5⟩ := nodes_of_trod g0
    obtain ⟨rt, s1, f1⟩ := vals_of_trod g1
    exact ⟨⟨l, rt⟩, u0, u1, hs, rfl, ⟨e0, e1, e2, s1⟩, ⟨e3, e4, e5, f1⟩⟩
end
end Go.Proofs.Ytdlaigghejahdaa
