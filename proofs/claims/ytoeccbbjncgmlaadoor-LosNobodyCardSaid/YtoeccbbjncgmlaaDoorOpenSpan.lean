/- What came in, opened: a span, a slice of spans. -/
import Derived.Test.YtoeccbbjncgmlaaDoorOpens
import Derived.Test.YtoeccbbjncgmlaaDoorSpanSay
import Derived.Lib.SmallJoins
namespace Go.Proofs.YtoeccbbjncgmlaaDoor
set_option maxRecDepth 100000
open Go.ChangeShapes Go.WideShapes Go.RowKit Go.Deep Go.Joins

section
variable {H : Type} {enc : TypeId × Value → H} {w : World} {base b0 : Nat} {r : Reach} {sp : Nat → Bool} {held : Bool}

theorem open_span {v : Value} {d : DataW H} {p : List MemPlace} (hv : Value.okWide Tryd.prog w r b0 25 v) (h : DataW.Trod enc Tryd.prog w base sp held 25 v d p) :
    ∃ x : Sp, v = .agg #[.int .i64 x.1, .int .i64 x.2] ∧ (-9223372036854775808 ≤ x.1 ∧ x.1 ≤ 9223372036854775807) ∧ (-9223372036854775808 ≤ x.2 ∧ x.2 ≤ 9223372036854775807) := by
  obtain ⟨c0, c1, y0, y1, m, rfl, -, -, h0, h1⟩ := open_agg2 Tryd.underlying25 (by kernel_rfl) (by kernel_rfl) hv h
  obtain ⟨a, e0, -, w0⟩ := DataW.trod_int (k := .i64) (by kernel_rfl) h0
  obtain ⟨s, e1, -, w1⟩ := DataW.trod_int (k := .i64) (by kernel_rfl) h1
  obtain rfl : c0 = .int .i64 a := by simpa using e0
  obtain rfl : c1 = .int .i64 s := by simpa using e1
  exact ⟨(a, s), rfl, bounds_i64 w0, bounds_i64 w1⟩

/-- Pairs of integers, as spans. -/
theorem pairs_spc : ∀ (n : Nat) (xs : List Value), xs.length = n * 2 → (∀ j, j < n * 2 → ∃ z : Int, xs[j]? = some (.int .i64 z) ∧ z ≤ 9223372036854775807) → ∃ l : List Sp, l.length = n ∧ xs = spc l ∧ Fits l
  | 0, xs, hl, _ => ⟨[], rfl, by obtain rfl : xs = [] := List.eq_nil_of_length_eq_zero (by simpa using hl); rfl, fun _ h => by cases h⟩
  | n + 1, [], hl, _ => by simp at hl
  | n + 1, [_], hl, _ => by simp at hl; omega
  | n + 1, a :: b :: xs, hl, h => by
    obtain ⟨x, hx, hxb⟩ := h 0 (by omega)
    obtain ⟨y, hy, -⟩ := h 1 (by omega)
    obtain rfl : a = .int .i64 x := by simpa using hx
    obtain rfl : b = .int .i64 y := by simpa using hy
    obtain ⟨l, hl', rfl, hF⟩ := pairs_spc n xs (by simp at hl; omega) fun j hj => by
      have := h (j + 2) (by omega)
      simpa using this
    exact ⟨(x, y) :: l, by simp [hl'], by simp [spc], fun z hz => by
      rcases List.mem_cons.1 hz with rfl | hz
      · exact hxb
      · exact hF z hz⟩

theorem open_spans {v : Value} {d : DataW H} {p : List MemPlace} (hv : Value.okWide Tryd.prog w r b0 31 v) (h : DataW.Trod enc Tryd.prog w base sp held 31 v d p) :
    ∃ l : List Sp, Sl w w.heap.size 2 v l.length (spc l) ∧ Fits l := by
  obtain ⟨n, xs, hs, hf⟩ := open_structs 2 Tryd.underlying31 Tryd.underlying25 (by kernel_rfl) (by kernel_rfl) (by kernel_rfl) (by decide) hv h
  have hcell : ∀ j, j < n * 2 → ∃ z : Int, xs[j]? = some (.int .i64 z) ∧ z ≤ 9223372036854775807 := by
    intro j hj
    have hi : j / 2 < n := by omega
    have h2 : j % 2 = 0 ∨ j % 2 = 1 := by omega
    have hj2 : j / 2 * 2 + j % 2 = j := by omega
    rcases h2 with h2 | h2
    · obtain ⟨u, y, k, hu, hd⟩ := hf (j / 2) 0 _ hi rfl
      obtain ⟨z, e0, -, w0⟩ := DataW.trod_int (k := .i64) (by kernel_rfl) hd
      obtain rfl : u = .int .i64 z := by simpa using e0
      exact ⟨z, by rw [← hj2, h2]; exact hu, (bounds_i64 w0).2⟩
    · obtain ⟨u, y, k, hu, hd⟩ := hf (j / 2) 1 _ hi rfl
      obtain ⟨z, e0, -, w0⟩ := DataW.trod_int (k := .i64) (by kernel_rfl) hd
      obtain rfl : u = .int .i64 z := by simpa using e0
      exact ⟨z, by rw [← hj2, h2]; exact hu, (bounds_i64 w0).2⟩
  obtain ⟨A, c, rfl, _, _, hl, _⟩ := id hs
  obtain ⟨l, rfl, rfl, hF⟩ := pairs_spc n xs hl hcell
  exact ⟨l, hs, hF⟩
end
end Go.Proofs.YtoeccbbjncgmlaaDoor
