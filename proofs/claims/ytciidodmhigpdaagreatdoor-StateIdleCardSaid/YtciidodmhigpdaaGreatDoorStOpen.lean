/- A heap that came in by value, opened; a config. -/
import Derived.Test.YtciidodmhigpdaaGreatDoorStAwa
import Derived.Test.YtciidodmhigpdaaGreatDoorOpens
namespace Go.Proofs.YtciidodmhigpdaaGreatDoor
open Go.ChangeShapes Go.WideShapes Go.RowKit Go.Deep
set_option maxRecDepth 100000

theorem pairs_spc15 : ∀ (n : Nat) (xs : List Value), xs.length = n * 2 → (∀ j, j < n * 2 → ∃ z : Int, xs[j]? = some (.int .i64 z) ∧ I64 z) → ∃ l : List Sp, l.length = n ∧ xs = spc l ∧ SpOk l
  | 0, [], _, _ => ⟨[], rfl, rfl, fun _ h => by cases h⟩
  | 0, _ :: _, hl, _ => by simp at hl
  | n + 1, [], hl, _ => by simp at hl
  | n + 1, [_], hl, _ => by simp at hl; omega
  | n + 1, a :: b :: xs, hl, h => by
    obtain ⟨x, e0, b0⟩ := h 0 (by omega)
    obtain ⟨y, e1, b1⟩ := h 1 (by omega)
    obtain rfl : a = .int .i64 x := by simpa using e0
    obtain rfl : b = .int .i64 y := by simpa using e1
    obtain ⟨l, hl', rfl, hF⟩ := pairs_spc15 n xs (by simp at hl; omega) fun j hj => by
      have := h (j + 2) (by omega)
      simpa using this
    exact ⟨(x, y) :: l, by simp [hl'], by simp [spc], fun z hz => by
      rcases List.mem_cons.1 hz with rfl | hz
      · exact ⟨b0, b1⟩
      · exact hF z hz⟩
theorem trip_slc15 : ∀ (n : Nat) (xs : List Value), xs.length = n * 3 → (∀ i, i < n → ∃ (u : Bool) (g : Int) (x : Nat), xs[i * 3 + 0]? = some (.bool u) ∧ xs[i * 3 + 1]? = some (.int .i64 g) ∧ xs[i * 3 + 2]? = some (.int .u64 (x : Nat)) ∧ -9223372036854775808 ≤ g ∧ g ≤ 9223372036854775807 ∧ x < full) → ∃ l : List Slt, l.length = n ∧ xs = slc l ∧ SlOk l
  | 0, [], _, _ => ⟨[], rfl, rfl, fun _ h => by cases h⟩
  | 0, _ :: _, hl, _ => by simp at hl
  | n + 1, [], hl, _ => by simp at hl
  | n + 1, [_], hl, _ => by simp at hl; omega
  | n + 1, [_, _], hl, _ => by simp at hl; omega
  | n + 1, a :: b :: c :: xs, hl, h => by
    obtain ⟨u, g, x, e0, e1, e2, b0, b1, b2⟩ := h 0 (by omega)
    obtain rfl : a = .bool u := by simpa using e0
    obtain rfl : b = .int .i64 g := by simpa using e1
    obtain rfl : c = .int .u64 (x : Nat) := by simpa using e2
    obtain ⟨l, hl', rfl, hF⟩ := trip_slc15 n xs (by simp at hl; omega) fun j hj => by
      have := h (j + 1) (by omega)
      simpa [Nat.add_mul] using this
    exact ⟨(u, g, x) :: l, by simp [hl'], by simp [slc, slE], fun z hz => by
      rcases List.mem_cons.1 hz with rfl | hz
      · exact ⟨b0, b1, b2⟩
      · exact hF z hz⟩
section
variable {H : Type} {enc : TypeId × Value → H} {w : World} {base b0 : Nat} {r : Reach} {sp : Nat → Bool} {held : Bool}
theorem spans_of_trod {fuel : Nat} {u : Value} {x : DataW H × List MemPlace} (h : DataW.trod enc Tryz.prog w base sp held fuel 25 [u] = some x) : ∃ l : List Sp, Sl w w.heap.size 2 u l.length (spc l) ∧ SpOk l := by
  obtain ⟨hv, ht⟩ := slice_of_trod Tryz.underlying25 h
  obtain ⟨n, xs, hs, hf⟩ := open_structs_of 2 Tryz.underlying25 Tryz.underlying50 (by kernel_rfl) (by kernel_rfl) (by kernel_rfl) (by decide) hv ht
  have hcell : ∀ j, j < n * 2 → ∃ z : Int, xs[j]? = some (.int .i64 z) ∧ I64 z := by
    intro j hj
    have hi : j / 2 < n := by omega
    have h2 : j % 2 = 0 ∨ j % 2 = 1 := by omega
    have hj2 : j / 2 * 2 + j % 2 = j := by omega
    rcases h2 with h2 | h2
    · obtain ⟨u, y, k, hu, hd⟩ := hf (j / 2) 0 _ hi rfl
      obtain ⟨z, e0, -, w0⟩ := DataW.trod_int (k := .i64) (by kernel_rfl) hd
      obtain rfl : u = .int .i64 z := by simpa using e0
      exact ⟨z, by rw [← hj2, h2]; exact hu, bounds_i64 w0⟩
    · obtain ⟨u, y, k, hu, hd⟩ := hf (j / 2) 1 _ hi rfl
      obtain ⟨z, e0, -, w0⟩ := DataW.trod_int (k := .i64) (by kernel_rfl) hd
      obtain rfl : u = .int .i64 z := by simpa using e0
      exact ⟨z, by rw [← hj2, h2]; exact hu, bounds_i64 w0⟩
  obtain ⟨A, c, rfl, _, _, hl, _⟩ := id hs
  obtain ⟨l, rfl, rfl, hF⟩ := pairs_spc15 n xs hl hcell
  exact ⟨l, hs, hF⟩
theorem slots_of_trod {fuel : Nat} {u : Value} {x : DataW H × List MemPlace} (h : DataW.trod enc Tryz.prog w base sp held fuel 26 [u] = some x) : ∃ l : List Slt, Sl w w.heap.size 3 u l.length (slc l) ∧ SlOk l := by
  obtain ⟨hv, ht⟩ := slice_of_trod Tryz.underlying26 h
  obtain ⟨n, xs, hs, hf⟩ := open_structs_of 3 Tryz.underlying26 Tryz.underlying52 (by kernel_rfl) (by kernel_rfl) (by kernel_rfl) (by decide) hv ht
  obtain ⟨A, c, rfl, _, _, hl, _⟩ := id hs
  obtain ⟨l, rfl, rfl, hF⟩ := trip_slc15 n xs hl fun i hi => by
    obtain ⟨u0, y0, k0, e0, d0⟩ := hf i 0 _ hi rfl
    obtain ⟨u, i0, -⟩ := DataW.trod_bool (by kernel_rfl) d0
    obtain rfl : u0 = .bool u := by simpa using i0
    obtain ⟨u1, y1, k1, e1, d1⟩ := hf i 1 _ hi rfl
    obtain ⟨g, i1, -, w1⟩ := DataW.trod_int (k := .i64) (by kernel_rfl) d1
    obtain rfl : u1 = .int .i64 g := by simpa using i1
    obtain ⟨u2, y2, k2, e2, d2⟩ := hf i 2 _ hi rfl
    obtain ⟨x, i2, -, w2⟩ := DataW.trod_int (k := .u64) (by kernel_rfl) d2
    obtain rfl : u2 = .int .u64 x := by simpa using i2
    have hx := nat_of_word w2
    exact ⟨u, g, x.toNat, e0, e1, by rw [e2, ← hx.1], (bounds_i64 w1).1, (bounds_i64 w1).2, hx.2⟩
  exact ⟨l, hs, hF⟩
theorem words_of_trod {fuel : Nat} {u : Value} {x : DataW H × List MemPlace} (h : DataW.trod enc Tryz.prog w base sp held fuel 24 [u] = some x) : ∃ l : List Nat, Sl w w.heap.size 1 u l.length (u64s l) ∧ Words l := by
  obtain ⟨hv, ht⟩ := slice_of_trod Tryz.underlying24 h
  exact open_words_of Tryz.underlying24 Tryz.underlying48 (by kernel_rfl) hv ht
theorem ints4_of_trod {fuel : Nat} {a b c d : Value} {x : DataW H × List MemPlace} (h : DataW.trod enc Tryz.prog w base sp held fuel 23 [a, b, c, d] = some x) : ∃ cf : Cf, a = .int .i64 cf.semi ∧ b = .int .i64 cf.large ∧ c = .int .i64 cf.slots ∧ d = .int .i64 cf.limit ∧ CFit cf := by
  obtain ⟨hl, ys, k, -, -, hg⟩ := cells_of_struct Tryz.underlying23 (by kernel_rfl) (by kernel_rfl) h
  obtain ⟨u0, y0, e0, -, h0⟩ := hg 0 _ rfl
  obtain ⟨u1, y1, e1, -, h1⟩ := hg 1 _ rfl
  obtain ⟨u2, y2, e2, -, h2⟩ := hg 2 _ rfl
  obtain ⟨u3, y3, e3, -, h3⟩ := hg 3 _ rfl
  obtain ⟨z0, i0, -, w0⟩ := DataW.trod_int (k := .i64) (by kernel_rfl) h0
  obtain ⟨z1, i1, -, w1⟩ := DataW.trod_int (k := .i64) (by kernel_rfl) h1
  obtain ⟨z2, i2, -, w2⟩ := DataW.trod_int (k := .i64) (by kernel_rfl) h2
  obtain ⟨z3, i3, -, w3⟩ := DataW.trod_int (k := .i64) (by kernel_rfl) h3
  simp at e0 e1 e2 e3 i0 i1 i2 i3
  exact ⟨⟨z0, z1, z2, z3⟩, by simp [e0, i0], by simp [e1, i1], by simp [e2, i2], by simp [e3, i3], bounds_i64 w0, bounds_i64 w1, bounds_i64 w2, bounds_i64 w3⟩
theorem open_config15 {v : Value} {d : DataW H} {p : List MemPlace} (hv : Value.okWide Tryz.prog w r b0 23 v) (h : DataW.Trod enc Tryz.prog w base sp held 23 v d p) :
    ∃ cf : Cf, v = .agg #[.int .i64 cf.semi, .int .i64 cf.large, .int .i64 cf.slots, .int .i64 cf.limit] ∧ CFit cf := by
  obtain ⟨⟨cs⟩, rfl, hsz⟩ := okWide_struct Tryz.underlying23 hv
  obtain ⟨fuel, hf⟩ := h
  obtain ⟨hl, -⟩ := cells_of_struct Tryz.underlying23 (by kernel_rfl) (by kernel_rfl) hf
  have hl4 : cs.length = 4 := by simpa [Value.cells] using hl
  match cs, hl4 with
  | [u0, u1, u2, u3], _ =>
    obtain ⟨cf, rfl, rfl, rfl, rfl, hc⟩ := ints4_of_trod hf
    exact ⟨cf, rfl, hc⟩
theorem open_state {v : Value} {d : DataW H} {p : List MemPlace} (hv : Value.okWide Tryz.prog w r b0 28 v) (h : DataW.Trod enc Tryz.prog w base sp held 28 v d p) :
    ∃ (s : St) (vw vt vf vs : Value), v = .agg #[.int .i64 s.cf.semi, .int .i64 s.cf.large, .int .i64 s.cf.slots, .int .i64 s.cf.limit, .bool s.sec, vw, .int .i64 s.top, vt, vf, vs] ∧ Rd w w.heap.size s vw vt vf vs ∧ Wide15 s := by
  obtain ⟨⟨cs⟩, rfl, hsz⟩ := okWide_struct Tryz.underlying28 hv
  obtain ⟨fuel, hf⟩ := h
  obtain ⟨ys, n, -, -, hl, hyl, hg⟩ := DataW.trod_struct Tryz.underlying28 hf
  have hl10 : cs.length = 10 := by
    have : Tryz.prog.cellsOf 28 = 10 := by kernel_rfl
    rw [this] at hl
    simpa [Value.cells] using hl
  match cs, hl10 with
  | [u0, u1, u2, u3, u4, u5, u6, u7, u8, u9], _ =>
    have key : ∀ {x : Option (DataW H × List MemPlace)} {j : Nat}, j < ys.length → x = ys[j]? → ∃ y, x = some y := fun hj e => ⟨_, e.trans (List.getElem?_eq_getElem hj)⟩
    have hys : ys.length = 7 := hyl
    obtain ⟨y0, h0⟩ := key (by omega) (hg 0 _ rfl)
    obtain ⟨y1, h1⟩ := key (by omega) (hg 1 _ rfl)
    obtain ⟨y2, h2⟩ := key (by omega) (hg 2 _ rfl)
    obtain ⟨y3, h3⟩ := key (by omega) (hg 3 _ rfl)
    obtain ⟨y4, h4⟩ := key (by omega) (hg 4 _ rfl)
    obtain ⟨y5, h5⟩ := key (by omega) (hg 5 _ rfl)
    obtain ⟨y6, h6⟩ := key (by omega) (hg 6 _ rfl)
    have g0 : DataW.trod enc Tryz.prog w base sp held n 23 [u0, u1, u2, u3] = some y0 := h0
    have g1 : DataW.trod enc Tryz.prog w base sp held n 4 [u4] = some y1 := h1
    have g2 : DataW.trod enc Tryz.prog w base sp held n 24 [u5] = some y2 := h2
    have g3 : DataW.trod enc Tryz.prog w base sp held n 3 [u6] = some y3 := h3
    have g4 : DataW.trod enc Tryz.prog w base sp held n 25 [u7] = some y4 := h4
    have g5 : DataW.trod enc Tryz.prog w base sp held n 25 [u8] = some y5 := h5
    have g6 : DataW.trod enc Tryz.prog w base sp held n 26 [u9] = some y6 := h6
    obtain ⟨cf, rfl, rfl, rfl, rfl, hc⟩ := ints4_of_trod g0
    obtain ⟨b, i1, -⟩ := DataW.trod_bool (by kernel_rfl) g1
    obtain rfl : u4 = .bool b := by simpa using i1
    obtain ⟨ws, hs2, hw2⟩ := words_of_trod g2
    obtain ⟨z, i3, -, w3⟩ := DataW.trod_int (k := .i64) (by kernel_rfl) g3
    obtain rfl : u6 = .int .i64 z := by simpa using i3
    obtain ⟨tb, hs4, hw4⟩ := spans_of_trod g4
    obtain ⟨fr, hs5, hw5⟩ := spans_of_trod g5
    obtain ⟨sl, hs6, hw6⟩ := slots_of_trod g6
    exact ⟨⟨cf, b, ws, z, tb, fr, sl⟩, u5, u7, u8, u9, rfl, ⟨hs2, hs4, hs5, hs6⟩, hc, hw2, bounds_i64 w3, hw4, hw5, hw6⟩
end
end Go.Proofs.YtciidodmhigpdaaGreatDoor
