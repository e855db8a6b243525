/- RootsOnce whole, out of the contracts of package roots; slices of slots, opened. -/
import Derived.Test.YtcfiimedmhohaaaRootLaw4
import Derived.Test.YtcfiimedmhohaaaOpens
import Derived.Lib.SmallJoins
namespace Go.Proofs.Ytcfiimedmhohaaa
set_option maxRecDepth 100000
open Go.ChangeShapes Go.WideShapes Go.RowKit Go.Deep Go.Joins

set_option maxHeartbeats 1000000 in
theorem rootsOnce_walk (C : RootsF) (v v2 : Value) (l : List Slt) (zs : List Int) (w : World) (hv : Sl w w.heap.size 3 v l.length (slc l)) (hok : SlOk l) (hz : Sl w w.heap.size 1 v2 zs.length (i64s zs)) :
    Calls Try.prog 5 #[v, v2] w fun e w' => e = .returned (.bool true) ∧ Below w.heap.size w w' := by
  by_cases hl : l.length ≤ 60
  · by_cases hzl : zs.length ≤ 40
    · exact rootsOnce_small C v v2 l zs w hv hok hz hl hzl
    · obtain ⟨A, ca, rfl, -⟩ := hv
      obtain ⟨A', c', rfl, -⟩ := hz
      have h1 : 40 < zs.length := by omega
      clear hok hzl
      go_enter Try.func5, Try.ntmps5
      go_wp2_with fail
      go_at_call 6
      refine (awake14_any C.base _).mono ?_
      rintro e w1 ⟨rfl, o⟩
      have O := Lib.hid o
      clear o
      go_wp2
      go_ret
      exact ⟨rfl, O.out.whole⟩
  · obtain ⟨A, ca, rfl, -⟩ := hv
    obtain ⟨A', c', rfl, -⟩ := hz
    have h1 : 60 < l.length := by omega
    clear hok hl
    go_enter Try.func5, Try.ntmps5
    go_wp2_with fail
    go_at_call 6
    refine (awake14_any C.base _).mono ?_
    rintro e w1 ⟨rfl, o⟩
    have O := Lib.hid o
    clear o
    go_wp2
    go_ret
    exact ⟨rfl, O.out.whole⟩

theorem trip_slc : ∀ (n : Nat) (xs : List Value), xs.length = n * 3 → (∀ i, i < n → ∃ (u : Bool) (g : Int) (x : Nat), xs[i * 3 + 0]? = some (.bool u) ∧ xs[i * 3 + 1]? = some (.int .i64 g) ∧ xs[i * 3 + 2]? = some (.int .u64 (x : Nat)) ∧ -9223372036854775808 ≤ g ∧ g ≤ 9223372036854775807 ∧ x < full) → ∃ l : List Slt, l.length = n ∧ xs = slc l ∧ SlOk l
  | 0, [], _, _ => ⟨[], rfl, rfl, fun _ h => by cases h⟩
  | 0, _ :: _, hl, _ => by simp at hl
  | n + 1, [], hl, _ => by simp at hl
  | n + 1, [_], hl, _ => by simp at hl; omega
  | n + 1, [_, _], hl, _ => by simp at hl; omega
  | n + 1, a :: b :: c :: xs, hl, h => by
    obtain ⟨u, g, x, e0, e1, e2, b0, b1, b2⟩ := h 0 (by omega)
    obtain rfl : a = .bool u := by simpa using e0
    obtain rfl : b = .int .i64 g := by simpa using e1
    obtain rfl : c = .int .u64 (x : Nat) := by simpa using e2
    obtain ⟨l, hl', rfl, hF⟩ := trip_slc n xs (by simp at hl; omega) fun j hj => by
      have := h (j + 1) (by omega)
      simpa [Nat.add_mul] using this
    exact ⟨(u, g, x) :: l, by simp [hl'], by simp [slc, slE], fun z hz => by
      rcases List.mem_cons.1 hz with rfl | hz
      · exact ⟨b0, b1, b2⟩
      · exact hF z hz⟩
section
variable {H : Type} {enc : TypeId × Value → H} {w : World} {base b0 : Nat} {r : Reach} {sp : Nat → Bool} {held : Bool}
theorem open_slots {v : Value} {d : DataW H} {p : List MemPlace} (hv : Value.okWide Try.prog w r b0 22 v) (h : DataW.Trod enc Try.prog w base sp held 22 v d p) :
    ∃ l : List Slt, Sl w w.heap.size 3 v l.length (slc l) ∧ SlOk l := by
  obtain ⟨n, xs, hs, hf⟩ := open_structs 3 Try.underlying22 Try.underlying42 (by kernel_rfl) (by kernel_rfl) (by kernel_rfl) (by decide) hv h
  obtain ⟨A, c, rfl, _, _, hl, _⟩ := id hs
  obtain ⟨l, rfl, rfl, hF⟩ := trip_slc n xs hl fun i hi => by
    obtain ⟨u0, y0, k0, e0, d0⟩ := hf i 0 _ hi rfl
    obtain ⟨u, i0, -⟩ := DataW.trod_bool (by kernel_rfl) d0
    obtain rfl : u0 = .bool u := by simpa using i0
    obtain ⟨u1, y1, k1, e1, d1⟩ := hf i 1 _ hi rfl
    obtain ⟨g, i1, -, w1⟩ := DataW.trod_int (k := .i64) (by kernel_rfl) d1
    obtain rfl : u1 = .int .i64 g := by simpa using i1
    obtain ⟨u2, y2, k2, e2, d2⟩ := hf i 2 _ hi rfl
    obtain ⟨x, i2, -, w2⟩ := DataW.trod_int (k := .u64) (by kernel_rfl) d2
    obtain rfl : u2 = .int .u64 x := by simpa using i2
    have hx := nat_of_word w2
    exact ⟨u, g, x.toNat, e0, e1, by rw [e2, ← hx.1], (bounds_i64 w1).1, (bounds_i64 w1).2, hx.2⟩
  exact ⟨l, hs, hF⟩
end
end Go.Proofs.Ytcfiimedmhohaaa
