/- What the listed table of digits gives the walks; the walks of the three statements of word (stage 1). -/
import Derived.Test.YthbodadmnhodfaaDoorWordF
import Derived.ProofKit
import Derived.OpenShut
import Derived.LaidMore
import Derived.Stop.Joined
namespace Go.Proofs.YthbodadmnhodfaaDoor
open Go.RowKit Go.ChangeShapes Go.WideShapes Go.ChangeAt

theorem gDigits : Tryd.prog.globalNamed "triforium/word.digits" = some 0 := by kernel_rfl
theorem tDigits : (Tryd.prog.globals[0]?).map (·.type) = some 43 := by kernel_rfl

/-- The numbers of an array of integers that reads as these. -/
theorem ints_of_array {H : Type} {enc : TypeId × Value → H} {P : Program} {w : World} {base fuel n : Nat} {sp : Nat → Bool} {held : Bool} {t e : TypeId} {k : IntKind} {cs : List Value} {ns : List Int} {q : List MemPlace}
    (ht : P.underlying t = some (.array n e)) (he : P.underlying e = some (.int k)) (hc : P.cellsOf e = 1) (hct : P.cellsOf t = n)
    (h : DataW.trod enc P w base sp held fuel t cs = some (.agg (ns.map fun m => .lit (.int k m)), q)) : cs = ns.map (Value.int k) := by
  obtain ⟨xs, m, rfl, hx, hlen, hn, hel⟩ := DataW.trod_array ht h
  simp only [Prod.mk.injEq, DataW.agg.injEq] at hx
  have hnl : ns.length = n := by have := congrArg List.length hx.1; simpa [hn] using this
  apply List.ext_getElem?
  intro i
  by_cases hi : i < n
  · have h1 := hel i hi
    rw [hc, Nat.mul_one, List.getElem?_eq_getElem (by omega : i < xs.length)] at h1
    obtain ⟨r, e1, e2, _⟩ := DataW.trod_int he h1
    have e3 : (ns.map fun m => (DataW.lit (Lit.int k m) : DataW H))[i]? = (xs.map (·.1))[i]? := by rw [hx.1]
    rw [List.getElem?_map, List.getElem?_map, List.getElem?_eq_getElem (by omega : i < xs.length), List.getElem?_eq_getElem (by omega : i < ns.length)] at e3
    simp only [Option.map_some, Option.some.injEq] at e3
    rw [e2] at e3
    simp only [DataW.lit.injEq, Lit.int.injEq, true_and] at e3
    rw [List.getElem?_map, List.getElem?_eq_getElem (by omega : i < ns.length), e3]
    have e4 := congrArg (·[0]?) e1
    simpa using e4
  · rw [List.getElem?_eq_none (by omega), List.getElem?_eq_none (by simp; omega)]

theorem heap_of_var {P : Program} {w : World} {n : String} {g : Nat} {cs : Array Value} (hg : P.globalNamed n = some g) (h : w.var? P n = some cs) : ∃ t fr, w.heap[g]? = some (.cells cs t fr) := by
  unfold World.var? at h
  rw [hg] at h
  simp only [Option.bind_some] at h
  split at h
  · rename_i c t fr hh
    obtain rfl := Option.some.inj h
    exact ⟨t, fr, hh⟩
  · cases h

theorem dig_of_laid {W : World} (h : laidMetH Tryd.prog [("triforium/word.digits", Rows.laid_triforium_word_digits)] W) : Dig W := by
  rw [MakeChecks.laidMetH_plain _ _ _ (by kernel_rfl)] at h
  obtain ⟨ps, ⟨g0, t0, cs0, f0, p0, q0, hg0, ht0, hv0, hd0, _, _⟩, _, _⟩ := h
  obtain rfl := Option.some.inj (gDigits.symm.trans hg0)
  obtain rfl := Option.some.inj (tDigits.symm.trans ht0)
  have hcs := ints_of_array (ns := [48, 49, 50, 51, 52, 53, 54, 55, 56, 57, 97, 98, 99, 100, 101, 102]) Tryd.underlying43 Tryd.underlying5 (by kernel_rfl) (by kernel_rfl) hd0
  obtain ⟨t, fr, hh⟩ := heap_of_var gDigits hv0
  have e : cs0 = digC := by
    obtain ⟨l⟩ := cs0
    simp only at hcs
    rw [hcs]
    rfl
  rw [e] at hh
  exact ⟨t, fr, hh⟩

theorem nat_of_u64 {a : Int} (h : (Lit.int .u64 a).wf = true) : ∃ n : Nat, a = n ∧ n < full := by
  have := bounds_u64 h
  exact ⟨a.toNat, by omega, by unfold full; omega⟩

/-- Put and its reference on the same arguments. -/
def Fits (a n : Int) : Prop := 0 ≤ a ∧ 1 ≤ n ∧ n ≤ 64 - a
theorem fits_nat {a n : Int} (h : Fits a n) : ∃ a' n' : Nat, a = a' ∧ n = n' ∧ 1 ≤ n' ∧ a' + n' ≤ 64 := ⟨a.toNat, n.toNat, by unfold Fits at h; omega, by unfold Fits at h; omega, by unfold Fits at h; omega, by unfold Fits at h; omega⟩

/-- What Get and Put answer, whatever the arguments. -/
theorem get_all (x : Nat) (a n : Int) (hx : x < full) (ha : -9223372036854775808 ≤ a) (ha' : a ≤ 9223372036854775807) :
    ∃ (r : Nat) (b : Bool), (∀ w, Calls Tryd.prog 6 #[.int .u64 x, .int .i64 a, .int .i64 n] w fun e w' => e = .returned (.tuple #[.int .u64 r, .bool b]) ∧ ∃ m, w' = w.drewN m) ∧
      (∀ w, Calls Tryd.prog 7 #[.int .u64 x, .int .i64 a, .int .i64 n] w fun e w' => e = .returned (.tuple #[.int .u64 r, .bool b]) ∧ w = w') := by
  by_cases h : Fits a n
  · obtain ⟨a', n', rfl, rfl, h1, h2⟩ := fits_nat h
    exact ⟨_, _, fun w => get_any x a' n' w hx h1 h2, fun w => refGet_any x a' n' w hx h1 h2⟩
  · exact ⟨0, false, fun w => get_no x a n w ha ha' h, fun w => refGet_no x a n w h⟩

theorem put_all (x : Nat) (a n : Int) (y : Nat) (hx : x < full) (hy : y < full) (ha : -9223372036854775808 ≤ a) (ha' : a ≤ 9223372036854775807) :
    ∃ (r : Nat) (b : Bool), (∀ w, Calls Tryd.prog 8 #[.int .u64 x, .int .i64 a, .int .i64 n, .int .u64 y] w fun e w' => e = .returned (.tuple #[.int .u64 r, .bool b]) ∧ ∃ m, w' = w.drewN m) ∧
      (∀ w, Calls Tryd.prog 9 #[.int .u64 x, .int .i64 a, .int .i64 n, .int .u64 y] w fun e w' => e = .returned (.tuple #[.int .u64 r, .bool b]) ∧ w = w') := by
  by_cases h : Fits a n
  · obtain ⟨a', n', rfl, rfl, h1, h2⟩ := fits_nat h
    by_cases hyn : y ≤ on n'
    · exact ⟨_, _, fun w => put_any x a' n' y w hx h1 h2 hyn, fun w => refPut_any x a' n' y w hx hy h1 h2 hyn⟩
    · exact ⟨0, false, fun w => put_big x a' n' y w h1 h2 (by omega), fun w => refPut_big x a' n' y w hy h1 h2 (by omega)⟩
  · exact ⟨0, false, fun w => put_no x a n y w ha ha' h, fun w => refPut_no x a n y w h⟩

set_option maxRecDepth 100000 in
set_option maxHeartbeats 1000000 in
theorem wordParts_walk (a0 a1 a2 a3 : Int) (w0 : (Lit.int .u64 a0).wf = true) (w1 : (Lit.int .i64 a1).wf = true) (w3 : (Lit.int .u64 a3).wf = true) (w : World) (hD : Dig w) :
    Calls Tryd.prog 3 #[.int .u64 a0, .int .i64 a1, .int .i64 a2, .int .u64 a3] w fun e w' => e = .returned (.bool true) ∧ Below w.heap.size w w' := by
  obtain ⟨x, rfl, hx⟩ := nat_of_u64 w0
  obtain ⟨y, rfl, hy⟩ := nat_of_u64 w3
  have hb := bounds_i64 w1
  obtain ⟨r, b, hg, hg'⟩ := get_all x a1 a2 hx hb.1 hb.2
  obtain ⟨r2, b2, hp, hp'⟩ := put_all x a1 a2 y hx hy hb.1 hb.2
  have HD := Lib.hid hD
  clear w0 w1 w3 hb hD
  go_enter Tryd.func3, Tryd.ntmps3
  go_wp2_with fail
  go_at_call 6
  refine (hg _).mono ?_
  rintro e v1 ⟨rfl, h1⟩
  have K1 := Lib.hid ((Kept.refl w).thenDrew h1)
  clear h1
  go_wp2_with fail
  go_at_call 7
  refine (hg' _).mono ?_
  rintro e v2 ⟨rfl, rfl⟩
  go_wp2_with fail
  go_at_call 8
  refine (hp _).mono ?_
  rintro e v3 ⟨rfl, h3⟩
  have K3 := Lib.hid (K1.out.thenDrew h3)
  clear h3
  go_wp2_with fail
  go_at_call 9
  refine (hp' _).mono ?_
  rintro e v4 ⟨rfl, rfl⟩
  go_wp2_with fail
  go_at_call 10
  refine (awake_any w _ HD.out K3.out).mono ?_
  rintro e v5 ⟨rfl, h5⟩
  have K5 := Lib.hid h5
  clear h5
  go_wp2
  go_ret
  exact ⟨rfl, K5.out⟩
end Go.Proofs.YthbodadmnhodfaaDoor
