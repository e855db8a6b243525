/- A header that came in, opened; the table out of what the row lays; what awake of the headers' statements answers; the walks of HeadWords and HeadApart. -/
import Derived.Test.YtlgljnimfpiahaaDoorRef07
import Derived.Test.YtlgljnimfpiahaaDoorOpenMore
import Derived.Test.YtlgljnimfpiahaaDoorRows
import Derived.MakeChecks
import Derived.Stop.LaidErr
import Derived.Laws.StructEq
namespace Go.Proofs.YtlgljnimfpiahaaDoor
open Go.ChangeShapes Go.WideShapes Go.RowKit Go.Deep

section
variable {H : Type} {enc : TypeId × Value → H} {w : World} {base b0 : Nat} {r : Reach} {sp : Nat → Bool} {held : Bool}
theorem open_head {v : Value} {d : DataW H} {p : List MemPlace} (hv : Value.okWide Tryd.prog w r b0 23 v) (h : DataW.Trod enc Tryd.prog w base sp held 23 v d p) :
    ∃ (k f r : Int) (m : Bool) (c : Int), v = .agg #[.int .i64 k, .int .i64 f, .int .i64 r, .bool m, .int .i64 c] := by
  obtain ⟨⟨cs⟩, rfl, hsz, k, hg⟩ := open_fields Tryd.underlying23 (by kernel_rfl) (by kernel_rfl) hv h
  match cs, hsz with
  | [u0, u1, u2, u3, u4], _ =>
    obtain ⟨_, _, e0, h0⟩ := hg 0 _ rfl
    obtain ⟨_, _, e1, h1⟩ := hg 1 _ rfl
    obtain ⟨_, _, e2, h2⟩ := hg 2 _ rfl
    obtain ⟨_, _, e3, h3⟩ := hg 3 _ rfl
    obtain ⟨_, _, e4, h4⟩ := hg 4 _ rfl
    obtain ⟨a, i0, -, w0⟩ := DataW.trod_int (k := .i64) (by kernel_rfl) h0
    obtain ⟨b, i1, -, w1⟩ := DataW.trod_int (k := .i64) (by kernel_rfl) h1
    obtain ⟨c, i2, -, w2⟩ := DataW.trod_int (k := .i64) (by kernel_rfl) h2
    obtain ⟨m, i3, -⟩ := DataW.trod_bool (by kernel_rfl) h3
    obtain ⟨e, i4, -, w4⟩ := DataW.trod_int (k := .i64) (by kernel_rfl) h4
    simp at e0 e1 e2 e3 e4 i0 i1 i2 i3 i4
    exact ⟨a, b, c, m, e, by simp [e0, e1, e2, e3, e4, i0, i1, i2, i3, i4]⟩
end
theorem par_of_laid {W : World} (h : laidMetH Tryd.prog [("triforium/head.parts", Rows.laid_triforium_head_parts)] W) : Par W := by
  rw [MakeChecks.laidMetH_plain _ _ _ (by kernel_rfl)] at h
  obtain ⟨ps, ⟨g0, t0, cs0, f0, p0, q0, hg0, ht0, hv0, hd0, _, _⟩, _, _⟩ := h
  obtain rfl := Option.some.inj ((show Tryd.prog.globalNamed "triforium/head.parts" = some 0 by kernel_rfl).symm.trans hg0)
  obtain rfl := Option.some.inj ((show (Tryd.prog.globals[0]?).map (·.type) = some 54 by kernel_rfl).symm.trans ht0)
  have hcs := rows_of_array (rows := [[0, 2, 3, 3], [2, 1, 0, 1], [3, 5, 0, 31], [8, 16, 0, 4096], [24, 16, 0, 4096], [40, 24, 0, 1048576]]) Tryd.underlying54 Tryd.underlying53 (by kernel_rfl) (by kernel_rfl) (by kernel_rfl) (by kernel_rfl) hd0
  obtain ⟨t, fr, hh⟩ := var_block (show Tryd.prog.globalNamed "triforium/head.parts" = some 0 by kernel_rfl) hv0
  have e : cs0 = parC := by
    obtain ⟨l⟩ := cs0
    simp only at hcs
    rw [hcs]
    rfl
  rw [e] at hh
  exact ⟨t, fr, hh⟩

theorem u64_in {a : Int} (h : (Lit.int .u64 a).wf = true) : 0 ≤ a ∧ a < 18446744073709551616 := by
  have := bounds_u64 h
  omega
/-- Two headers against one another. -/
def hsame (k f r : Int) (m : Bool) (c k' f' r' : Int) (m' : Bool) (c' : Int) : Bool := decide (k = k' ∧ f = f' ∧ r = r' ∧ m = m' ∧ c = c')
theorem eqHead (k f r : Int) (m : Bool) (c k' f' r' : Int) (m' : Bool) (c' : Int) (w : World) : (Op.equalIn 10000 23 (.agg #[.int .i64 k, .int .i64 f, .int .i64 r, .bool m, .int .i64 c]) (.agg #[.int .i64 k', .int .i64 f', .int .i64 r', .bool m', .int .i64 c'])).run Tryd.prog w = .ok (hsame k f r m c k' f' r' m' c') w := by
  have hS : Tryd.prog.underlying 23 = some (.struct (Tryd.prog.fieldsOf 23)) := by kernel_rfl
  rw [show (10000 : Nat) = 9999 + 1 from rfl, run_equalIn_agg w 9999 23 _ _ hS (by kernel_rfl)]
  simp only [Program.fieldsOf, Tryd.underlying23]
  go_simp
  unfold hsame
  by_cases h1 : k = k' <;> by_cases h2 : f = f' <;> by_cases h3 : r = r' <;> by_cases h4 : m = m' <;> by_cases h5 : c = c' <;> simp [h1, h2, h3, h4, h5]

set_option maxRecDepth 100000 in
set_option maxHeartbeats 1000000 in
theorem awake07_any (w : World) (ht : Par w) : Calls Tryd.prog 16 #[] w fun e w' => e = .returned (.bool true) ∧ Only nob w w' := by
  have HTab := Lib.hid ht
  clear ht
  go_enter Tryd.func16, Tryd.ntmps16
  go_wp2_with fail
  go_at_call 6
  refine (hEnc_any 1 2 0 false 0 _ HTab.out).mono ?_
  rw [show hEW 1 2 0 false 0 = 523 by decide, show hEE 1 2 0 0 = 0 by decide]
  rintro e w1 ⟨rfl, o⟩
  have O1 := Lib.hid o
  clear o
  go_wp2_with fail
  go_at_call 8
  refine (hDec_any (n := 523) (by decide) _ (HTab.out.old O1.out)).mono ?_
  rw [show oK 523 = 1 by decide, show oF 523 = 2 by decide, show oR 523 = 0 by decide, show oM 523 = false by decide, show oC 523 = 0 by decide, show oE 523 = 0 by decide]
  rintro e w2 ⟨rfl, o⟩
  have O2 := Lib.hid (O1.out.trans o)
  obtain ⟨W3, hW3, HB3⟩ := box_head w2 1 2 0 false 0
  have HW3 := Lib.hid hW3
  clear o hW3
  go_wp2_with fail
  rw [HW3.out]
  go_at_call 8
  have O3 := Lib.hid (O2.out.trans HB3.out.1)
  refine (hDec_any (n := 5) (by decide) _ (HTab.out.old O3.out)).mono ?_
  rw [show oK 5 = 0 by decide, show oF 5 = 0 by decide, show oR 5 = 0 by decide, show oM 5 = false by decide, show oC 5 = 0 by decide, show oE 5 = 3 by decide]
  rintro e w4 ⟨rfl, o⟩
  have O4 := Lib.hid (O3.out.trans o)
  have B4 := Lib.hid (HB3.out.2.keep o id)
  obtain ⟨W5, hW5, HB5⟩ := zero_head w4
  have HW5 := Lib.hid hW5
  clear o hW5
  go_wp2_with fail
  rw [HW5.out]
  go_at_call 10
  refine (hForward_any 9 _).mono ?_
  rw [show encW 2 9 = 38 by decide, show encE 2 9 = 0 by decide]
  rintro e w6 ⟨rfl, o⟩
  have O6 := Lib.hid (O4.out.trans (HB5.out.1.trans o))
  have B6 := Lib.hid (B4.out.keep (HB5.out.1.trans o) id)
  clear o
  go_wp2_with fail
  go_at_call 12
  refine (hForwarded_any (n := 38) (by decide) _).mono ?_
  rw [show rX 38 = 9 by decide, show rB 38 = true by decide]
  rintro e w7 ⟨rfl, o⟩
  have O7 := Lib.hid (O6.out.trans o)
  have B7 := Lib.hid (B6.out.keep o id)
  clear o
  go_wp2_with fail
  go_at_call 12
  refine (hForwarded_any (n := 523) (by decide) _).mono ?_
  rw [show rX 523 = 0 by decide, show rB 523 = false by decide]
  rintro e w8 ⟨rfl, o⟩
  have O8 := Lib.hid (O7.out.trans o)
  have B8 := Lib.hid (B7.out.keep o id)
  clear o
  obtain ⟨c0, c1, c2, c3, c4⟩ := cells5 B8.out
  go_wp2_with fail
  go_at_call 14
  refine (hSize_any 1 2 0 false 0 _ (HTab.out.old O8.out)).mono ?_
  rw [show hSz 1 2 0 0 = 3 by decide]
  rintro e w9 ⟨rfl, o⟩
  have O9 := Lib.hid (O8.out.trans o)
  clear o c0 c1 c2 c3 c4
  go_wp2_with fail
  go_at_call 14
  refine (hSize_any 32 0 0 false 0 _ (HTab.out.old O9.out)).mono ?_
  rw [show hSz 32 0 0 0 = 0 by decide]
  rintro e w10 ⟨rfl, o⟩
  have O10 := Lib.hid (O9.out.trans o)
  clear o
  go_wp2
  go_ret
  exact ⟨rfl, O10.out⟩
end Go.Proofs.YtlgljnimfpiahaaDoor
