/- A value that came in, opened; what awake of the values' statements answers; the walk of ValueWords. -/
import Derived.Test.YtjnkcngicjghbaaDoorValE
import Derived.Test.YtjnkcngicjghbaaDoorOpen
import Derived.Lib.SmallJoins
namespace Go.Proofs.YtjnkcngicjghbaaDoor
open Go.ChangeShapes Go.WideShapes Go.RowKit Go.Deep Go.Joins

section
variable {H : Type} {enc : TypeId × Value → H} {w : World} {base b0 : Nat} {r : Reach} {sp : Nat → Bool} {held : Bool}
theorem open_val {v : Value} {d : DataW H} {p : List MemPlace} (hv : Value.okWide Tryd.prog w r b0 23 v) (h : DataW.Trod enc Tryd.prog w base sp held 23 v d p) :
    ∃ k x : Int, v = .agg #[.int .i64 k, .int .i64 x] ∧ (-9223372036854775808 ≤ x ∧ x ≤ 9223372036854775807) := by
  obtain ⟨c0, c1, y0, y1, m, rfl, -, -, h0, h1⟩ := open_agg2 Tryd.underlying23 (by kernel_rfl) (by kernel_rfl) hv h
  obtain ⟨a, e0, -, w0⟩ := DataW.trod_int (k := .i64) (by kernel_rfl) h0
  obtain ⟨s, e1, -, w1⟩ := DataW.trod_int (k := .i64) (by kernel_rfl) h1
  obtain rfl : c0 = .int .i64 a := by simpa using e0
  obtain rfl : c1 = .int .i64 s := by simpa using e1
  exact ⟨a, s, rfl, bounds_i64 w1⟩
end

theorem u64_lt {a : Int} (h : (Lit.int .u64 a).wf = true) : 0 ≤ a ∧ a < 18446744073709551616 := by
  have := bounds_u64 h
  omega
theorem txt_at5 : vtext 2 5 = ⟨#[64, 53]⟩ := by rw [vtext_2 rfl, itoa_one (by decide)]; decide
theorem txt_bad : vtext 0 1 = ⟨#[63]⟩ := rfl
theorem txt_nil : vtext 0 0 = ⟨#[110, 105, 108]⟩ := rfl

set_option maxHeartbeats 1000000 in
theorem awake06_any (w : World) (ht : Tab w) : Calls Tryd.prog 12 #[] w fun e w' => e = .returned (.bool true) ∧ Only nob w w' := by
  have HTab := Lib.hid ht
  clear ht
  go_enter Tryd.func12, Tryd.ntmps12
  go_wp2_with fail
  go_at_call 6
  refine (enc_any 1 (-1) _).mono ?_
  rw [show encW 1 (-1) = 18446744073709551613 by decide, show encE 1 (-1) = 0 by decide]
  rintro e w1 ⟨rfl, o⟩
  have O1 := Lib.hid o
  clear o
  go_wp2_with fail
  go_at_call 6
  refine (enc_any 2 5 _).mono ?_
  rw [show encW 2 5 = 22 by decide, show encE 2 5 = 0 by decide]
  rintro e w2 ⟨rfl, o⟩
  have O2 := Lib.hid (O1.out.trans o)
  clear o
  go_wp2_with fail
  go_at_call 8
  refine (dec_any (n := 3) (by decide) _).mono ?_
  rw [show dK 3 = 0 by decide, show dX 3 = 0 by decide, show dE 3 = 3 by decide]
  rintro e w3 ⟨rfl, o⟩
  have O3 := Lib.hid (O2.out.trans o)
  obtain ⟨W4, hW4, HB4⟩ := box_val w3 0 0
  have HW4 := Lib.hid hW4
  clear o hW4
  go_wp2_with fail
  rw [HW4.out]
  go_at_call 10
  refine (ref_any (n := 22) (by decide) _).mono ?_
  rw [show rX 22 = 5 by decide, show rB 22 = true by decide]
  rintro e w5 ⟨rfl, o⟩
  have O5 := Lib.hid (O3.out.trans (HB4.out.1.trans o))
  clear o
  go_wp2_with fail
  go_at_call 10
  refine (ref_any (n := 5) (by decide) _).mono ?_
  rw [show rX 5 = 0 by decide, show rB 5 = false by decide]
  rintro e w6 ⟨rfl, o⟩
  have O6 := Lib.hid (O5.out.trans o)
  clear o
  go_wp2_with fail
  go_at_call 13
  refine (text_any 2 5 (by decide) _ (HTab.out.old O6.out)).mono ?_
  rw [txt_at5]
  rintro e w7 ⟨rfl, o⟩
  have O7 := Lib.hid (O6.out.trans o)
  clear o
  go_wp2_with fail
  go_at_call 13
  refine (text_any 0 1 (by decide) _ (HTab.out.old O7.out)).mono ?_
  rw [txt_bad]
  rintro e w8 ⟨rfl, o⟩
  have O8 := Lib.hid (O7.out.trans o)
  clear o
  go_wp2_with fail
  go_at_call 13
  refine (text_any 0 0 (by decide) _ (HTab.out.old O8.out)).mono ?_
  rw [txt_nil]
  rintro e w9 ⟨rfl, o⟩
  have O9 := Lib.hid (O8.out.trans o)
  clear o
  go_wp2
  go_ret
  exact ⟨rfl, O9.out⟩

set_option maxHeartbeats 1000000 in
theorem valueWords_walk (k x n : Int) (hn : 0 ≤ n ∧ n < 18446744073709551616) (w : World) (ht : Tab w) : Calls Tryd.prog 3 #[.agg #[.int .i64 k, .int .i64 x], .int .u64 n] w fun e w' => e = .returned (.bool true) ∧ Below w.heap.size w w' := by
  have HTab := Lib.hid ht
  have HN := Lib.hid hn
  obtain ⟨W, hW, HB⟩ := box_val w k x
  have HWE := Lib.hid hW
  clear ht hn hW
  go_enter Tryd.func3, Tryd.ntmps3
  go_wp2_with fail
  rw [HWE.out]
  go_at_call 6
  refine (enc_any k x _).mono ?_
  rintro e w1 ⟨rfl, o⟩
  have O1 := Lib.hid (HB.out.1.trans o)
  have c0 := o.keeps HB.out.2.1
  have c1 := o.keeps HB.out.2.2
  clear o
  go_wp2_with fail
  go_at_call 7
  refine (refEnc_any k x _).mono ?_
  rintro e w2 ⟨rfl, o⟩
  have O2 := Lib.hid (O1.out.trans o)
  clear o c0 c1
  go_wp2_with fail
  go_at_call 8
  refine (dec_any HN.out _).mono ?_
  rintro e w3 ⟨rfl, o⟩
  have O3 := Lib.hid (O2.out.trans o)
  obtain ⟨W4, hW4, HB4⟩ := box_val w3 (dK n) (dX n)
  have HW4 := Lib.hid hW4
  clear o hW4
  go_wp2_with fail
  rw [HW4.out]
  go_at_call 9
  refine (refDec_any HN.out _).mono ?_
  rintro e w5 ⟨rfl, o⟩
  have O5 := Lib.hid (O3.out.trans (HB4.out.1.trans o))
  have P5 := Lib.hid (show w5.cell? ⟨w3.heap.size, 0, none⟩ = some (.int .i64 (dK n)) ∧ w5.cell? ⟨w3.heap.size, 1, none⟩ = some (.int .i64 (dX n)) from ⟨o.keeps HB4.out.2.1, o.keeps HB4.out.2.2⟩)
  obtain ⟨W6, hW6, HB6⟩ := box_val w5 (dK n) (dX n)
  have HW6 := Lib.hid hW6
  clear o hW6
  go_wp2_with fail
  rw [HW6.out]
  go_at_call 10
  refine (ref_any HN.out _).mono ?_
  rintro e w7 ⟨rfl, o⟩
  have O7 := Lib.hid (O5.out.trans (HB6.out.1.trans o))
  have P7 := Lib.hid (show w7.cell? ⟨w3.heap.size, 0, none⟩ = some (.int .i64 (dK n)) ∧ w7.cell? ⟨w3.heap.size, 1, none⟩ = some (.int .i64 (dX n)) from ⟨o.keeps (HB6.out.1.keeps P5.out.1), o.keeps (HB6.out.1.keeps P5.out.2)⟩)
  have R7 := Lib.hid (show w7.cell? ⟨w5.heap.size, 0, none⟩ = some (.int .i64 (dK n)) ∧ w7.cell? ⟨w5.heap.size, 1, none⟩ = some (.int .i64 (dX n)) from ⟨o.keeps HB6.out.2.1, o.keeps HB6.out.2.2⟩)
  clear o
  go_wp2_with fail
  go_at_call 11
  refine (refRef_any HN.out _).mono ?_
  rintro e w8 ⟨rfl, o⟩
  have O8 := Lib.hid (O7.out.trans o)
  obtain ⟨c0, c1⟩ : w8.cell? ⟨w3.heap.size, 0, none⟩ = some (.int .i64 (dK n)) ∧ w8.cell? ⟨w3.heap.size, 1, none⟩ = some (.int .i64 (dX n)) := ⟨o.keeps P7.out.1, o.keeps P7.out.2⟩
  obtain ⟨d0, d1⟩ : w8.cell? ⟨w5.heap.size, 0, none⟩ = some (.int .i64 (dK n)) ∧ w8.cell? ⟨w5.heap.size, 1, none⟩ = some (.int .i64 (dX n)) := ⟨o.keeps R7.out.1, o.keeps R7.out.2⟩
  clear o
  go_wp2_with fail
  go_at_call 12
  refine (awake06_any _ (HTab.out.old O8.out)).mono ?_
  rintro e w9 ⟨rfl, o⟩
  have O9 := Lib.hid (O8.out.trans o)
  clear o
  go_wp2
  go_ret
  exact ⟨rfl, O9.out.whole⟩
end Go.Proofs.YtjnkcngicjghbaaDoor
