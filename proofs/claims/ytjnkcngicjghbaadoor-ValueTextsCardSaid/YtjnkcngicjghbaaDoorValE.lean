/- The texts of values: of package value and of the document's own answer; what awake of the statements answers. -/
import Derived.Test.YtjnkcngicjghbaaDoorValD
namespace Go.Proofs.YtjnkcngicjghbaaDoor
open Go.RowKit

/-- The text of a value. -/
def vtext (k x : Int) : ByteArray := if vmay k x then (if k = 1 then txt (Lib.itoa x) else if k = 2 then txt [64] ++ txt (Lib.itoa x) else ⟨#[110, 105, 108]⟩) else ⟨#[63]⟩
theorem vtext_no {k x : Int} (h : vmay k x = false) : vtext k x = ⟨#[63]⟩ := by unfold vtext; rw [h]; rfl
theorem vtext_1 {x : Int} (h : vmay 1 x = true) : vtext 1 x = txt (Lib.itoa x) := by unfold vtext; rw [h]; rfl
theorem vtext_2 {x : Int} (h : vmay 2 x = true) : vtext 2 x = txt [64] ++ txt (Lib.itoa x) := by unfold vtext; rw [h]; rfl
theorem vtext_0 {x : Int} (h : vmay 0 x = true) : vtext 0 x = ⟨#[110, 105, 108]⟩ := by unfold vtext; rw [h]; rfl

theorem text_no (k x : Int) (h : vmay k x = false) (w : World) : Calls Tryd.prog 13 #[.agg #[.int .i64 k, .int .i64 x]] w fun e w' => e = .returned (.string (vtext k x)) ∧ Only nob w w' := by
  have HM := Lib.hid h
  have HT := Lib.hid (vtext_no h)
  clear h
  obtain ⟨W, hW, HB⟩ := box_val w k x
  have HWE := Lib.hid hW
  clear hW
  go_enter Tryd.func13, Tryd.ntmps13
  go_wp2_with fail
  rw [HWE.out]
  go_at_call 15
  refine (tagOf_any k x _).mono ?_
  rw [HM.out]
  rintro e w1 ⟨rfl, o⟩
  have O1 := Lib.hid (HB.out.1.trans o)
  clear o
  go_wp2
  go_ret
  exact ⟨by rw [HT.out]; rfl, O1.out⟩
theorem text_0 (x : Int) (h : vmay 0 x = true) (w : World) : Calls Tryd.prog 13 #[.agg #[.int .i64 0, .int .i64 x]] w fun e w' => e = .returned (.string (vtext 0 x)) ∧ Only nob w w' := by
  have HM := Lib.hid h
  have HT := Lib.hid (vtext_0 h)
  clear h
  obtain ⟨W, hW, HB⟩ := box_val w 0 x
  have HWE := Lib.hid hW
  clear hW
  go_enter Tryd.func13, Tryd.ntmps13
  go_wp2_with fail
  rw [HWE.out]
  go_at_call 15
  refine (tagOf_any 0 x _).mono ?_
  rw [HM.out, show vtag 0 = 0 from rfl]
  rintro e w1 ⟨rfl, o⟩
  have O1 := Lib.hid (HB.out.1.trans o)
  clear o
  go_wp2
  go_ret
  exact ⟨by rw [HT.out]; rfl, O1.out⟩
theorem text_1 (x : Int) (hx : -9223372036854775808 ≤ x ∧ x ≤ 9223372036854775807) (h : vmay 1 x = true) (w : World) (ht : Tab w) : Calls Tryd.prog 13 #[.agg #[.int .i64 1, .int .i64 x]] w fun e w' => e = .returned (.string (vtext 1 x)) ∧ Only nob w w' := by
  have HM := Lib.hid h
  have HT := Lib.hid (vtext_1 h)
  have HTab := Lib.hid ht
  have HX := Lib.hid hx
  have hs := itoa_short hx
  clear h ht hx
  obtain ⟨W, hW, HB⟩ := box_val w 1 x
  have HWE := Lib.hid hW
  clear hW
  go_enter Tryd.func13, Tryd.ntmps13
  go_wp2_with fail
  rw [HWE.out]
  go_at_call 15
  refine (tagOf_any 1 x _).mono ?_
  rw [HM.out, show vtag 1 = 1 from rfl]
  rintro e w1 ⟨rfl, o⟩
  have O1 := Lib.hid (HB.out.1.trans o)
  have c0 := o.keeps HB.out.2.1
  have c1 := o.keeps HB.out.2.2
  clear o
  go_wp2_with fail
  go_at_call 18
  refine (digits_any 1 x HX.out _ (HTab.out.old O1.out)).mono ?_
  rintro e w2 ⟨rfl, o⟩
  have O2 := Lib.hid (O1.out.trans o)
  clear o
  go_wp2
  go_ret
  exact ⟨by rw [HT.out]; rfl, O2.out⟩
theorem text_2 (x : Int) (hx : -9223372036854775808 ≤ x ∧ x ≤ 9223372036854775807) (h : vmay 2 x = true) (w : World) (ht : Tab w) : Calls Tryd.prog 13 #[.agg #[.int .i64 2, .int .i64 x]] w fun e w' => e = .returned (.string (vtext 2 x)) ∧ Only nob w w' := by
  have HM := Lib.hid h
  have HT := Lib.hid (vtext_2 h)
  have HTab := Lib.hid ht
  have HX := Lib.hid hx
  have hs := itoa_short hx
  clear h ht hx
  obtain ⟨W, hW, HB⟩ := box_val w 2 x
  have HWE := Lib.hid hW
  clear hW
  go_enter Tryd.func13, Tryd.ntmps13
  go_wp2_with fail
  rw [HWE.out]
  go_at_call 15
  refine (tagOf_any 2 x _).mono ?_
  rw [HM.out, show vtag 2 = 2 from rfl]
  rintro e w1 ⟨rfl, o⟩
  have O1 := Lib.hid (HB.out.1.trans o)
  have c0 := o.keeps HB.out.2.1
  have c1 := o.keeps HB.out.2.2
  clear o
  go_wp2_with fail
  go_at_call 18
  refine (digits_any 2 x HX.out _ (HTab.out.old O1.out)).mono ?_
  rintro e w2 ⟨rfl, o⟩
  have O2 := Lib.hid (O1.out.trans o)
  clear o
  go_wp2
  go_ret
  exact ⟨by rw [HT.out]; rfl, O2.out⟩
theorem text_any (k x : Int) (hx : -9223372036854775808 ≤ x ∧ x ≤ 9223372036854775807) (w : World) (ht : Tab w) : Calls Tryd.prog 13 #[.agg #[.int .i64 k, .int .i64 x]] w fun e w' => e = .returned (.string (vtext k x)) ∧ Only nob w w' := by
  rcases hm : vmay k x with _ | _
  · exact text_no k x hm w
  · rcases may_kinds hm with ⟨rfl, _⟩ | ⟨rfl, _⟩ | ⟨rfl, _⟩
    · exact text_0 x hm w
    · exact text_1 x hx hm w ht
    · exact text_2 x hx hm w ht

theorem refText_no (k x : Int) (h : vmay k x = false) (w : World) : Calls Tryd.prog 14 #[.agg #[.int .i64 k, .int .i64 x]] w fun e w' => e = .returned (.string (vtext k x)) ∧ Only nob w w' := by
  have HM := Lib.hid h
  have HT := Lib.hid (vtext_no h)
  clear h
  obtain ⟨W, hW, HB⟩ := box_val w k x
  have HWE := Lib.hid hW
  clear hW
  go_enter Tryd.func14, Tryd.ntmps14
  go_wp2_with fail
  rw [HWE.out]
  go_at_call 16
  refine (refMay_any k x _).mono ?_
  rw [HM.out]
  rintro e w1 ⟨rfl, o⟩
  have O1 := Lib.hid (HB.out.1.trans o)
  clear o
  go_wp2
  go_ret
  exact ⟨by rw [HT.out]; rfl, O1.out⟩
theorem refText_0 (x : Int) (h : vmay 0 x = true) (w : World) : Calls Tryd.prog 14 #[.agg #[.int .i64 0, .int .i64 x]] w fun e w' => e = .returned (.string (vtext 0 x)) ∧ Only nob w w' := by
  have HM := Lib.hid h
  have HT := Lib.hid (vtext_0 h)
  clear h
  obtain ⟨W, hW, HB⟩ := box_val w 0 x
  have HWE := Lib.hid hW
  clear hW
  go_enter Tryd.func14, Tryd.ntmps14
  go_wp2_with fail
  rw [HWE.out]
  go_at_call 16
  refine (refMay_any 0 x _).mono ?_
  rw [HM.out]
  rintro e w1 ⟨rfl, o⟩
  have O1 := Lib.hid (HB.out.1.trans o)
  have c0 := o.keeps HB.out.2.1
  have c1 := o.keeps HB.out.2.2
  clear o
  go_wp2
  go_ret
  exact ⟨by rw [HT.out]; rfl, O1.out⟩
theorem refText_1 (x : Int) (hx : -9223372036854775808 ≤ x ∧ x ≤ 9223372036854775807) (h : vmay 1 x = true) (w : World) : Calls Tryd.prog 14 #[.agg #[.int .i64 1, .int .i64 x]] w fun e w' => e = .returned (.string (vtext 1 x)) ∧ Only nob w w' := by
  have HM := Lib.hid h
  have HT := Lib.hid (vtext_1 h)
  have HD := Lib.hid (refDigits_any x hx)
  have hs := itoa_short hx
  clear h hx
  obtain ⟨W, hW, HB⟩ := box_val w 1 x
  have HWE := Lib.hid hW
  clear hW
  go_enter Tryd.func14, Tryd.ntmps14
  go_wp2_with fail
  rw [HWE.out]
  go_at_call 16
  refine (refMay_any 1 x _).mono ?_
  rw [HM.out]
  rintro e w1 ⟨rfl, o⟩
  have O1 := Lib.hid (HB.out.1.trans o)
  have c0 := o.keeps HB.out.2.1
  have c1 := o.keeps HB.out.2.2
  clear o
  go_wp2_with fail
  go_at_call 19
  refine (HD.out _).mono ?_
  rintro e w2 ⟨rfl, o⟩
  have O2 := Lib.hid (O1.out.trans o)
  clear o
  go_wp2
  go_ret
  exact ⟨by rw [HT.out]; rfl, O2.out⟩
theorem refText_2 (x : Int) (hx : -9223372036854775808 ≤ x ∧ x ≤ 9223372036854775807) (h : vmay 2 x = true) (w : World) : Calls Tryd.prog 14 #[.agg #[.int .i64 2, .int .i64 x]] w fun e w' => e = .returned (.string (vtext 2 x)) ∧ Only nob w w' := by
  have HM := Lib.hid h
  have HT := Lib.hid (vtext_2 h)
  have HD := Lib.hid (refDigits_any x hx)
  have hs := itoa_short hx
  clear h hx
  obtain ⟨W, hW, HB⟩ := box_val w 2 x
  have HWE := Lib.hid hW
  clear hW
  go_enter Tryd.func14, Tryd.ntmps14
  go_wp2_with fail
  rw [HWE.out]
  go_at_call 16
  refine (refMay_any 2 x _).mono ?_
  rw [HM.out]
  rintro e w1 ⟨rfl, o⟩
  have O1 := Lib.hid (HB.out.1.trans o)
  have c0 := o.keeps HB.out.2.1
  have c1 := o.keeps HB.out.2.2
  clear o
  go_wp2_with fail
  go_at_call 19
  refine (HD.out _).mono ?_
  rintro e w2 ⟨rfl, o⟩
  have O2 := Lib.hid (O1.out.trans o)
  clear o
  go_wp2
  go_ret
  exact ⟨by rw [HT.out]; rfl, O2.out⟩
theorem refText_any (k x : Int) (hx : -9223372036854775808 ≤ x ∧ x ≤ 9223372036854775807) (w : World) : Calls Tryd.prog 14 #[.agg #[.int .i64 k, .int .i64 x]] w fun e w' => e = .returned (.string (vtext k x)) ∧ Only nob w w' := by
  rcases hm : vmay k x with _ | _
  · exact refText_no k x hm w
  · rcases may_kinds hm with ⟨rfl, _⟩ | ⟨rfl, _⟩ | ⟨rfl, _⟩
    · exact refText_0 x hm w
    · exact refText_1 x hx hm w
    · exact refText_2 x hx hm w
end Go.Proofs.YtjnkcngicjghbaaDoor
