/- What awake of the layouts' statements answers. -/
import Derived.Test.YtmlpppcdammelaaLayPlain
namespace Go.Proofs.Ytmlpppcdammelaa
open Go.RowKit
theorem awFit : CFit ⟨4, 3, 2, 3⟩ := ⟨by unfold I64; decide, by unfold I64; decide, by unfold I64; decide, by unfold I64; decide⟩
theorem awFit0 : CFit ⟨0, 0, 0, 0⟩ := ⟨by unfold I64; decide, by unfold I64; decide, by unfold I64; decide, by unfold I64; decide⟩

set_option maxRecDepth 100000 in
set_option maxHeartbeats 4000000 in
theorem awake04_any (hC : LyCheck) (hW : LyWords) (hF : LyFrom) (hT : LyTo) (hL : LyLarge) (hWh : LyWhere) (hS : LySmall) : LyAwake := by
  intro w
  have CB := Lib.hid (CBox.new w ⟨4, 3, 2, 3⟩)
  have HO := Lib.hid (only_box w ⟨4, 3, 2, 3⟩)
  go_enter Try.func19, Try.ntmps19
  go_wp2_with fail
  go_at_call 5
  refine (hC ⟨4, 3, 2, 3⟩ _ awFit).mono ?_
  rw [show decide (Cf.ok ⟨4, 3, 2, 3⟩) = true from by decide]
  rintro e w0 ⟨rfl, o⟩
  have CB0 := Lib.hid (CB.out.keep o)
  have HO0 := Lib.hid (HO.out.trans o)
  clear o
  obtain ⟨c0, c1, c2, c3⟩ := CB0.out
  go_wp2_with fail
  go_at_call 7
  refine (hW ⟨4, 3, 2, 3⟩ _ awFit).mono ?_
  rw [show cWords ⟨4, 3, 2, 3⟩ = 11 from by decide]
  rintro e w1 ⟨rfl, o⟩
  have CB1 := Lib.hid (CB0.out.keep o)
  have HO1 := Lib.hid (HO0.out.trans o)
  clear o c0 c1 c2 c3
  obtain ⟨c0, c1, c2, c3⟩ := CB1.out
  go_wp2_with fail
  go_at_call 9
  refine (hF ⟨4, 3, 2, 3⟩ true _ awFit).mono ?_
  rw [show cFrom ⟨4, 3, 2, 3⟩ true = (4, 4) from by decide]
  rintro e w2 ⟨rfl, o⟩
  have CB2 := Lib.hid (CB1.out.keep o)
  have HO2 := Lib.hid (HO1.out.trans o)
  clear o c0 c1 c2 c3
  obtain ⟨c0, c1, c2, c3⟩ := CB2.out
  go_wp2_with fail
  go_at_call 11
  refine (hT ⟨4, 3, 2, 3⟩ true _ awFit).mono ?_
  rw [show cTo ⟨4, 3, 2, 3⟩ true = (0, 4) from by decide]
  rintro e w3 ⟨rfl, o⟩
  have CB3 := Lib.hid (CB2.out.keep o)
  have HO3 := Lib.hid (HO2.out.trans o)
  clear o c0 c1 c2 c3
  obtain ⟨c0, c1, c2, c3⟩ := CB3.out
  go_wp2_with fail
  go_at_call 13
  refine (hL ⟨4, 3, 2, 3⟩ _ awFit).mono ?_
  rw [show cLarge ⟨4, 3, 2, 3⟩ = (8, 3) from by decide]
  rintro e w4 ⟨rfl, o⟩
  have CB4 := Lib.hid (CB3.out.keep o)
  have HO4 := Lib.hid (HO3.out.trans o)
  clear o c0 c1 c2 c3
  obtain ⟨c0, c1, c2, c3⟩ := CB4.out
  go_wp2_with fail
  go_at_call 15
  refine (hWh ⟨4, 3, 2, 3⟩ true 0 _ awFit (by unfold I64; decide)).mono ?_
  rw [show cWhere ⟨4, 3, 2, 3⟩ true 0 = 2 from by decide]
  rintro e w5 ⟨rfl, o⟩
  have CB5 := Lib.hid (CB4.out.keep o)
  have HO5 := Lib.hid (HO4.out.trans o)
  clear o c0 c1 c2 c3
  obtain ⟨c0, c1, c2, c3⟩ := CB5.out
  go_wp2_with fail
  go_at_call 15
  refine (hWh ⟨4, 3, 2, 3⟩ false 10 _ awFit (by unfold I64; decide)).mono ?_
  rw [show cWhere ⟨4, 3, 2, 3⟩ false 10 = 3 from by decide]
  rintro e w6 ⟨rfl, o⟩
  have CB6 := Lib.hid (CB5.out.keep o)
  have HO6 := Lib.hid (HO5.out.trans o)
  clear o c0 c1 c2 c3
  obtain ⟨c0, c1, c2, c3⟩ := CB6.out
  go_wp2_with fail
  go_at_call 15
  refine (hWh ⟨4, 3, 2, 3⟩ false 11 _ awFit (by unfold I64; decide)).mono ?_
  rw [show cWhere ⟨4, 3, 2, 3⟩ false 11 = 0 from by decide]
  rintro e w7 ⟨rfl, o⟩
  have CB7 := Lib.hid (CB6.out.keep o)
  have HO7 := Lib.hid (HO6.out.trans o)
  clear o c0 c1 c2 c3
  obtain ⟨c0, c1, c2, c3⟩ := CB7.out
  go_wp2_with fail
  go_at_call 17
  refine (hS ⟨4, 3, 2, 3⟩ 3 _ awFit (by unfold I64; decide)).mono ?_
  rw [show cSmall ⟨4, 3, 2, 3⟩ 3 = true from by decide]
  rintro e w8 ⟨rfl, o⟩
  have CB8 := Lib.hid (CB7.out.keep o)
  have HO8 := Lib.hid (HO7.out.trans o)
  clear o c0 c1 c2 c3
  obtain ⟨c0, c1, c2, c3⟩ := CB8.out
  go_wp2_with fail
  go_at_call 17
  refine (hS ⟨4, 3, 2, 3⟩ 4 _ awFit (by unfold I64; decide)).mono ?_
  rw [show cSmall ⟨4, 3, 2, 3⟩ 4 = false from by decide]
  rintro e w9 ⟨rfl, o⟩
  have CB9 := Lib.hid (CB8.out.keep o)
  have HO9 := Lib.hid (HO8.out.trans o)
  clear o c0 c1 c2 c3
  obtain ⟨c0, c1, c2, c3⟩ := CB9.out
  go_wp2_with fail
  go_at_call 5
  refine (hC ⟨0, 0, 0, 0⟩ _ awFit0).mono ?_
  rw [show decide (Cf.ok ⟨0, 0, 0, 0⟩) = false from by decide]
  rintro e w10 ⟨rfl, o⟩
  have CB10 := Lib.hid (CB9.out.keep o)
  have HO10 := Lib.hid (HO9.out.trans o)
  clear o c0 c1 c2 c3
  obtain ⟨c0, c1, c2, c3⟩ := CB10.out
  go_wp2
  go_ret
  exact ⟨rfl, HO10.out⟩
end Go.Proofs.Ytmlpppcdammelaa
