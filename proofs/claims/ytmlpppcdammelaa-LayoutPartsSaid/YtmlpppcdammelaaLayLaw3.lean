/- The walk of LayoutParts: a config that is not ok. -/
import Derived.Test.YtmlpppcdammelaaLayLaw2
namespace Go.Proofs.Ytmlpppcdammelaa
open Go.RowKit Go.Sort

set_option maxRecDepth 100000 in
set_option maxHeartbeats 8000000 in
theorem layoutParts_no (hC : LyCheck) (hW : LyWords) (hF : LyFrom) (hAw : LyAwake) (c : Cf) (s : Bool) (p : Int) (hc : CFit c) (hno : ¬ c.ok) (w : World) :
    Calls Try.prog 4 #[.agg #[.int .i64 c.semi, .int .i64 c.large, .int .i64 c.slots, .int .i64 c.limit], .bool s, .int .i64 p] w fun e w' => e = .returned (.bool true) ∧ Below w.heap.size w w' := by
  have A1 := Lib.hid (fun w => hC c w hc)
  have B1 := Lib.hid (fun w => hW c w hc)
  have C1 := Lib.hid (fun w => hF c s w hc)
  have HN := Lib.hid (decide_eq_false hno)
  have HWd : Hid (cWords c = 0) := Lib.hid (if_neg hno)
  have HFr : Hid (cFrom c s = (0, 0)) := Lib.hid (by unfold cFrom cHalf; simp [hno])
  have HAW := Lib.hid (show ∀ w : World, Calls Try.prog 19 #[] w fun e w' => e = .returned (.bool true) ∧ Only nob w w' from hAw)
  obtain ⟨W, hWn, HB⟩ : ∃ W, (w.alloc (.cells #[.int .i64 c.semi, .int .i64 c.large, .int .i64 c.slots, .int .i64 c.limit] 23)) = W ∧ Hid (Only nob w W ∧ CBox W w.heap.size c) := ⟨_, rfl, only_box w c, CBox.new w c⟩
  have HWN := Lib.hid hWn
  clear hWn hc hC hW hF hAw hno
  go_enter Try.func4, Try.ntmps4
  go_wp2_with fail
  rw [HWN.out]
  obtain ⟨c0, c1, c2, c3⟩ := HB.out.2
  go_wp2_with fail
  go_at_call 5
  refine (A1.out _).mono ?_
  rw [HN.out]
  rintro e w1 ⟨rfl, o⟩
  have O1 := Lib.hid (And.intro (HB.out.1.trans o) (HB.out.2.keep o))
  clear o c0 c1 c2 c3
  obtain ⟨c0, c1, c2, c3⟩ := O1.out.2
  go_wp2_with fail
  go_at_call 9
  refine (C1.out _).mono ?_
  rw [HFr.out]
  rintro e w2 ⟨rfl, o⟩
  have O2 := Lib.hid (And.intro (O1.out.1.trans o) (O1.out.2.keep o))
  clear o c0 c1 c2 c3
  obtain ⟨c0, c1, c2, c3⟩ := O2.out.2
  go_wp2_with fail
  go_at_call 7
  refine (B1.out _).mono ?_
  rw [HWd.out]
  rintro e w3 ⟨rfl, o⟩
  have O3 := Lib.hid (And.intro (O2.out.1.trans o) (O2.out.2.keep o))
  clear o c0 c1 c2 c3
  go_wp2_with fail
  go_at_call 19
  refine (HAW.out _).mono ?_
  rintro e w4 ⟨rfl, o⟩
  have O4 := Lib.hid (O3.out.1.trans o)
  clear o
  go_wp2
  go_ret
  exact ⟨rfl, O4.out.whole⟩
end Go.Proofs.Ytmlpppcdammelaa
