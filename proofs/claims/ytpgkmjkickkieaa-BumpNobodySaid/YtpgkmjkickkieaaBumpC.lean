/- Contracts of package bump: nobody's. -/
import Derived.Test.YtpgkmjkickkieaaBumpB
namespace Go.Proofs.Ytpgkmjkickkieaa
open Go.RowKit Go.Sort

/-- Nobody's bump: nil, or one that no call made. -/
def NoBm (w : World) (v : Value) : Prop := v = .pointer none ∨ ∃ b, v = .pointer (some ⟨b, 0, none⟩) ∧ Blk w b 42 #[.int .i64 0, .int .i64 0, .int .i64 0]
theorem NoBm.old {w w' : World} {v : Value} (h : NoBm w v) (o : Only nob w w') : NoBm w' v := by
  rcases h with h | ⟨b, h, hb⟩
  · exact .inl h
  · exact .inr ⟨b, h, hb.keep o id⟩
theorem zero_no : ¬ Sp.ok (0, 0) := by unfold Sp.ok; omega

set_option maxHeartbeats 400000 in
theorem bNone_no (v : Value) (w : World) (h : NoBm w v) :
    Calls Try.prog 17 #[v] w fun e w' => e = .returned (.bool true) ∧ Only nob w w' := by
  rcases h with rfl | ⟨b, rfl, h⟩
  · go_enter Try.func17, Try.ntmps17
    go_wp2
    go_ret
    exact ⟨rfl, Only.refl _ _⟩
  · have c0 := h.cell 0
    have c1 := h.cell 1
    simp at c0 c1
    clear h
    go_enter Try.func17, Try.ntmps17
    go_wp2_with fail
    go_at_call 16
    refine (may_no (x := (0, 0)) (by unfold Fit; decide) zero_no _).mono ?_
    rintro e w1 ⟨rfl, g⟩
    have HG := Lib.hid g.only
    clear g c0 c1
    go_wp2
    go_ret
    exact ⟨rfl, HG.out⟩

set_option maxHeartbeats 400000 in
theorem bTake_none (v : Value) (n : Int) (w : World) (h : NoBm w v) :
    Calls Try.prog 10 #[v, .int .i64 n] w fun e w' => e = .returned (.tuple #[.int .i64 0, .int .i64 10]) ∧ Only nob w w' := by
  have HH := Lib.hid h
  clear h
  go_enter Try.func10, Try.ntmps10
  go_wp2_with fail
  go_at_call 17
  refine (bNone_no v _ HH.out).mono ?_
  rintro e w1 ⟨rfl, o⟩
  have O1 := Lib.hid o
  clear o
  go_wp2
  go_ret2
  exact ⟨rfl, O1.out⟩

set_option maxHeartbeats 400000 in
theorem bBack_none (v : Value) (n : Int) (w : World) (h : NoBm w v) :
    Calls Try.prog 9 #[v, .int .i64 n] w fun e w' => e = .returned (.int .i64 10) ∧ Only nob w w' := by
  have HH := Lib.hid h
  clear h
  go_enter Try.func9, Try.ntmps9
  go_wp2_with fail
  go_at_call 17
  refine (bNone_no v _ HH.out).mono ?_
  rintro e w1 ⟨rfl, o⟩
  have O1 := Lib.hid o
  clear o
  go_wp2
  go_ret
  exact ⟨rfl, O1.out⟩

set_option maxHeartbeats 400000 in
theorem bTop_none (v : Value) (w : World) (h : NoBm w v) :
    Calls Try.prog 12 #[v] w fun e w' => e = .returned (.int .i64 0) ∧ Only nob w w' := by
  have HH := Lib.hid h
  clear h
  go_enter Try.func12, Try.ntmps12
  go_wp2_with fail
  go_at_call 17
  refine (bNone_no v _ HH.out).mono ?_
  rintro e w1 ⟨rfl, o⟩
  have O1 := Lib.hid o
  clear o
  go_wp2
  go_ret
  exact ⟨rfl, O1.out⟩

set_option maxHeartbeats 400000 in
theorem bUsed_none (v : Value) (w : World) (h : NoBm w v) :
    Calls Try.prog 11 #[v] w fun e w' => e = .returned (.int .i64 0) ∧ Only nob w w' := by
  have HH := Lib.hid h
  clear h
  go_enter Try.func11, Try.ntmps11
  go_wp2_with fail
  go_at_call 17
  refine (bNone_no v _ HH.out).mono ?_
  rintro e w1 ⟨rfl, o⟩
  have O1 := Lib.hid o
  clear o
  go_wp2
  go_ret
  exact ⟨rfl, O1.out⟩

set_option maxHeartbeats 400000 in
theorem bRoom_none (v : Value) (w : World) (h : NoBm w v) :
    Calls Try.prog 13 #[v] w fun e w' => e = .returned (.int .i64 0) ∧ Only nob w w' := by
  have HH := Lib.hid h
  clear h
  go_enter Try.func13, Try.ntmps13
  go_wp2_with fail
  go_at_call 17
  refine (bNone_no v _ HH.out).mono ?_
  rintro e w1 ⟨rfl, o⟩
  have O1 := Lib.hid o
  clear o
  go_wp2
  go_ret
  exact ⟨rfl, O1.out⟩
end Go.Proofs.Ytpgkmjkickkieaa
