/- What awake of the bump's statements answers; the walk of BumpNobody. -/
import Derived.Test.YtpgkmjkickkieaaBumpC
namespace Go.Proofs.Ytpgkmjkickkieaa
open Go.RowKit Go.Sort

theorem keep_new {w a c : World} {b : Nat} (h : Only nob w a) (ho : Only (isb b) a c) (hb : w.heap.size ≤ b) : Only nob w c := h.andThen ho fun i hi e => by unfold isb at e; omega
theorem ok43 : Sp.ok (4, 3) := by unfold Sp.ok most; decide

set_option maxRecDepth 100000 in
set_option maxHeartbeats 1000000 in
theorem awake05_any (w : World) : Calls Try.prog 6 #[] w fun e w' => e = .returned (.bool true) ∧ Only nob w w' := by
  go_enter Try.func6, Try.ntmps6
  go_wp2_with fail
  go_at_call 7
  refine (bNew_yes (4, 3) _ ok43).mono ?_
  rintro e w1 ⟨b, rfl, hb, hB, o⟩
  have HB1 := Lib.hid hB
  have O1 := Lib.hid o
  clear hB o
  go_wp2_with fail
  go_at_call 10
  refine (bTake_yes b (4, 3) 4 2 _ HB1.out (by decide) (by decide)).mono ?_
  rintro e w2 ⟨rfl, hB, o⟩
  have HB2 := Lib.hid (show Bm w2 b (4, 3) 6 from hB)
  have O2 := Lib.hid (keep_new O1.out o hb)
  clear hB o
  go_wp2_with fail
  go_at_call 10
  refine (bTake_no b (4, 3) 6 2 _ HB2.out (by decide)).mono ?_
  rw [show tno 2 = 9 from by decide]
  rintro e w3 ⟨rfl, o⟩
  have HB3 := Lib.hid (HB2.out.old o)
  have O3 := Lib.hid (O2.out.trans o)
  clear o
  go_wp2_with fail
  go_at_call 10
  refine (bTake_yes b (4, 3) 6 1 _ HB3.out (by decide) (by decide)).mono ?_
  rintro e w4 ⟨rfl, hB, o⟩
  have HB4 := Lib.hid (show Bm w4 b (4, 3) 7 from hB)
  have O4 := Lib.hid (keep_new O3.out o hb)
  clear hB o
  go_wp2_with fail
  go_at_call 10
  refine (bTake_no b (4, 3) 7 0 _ HB4.out (by decide)).mono ?_
  rw [show tno 0 = 7 from by decide]
  rintro e w5 ⟨rfl, o⟩
  have HB5 := Lib.hid (HB4.out.old o)
  have O5 := Lib.hid (O4.out.trans o)
  clear o
  go_wp2_with fail
  go_at_call 9
  refine (bBack_yes b (4, 3) 7 5 _ HB5.out (by decide) (by decide)).mono ?_
  rintro e w6 ⟨rfl, hB, o⟩
  have HB6 := Lib.hid hB
  have O6 := Lib.hid (keep_new O5.out o hb)
  clear hB o
  go_wp2_with fail
  go_at_call 10
  refine (bTake_none _ 1 _ (.inl rfl)).mono ?_
  rintro e w7 ⟨rfl, o⟩
  have HB7 := Lib.hid (HB6.out.old o)
  have O7 := Lib.hid (O6.out.trans o)
  clear o
  go_wp2_with fail
  go_at_call 12
  refine (bTop_bm b (4, 3) 5 _ HB7.out).mono ?_
  rintro e w8 ⟨rfl, o⟩
  have HB8 := Lib.hid (HB7.out.old o)
  have O8 := Lib.hid (O7.out.trans o)
  clear o
  go_wp2_with fail
  go_at_call 11
  refine (bUsed_bm b (4, 3) 5 _ HB8.out).mono ?_
  rw [show (5 : Int) - ((4, 3) : Sp).1 = 1 from by decide]
  rintro e w9 ⟨rfl, o⟩
  have HB9 := Lib.hid (HB8.out.old o)
  have O9 := Lib.hid (O8.out.trans o)
  clear o
  go_wp2_with fail
  go_at_call 13
  refine (bRoom_bm b (4, 3) 5 _ HB9.out).mono ?_
  rw [show ((4, 3) : Sp).2 - ((5 : Int) - ((4, 3) : Sp).1) = 2 from by decide]
  rintro e w10 ⟨rfl, o⟩
  have HB10 := Lib.hid (HB9.out.old o)
  have O10 := Lib.hid (O9.out.trans o)
  clear o
  go_wp2_with fail
  go_at_call 9
  refine (bBack_no b (4, 3) 5 6 _ HB10.out (by decide)).mono ?_
  rintro e w11 ⟨rfl, o⟩
  have O11 := Lib.hid (O10.out.trans o)
  clear o
  go_wp2_with fail
  go_at_call 12
  refine (bTop_none _ _ (.inl rfl)).mono ?_
  rintro e w12 ⟨rfl, o⟩
  have O12 := Lib.hid (O11.out.trans o)
  clear o
  go_wp2
  go_ret
  exact ⟨rfl, O12.out⟩

set_option maxRecDepth 100000 in
set_option maxHeartbeats 1000000 in
theorem bumpNobody_walk (n : Int) (w : World) :
    Calls Try.prog 5 #[.int .i64 n] w fun e w' => e = .returned (.bool true) ∧ Below w.heap.size w w' := by
  go_enter Try.func5, Try.ntmps5
  go_wp2_with fail
  go_loopw [3] (fun i wr => ∃ k : Nat, k ≤ 2 ∧ i = .int .i64 k ∧ Only nob w wr) (fun i _ => 2 - (intOf i).toNat)
  case atStart => exact ⟨0, by omega, rfl, Only.refl _ _⟩
  case round =>
    obtain ⟨k, hk, rfl, hO⟩ := hrel
    obtain rfl | rfl | rfl : k = 0 ∨ k = 1 ∨ k = 2 := by omega
    case' inl => have HN := Lib.hid (show NoBm wr (.pointer none) from .inl rfl)
    case' inr.inl => have HN := Lib.hid (show NoBm (wr.alloc (.cells #[.int .i64 0, .int .i64 0, .int .i64 0] 42)) (.pointer (some ⟨wr.heap.size, 0, none⟩)) from .inr ⟨_, rfl, Blk.new _ _ _⟩)
    case' inl => have HO := Lib.hid hO
    case' inr.inl => have HO := Lib.hid (hO.alloc (.cells #[.int .i64 0, .int .i64 0, .int .i64 0] 42))
    case inr.inr =>
      have HO := Lib.hid hO
      clear hO
      go_wp2_with fail
      go_at_call 6
      refine (awake05_any _).mono ?_
      rintro e w1 ⟨rfl, ho⟩
      have HO2 := Lib.hid (HO.out.trans ho)
      clear ho
      go_wp2
      go_ret
      exact ⟨rfl, HO2.out.whole⟩
    all_goals
      clear hO
      go_wp2_with fail
      go_at_call 10
      refine (bTake_none _ n _ HN.out).mono ?_
      rintro e w1 ⟨rfl, o⟩
      have HN1 := Lib.hid (HN.out.old o)
      have O1 := Lib.hid (HO.out.trans o)
      clear o
      go_wp2_with fail
      go_at_call 9
      refine (bBack_none _ n _ HN1.out).mono ?_
      rintro e w2 ⟨rfl, o⟩
      have HN2 := Lib.hid (HN1.out.old o)
      have O2 := Lib.hid (O1.out.trans o)
      clear o
      go_wp2_with fail
      go_at_call 12
      refine (bTop_none _ _ HN2.out).mono ?_
      rintro e w3 ⟨rfl, o⟩
      have HN3 := Lib.hid (HN2.out.old o)
      have O3 := Lib.hid (O2.out.trans o)
      clear o
      go_wp2_with fail
      go_at_call 11
      refine (bUsed_none _ _ HN3.out).mono ?_
      rintro e w4 ⟨rfl, o⟩
      have HN4 := Lib.hid (HN3.out.old o)
      have O4 := Lib.hid (O3.out.trans o)
      clear o
      go_wp2_with fail
      go_at_call 13
      refine (bRoom_none _ _ HN4.out).mono ?_
      rintro e w5 ⟨rfl, o⟩
      have O5 := Lib.hid (O4.out.trans o)
      clear o
      go_wp2
      go_roundw
      case rel => first | exact ⟨1, by omega, rfl, O5.out⟩ | exact ⟨2, by omega, rfl, O5.out⟩
      case measure => simp [intOf]
end Go.Proofs.Ytpgkmjkickkieaa
