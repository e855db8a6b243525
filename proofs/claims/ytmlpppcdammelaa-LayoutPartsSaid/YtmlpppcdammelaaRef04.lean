/- Contracts of the document's own answers for layouts. -/
import Derived.Test.YtmlpppcdammelaaLayPlain
namespace Go.Proofs.Ytmlpppcdammelaa
open Go.RowKit

set_option maxHeartbeats 1000000 in
theorem refCheck_any (c : Cf) (w : World) : Calls Try.prog 6 #[.agg #[.int .i64 c.semi, .int .i64 c.large, .int .i64 c.slots, .int .i64 c.limit]] w fun e w' => e = .returned (.bool (decide c.ok)) ∧ Only nob w w' := by
  obtain ⟨b, hb⟩ : ∃ b, decide c.ok = b := ⟨_, rfl⟩
  rw [hb]
  have HB := Lib.hid hb
  clear hb
  go_enter Try.func6, Try.ntmps6
  go_wp2
  all_goals go_ret
  all_goals
    refine ⟨ret_bool ?_, (Only.refl nob w).alloc _⟩
    rw [← HB.out]
    first
      | exact (decide_eq_false (by unfold Cf.ok; omega)).symm
      | exact decide_eq_decide.2 ⟨fun hq => by unfold Cf.ok; omega, fun hq => by unfold Cf.ok at hq; omega⟩
      | (by_cases hq : c.limit ≤ c.semi; exact (decide_eq_true (by unfold Cf.ok; omega)).symm)

theorem refCheck_yes {c : Cf} (h : c.ok) (w : World) : Calls Try.prog 6 #[.agg #[.int .i64 c.semi, .int .i64 c.large, .int .i64 c.slots, .int .i64 c.limit]] w fun e w' => e = .returned (.bool true) ∧ Only nob w w' := by
  have := refCheck_any c w
  rwa [decide_eq_true h] at this
theorem refCheck_no {c : Cf} (h : ¬ c.ok) (w : World) : Calls Try.prog 6 #[.agg #[.int .i64 c.semi, .int .i64 c.large, .int .i64 c.slots, .int .i64 c.limit]] w fun e w' => e = .returned (.bool false) ∧ Only nob w w' := by
  have := refCheck_any c w
  rwa [decide_eq_false h] at this

set_option maxHeartbeats 1000000 in
theorem refWords_any (c : Cf) (w : World) : Calls Try.prog 8 #[.agg #[.int .i64 c.semi, .int .i64 c.large, .int .i64 c.slots, .int .i64 c.limit]] w fun e w' => e = .returned (.int .i64 (cWords c)) ∧ Only nob w w' := by
  by_cases h : c.ok
  · have HE := Lib.hid (show cWords c = c.semi + c.semi + c.large by unfold cWords; rw [if_pos h])
    have HO := Lib.hid h
    unfold Cf.ok at h
    go_enter Try.func8, Try.ntmps8
    go_wp2_with fail
    go_at_call 6
    refine (refCheck_yes HO.out _).mono ?_
    rintro e w1 ⟨rfl, o⟩
    have HB := Lib.hid ((CBox.new w c).keep o)
    have O1 := Lib.hid ((only_box w c).trans o)
    obtain ⟨c0, c1, c2, c3⟩ := HB.out
    clear o
    go_wp2
    go_ret
    exact ⟨ret_i64 (by rw [HE.out]), O1.out⟩
  · have HE := Lib.hid (show cWords c = 0 by unfold cWords; rw [if_neg h])
    have HO := Lib.hid h
    clear h
    go_enter Try.func8, Try.ntmps8
    go_wp2_with fail
    go_at_call 6
    refine (refCheck_no HO.out _).mono ?_
    rintro e w1 ⟨rfl, o⟩
    have O1 := Lib.hid ((only_box w c).trans o)
    clear o
    go_wp2
    go_ret
    exact ⟨ret_i64 (by rw [HE.out]), O1.out⟩

/-- A span handed back out of a cell of the call's own. -/
theorem res_span {w W : World} (o : Only nob w W) {b : Nat} (hb : w.heap.size ≤ b) (B : Blk W b 27 #[.int .i64 0, .int .i64 0]) (x y : Int) :
    ∃ W4, ((W.setCell ⟨b, 0, none⟩ (.int .i64 x)).setCell ⟨b, 1, none⟩ (.int .i64 y)) = W4 ∧ Only nob w W4 ∧ W4.cell? ⟨b, 0, none⟩ = some (.int .i64 x) ∧ W4.cell? ⟨b, 1, none⟩ = some (.int .i64 y) := by
  have B4 : Blk ((W.setCell ⟨b, 0, none⟩ (.int .i64 x)).setCell ⟨b, 1, none⟩ (.int .i64 y)) b 27 #[.int .i64 x, .int .i64 y] := by simpa using (B.put 0 (.int .i64 x)).put 1 (.int .i64 y)
  exact ⟨_, rfl, (o.setCell (p := ⟨b, 0, none⟩) (fun h => absurd h (Nat.not_lt_of_le hb)) _).setCell (p := ⟨b, 1, none⟩) (fun h => absurd h (Nat.not_lt_of_le hb)) _, B4.cell 0, B4.cell 1⟩

set_option maxHeartbeats 1000000 in
theorem refHalf_any (c : Cf) (n : Int) (hn : n = 0 ∨ n = 1) (w : World) : Calls Try.prog 26 #[.agg #[.int .i64 c.semi, .int .i64 c.large, .int .i64 c.slots, .int .i64 c.limit], .int .i64 n] w fun e w' => e = .returned (.agg #[.int .i64 (cHalf c n).1, .int .i64 (cHalf c n).2]) ∧ Only nob w w' := by
  have o2 := Lib.hid ((only_box w c).alloc (.cells #[.int .i64 0, .int .i64 0] 27))
  have b2 := Lib.hid (Blk.newAt (w.alloc (.cells #[.int .i64 c.semi, .int .i64 c.large, .int .i64 c.slots, .int .i64 c.limit] 23)) 27 #[.int .i64 0, .int .i64 0] (w.heap.size + 1) (by simp))
  have cb := Lib.hid ((CBox.new w c).keep ((Only.refl nob _).alloc (.cells #[.int .i64 0, .int .i64 0] 27)))
  by_cases h : c.ok
  · have HE := Lib.hid (show cHalf c n = (n * c.semi, c.semi) by unfold cHalf; rw [if_pos h])
    have HO := Lib.hid h
    have hb : 0 ≤ n * c.semi ∧ n * c.semi ≤ 32768 := by unfold Cf.ok at h; rcases hn with rfl | rfl <;> omega
    clear h
    go_enter Try.func26, Try.ntmps26
    go_wp2_with fail
    go_at_call 6
    refine (refCheck_yes HO.out _).mono ?_
    rintro e w1 ⟨rfl, o⟩
    have O1 := Lib.hid (o2.out.trans o)
    have B1 := Lib.hid (b2.out.keep o id)
    obtain ⟨c0, c1, c2, c3⟩ := cb.out.keep o
    have g0 : w1.cell? ⟨w.heap.size + 1, 0, none⟩ = some (.int .i64 0) := B1.out.cell 0
    have g1 : w1.cell? ⟨w.heap.size + 1, 1, none⟩ = some (.int .i64 0) := B1.out.cell 1
    have g2 := B1.out.free 0
    have g3 := B1.out.free 1
    clear o
    go_wp2
    obtain ⟨W4, hW4, O4, h0, h1⟩ := res_span O1.out (by omega) B1.out (n * c.semi) c.semi
    rw [hW4]
    exact bodyPost_ret (v := .agg #[.int .i64 (n * c.semi), .int .i64 c.semi]) (by simp [results, Try.results26, go_sem, h0, h1]) rfl ⟨by rw [HE.out], O4⟩
  · have HE := Lib.hid (show cHalf c n = (0, 0) by unfold cHalf; rw [if_neg h])
    have HO := Lib.hid h
    clear h
    go_enter Try.func26, Try.ntmps26
    go_wp2_with fail
    go_at_call 6
    refine (refCheck_no HO.out _).mono ?_
    rintro e w1 ⟨rfl, o⟩
    have O1 := Lib.hid (o2.out.trans o)
    have B1 := Lib.hid (b2.out.keep o id)
    have g0 : w1.cell? ⟨w.heap.size + 1, 0, none⟩ = some (.int .i64 0) := B1.out.cell 0
    have g1 : w1.cell? ⟨w.heap.size + 1, 1, none⟩ = some (.int .i64 0) := B1.out.cell 1
    have g2 := B1.out.free 0
    have g3 := B1.out.free 1
    clear o
    go_wp2
    obtain ⟨W4, hW4, O4, h0, h1⟩ := res_span O1.out (by omega) B1.out 0 0
    rw [hW4]
    exact bodyPost_ret (v := .agg #[.int .i64 0, .int .i64 0]) (by simp [results, Try.results26, go_sem, h0, h1]) rfl ⟨by rw [HE.out], O4⟩
end Go.Proofs.Ytmlpppcdammelaa
