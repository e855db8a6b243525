/- Contracts of the document's own answers for layouts. -/
import Derived.Test.YtciidodmhigpdaaGreatDoorLayPlain
namespace Go.Proofs.YtciidodmhigpdaaGreatDoor
open Go.RowKit

set_option maxHeartbeats 1000000 in
theorem refCheck_any (c : Cf) (w : World) : Calls Tryz.prog 31 #[.agg #[.int .i64 c.semi, .int .i64 c.large, .int .i64 c.slots, .int .i64 c.limit]] w fun e w' => e = .returned (.bool (decide c.ok)) ∧ Only nob w w' := by
  obtain ⟨b, hb⟩ : ∃ b, decide c.ok = b := ⟨_, rfl⟩
  rw [hb]
  have HB := Lib.hid hb
  clear hb
  go_enter Tryz.func31, Tryz.ntmps31
  go_wp2
  all_goals go_ret
  all_goals
    refine ⟨ret_bool ?_, (Only.refl nob w).alloc _⟩
    rw [← HB.out]
    first
      | exact (decide_eq_false (by unfold Cf.ok; omega)).symm
      | exact decide_eq_decide.2 ⟨fun hq => by unfold Cf.ok; omega, fun hq => by unfold Cf.ok at hq; omega⟩
      | (by_cases hq : c.limit ≤ c.semi; exact (decide_eq_true (by unfold Cf.ok; omega)).symm)

theorem refCheck_yes {c : Cf} (h : c.ok) (w : World) : Calls Tryz.prog 31 #[.agg #[.int .i64 c.semi, .int .i64 c.large, .int .i64 c.slots, .int .i64 c.limit]] w fun e w' => e = .returned (.bool true) ∧ Only nob w w' := by
  have := refCheck_any c w
  rwa [decide_eq_true h] at this
theorem refCheck_no {c : Cf} (h : ¬ c.ok) (w : World) : Calls Tryz.prog 31 #[.agg #[.int .i64 c.semi, .int .i64 c.large, .int .i64 c.slots, .int .i64 c.limit]] w fun e w' => e = .returned (.bool false) ∧ Only nob w w' := by
  have := refCheck_any c w
  rwa [decide_eq_false h] at this

set_option maxHeartbeats 1000000 in
theorem refWords_any (c : Cf) (w : World) : Calls Tryz.prog 32 #[.agg #[.int .i64 c.semi, .int .i64 c.large, .int .i64 c.slots, .int .i64 c.limit]] w fun e w' => e = .returned (.int .i64 (cWords c)) ∧ Only nob w w' := by
  by_cases h : c.ok
  · have HE := Lib.hid (show cWords c = c.semi + c.semi + c.large by unfold cWords; rw [if_pos h])
    have HO := Lib.hid h
    unfold Cf.ok at h
    go_enter Tryz.func32, Tryz.ntmps32
    go_wp2_with fail
    go_at_call 31
    refine (refCheck_yes HO.out _).mono ?_
    rintro e w1 ⟨rfl, o⟩
    have HB := Lib.hid ((CBox.new w c).keep o)
    have O1 := Lib.hid ((only_box w c).trans o)
    obtain ⟨c0, c1, c2, c3⟩ := HB.out
    clear o
    go_wp2
    go_ret
    exact ⟨ret_i64 (by rw [HE.out]), O1.out⟩
  · have HE := Lib.hid (show cWords c = 0 by unfold cWords; rw [if_neg h])
    have HO := Lib.hid h
    clear h
    go_enter Tryz.func32, Tryz.ntmps32
    go_wp2_with fail
    go_at_call 31
    refine (refCheck_no HO.out _).mono ?_
    rintro e w1 ⟨rfl, o⟩
    have O1 := Lib.hid ((only_box w c).trans o)
    clear o
    go_wp2
    go_ret
    exact ⟨ret_i64 (by rw [HE.out]), O1.out⟩

/-- A span handed back out of a cell of the call's own. -/
theorem res_span {w W : World} (o : Only nob w W) {b : Nat} (hb : w.heap.size ≤ b) (B : Blk W b 50 #[.int .i64 0, .int .i64 0]) (x y : Int) :
    ∃ W4, ((W.setCell ⟨b, 0, none⟩ (.int .i64 x)).setCell ⟨b, 1, none⟩ (.int .i64 y)) = W4 ∧ Only nob w W4 ∧ W4.cell? ⟨b, 0, none⟩ = some (.int .i64 x) ∧ W4.cell? ⟨b, 1, none⟩ = some (.int .i64 y) := by
  have B4 : Blk ((W.setCell ⟨b, 0, none⟩ (.int .i64 x)).setCell ⟨b, 1, none⟩ (.int .i64 y)) b 50 #[.int .i64 x, .int .i64 y] := by simpa using (B.put 0 (.int .i64 x)).put 1 (.int .i64 y)
  exact ⟨_, rfl, (o.setCell (p := ⟨b, 0, none⟩) (fun h => absurd h (Nat.not_lt_of_le hb)) _).setCell (p := ⟨b, 1, none⟩) (fun h => absurd h (Nat.not_lt_of_le hb)) _, B4.cell 0, B4.cell 1⟩

set_option maxHeartbeats 1000000 in
theorem refHalf_any (c : Cf) (n : Int) (hn : n = 0 ∨ n = 1) (w : World) : Calls Tryz.prog 66 #[.agg #[.int .i64 c.semi, .int .i64 c.large, .int .i64 c.slots, .int .i64 c.limit], .int .i64 n] w fun e w' => e = .returned (.agg #[.int .i64 (cHalf c n).1, .int .i64 (cHalf c n).2]) ∧ Only nob w w' := by
  have o2 := Lib.hid ((only_box w c).alloc (.cells #[.int .i64 0, .int .i64 0] 50))
  have b2 := Lib.hid (Blk.newAt (w.alloc (.cells #[.int .i64 c.semi, .int .i64 c.large, .int .i64 c.slots, .int .i64 c.limit] 23)) 50 #[.int .i64 0, .int .i64 0] (w.heap.size + 1) (by simp))
  have cb := Lib.hid ((CBox.new w c).keep ((Only.refl nob _).alloc (.cells #[.int .i64 0, .int .i64 0] 50)))
  by_cases h : c.ok
  · have HE := Lib.hid (show cHalf c n = (n * c.semi, c.semi) by unfold cHalf; rw [if_pos h])
    have HO := Lib.hid h
    have hb : 0 ≤ n * c.semi ∧ n * c.semi ≤ 32768 := by unfold Cf.ok at h; rcases hn with rfl | rfl <;> omega
    clear h
    go_enter Tryz.func66, Tryz.ntmps66
    go_wp2_with fail
    go_at_call 31
    refine (refCheck_yes HO.out _).mono ?_
    rintro e w1 ⟨rfl, o⟩
    have O1 := Lib.hid (o2.out.trans o)
    have B1 := Lib.hid (b2.out.keep o id)
    obtain ⟨c0, c1, c2, c3⟩ := cb.out.keep o
    have g0 : w1.cell? ⟨w.heap.size + 1, 0, none⟩ = some (.int .i64 0) := B1.out.cell 0
    have g1 : w1.cell? ⟨w.heap.size + 1, 1, none⟩ = some (.int .i64 0) := B1.out.cell 1
    have g2 := B1.out.free 0
    have g3 := B1.out.free 1
    clear o
    go_wp2
    obtain ⟨W4, hW4, O4, h0, h1⟩ := res_span O1.out (by omega) B1.out (n * c.semi) c.semi
    rw [hW4]
    exact bodyPost_ret (v := .agg #[.int .i64 (n * c.semi), .int .i64 c.semi]) (by simp [results, Tryz.results66, go_sem, h0, h1]) rfl ⟨by rw [HE.out], O4⟩
  · have HE := Lib.hid (show cHalf c n = (0, 0) by unfold cHalf; rw [if_neg h])
    have HO := Lib.hid h
    clear h
    go_enter Tryz.func66, Tryz.ntmps66
    go_wp2_with fail
    go_at_call 31
    refine (refCheck_no HO.out _).mono ?_
    rintro e w1 ⟨rfl, o⟩
    have O1 := Lib.hid (o2.out.trans o)
    have B1 := Lib.hid (b2.out.keep o id)
    have g0 : w1.cell? ⟨w.heap.size + 1, 0, none⟩ = some (.int .i64 0) := B1.out.cell 0
    have g1 : w1.cell? ⟨w.heap.size + 1, 1, none⟩ = some (.int .i64 0) := B1.out.cell 1
    have g2 := B1.out.free 0
    have g3 := B1.out.free 1
    clear o
    go_wp2
    obtain ⟨W4, hW4, O4, h0, h1⟩ := res_span O1.out (by omega) B1.out 0 0
    rw [hW4]
    exact bodyPost_ret (v := .agg #[.int .i64 0, .int .i64 0]) (by simp [results, Tryz.results66, go_sem, h0, h1]) rfl ⟨by rw [HE.out], O4⟩
end Go.Proofs.YtciidodmhigpdaaGreatDoor

/- Contracts of the document's own answers for layouts: From, To, Large, Where, Small. -/
namespace Go.Proofs.YtciidodmhigpdaaGreatDoor
open Go.RowKit

set_option maxHeartbeats 1000000 in
theorem refFrom_any (c : Cf) (s : Bool) (w : World) : Calls Tryz.prog 33 #[.agg #[.int .i64 c.semi, .int .i64 c.large, .int .i64 c.slots, .int .i64 c.limit], .bool s] w fun e w' => e = .returned (.agg #[.int .i64 (cFrom c s).1, .int .i64 (cFrom c s).2]) ∧ Only nob w w' := by
  have o2 := Lib.hid ((only_box w c).alloc (.cells #[.int .i64 0, .int .i64 0] 50))
  have b2 := Lib.hid (Blk.newAt (w.alloc (.cells #[.int .i64 c.semi, .int .i64 c.large, .int .i64 c.slots, .int .i64 c.limit] 23)) 50 #[.int .i64 0, .int .i64 0] (w.heap.size + 1) (by simp))
  obtain ⟨x, hx⟩ : ∃ x, cFrom c s = x := ⟨_, rfl⟩
  rw [hx]
  cases s
  case' false =>
    have HC := refHalf_any c 0 (.inl rfl)
    rw [show cHalf c 0 = x from hx] at HC
  case' true =>
    have HC := refHalf_any c 1 (.inr rfl)
    rw [show cHalf c 1 = x from hx] at HC
  all_goals
    replace HC := Lib.hid HC
    clear hx
    go_enter Tryz.func33, Tryz.ntmps33
    go_wp2_with fail
    go_at_call 66
    refine (HC.out _).mono ?_
    rintro e w1 ⟨rfl, o⟩
    have O1 := Lib.hid (o2.out.trans o)
    have B1 := Lib.hid (b2.out.keep o id)
    have g0 : w1.cell? ⟨w.heap.size + 1, 0, none⟩ = some (.int .i64 0) := B1.out.cell 0
    have g1 : w1.cell? ⟨w.heap.size + 1, 1, none⟩ = some (.int .i64 0) := B1.out.cell 1
    have g2 := B1.out.free 0
    have g3 := B1.out.free 1
    clear o
    go_wp2
    obtain ⟨W4, hW4, O4, h0, h1⟩ := res_span O1.out (by omega) B1.out x.1 x.2
    rw [hW4]
    exact bodyPost_ret (v := .agg #[.int .i64 x.1, .int .i64 x.2]) (by simp [results, Tryz.results33, go_sem, h0, h1]) rfl ⟨rfl, O4⟩

set_option maxHeartbeats 1000000 in
theorem refLarge_any (c : Cf) (w : World) : Calls Tryz.prog 48 #[.agg #[.int .i64 c.semi, .int .i64 c.large, .int .i64 c.slots, .int .i64 c.limit]] w fun e w' => e = .returned (.agg #[.int .i64 (cLarge c).1, .int .i64 (cLarge c).2]) ∧ Only nob w w' := by
  have o2 := Lib.hid ((only_box w c).alloc (.cells #[.int .i64 0, .int .i64 0] 50))
  have b2 := Lib.hid (Blk.newAt (w.alloc (.cells #[.int .i64 c.semi, .int .i64 c.large, .int .i64 c.slots, .int .i64 c.limit] 23)) 50 #[.int .i64 0, .int .i64 0] (w.heap.size + 1) (by simp))
  have cb := Lib.hid ((CBox.new w c).keep ((Only.refl nob _).alloc (.cells #[.int .i64 0, .int .i64 0] 50)))
  have ways : (c.ok ∧ ¬ c.large = 0 ∧ (c.large == 0) = false ∧ cLarge c = (c.semi + c.semi, c.large)) ∨ (c.ok ∧ c.large = 0 ∧ (c.large == 0) = true ∧ cLarge c = (0, 0)) ∨ (¬ c.ok ∧ cLarge c = (0, 0)) := by
    unfold cLarge
    by_cases h : c.ok
    · by_cases hl : c.large = 0
      · exact .inr (.inl ⟨h, hl, by simp [hl], by rw [if_neg (fun q => q.2 hl)]⟩)
      · exact .inl ⟨h, hl, by simpa using hl, by rw [if_pos ⟨h, hl⟩]⟩
    · exact .inr (.inr ⟨h, by rw [if_neg (fun q => h q.1)]⟩)
  rcases ways with ⟨h, -, hl, HE⟩ | ⟨h, -, hl, HE⟩ | ⟨h, HE⟩
  · have HO := Lib.hid h
    replace HE := Lib.hid HE
    unfold Cf.ok at h
    go_enter Tryz.func48, Tryz.ntmps48
    go_wp2_with fail
    go_at_call 31
    refine (refCheck_yes HO.out _).mono ?_
    rintro e w1 ⟨rfl, o⟩
    have O1 := Lib.hid (o2.out.trans o)
    have B1 := Lib.hid (b2.out.keep o id)
    obtain ⟨c0, c1, c2, c3⟩ := cb.out.keep o
    have g0 : w1.cell? ⟨w.heap.size + 1, 0, none⟩ = some (.int .i64 0) := B1.out.cell 0
    have g1 : w1.cell? ⟨w.heap.size + 1, 1, none⟩ = some (.int .i64 0) := B1.out.cell 1
    have g2 := B1.out.free 0
    have g3 := B1.out.free 1
    clear o
    go_wp2
    obtain ⟨W4, hW4, O4, h0, h1⟩ := res_span O1.out (by omega) B1.out (c.semi + c.semi) c.large
    rw [hW4]
    exact bodyPost_ret (v := .agg #[.int .i64 (c.semi + c.semi), .int .i64 c.large]) (by simp [results, Tryz.results48, go_sem, h0, h1]) rfl ⟨by rw [HE.out], O4⟩
  · have HO := Lib.hid h
    replace HE := Lib.hid HE
    unfold Cf.ok at h
    go_enter Tryz.func48, Tryz.ntmps48
    go_wp2_with fail
    go_at_call 31
    refine (refCheck_yes HO.out _).mono ?_
    rintro e w1 ⟨rfl, o⟩
    have O1 := Lib.hid (o2.out.trans o)
    have B1 := Lib.hid (b2.out.keep o id)
    obtain ⟨c0, c1, c2, c3⟩ := cb.out.keep o
    have g0 : w1.cell? ⟨w.heap.size + 1, 0, none⟩ = some (.int .i64 0) := B1.out.cell 0
    have g1 : w1.cell? ⟨w.heap.size + 1, 1, none⟩ = some (.int .i64 0) := B1.out.cell 1
    have g2 := B1.out.free 0
    have g3 := B1.out.free 1
    clear o
    go_wp2
    obtain ⟨W4, hW4, O4, h0, h1⟩ := res_span O1.out (by omega) B1.out 0 0
    rw [hW4]
    exact bodyPost_ret (v := .agg #[.int .i64 0, .int .i64 0]) (by simp [results, Tryz.results48, go_sem, h0, h1]) rfl ⟨by rw [HE.out], O4⟩
  · have HO := Lib.hid h
    replace HE := Lib.hid HE
    clear h
    go_enter Tryz.func48, Tryz.ntmps48
    go_wp2_with fail
    go_at_call 31
    refine (refCheck_no HO.out _).mono ?_
    rintro e w1 ⟨rfl, o⟩
    have O1 := Lib.hid (o2.out.trans o)
    have B1 := Lib.hid (b2.out.keep o id)
    have g0 : w1.cell? ⟨w.heap.size + 1, 0, none⟩ = some (.int .i64 0) := B1.out.cell 0
    have g1 : w1.cell? ⟨w.heap.size + 1, 1, none⟩ = some (.int .i64 0) := B1.out.cell 1
    have g2 := B1.out.free 0
    have g3 := B1.out.free 1
    clear o
    go_wp2
    obtain ⟨W4, hW4, O4, h0, h1⟩ := res_span O1.out (by omega) B1.out 0 0
    rw [hW4]
    exact bodyPost_ret (v := .agg #[.int .i64 0, .int .i64 0]) (by simp [results, Tryz.results48, go_sem, h0, h1]) rfl ⟨by rw [HE.out], O4⟩

set_option maxHeartbeats 1000000 in
theorem refSmall_any (c : Cf) (n : Int) (w : World) : Calls Tryz.prog 36 #[.agg #[.int .i64 c.semi, .int .i64 c.large, .int .i64 c.slots, .int .i64 c.limit], .int .i64 n] w fun e w' => e = .returned (.bool (cSmall c n)) ∧ Only nob w w' := by
  have ways : (c.ok ∧ 0 < n ∧ n ≤ c.limit ∧ cSmall c n = true) ∨ (c.ok ∧ 0 < n ∧ ¬ n ≤ c.limit ∧ cSmall c n = false) ∨ (c.ok ∧ ¬ 0 < n ∧ cSmall c n = false) ∨ (¬ c.ok ∧ cSmall c n = false) := by
    unfold cSmall
    by_cases h : c.ok <;> by_cases h1 : 0 < n <;> by_cases h2 : n ≤ c.limit <;> simp [h, h1, h2] <;> omega
  rcases ways with ⟨h, h1, h2, he⟩ | ⟨h, h1, h2, he⟩ | ⟨h, h1, he⟩ | ⟨h, he⟩
  case' inr.inr.inr => have HC := Lib.hid (refCheck_no h)
  case' inl => have HC := Lib.hid (refCheck_yes h)
  case' inr.inl => have HC := Lib.hid (refCheck_yes h)
  case' inr.inr.inl => have HC := Lib.hid (refCheck_yes h)
  all_goals
    rw [he]
    clear h he
    go_enter Tryz.func36, Tryz.ntmps36
    go_wp2_with fail
    go_at_call 31
    refine (HC.out _).mono ?_
    rintro e w1 ⟨rfl, o⟩
    have O1 := Lib.hid ((only_box w c).trans o)
    obtain ⟨c0, c1, c2, c3⟩ := (CBox.new w c).keep o
    clear o
    go_wp2
    go_ret
    exact ⟨ret_bool (by first | rfl | (simp; done) | (simp; omega)), O1.out⟩

end Go.Proofs.YtciidodmhigpdaaGreatDoor
