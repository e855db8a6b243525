/- Contracts of the document's own answers for layouts: From, To, Large, Where, Small. -/
import Derived.Test.YtmlpppcdammelaaRef04
namespace Go.Proofs.Ytmlpppcdammelaa
open Go.RowKit

set_option maxHeartbeats 1000000 in
theorem refFrom_any (c : Cf) (s : Bool) (w : World) : Calls Try.prog 10 #[.agg #[.int .i64 c.semi, .int .i64 c.large, .int .i64 c.slots, .int .i64 c.limit], .bool s] w fun e w' => e = .returned (.agg #[.int .i64 (cFrom c s).1, .int .i64 (cFrom c s).2]) ∧ Only nob w w' := by
  have o2 := Lib.hid ((only_box w c).alloc (.cells #[.int .i64 0, .int .i64 0] 27))
  have b2 := Lib.hid (Blk.newAt (w.alloc (.cells #[.int .i64 c.semi, .int .i64 c.large, .int .i64 c.slots, .int .i64 c.limit] 23)) 27 #[.int .i64 0, .int .i64 0] (w.heap.size + 1) (by simp))
  obtain ⟨x, hx⟩ : ∃ x, cFrom c s = x := ⟨_, rfl⟩
  rw [hx]
  cases s
  case' false =>
    have HC := refHalf_any c 0 (.inl rfl)
    rw [show cHalf c 0 = x from hx] at HC
  case' true =>
    have HC := refHalf_any c 1 (.inr rfl)
    rw [show cHalf c 1 = x from hx] at HC
  all_goals
    replace HC := Lib.hid HC
    clear hx
    go_enter Try.func10, Try.ntmps10
    go_wp2_with fail
    go_at_call 26
    refine (HC.out _).mono ?_
    rintro e w1 ⟨rfl, o⟩
    have O1 := Lib.hid (o2.out.trans o)
    have B1 := Lib.hid (b2.out.keep o id)
    have g0 : w1.cell? ⟨w.heap.size + 1, 0, none⟩ = some (.int .i64 0) := B1.out.cell 0
    have g1 : w1.cell? ⟨w.heap.size + 1, 1, none⟩ = some (.int .i64 0) := B1.out.cell 1
    have g2 := B1.out.free 0
    have g3 := B1.out.free 1
    clear o
    go_wp2
    obtain ⟨W4, hW4, O4, h0, h1⟩ := res_span O1.out (by omega) B1.out x.1 x.2
    rw [hW4]
    exact bodyPost_ret (v := .agg #[.int .i64 x.1, .int .i64 x.2]) (by simp [results, Try.results10, go_sem, h0, h1]) rfl ⟨rfl, O4⟩

set_option maxHeartbeats 1000000 in
theorem refTo_any (c : Cf) (s : Bool) (w : World) : Calls Try.prog 12 #[.agg #[.int .i64 c.semi, .int .i64 c.large, .int .i64 c.slots, .int .i64 c.limit], .bool s] w fun e w' => e = .returned (.agg #[.int .i64 (cTo c s).1, .int .i64 (cTo c s).2]) ∧ Only nob w w' := by
  have o2 := Lib.hid ((only_box w c).alloc (.cells #[.int .i64 0, .int .i64 0] 27))
  have b2 := Lib.hid (Blk.newAt (w.alloc (.cells #[.int .i64 c.semi, .int .i64 c.large, .int .i64 c.slots, .int .i64 c.limit] 23)) 27 #[.int .i64 0, .int .i64 0] (w.heap.size + 1) (by simp))
  obtain ⟨x, hx⟩ : ∃ x, cTo c s = x := ⟨_, rfl⟩
  rw [hx]
  have HC := refFrom_any c (!s)
  rw [show cFrom c (!s) = x from hx] at HC
  replace HC := Lib.hid HC
  clear hx
  go_enter Try.func12, Try.ntmps12
  go_wp2_with fail
  go_at_call 10
  refine (HC.out _).mono ?_
  rintro e w1 ⟨rfl, o⟩
  have O1 := Lib.hid (o2.out.trans o)
  have B1 := Lib.hid (b2.out.keep o id)
  have g0 : w1.cell? ⟨w.heap.size + 1, 0, none⟩ = some (.int .i64 0) := B1.out.cell 0
  have g1 : w1.cell? ⟨w.heap.size + 1, 1, none⟩ = some (.int .i64 0) := B1.out.cell 1
  have g2 := B1.out.free 0
  have g3 := B1.out.free 1
  clear o
  go_wp2
  obtain ⟨W4, hW4, O4, h0, h1⟩ := res_span O1.out (by omega) B1.out x.1 x.2
  rw [hW4]
  exact bodyPost_ret (v := .agg #[.int .i64 x.1, .int .i64 x.2]) (by simp [results, Try.results12, go_sem, h0, h1]) rfl ⟨rfl, O4⟩

set_option maxHeartbeats 1000000 in
theorem refLarge_any (c : Cf) (w : World) : Calls Try.prog 14 #[.agg #[.int .i64 c.semi, .int .i64 c.large, .int .i64 c.slots, .int .i64 c.limit]] w fun e w' => e = .returned (.agg #[.int .i64 (cLarge c).1, .int .i64 (cLarge c).2]) ∧ Only nob w w' := by
  have o2 := Lib.hid ((only_box w c).alloc (.cells #[.int .i64 0, .int .i64 0] 27))
  have b2 := Lib.hid (Blk.newAt (w.alloc (.cells #[.int .i64 c.semi, .int .i64 c.large, .int .i64 c.slots, .int .i64 c.limit] 23)) 27 #[.int .i64 0, .int .i64 0] (w.heap.size + 1) (by simp))
  have cb := Lib.hid ((CBox.new w c).keep ((Only.refl nob _).alloc (.cells #[.int .i64 0, .int .i64 0] 27)))
  have ways : (c.ok ∧ ¬ c.large = 0 ∧ (c.large == 0) = false ∧ cLarge c = (c.semi + c.semi, c.large)) ∨ (c.ok ∧ c.large = 0 ∧ (c.large == 0) = true ∧ cLarge c = (0, 0)) ∨ (¬ c.ok ∧ cLarge c = (0, 0)) := by
    unfold cLarge
    by_cases h : c.ok
    · by_cases hl : c.large = 0
      · exact .inr (.inl ⟨h, hl, by simp [hl], by rw [if_neg (fun q => q.2 hl)]⟩)
      · exact .inl ⟨h, hl, by simpa using hl, by rw [if_pos ⟨h, hl⟩]⟩
    · exact .inr (.inr ⟨h, by rw [if_neg (fun q => h q.1)]⟩)
  rcases ways with ⟨h, -, hl, HE⟩ | ⟨h, -, hl, HE⟩ | ⟨h, HE⟩
  · have HO := Lib.hid h
    replace HE := Lib.hid HE
    unfold Cf.ok at h
    go_enter Try.func14, Try.ntmps14
    go_wp2_with fail
    go_at_call 6
    refine (refCheck_yes HO.out _).mono ?_
    rintro e w1 ⟨rfl, o⟩
    have O1 := Lib.hid (o2.out.trans o)
    have B1 := Lib.hid (b2.out.keep o id)
    obtain ⟨c0, c1, c2, c3⟩ := cb.out.keep o
    have g0 : w1.cell? ⟨w.heap.size + 1, 0, none⟩ = some (.int .i64 0) := B1.out.cell 0
    have g1 : w1.cell? ⟨w.heap.size + 1, 1, none⟩ = some (.int .i64 0) := B1.out.cell 1
    have g2 := B1.out.free 0
    have g3 := B1.out.free 1
    clear o
    go_wp2
    obtain ⟨W4, hW4, O4, h0, h1⟩ := res_span O1.out (by omega) B1.out (c.semi + c.semi) c.large
    rw [hW4]
    exact bodyPost_ret (v := .agg #[.int .i64 (c.semi + c.semi), .int .i64 c.large]) (by simp [results, Try.results14, go_sem, h0, h1]) rfl ⟨by rw [HE.out], O4⟩
  · have HO := Lib.hid h
    replace HE := Lib.hid HE
    unfold Cf.ok at h
    go_enter Try.func14, Try.ntmps14
    go_wp2_with fail
    go_at_call 6
    refine (refCheck_yes HO.out _).mono ?_
    rintro e w1 ⟨rfl, o⟩
    have O1 := Lib.hid (o2.out.trans o)
    have B1 := Lib.hid (b2.out.keep o id)
    obtain ⟨c0, c1, c2, c3⟩ := cb.out.keep o
    have g0 : w1.cell? ⟨w.heap.size + 1, 0, none⟩ = some (.int .i64 0) := B1.out.cell 0
    have g1 : w1.cell? ⟨w.heap.size + 1, 1, none⟩ = some (.int .i64 0) := B1.out.cell 1
    have g2 := B1.out.free 0
    have g3 := B1.out.free 1
    clear o
    go_wp2
    obtain ⟨W4, hW4, O4, h0, h1⟩ := res_span O1.out (by omega) B1.out 0 0
    rw [hW4]
    exact bodyPost_ret (v := .agg #[.int .i64 0, .int .i64 0]) (by simp [results, Try.results14, go_sem, h0, h1]) rfl ⟨by rw [HE.out], O4⟩
  · have HO := Lib.hid h
    replace HE := Lib.hid HE
    clear h
    go_enter Try.func14, Try.ntmps14
    go_wp2_with fail
    go_at_call 6
    refine (refCheck_no HO.out _).mono ?_
    rintro e w1 ⟨rfl, o⟩
    have O1 := Lib.hid (o2.out.trans o)
    have B1 := Lib.hid (b2.out.keep o id)
    have g0 : w1.cell? ⟨w.heap.size + 1, 0, none⟩ = some (.int .i64 0) := B1.out.cell 0
    have g1 : w1.cell? ⟨w.heap.size + 1, 1, none⟩ = some (.int .i64 0) := B1.out.cell 1
    have g2 := B1.out.free 0
    have g3 := B1.out.free 1
    clear o
    go_wp2
    obtain ⟨W4, hW4, O4, h0, h1⟩ := res_span O1.out (by omega) B1.out 0 0
    rw [hW4]
    exact bodyPost_ret (v := .agg #[.int .i64 0, .int .i64 0]) (by simp [results, Try.results14, go_sem, h0, h1]) rfl ⟨by rw [HE.out], O4⟩

set_option maxHeartbeats 1000000 in
theorem refSmall_any (c : Cf) (n : Int) (w : World) : Calls Try.prog 18 #[.agg #[.int .i64 c.semi, .int .i64 c.large, .int .i64 c.slots, .int .i64 c.limit], .int .i64 n] w fun e w' => e = .returned (.bool (cSmall c n)) ∧ Only nob w w' := by
  have ways : (c.ok ∧ 0 < n ∧ n ≤ c.limit ∧ cSmall c n = true) ∨ (c.ok ∧ 0 < n ∧ ¬ n ≤ c.limit ∧ cSmall c n = false) ∨ (c.ok ∧ ¬ 0 < n ∧ cSmall c n = false) ∨ (¬ c.ok ∧ cSmall c n = false) := by
    unfold cSmall
    by_cases h : c.ok <;> by_cases h1 : 0 < n <;> by_cases h2 : n ≤ c.limit <;> simp [h, h1, h2] <;> omega
  rcases ways with ⟨h, h1, h2, he⟩ | ⟨h, h1, h2, he⟩ | ⟨h, h1, he⟩ | ⟨h, he⟩
  case' inr.inr.inr => have HC := Lib.hid (refCheck_no h)
  case' inl => have HC := Lib.hid (refCheck_yes h)
  case' inr.inl => have HC := Lib.hid (refCheck_yes h)
  case' inr.inr.inl => have HC := Lib.hid (refCheck_yes h)
  all_goals
    rw [he]
    clear h he
    go_enter Try.func18, Try.ntmps18
    go_wp2_with fail
    go_at_call 6
    refine (HC.out _).mono ?_
    rintro e w1 ⟨rfl, o⟩
    have O1 := Lib.hid ((only_box w c).trans o)
    obtain ⟨c0, c1, c2, c3⟩ := (CBox.new w c).keep o
    clear o
    go_wp2
    go_ret
    exact ⟨ret_bool (by first | rfl | (simp; done) | (simp; omega)), O1.out⟩

set_option maxHeartbeats 2000000 in
theorem refWhere_any (c : Cf) (s : Bool) (p : Int) (w : World) : Calls Try.prog 16 #[.agg #[.int .i64 c.semi, .int .i64 c.large, .int .i64 c.slots, .int .i64 c.limit], .bool s, .int .i64 p] w fun e w' => e = .returned (.int .i64 (cWhere c s p)) ∧ Only nob w w' := by
  by_cases h : c.ok
  · have hw : cWords c = c.semi + c.semi + c.large := by unfold cWords; rw [if_pos h]
    have HC := Lib.hid (refCheck_yes h)
    have HW := Lib.hid (show ∀ w : World, Calls Try.prog 8 #[.agg #[.int .i64 c.semi, .int .i64 c.large, .int .i64 c.slots, .int .i64 c.limit]] w fun e w' => e = .returned (.int .i64 (c.semi + c.semi + c.large)) ∧ Only nob w w' from fun w => by have := refWords_any c w; rwa [hw] at this)
    have ways : (p < 0 ∧ cWhere c s p = 0) ∨ (0 ≤ p ∧ c.semi + c.semi + c.large ≤ p ∧ cWhere c s p = 0) ∨ (0 ≤ p ∧ p < c.semi + c.semi + c.large ∧ 2 * c.semi ≤ p ∧ cWhere c s p = 3) ∨ (0 ≤ p ∧ p < c.semi + c.semi + c.large ∧ p < 2 * c.semi ∧ c.semi ≤ p ∧ s = true ∧ cWhere c s p = 1) ∨ (0 ≤ p ∧ p < c.semi + c.semi + c.large ∧ p < 2 * c.semi ∧ c.semi ≤ p ∧ s = false ∧ cWhere c s p = 2) ∨ (0 ≤ p ∧ p < c.semi + c.semi + c.large ∧ p < 2 * c.semi ∧ p < c.semi ∧ s = true ∧ cWhere c s p = 2) ∨ (0 ≤ p ∧ p < c.semi + c.semi + c.large ∧ p < 2 * c.semi ∧ p < c.semi ∧ s = false ∧ cWhere c s p = 1) := by
      unfold cWhere
      rw [hw]
      by_cases h1 : 0 ≤ p
      · by_cases h2 : p < c.semi + c.semi + c.large
        · rw [if_pos ⟨h, h1, h2⟩]
          by_cases h3 : 2 * c.semi ≤ p
          · rw [if_pos h3]; exact .inr (.inr (.inl ⟨h1, h2, h3, rfl⟩))
          · rw [if_neg h3]
            by_cases h4 : c.semi ≤ p
            · cases s <;> simp [h1, h2, h4] <;> omega
            · cases s <;> simp [h1, h2, h4] <;> omega
        · rw [if_neg (fun q => h2 q.2.2)]; exact .inr (.inl ⟨h1, by omega, rfl⟩)
      · rw [if_neg (fun q => h1 q.2.1)]; exact .inl ⟨by omega, rfl⟩
    unfold Cf.ok at h
    clear hw
    rcases ways with ⟨h1, he⟩ | ⟨h1, h2, he⟩ | ⟨h1, h2, h3, he⟩ | ⟨h1, h2, h3, h4, rfl, he⟩ | ⟨h1, h2, h3, h4, rfl, he⟩ | ⟨h1, h2, h3, h4, rfl, he⟩ | ⟨h1, h2, h3, h4, rfl, he⟩
    all_goals
      rw [he]
      clear he
      try have h5 : decide (c.semi ≤ p) = false := decide_eq_false (by omega)
      try have h5 : decide (c.semi ≤ p) = true := decide_eq_true (by omega)
      go_enter Try.func16, Try.ntmps16
      go_wp2_with fail
      go_at_call 6
      refine (HC.out _).mono ?_
      rintro e w1 ⟨rfl, o⟩
      have O1 := Lib.hid ((only_box w c).trans o)
      have CB := Lib.hid ((CBox.new w c).keep o)
      obtain ⟨c0, c1, c2, c3⟩ := CB.out
      clear o
    · go_wp2
      go_ret
      exact ⟨rfl, O1.out⟩
    all_goals
      go_wp2_with fail
      go_at_call 8
      refine (HW.out _).mono ?_
      rintro e w2 ⟨rfl, o⟩
      have O2 := Lib.hid (O1.out.trans o)
      clear c0 c1 c2 c3
      obtain ⟨c0, c1, c2, c3⟩ := CB.out.keep o
      clear o
      go_wp2
      go_ret
      exact ⟨rfl, O2.out⟩
  · have he : cWhere c s p = 0 := by unfold cWhere; rw [if_neg (fun q => h q.1)]
    have HC := Lib.hid (refCheck_no h)
    rw [he]
    clear h he
    go_enter Try.func16, Try.ntmps16
    go_wp2_with fail
    go_at_call 6
    refine (HC.out _).mono ?_
    rintro e w1 ⟨rfl, o⟩
    have O1 := Lib.hid ((only_box w c).trans o)
    clear o
    go_wp2
    go_ret
    exact ⟨rfl, O1.out⟩
end Go.Proofs.Ytmlpppcdammelaa
