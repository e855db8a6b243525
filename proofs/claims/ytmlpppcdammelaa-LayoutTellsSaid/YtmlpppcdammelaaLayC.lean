/- Contracts of package layout: From, To, Large, Words, Where. -/
import Derived.Test.YtmlpppcdammelaaLayB
namespace Go.Proofs.Ytmlpppcdammelaa
open Go.RowKit Go.Sort

theorem partsV_are (c : Cf) (s : Bool) {P : Value → Prop} (h : P (.agg #[.int .i64 (cFrom c s).1, .int .i64 (cFrom c s).2, .int .i64 (cTo c s).1, .int .i64 (cTo c s).2, .int .i64 (cLarge c).1, .int .i64 (cLarge c).2])) : P (partsV c s) := h
/-- parts, its numbers under names. -/
theorem parts_named (c : Cf) (s : Bool) (hc : CFit c) : ∃ x0 x1 x2 x3 x4 x5 : Int, cFrom c s = (x0, x1) ∧ cTo c s = (x2, x3) ∧ cLarge c = (x4, x5) ∧ ∀ w : World, Calls Try.prog 24 #[.agg #[.int .i64 c.semi, .int .i64 c.large, .int .i64 c.slots, .int .i64 c.limit], .bool s] w fun e w' => e = .returned (.agg #[.int .i64 x0, .int .i64 x1, .int .i64 x2, .int .i64 x3, .int .i64 x4, .int .i64 x5]) ∧ Only nob w w' :=
  ⟨_, _, _, _, _, _, rfl, rfl, rfl, fun w => parts_any c s w hc⟩

/-- A part of the array that parts hands back. -/
theorem idx3 (x0 x1 x2 x3 x4 x5 : Int) :
    (∀ w : World, (Instr.index 39 (.agg #[.int .i64 x0, .int .i64 x1, .int .i64 x2, .int .i64 x3, .int .i64 x4, .int .i64 x5]) (.int .i64 0)).run Try.prog w = .ok (.agg #[.int .i64 x0, .int .i64 x1]) w) ∧
    (∀ w : World, (Instr.index 39 (.agg #[.int .i64 x0, .int .i64 x1, .int .i64 x2, .int .i64 x3, .int .i64 x4, .int .i64 x5]) (.int .i64 1)).run Try.prog w = .ok (.agg #[.int .i64 x2, .int .i64 x3]) w) ∧
    (∀ w : World, (Instr.index 39 (.agg #[.int .i64 x0, .int .i64 x1, .int .i64 x2, .int .i64 x3, .int .i64 x4, .int .i64 x5]) (.int .i64 2)).run Try.prog w = .ok (.agg #[.int .i64 x4, .int .i64 x5]) w) :=
  ⟨fun _ => by kernel_rfl, fun _ => by kernel_rfl, fun _ => by kernel_rfl⟩
set_option maxRecDepth 100000 in
set_option maxHeartbeats 1000000 in
theorem lyFrom : LyFrom := by
  intro c s w hc
  have o2 := Lib.hid ((only_box w c).alloc (.cells #[.int .i64 0, .int .i64 0] 27))
  have b2 := Lib.hid (Blk.newAt (w.alloc (.cells #[.int .i64 c.semi, .int .i64 c.large, .int .i64 c.slots, .int .i64 c.limit] 23)) 27 #[.int .i64 0, .int .i64 0] (w.heap.size + 1) (by simp))
  obtain ⟨x0, x1, x2, x3, x4, x5, e0, e1, e2, HC⟩ := parts_named c s hc
  rw [e0]
  replace HC := Lib.hid HC
  clear e0 e1 e2 hc
  go_enter Try.func9, Try.ntmps9
  go_wp2_with fail
  go_at_call 24
  refine (HC.out _).mono ?_
  rintro e w1 ⟨rfl, o⟩
  have O1 := Lib.hid (o2.out.trans o)
  have B1 := Lib.hid (b2.out.keep o id)
  have g0 : w1.cell? ⟨w.heap.size + 1, 0, none⟩ = some (.int .i64 0) := B1.out.cell 0
  have g1 : w1.cell? ⟨w.heap.size + 1, 1, none⟩ = some (.int .i64 0) := B1.out.cell 1
  have g2 := B1.out.free 0
  have g3 := B1.out.free 1
  clear o
  obtain ⟨i0, i1, i2⟩ := idx3 x0 x1 x2 x3 x4 x5
  go_wp2
  obtain ⟨W4, hW4, O4, h0, h1⟩ := res_span O1.out (by omega) B1.out x0 x1
  rw [hW4]
  exact bodyPost_ret (v := .agg #[.int .i64 x0, .int .i64 x1]) (by simp [results, Try.results9, go_sem, h0, h1]) rfl ⟨rfl, O4⟩

set_option maxRecDepth 100000 in
set_option maxHeartbeats 1000000 in
theorem lyTo : LyTo := by
  intro c s w hc
  have o2 := Lib.hid ((only_box w c).alloc (.cells #[.int .i64 0, .int .i64 0] 27))
  have b2 := Lib.hid (Blk.newAt (w.alloc (.cells #[.int .i64 c.semi, .int .i64 c.large, .int .i64 c.slots, .int .i64 c.limit] 23)) 27 #[.int .i64 0, .int .i64 0] (w.heap.size + 1) (by simp))
  obtain ⟨x0, x1, x2, x3, x4, x5, e0, e1, e2, HC⟩ := parts_named c s hc
  rw [e1]
  replace HC := Lib.hid HC
  clear e0 e1 e2 hc
  go_enter Try.func11, Try.ntmps11
  go_wp2_with fail
  go_at_call 24
  refine (HC.out _).mono ?_
  rintro e w1 ⟨rfl, o⟩
  have O1 := Lib.hid (o2.out.trans o)
  have B1 := Lib.hid (b2.out.keep o id)
  have g0 : w1.cell? ⟨w.heap.size + 1, 0, none⟩ = some (.int .i64 0) := B1.out.cell 0
  have g1 : w1.cell? ⟨w.heap.size + 1, 1, none⟩ = some (.int .i64 0) := B1.out.cell 1
  have g2 := B1.out.free 0
  have g3 := B1.out.free 1
  clear o
  obtain ⟨i0, i1, i2⟩ := idx3 x0 x1 x2 x3 x4 x5
  go_wp2
  obtain ⟨W4, hW4, O4, h0, h1⟩ := res_span O1.out (by omega) B1.out x2 x3
  rw [hW4]
  exact bodyPost_ret (v := .agg #[.int .i64 x2, .int .i64 x3]) (by simp [results, Try.results11, go_sem, h0, h1]) rfl ⟨rfl, O4⟩

set_option maxRecDepth 100000 in
set_option maxHeartbeats 1000000 in
theorem lyLarge : LyLarge := by
  intro c w hc
  have o2 := Lib.hid ((only_box w c).alloc (.cells #[.int .i64 0, .int .i64 0] 27))
  have b2 := Lib.hid (Blk.newAt (w.alloc (.cells #[.int .i64 c.semi, .int .i64 c.large, .int .i64 c.slots, .int .i64 c.limit] 23)) 27 #[.int .i64 0, .int .i64 0] (w.heap.size + 1) (by simp))
  obtain ⟨x0, x1, x2, x3, x4, x5, e0, e1, e2, HC⟩ := parts_named c false hc
  rw [e2]
  replace HC := Lib.hid HC
  clear e0 e1 e2 hc
  go_enter Try.func13, Try.ntmps13
  go_wp2_with fail
  go_at_call 24
  refine (HC.out _).mono ?_
  rintro e w1 ⟨rfl, o⟩
  have O1 := Lib.hid (o2.out.trans o)
  have B1 := Lib.hid (b2.out.keep o id)
  have g0 : w1.cell? ⟨w.heap.size + 1, 0, none⟩ = some (.int .i64 0) := B1.out.cell 0
  have g1 : w1.cell? ⟨w.heap.size + 1, 1, none⟩ = some (.int .i64 0) := B1.out.cell 1
  have g2 := B1.out.free 0
  have g3 := B1.out.free 1
  clear o
  obtain ⟨i0, i1, i2⟩ := idx3 x0 x1 x2 x3 x4 x5
  go_wp2
  obtain ⟨W4, hW4, O4, h0, h1⟩ := res_span O1.out (by omega) B1.out x4 x5
  rw [hW4]
  exact bodyPost_ret (v := .agg #[.int .i64 x4, .int .i64 x5]) (by simp [results, Try.results13, go_sem, h0, h1]) rfl ⟨rfl, O4⟩

theorem not_has0 (p : Int) : ¬ Sp.has (0, 0) p := fun h => by have := h.1.2.1; simp at this
theorem parts_fit (c : Cf) (s : Bool) : Fit (cFrom c s) ∧ Fit (cTo c s) ∧ Fit (cLarge c) := by
  by_cases h : c.ok
  · obtain ⟨a, b, hab, e0, e1, e2, -⟩ := parts_facts h s
    unfold Cf.ok at h
    rw [e0, e1, e2]
    refine ⟨?_, ?_, ?_⟩ <;> unfold Fit
    · simp only []; omega
    · simp only []; omega
    · split <;> simp only [] <;> omega
  · unfold cTo cFrom cHalf cLarge
    cases s <;> simp [h, Fit]
theorem tot_parts (c : Cf) : total [cFrom c false, cTo c false, cLarge c] = cWords c := by
  by_cases h : c.ok
  · obtain ⟨a, b, hab, e0, e1, e2, e3⟩ := parts_facts h false
    have hc := h
    unfold Cf.ok at hc
    rw [e0, e1, e2, e3]
    have o0 : Sp.ok (a, c.semi) := ok_small _ _ (by omega) (by omega) (by omega) (by omega)
    have o1 : Sp.ok (b, c.semi) := ok_small _ _ (by omega) (by omega) (by omega) (by omega)
    have ht : tot [(a, c.semi), (b, c.semi), if 0 < c.large then (c.semi + c.semi, c.large) else (0, 0)] = c.semi + c.semi + c.large := by
      simp only [tot, if_pos o0, if_pos o1]
      by_cases hl : 0 < c.large
      · have o2 : Sp.ok (c.semi + c.semi, c.large) := ok_small _ _ (by omega) (by omega) (by omega) (by omega)
        rw [if_pos hl, if_pos o2]; omega
      · rw [if_neg hl, if_neg (fun q => by have := q.2.1; simp at this)]; omega
    unfold total cap62
    rw [ht, if_pos (by omega)]
  · have e : cFrom c false = (0, 0) ∧ cTo c false = (0, 0) ∧ cLarge c = (0, 0) := by
      unfold cTo cFrom cHalf cLarge; simp [h]
    have hz : ¬ Sp.ok (0, 0) := fun q => by have := q.2.1; simp at this
    rw [e.1, e.2.1, e.2.2]
    unfold cWords total tot tot tot tot cap62
    simp [h, hz]
theorem where_is (c : Cf) (s : Bool) (p : Int) : cWhere c s p = if (cFrom c s).has p then 1 else if (cTo c s).has p then 2 else if (cLarge c).has p then 3 else 0 := by
  by_cases h : c.ok
  · obtain ⟨a, b, hab, e0, e1, e2, e3⟩ := parts_facts h s
    have hs : (a = 0 ↔ s = false) := by
      have hc := h
      unfold Cf.ok at hc
      cases s
      · have : cFrom c false = (0, c.semi) := by simp [cFrom, cHalf, h]
        rw [this] at e0; simp at e0; simp [e0]
      · have : cFrom c true = (c.semi, c.semi) := by simp [cFrom, cHalf, h]
        rw [this] at e0; simp at e0; simp; omega
    have hc := h
    unfold Cf.ok at hc
    have d0 := has_iff' a c.semi p (by omega) (by omega) (by omega) (by omega)
    have d1 := has_iff' b c.semi p (by omega) (by omega) (by omega) (by omega)
    have d2 : Sp.has (cLarge c) p ↔ c.semi + c.semi ≤ p ∧ p < c.semi + c.semi + c.large := by
      rw [e2]
      by_cases hl : 0 < c.large
      · rw [if_pos hl]; exact has_iff' _ _ p (by omega) (by omega) (by omega) (by omega)
      · rw [if_neg hl]; exact ⟨fun q => absurd q (not_has0 p), fun q => by omega⟩
    rw [e0, e1]
    simp only [d0, d1, d2]
    unfold cWhere
    rw [e3]
    by_cases hp : 0 ≤ p ∧ p < c.semi + c.semi + c.large
    · rw [if_pos ⟨h, hp⟩]
      cases s
      · have := hs.2 rfl
        by_cases h3 : 2 * c.semi ≤ p
        · rw [if_pos h3, if_neg (by omega), if_neg (by omega), if_pos (by omega)]
        · rw [if_neg h3]
          by_cases h4 : c.semi ≤ p
          · rw [if_neg (by simp [h4]), if_neg (by omega), if_pos (by omega)]
          · rw [if_pos (by simp [h4]), if_pos (by omega)]
      · have : ¬ a = 0 := fun q => by have := hs.1 q; simp at this
        by_cases h3 : 2 * c.semi ≤ p
        · rw [if_pos h3, if_neg (by omega), if_neg (by omega), if_pos (by omega)]
        · rw [if_neg h3]
          by_cases h4 : c.semi ≤ p
          · rw [if_pos (by simp [h4]), if_pos (by omega)]
          · rw [if_neg (by simp [h4]), if_neg (by omega), if_pos (by omega)]
    · rw [if_neg (fun q => hp q.2), if_neg (by omega), if_neg (by omega), if_neg (by omega)]
  · have e : cFrom c s = (0, 0) ∧ cTo c s = (0, 0) ∧ cLarge c = (0, 0) := by
      unfold cTo cFrom cHalf cLarge; cases s <;> simp [h]
    have hz := not_has0 p
    rw [e.1, e.2.1, e.2.2]
    unfold cWhere
    simp [h, hz]

theorem lyWords (hTo : SpTotal) : LyWords := by
  intro c w hc
  obtain ⟨x0, x1, x2, x3, x4, x5, e0, e1, e2, HC⟩ := parts_named c false hc
  have ht := tot_parts c
  obtain ⟨f0, f1, f2⟩ := parts_fit c false
  rw [e0, e1, e2] at ht
  rw [e0] at f0
  rw [e1] at f1
  rw [e2] at f2
  rw [← ht]
  have HF : Hid (Fits [(x0, x1), (x2, x3), (x4, x5)]) := fun z hz => by
    simp only [List.mem_cons, List.not_mem_nil, or_false] at hz
    rcases hz with rfl | rfl | rfl <;> assumption
  replace HC := Lib.hid HC
  have HB := Lib.hid (only_box w c)
  have HCB := Lib.hid (CBox.new w c)
  clear e0 e1 e2 ht f0 f1 f2 hc
  obtain ⟨l, hl⟩ : ∃ l : List Sp, l = [(x0, x1), (x2, x3), (x4, x5)] := ⟨_, rfl⟩
  rw [← hl]
  replace hl := Lib.hid hl
  go_enter Try.func7, Try.ntmps7
  go_wp2_with fail
  go_at_call 24
  refine (HC.out _).mono ?_
  rintro e w1 ⟨rfl, o⟩
  have O1 := Lib.hid (HB.out.trans o)
  clear o
  go_wp2_with fail
  go_at_call 25
  have hs : Sl (w1.alloc (.cells #[.int .i64 x0, .int .i64 x1, .int .i64 x2, .int .i64 x3, .int .i64 x4, .int .i64 x5] 39)) (w1.alloc (.cells #[.int .i64 x0, .int .i64 x1, .int .i64 x2, .int .i64 x3, .int .i64 x4, .int .i64 x5] 39)).heap.size 2 (.slice (some ⟨w1.heap.size, 0, none⟩) 3 3) 3 (spc [(x0, x1), (x2, x3), (x4, x5)]) :=
    Sl.of_blk (Blk.new w1 39 _) (by simp) (Nat.le_refl _) (by decide)
  refine (hTo _ [(x0, x1), (x2, x3), (x4, x5)] _ _ hs (Nat.le_refl _) (by simp) HF).mono ?_
  rintro e w2 ⟨rfl, o⟩
  rw [← hl.out]
  have O2 := Lib.hid ((O1.out.alloc _).trans o)
  clear o hs
  go_wp2
  go_ret
  exact ⟨rfl, O2.out⟩

/-- The first k parts have no place p. -/
def NotIn (l : List Sp) (k : Nat) (p : Int) : Prop := ∀ (j : Nat) x, j < k → l[j]? = some x → ¬ x.has p
set_option maxRecDepth 100000 in
set_option maxHeartbeats 4000000 in
theorem lyWhere (hH : SpHas) : LyWhere := by
  intro c s p w hc hp
  have hw := where_is c s p
  obtain ⟨x0, x1, x2, x3, x4, x5, e0, e1, e2, HC⟩ := parts_named c s hc
  obtain ⟨f0, f1, f2⟩ := parts_fit c s
  rw [e0, e1, e2] at hw
  rw [e0] at f0
  rw [e1] at f1
  rw [e2] at f2
  replace HC := Lib.hid HC
  have H0 := fun w => hH (x0, x1) p w f0 hp.1 hp.2
  have H1 := fun w => hH (x2, x3) p w f1 hp.1 hp.2
  have H2 := fun w => hH (x4, x5) p w f2 hp.1 hp.2
  have HB := Lib.hid (only_box w c)
  have ways : (Sp.has (x0, x1) p ∧ cWhere c s p = 1) ∨ (¬ Sp.has (x0, x1) p ∧ Sp.has (x2, x3) p ∧ cWhere c s p = 2) ∨ (¬ Sp.has (x0, x1) p ∧ ¬ Sp.has (x2, x3) p ∧ Sp.has (x4, x5) p ∧ cWhere c s p = 3) ∨ (¬ Sp.has (x0, x1) p ∧ ¬ Sp.has (x2, x3) p ∧ ¬ Sp.has (x4, x5) p ∧ cWhere c s p = 0) := by
    rw [hw]
    by_cases a : Sp.has (x0, x1) p <;> by_cases b : Sp.has (x2, x3) p <;> by_cases d : Sp.has (x4, x5) p <;> simp [a, b, d]
  obtain ⟨r, hr⟩ : ∃ r, cWhere c s p = r := ⟨_, rfl⟩
  rw [hr] at ways ⊢
  clear hr hw e0 e1 e2 f0 f1 f2 hc hp hH
  simp only [] at H0 H1 H2
  obtain ⟨b0, hb0⟩ : ∃ b, decide (Sp.has (x0, x1) p) = b := ⟨_, rfl⟩
  obtain ⟨b1, hb1⟩ : ∃ b, decide (Sp.has (x2, x3) p) = b := ⟨_, rfl⟩
  obtain ⟨b2, hb2⟩ : ∃ b, decide (Sp.has (x4, x5) p) = b := ⟨_, rfl⟩
  rw [hb0] at H0
  rw [hb1] at H1
  rw [hb2] at H2
  have ways2 : (b0 = true ∧ r = 1) ∨ (b0 = false ∧ b1 = true ∧ r = 2) ∨ (b0 = false ∧ b1 = false ∧ b2 = true ∧ r = 3) ∨ (b0 = false ∧ b1 = false ∧ b2 = false ∧ r = 0) := by
    subst hb0 hb1 hb2
    simpa using ways
  replace ways2 := Lib.hid ways2
  replace H0 := Lib.hid H0
  replace H1 := Lib.hid H1
  replace H2 := Lib.hid H2
  clear hb0 hb1 hb2 ways
  go_enter Try.func15, Try.ntmps15
  go_wp2_with fail
  go_at_call 24
  refine (HC.out _).mono ?_
  rintro e w1 ⟨rfl, o⟩
  have O1 := Lib.hid (HB.out.trans o)
  clear o
  go_wp2_with fail
  go_loopw [12] (fun i wr => ∃ k : Nat, k ≤ 3 ∧ i = .int .i64 k ∧ (1 ≤ k → b0 = false) ∧ (2 ≤ k → b1 = false) ∧ (3 ≤ k → b2 = false) ∧ Only nob w wr) (fun i _ => 3 - (intOf i).toNat)
  case atStart => exact ⟨0, by omega, rfl, by omega, by omega, by omega, O1.out⟩
  case round =>
    obtain ⟨k, hk, rfl, k0, k1, k2, hO⟩ := hrel
    have HX := Lib.hid hO
    clear hO
    obtain ⟨i0, i1, i2⟩ := idx3 x0 x1 x2 x3 x4 x5
    have hk4 : k = 0 ∨ k = 1 ∨ k = 2 ∨ k = 3 := by omega
    rcases hk4 with rfl | rfl | rfl | rfl
    · have HW := ways2.out
      replace HW : (b0 = true ∧ r = 1) ∨ b0 = false := by
        rcases HW with h | h | h | h <;> simp_all
      clear k0 k1 k2 hk
      go_wp2_with fail
      go_at_call 21
      refine (H0.out _).mono ?_
      rintro e w2 ⟨rfl, o⟩
      have O2 := Lib.hid ((HX.out.alloc _).trans o)
      clear o
      rcases HW with ⟨rfl, rfl⟩ | rfl
      · go_wp2
        go_ret
        exact ⟨rfl, O2.out⟩
      · go_wp2
        go_roundw
        case rel => exact ⟨1, by omega, by go_num, fun _ => by trivial, by omega, by omega, O2.out⟩
        case measure => simp [intOf]
    · have HW := ways2.out
      have z0 := k0 (by omega)
      replace HW : (b1 = true ∧ r = 2) ∨ b1 = false := by
        rcases HW with h | h | h | h <;> simp_all
      replace z0 := Lib.hid z0
      clear k0 k1 k2 hk
      go_wp2_with fail
      go_at_call 21
      refine (H1.out _).mono ?_
      rintro e w2 ⟨rfl, o⟩
      have O2 := Lib.hid ((HX.out.alloc _).trans o)
      clear o
      rcases HW with ⟨rfl, rfl⟩ | rfl
      · go_wp2
        go_ret
        exact ⟨rfl, O2.out⟩
      · go_wp2
        go_roundw
        case rel => exact ⟨2, by omega, by go_num, fun _ => z0.out, fun _ => by trivial, by omega, O2.out⟩
        case measure => simp [intOf]
    · have HW := ways2.out
      have z0 := k0 (by omega)
      have z1 := k1 (by omega)
      replace HW : (b2 = true ∧ r = 3) ∨ b2 = false := by
        rcases HW with h | h | h | h <;> simp_all
      replace z0 := Lib.hid z0
      replace z1 := Lib.hid z1
      clear k0 k1 k2 hk
      go_wp2_with fail
      go_at_call 21
      refine (H2.out _).mono ?_
      rintro e w2 ⟨rfl, o⟩
      have O2 := Lib.hid ((HX.out.alloc _).trans o)
      clear o
      rcases HW with ⟨rfl, rfl⟩ | rfl
      · go_wp2
        go_ret
        exact ⟨rfl, O2.out⟩
      · go_wp2
        go_roundw
        case rel => exact ⟨3, by omega, by go_num, fun _ => z0.out, fun _ => z1.out, fun _ => by trivial, O2.out⟩
        case measure => simp [intOf]
    · obtain rfl : r = 0 := by
        have z0 := k0 (by omega)
        have z1 := k1 (by omega)
        have z2 := k2 (by omega)
        have HW := ways2.out
        rcases HW with h | h | h | h <;> simp_all
      clear k0 k1 k2 hk
      go_wp2
      go_ret
      exact ⟨rfl, HX.out⟩
end Go.Proofs.Ytmlpppcdammelaa
