/- The walks of WordBits and WordBack (stage 1). -/
import Derived.Test.YthbodadmnhodfaaDoorWordG
namespace Go.Proofs.YthbodadmnhodfaaDoor
open Go.RowKit Go.ChangeShapes Go.WideShapes Go.ChangeAt

theorem gt_pt (w a n x : Nat) (hx : x < 2 ^ n) : gt (pt w a n x) a n = x := by
  apply Nat.eq_of_testBit_eq
  intro j
  unfold gt
  rw [Nat.testBit_mod_two_pow, Nat.testBit_div_two_pow, testBit_pt _ _ _ _ _ hx]
  by_cases h : j < n
  · rw [if_neg (by omega), if_pos (by omega), show j + a - a = j by omega]; simp [h]
  · rw [Nat.testBit_lt_two_pow (Nat.lt_of_lt_of_le hx (Nat.pow_le_pow_right (by decide) (Nat.le_of_not_lt h)))]; simp [h]
theorem pt_gt (w a n x : Nat) (hx : x < 2 ^ n) : pt (pt w a n x) a n (gt w a n) = w := by
  apply Nat.eq_of_testBit_eq
  intro j
  rw [testBit_pt _ _ _ _ _ (gt_lt w a n), testBit_pt _ _ _ _ _ hx]
  by_cases h1 : j < a
  · rw [if_pos h1, if_pos h1]
  · rw [if_neg h1, if_neg h1]
    by_cases h2 : j < a + n
    · rw [if_pos h2]
      unfold gt
      rw [Nat.testBit_mod_two_pow, Nat.testBit_div_two_pow, show j - a + a = j by omega]
      simp; omega
    · rw [if_neg h2, if_neg h2]
theorem gt_apart (w a n x f m : Nat) (hx : x < 2 ^ n) (h : a + n ≤ f ∨ f + m ≤ a) : gt (pt w a n x) f m = gt w f m := by
  apply Nat.eq_of_testBit_eq
  intro j
  unfold gt
  rw [Nat.testBit_mod_two_pow, Nat.testBit_div_two_pow, Nat.testBit_mod_two_pow, Nat.testBit_div_two_pow, testBit_pt _ _ _ _ _ hx]
  by_cases hj : j < m
  · by_cases h1 : j + f < a
    · rw [if_pos h1]
    · rw [if_neg h1, if_neg (by omega)]
  · simp [hj]

theorem sb_hxs (x j : Nat) (hj : j < 16) : sb (hxs x) j = dig (x / 16 ^ (15 - j) % 16) := by
  have hs : (hxs x).size = 16 := by show (hxl x 16).toArray.size = 16; simp [hxl_length]
  unfold sb
  rw [dif_pos (by omega)]
  show ((hxl x 16).toArray[j]'(by simp [hxl_length]; omega)).toNat = _
  rw [List.getElem_toArray, hxl_get x 16 j hj, show 16 - 1 - j = 15 - j by omega]
  exact UInt8.toNat_ofNat_of_lt' (dig_lt _ (Nat.mod_lt _ (by decide)))
theorem rdOk_hxs (x : Nat) : RdOk (hxs x) := by
  refine ⟨by show (hxl x 16).toArray.size = 16; simp [hxl_length], fun j hj => ?_⟩
  rw [sb_hxs x j hj]
  exact dok_dig _ (Nat.mod_lt _ (by decide))
theorem rdv_hxs (x k : Nat) (hx : x < full) (hk : k ≤ 16) : rdv (hxs x) k = x / 16 ^ (16 - k) := by
  induction k with
  | zero =>
    show 0 = _
    exact (Nat.div_eq_of_lt (by simpa [full] using hx)).symm
  | succ k ih =>
    show rdv (hxs x) k * 16 + dval (sb (hxs x) k) = _
    rw [ih (by omega), sb_hxs x k (by omega), dval_dig _ (Nat.mod_lt _ (by decide)), show 16 - k = (16 - (k + 1)) + 1 by omega, Nat.pow_succ, ← Nat.div_div_eq_div_mul, show 15 - k = 16 - (k + 1) by omega]
    omega
theorem rdV_hxs (x : Nat) (hx : x < full) : rdV (hxs x) = x := by
  rw [rdV_yes (rdOk_hxs x), rdv_hxs x 16 hx (Nat.le_refl _)]; simp
theorem rdE_hxs (x : Nat) : rdE (hxs x) = 0 := rdE_yes (rdOk_hxs x)

set_option maxRecDepth 100000 in
set_option maxHeartbeats 2000000 in
theorem wordBits_walk (a0 : Int) (s : ByteArray) (w0 : (Lit.int .u64 a0).wf = true) (w : World) (hD : Dig w) :
    Calls Tryd.prog 4 #[.int .u64 a0, .string s] w fun e w' => e = .returned (.bool true) ∧ Below w.heap.size w w' := by
  obtain ⟨x, rfl, hx⟩ := nat_of_u64 w0
  have HD := Lib.hid hD
  clear w0 hD
  by_cases hl : 100 < s.size
  · go_enter Tryd.func4, Tryd.ntmps4
    go_wp2_with fail
    go_at_call 10
    refine (awake_any w _ HD.out (Kept.refl w)).mono ?_
    rintro e v5 ⟨rfl, h5⟩
    have K5 := Lib.hid h5
    clear h5
    go_wp2
    go_ret
    exact ⟨rfl, K5.out⟩
  · go_enter Tryd.func4, Tryd.ntmps4
    go_wp2_with fail
    go_at_call 11
    refine (read_any s _ HD.out).mono ?_
    rintro e v1 ⟨rfl, hb⟩
    have K1 := Lib.hid ((Kept.refl w).then hb)
    clear hb
    go_wp2_with fail
    go_at_call 12
    refine (refRead_any s _).mono ?_
    rintro e v2 ⟨rfl, rfl⟩
    go_wp2_with fail
    go_at_call 13
    refine (ones_count x _ hx).mono ?_
    rintro e v3 ⟨rfl, rfl⟩
    go_wp2_with fail
    go_at_call 14
    refine (refOnes_any x _ hx).mono ?_
    rintro e v4 ⟨rfl, rfl⟩
    go_wp2_with fail
    go_at_call 15
    refine (low_any x _ hx).mono ?_
    rintro e v5 ⟨rfl, hb⟩
    have K2 := Lib.hid (K1.out.then hb)
    clear hb
    go_wp2_with fail
    go_at_call 16
    refine (refLow_any x _ hx).mono ?_
    rintro e v6 ⟨rfl, rfl⟩
    go_wp2_with fail
    go_at_call 17
    refine (high_any x _ hx).mono ?_
    rintro e v7 ⟨rfl, hb⟩
    have K3 := Lib.hid (K2.out.then hb)
    clear hb
    go_wp2_with fail
    go_at_call 18
    refine (refHigh_any x _ hx).mono ?_
    rintro e v8 ⟨rfl, rfl⟩
    go_wp2_with fail
    go_at_call 19
    refine (hex_any x _ hx (K3.out.dig HD.out)).mono ?_
    rintro e v9 ⟨rfl, hb⟩
    have K4 := Lib.hid (K3.out.then hb)
    clear hb
    go_wp2_with fail
    go_at_call 20
    refine (refHex_any x _ hx).mono ?_
    rintro e v10 ⟨rfl, rfl⟩
    go_wp2_with fail
    go_at_call 10
    refine (awake_any w _ HD.out K4.out).mono ?_
    rintro e v11 ⟨rfl, h5⟩
    have K5 := Lib.hid h5
    clear h5
    go_wp2
    go_ret
    exact ⟨rfl, K5.out⟩
/-- The end of WordBack: Hex, Read, awake. -/
theorem back_hex (x : Nat) (hx : x < full) (W : World) (hD : Dig W) : Calls Tryd.prog 19 #[.int .u64 x] W fun e w' => e = .returned (.string (hxs x)) ∧ Below W.heap.size W w' := hex_any x W hx hD
theorem back_read (x : Nat) (hx : x < full) (W : World) (hD : Dig W) : Calls Tryd.prog 11 #[.string (hxs x)] W fun e w' => e = .returned (.tuple #[.int .u64 x, .int .i64 0]) ∧ Below W.heap.size W w' :=
  (read_any (hxs x) W hD).mono fun _ _ h => ⟨by rw [h.1, rdV_hxs x hx, rdE_hxs], h.2⟩

set_option maxRecDepth 100000 in
set_option maxHeartbeats 4000000 in
theorem wordBack_walk (a0 a1 a2 a3 a4 a5 : Int) (w0 : (Lit.int .u64 a0).wf = true) (w1 : (Lit.int .i64 a1).wf = true) (w3 : (Lit.int .u64 a3).wf = true) (w4 : (Lit.int .i64 a4).wf = true) (w : World) (hD : Dig w) :
    Calls Tryd.prog 5 #[.int .u64 a0, .int .i64 a1, .int .i64 a2, .int .u64 a3, .int .i64 a4, .int .i64 a5] w fun e w' => e = .returned (.bool true) ∧ Below w.heap.size w w' := by
  obtain ⟨x, rfl, hx⟩ := nat_of_u64 w0
  obtain ⟨y, rfl, hy⟩ := nat_of_u64 w3
  have hb1 := bounds_i64 w1
  have hb4 := bounds_i64 w4
  have HD := Lib.hid hD
  clear w0 w1 w3 w4 hD
  by_cases hf : Fits a1 a2 ∧ y ≤ on a2.toNat
  · obtain ⟨hf, hyn⟩ := hf
    obtain ⟨a, n, rfl, rfl, h1, h2⟩ := fits_nat hf
    have hyn : y ≤ on n := by simpa using hyn
    have hyp := lt_on.2 hyn
    clear hb1
    have hv := pt_lt x a n y hx hyp h2
    have HG := Lib.hid (gt_pt x a n y hyp)
    have HP := Lib.hid (pt_gt x a n y hyp)
    have hgn : gt x a n ≤ on n := lt_on.1 (gt_lt x a n)
    -- the other part, in both words
    have other : ∃ (r r' : Nat) (b : Bool), (∀ w, Calls Tryd.prog 6 #[.int .u64 (pt x a n y), .int .i64 a4, .int .i64 a5] w fun e w' => e = .returned (.tuple #[.int .u64 r, .bool b]) ∧ ∃ m, w' = w.drewN m) ∧
        (∀ w, Calls Tryd.prog 6 #[.int .u64 x, .int .i64 a4, .int .i64 a5] w fun e w' => e = .returned (.tuple #[.int .u64 r', .bool b]) ∧ ∃ m, w' = w.drewN m) ∧
        (b = false → r = r') ∧ (b = true → 0 ≤ a4 ∧ 1 ≤ a5 ∧ a5 ≤ 64 - a4) ∧ (b = true → (a : Int) + n ≤ a4 ∨ a4 + a5 ≤ a → r = r') := by
      by_cases h : Fits a4 a5
      · have hF := h
        obtain ⟨f, m, rfl, rfl, h3, h4⟩ := fits_nat h
        exact ⟨_, _, true, fun w => get_any _ f m w hv h3 h4, fun w => get_any x f m w hx h3 h4, (fun h => by cases h), fun _ => hF, fun _ h5 => gt_apart x a n y f m hyp (by omega)⟩
      · exact ⟨0, 0, false, fun w => get_no _ a4 a5 w hb4.1 hb4.2 h, fun w => get_no x a4 a5 w hb4.1 hb4.2 h, fun _ => rfl, (fun h => by cases h), fun _ _ => rfl⟩
    obtain ⟨r, r', b, g1, g2, e0, e1, e2⟩ := other
    have ways : (b = false ∧ r = r') ∨ (b = true ∧ (0 ≤ a4 ∧ 1 ≤ a5 ∧ a5 ≤ 64 - a4) ∧ ((a : Int) + n ≤ a4 ∧ r = r' ∨ ¬ (a : Int) + n ≤ a4 ∧ a4 + a5 ≤ a ∧ r = r' ∨ ¬ (a : Int) + n ≤ a4 ∧ ¬ a4 + a5 ≤ a)) := by
      cases b
      · exact Or.inl ⟨rfl, e0 rfl⟩
      · refine Or.inr ⟨rfl, e1 rfl, ?_⟩
        by_cases c1 : (a : Int) + n ≤ a4
        · exact Or.inl ⟨c1, e2 rfl (Or.inl c1)⟩
        · by_cases c2 : a4 + a5 ≤ a
          · exact Or.inr (Or.inl ⟨c1, c2, e2 rfl (Or.inr c2)⟩)
          · exact Or.inr (Or.inr ⟨c1, c2⟩)
    clear e0 e1 e2 hf
    rcases ways with ⟨rfl, rfl⟩ | ⟨rfl, ⟨c1, c2, c3⟩, ⟨c4, rfl⟩ | ⟨c4, c5, rfl⟩ | ⟨c4, c5⟩⟩
    all_goals
      go_enter Tryd.func5, Tryd.ntmps5
      go_wp2_with fail
      go_at_call 8
      refine (put_any x a n y _ hx h1 h2 hyn).mono ?_
      rintro e v1 ⟨rfl, h⟩
      have K1 := Lib.hid ((Kept.refl w).thenDrew h)
      clear h
      go_wp2_with fail
      go_at_call 6
      refine (get_any (pt x a n y) a n _ hv h1 h2).mono ?_
      rw [HG.out]
      rintro e v2 ⟨rfl, h⟩
      have K2 := Lib.hid (K1.out.thenDrew h)
      clear h
      go_wp2_with fail
      go_at_call 6
      refine (get_any x a n _ hx h1 h2).mono ?_
      rintro e v3 ⟨rfl, h⟩
      have K3 := Lib.hid (K2.out.thenDrew h)
      clear h
      go_wp2_with fail
      go_at_call 8
      refine (put_any (pt x a n y) a n (gt x a n) _ hv h1 h2 hgn).mono ?_
      rw [HP.out]
      rintro e v4 ⟨rfl, h⟩
      have K4 := Lib.hid (K3.out.thenDrew h)
      clear h
      go_wp2_with fail
      go_at_call 6
      refine (g1 _).mono ?_
      rintro e v5 ⟨rfl, h⟩
      have K5 := Lib.hid (K4.out.thenDrew h)
      clear h
      go_wp2_with fail
      go_at_call 6
      refine (g2 _).mono ?_
      rintro e v6 ⟨rfl, h⟩
      have K6 := Lib.hid (K5.out.thenDrew h)
      clear h
      go_wp2_with fail
      go_at_call 19
      refine (back_hex x hx _ (K6.out.dig HD.out)).mono ?_
      rintro e v7 ⟨rfl, h⟩
      have K7 := Lib.hid (K6.out.then h)
      clear h
      go_wp2_with fail
      go_at_call 11
      refine (back_read x hx _ (K7.out.dig HD.out)).mono ?_
      rintro e v8 ⟨rfl, h⟩
      have K8 := Lib.hid (K7.out.then h)
      clear h
      go_wp2_with fail
      go_at_call 10
      refine (awake_any w _ HD.out K8.out).mono ?_
      rintro e v9 ⟨rfl, h⟩
      have K9 := Lib.hid h
      clear h
      go_wp2
      go_ret
      exact ⟨rfl, K9.out⟩
  · have hp : ∀ w, Calls Tryd.prog 8 #[.int .u64 x, .int .i64 a1, .int .i64 a2, .int .u64 y] w fun e w' => e = .returned (.tuple #[.int .u64 0, .bool false]) ∧ ∃ m, w' = w.drewN m := by
      by_cases h : Fits a1 a2
      · obtain ⟨a, n, rfl, rfl, h1, h2⟩ := fits_nat h
        have : on n < y := by
          rcases Nat.lt_or_ge (on n) y with g | g
          · exact g
          · exact absurd ⟨h, by simpa using g⟩ hf
        exact fun w => put_big x a n y w h1 h2 this
      · exact fun w => put_no x a1 a2 y w hb1.1 hb1.2 h
    clear hf hb1 hb4
    go_enter Tryd.func5, Tryd.ntmps5
    go_wp2_with fail
    go_at_call 8
    refine (hp _).mono ?_
    rintro e v1 ⟨rfl, h⟩
    have K1 := Lib.hid ((Kept.refl w).thenDrew h)
    clear h
    go_wp2_with fail
    go_at_call 10
    refine (awake_any w _ HD.out K1.out).mono ?_
    rintro e v9 ⟨rfl, h⟩
    have K9 := Lib.hid h
    clear h
    go_wp2
    go_ret
    exact ⟨rfl, K9.out⟩
end Go.Proofs.YthbodadmnhodfaaDoor
