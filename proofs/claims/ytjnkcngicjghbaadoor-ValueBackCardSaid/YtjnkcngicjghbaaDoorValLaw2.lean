/- A value's word leads back to it, and a word's value to the word; the walk of ValueBack. -/
import Derived.Test.YtjnkcngicjghbaaDoorValLaw1
import Derived.Deep.Cut
namespace Go.Proofs.YtjnkcngicjghbaaDoor
open Go.RowKit

theorem encW_in (k x : Int) : 0 ≤ encW k x ∧ encW k x < 18446744073709551616 := by unfold encW; split <;> omega
theorem dec_enc {k x : Int} (h : vmay k x = true) : dK (encW k x) = k ∧ dX (encW k x) = x ∧ dE (encW k x) = 0 := by
  rw [encW_yes h]
  rcases may_kinds h with ⟨rfl, rfl⟩ | ⟨rfl, h0, h1⟩ | ⟨rfl, h0, h1⟩
  · decide
  · rw [show vtag 1 = 1 from rfl]
    by_cases hx : 0 ≤ x
    · obtain ⟨a, b, c⟩ := d_up (w := (4 * x + 1) % 18446744073709551616) (by omega) (by omega)
      exact ⟨a, b.trans (by omega), c⟩
    · obtain ⟨a, b, c⟩ := d_down (w := (4 * x + 1) % 18446744073709551616) (by omega) (by omega)
      exact ⟨a, b.trans (by omega), c⟩
  · rw [show vtag 2 = 2 from rfl]
    obtain ⟨a, b, c⟩ := d_ref (w := (4 * x + 2) % 18446744073709551616) (by omega) (by omega)
    exact ⟨a, b.trans (by omega), c⟩
theorem enc_dec {n : Int} (hn : 0 ≤ n ∧ n < 18446744073709551616) (h : dE n = 0) : encW (dK n) (dX n) = n ∧ encE (dK n) (dX n) = 0 := by
  by_cases h0 : n = 0
  · subst h0; decide
  by_cases h1 : n % 4 = 1
  · by_cases h2 : n / 4 < 2305843009213693952
    · obtain ⟨a, b, -⟩ := d_up h1 h2
      have hm : vmay (dK n) (dX n) = true := by rw [a, b]; exact vin_yes (by omega) (by omega)
      refine ⟨?_, encE_yes hm⟩
      rw [encW_yes hm, a, b, show vtag 1 = 1 from rfl]; omega
    · obtain ⟨a, b, -⟩ := d_down h1 h2
      have hm : vmay (dK n) (dX n) = true := by rw [a, b]; exact vin_yes (by omega) (by omega)
      refine ⟨?_, encE_yes hm⟩
      rw [encW_yes hm, a, b, show vtag 1 = 1 from rfl]; omega
  by_cases h2 : n % 4 = 2 ∧ n / 4 ≤ 1099511627776
  · obtain ⟨a, b, -⟩ := d_ref h2.1 h2.2
    have hm : vmay (dK n) (dX n) = true := by rw [a, b]; exact vin_yes (by omega) h2.2
    refine ⟨?_, encE_yes hm⟩
    rw [encW_yes hm, a, b, show vtag 2 = 2 from rfl]; omega
  · rw [(d_none h0 h1 h2).2.2] at h; cases h
theorem dE_no {n : Int} (h : dE n = 3) : dK n = 0 ∧ dX n = 0 := by
  by_cases h0 : n = 0
  · subst h0; exact absurd h (by decide)
  by_cases h1 : n % 4 = 1
  · unfold dE at h; rw [if_pos (.inr (.inl h1))] at h; cases h
  by_cases h2 : n % 4 = 2 ∧ n / 4 ≤ 1099511627776
  · unfold dE at h; rw [if_pos (.inr (.inr h2))] at h; cases h
  · exact ⟨(d_none h0 h1 h2).1, (d_none h0 h1 h2).2.1⟩
theorem enc_inj {k x l y : Int} (h : vmay k x = true) (g : vmay l y = true) (e : encW k x = encW l y) : k = l ∧ x = y := by
  have a := dec_enc h
  have b := dec_enc g
  rw [e] at a
  exact ⟨a.1.symm.trans b.1, a.2.1.symm.trans b.2.1⟩

/-- Two values of the call's own. -/
theorem box_vals (w : World) (k x l y : Int) : ∃ W, (w.alloc (.cells #[.int .i64 k, .int .i64 x] 23)).alloc (.cells #[.int .i64 l, .int .i64 y] 23) = W ∧ Hid (Only nob w W ∧ (W.cell? ⟨w.heap.size, 0, none⟩ = some (.int .i64 k) ∧ W.cell? ⟨w.heap.size, 1, none⟩ = some (.int .i64 x)) ∧ W.cell? ⟨w.heap.size + 1, 0, none⟩ = some (.int .i64 l) ∧ W.cell? ⟨w.heap.size + 1, 1, none⟩ = some (.int .i64 y)) := by
  have B := (Blk.new w 23 #[.int .i64 k, .int .i64 x]).alloc (.cells #[.int .i64 l, .int .i64 y] 23)
  have C := Blk.newAt (w.alloc (.cells #[.int .i64 k, .int .i64 x] 23)) 23 #[.int .i64 l, .int .i64 y] (w.heap.size + 1) (by simp)
  exact ⟨_, rfl, Lib.hid ⟨((Only.refl nob w).alloc _).alloc _, ⟨B.cell 0, B.cell 1⟩, C.cell 0, C.cell 1⟩⟩
/-- The cells of two values at A and B. -/
structure Two (w : World) (A : Nat) (k x l y : Int) : Prop where
  a0 : w.cell? ⟨A, 0, none⟩ = some (.int .i64 k)
  a1 : w.cell? ⟨A, 1, none⟩ = some (.int .i64 x)
  b0 : w.cell? ⟨A + 1, 0, none⟩ = some (.int .i64 l)
  b1 : w.cell? ⟨A + 1, 1, none⟩ = some (.int .i64 y)
theorem Two.old {w w' : World} {A : Nat} {k x l y : Int} (h : Two w A k x l y) (o : Only nob w w') : Two w' A k x l y := ⟨o.keeps h.a0, o.keeps h.a1, o.keeps h.b0, o.keeps h.b1⟩

/-- The first two answers. -/
theorem enc_is {k x ew ee : Int} (hw : encW k x = ew) (he : encE k x = ee) (w : World) : Calls Tryd.prog 6 #[.agg #[.int .i64 k, .int .i64 x]] w fun e w' => e = .returned (.tuple #[.int .u64 ew, .int .i64 ee]) ∧ Only nob w w' := by
  subst hw he; exact enc_any k x w
theorem dec_is {n k x ee : Int} (hn : 0 ≤ n ∧ n < 18446744073709551616) (hk : dK n = k) (hx : dX n = x) (he : dE n = ee) (w : World) : Calls Tryd.prog 8 #[.int .u64 n] w fun e w' => e = .returned (.tuple #[.agg #[.int .i64 k, .int .i64 x], .int .i64 ee]) ∧ Only nob w w' := by
  subst hk hx he; exact dec_any hn w

set_option maxHeartbeats 1000000 in
theorem back_same1 (k x n : Int) (hn : 0 ≤ n ∧ n < 18446744073709551616) (ha : vmay k x = true) (hd : dE n = 0) (w : World) (ht : Tab w) : Calls Tryd.prog 5 #[.agg #[.int .i64 k, .int .i64 x], .agg #[.int .i64 k, .int .i64 x], .int .u64 n] w fun e w' => e = .returned (.bool true) ∧ Only nob w w' := by
  have HTab := Lib.hid ht
  have HN := Lib.hid hn
  obtain ⟨u, hu⟩ : ∃ u, encW k x = u := ⟨_, rfl⟩
  have HU := Lib.hid hu
  have HUE := Lib.hid (encE_yes ha)
  have HUI := Lib.hid (show 0 ≤ u ∧ u < 18446744073709551616 from hu ▸ encW_in k x)
  have HUD := Lib.hid (show dK u = k ∧ dX u = x ∧ dE u = 0 from hu ▸ dec_enc ha)
  have HD := Lib.hid hd
  obtain ⟨p, hp⟩ : ∃ p, dK n = p := ⟨_, rfl⟩
  obtain ⟨q, hq⟩ : ∃ q, dX n = q := ⟨_, rfl⟩
  have HP := Lib.hid hp
  have HQ := Lib.hid hq
  have HZ := Lib.hid (show encW p q = n ∧ encE p q = 0 from hp ▸ hq ▸ enc_dec hn hd)
  obtain ⟨W, hW, HB⟩ := box_vals w k x k x
  have HWE := Lib.hid hW
  have T0 := Lib.hid (show Two W w.heap.size k x k x from ⟨HB.out.2.1.1, HB.out.2.1.2, HB.out.2.2.1, HB.out.2.2.2⟩)
  clear ht hn ha hd hu hp hq hW
  go_enter Tryd.func5, Tryd.ntmps5
  go_wp2_with fail
  rw [HWE.out]
  go_at_call 6
  refine (enc_is HU.out HUE.out _).mono ?_
  rintro e w1 ⟨rfl, o⟩
  have O1 := Lib.hid (HB.out.1.trans o)
  have T1 := Lib.hid (T0.out.old o)
  obtain ⟨c0, c1, d0, d1⟩ := T1.out
  clear o
  go_wp2_with fail
  go_at_call 6
  refine (enc_is HU.out HUE.out _).mono ?_
  rintro e w2 ⟨rfl, o⟩
  have O2 := Lib.hid (O1.out.trans o)
  have T2 := Lib.hid (T1.out.old o)
  clear o c0 c1 d0 d1
  obtain ⟨c0, c1, d0, d1⟩ := T2.out
  go_wp2_with fail
  go_at_call 8
  refine (dec_is HUI.out HUD.out.1 HUD.out.2.1 HUD.out.2.2 _).mono ?_
  rintro e w3 ⟨rfl, o⟩
  have O3 := Lib.hid (O2.out.trans o)
  have T3 := Lib.hid (T2.out.old o)
  obtain ⟨W4, hW4, HB4⟩ := box_val w3 k x
  have HW4 := Lib.hid hW4
  have T4 := Lib.hid (T3.out.old HB4.out.1)
  have O4 := Lib.hid (O3.out.trans HB4.out.1)
  clear o hW4 c0 c1 d0 d1
  obtain ⟨c0, c1, d0, d1⟩ := T4.out
  obtain ⟨-, f0, f1⟩ := HB4.out
  go_upto_region 5 with fail
  rw [HW4.out]
  go_wp2_with fail
  go_at_call 8
  refine (dec_is HN.out HP.out HQ.out HD.out _).mono ?_
  rintro e w5 ⟨rfl, o⟩
  have O5 := Lib.hid (O4.out.trans o)
  obtain ⟨W6, hW6, HB6⟩ := box_val w5 (p) (q)
  have HW6 := Lib.hid hW6
  have O6 := Lib.hid (O5.out.trans HB6.out.1)
  clear o hW6 c0 c1 d0 d1
  obtain ⟨-, g0, g1⟩ := HB6.out
  go_upto_region 10 with fail
  rw [HW6.out]
  go_wp2_with fail
  go_at_call 6
  refine (enc_is HZ.out.1 HZ.out.2 _).mono ?_
  rintro e w7 ⟨rfl, o⟩
  have O7 := Lib.hid (O6.out.trans o)
  clear o
  go_wp2_with fail
  go_at_call 12
  refine (awake06_any _ (HTab.out.old O7.out)).mono ?_
  rintro e w9 ⟨rfl, o⟩
  have O9 := Lib.hid (O7.out.trans o)
  clear o
  go_wp2
  go_ret
  exact ⟨rfl, O9.out⟩

set_option maxHeartbeats 1000000 in
theorem back_diffk1 (k x l y n : Int) (hn : 0 ≤ n ∧ n < 18446744073709551616) (ha : vmay k x = true) (hb : vmay l y = true) (hne : ¬ k = l) (hd : dE n = 0) (w : World) (ht : Tab w) : Calls Tryd.prog 5 #[.agg #[.int .i64 k, .int .i64 x], .agg #[.int .i64 l, .int .i64 y], .int .u64 n] w fun e w' => e = .returned (.bool true) ∧ Only nob w w' := by
  have HTab := Lib.hid ht
  have HN := Lib.hid hn
  obtain ⟨u, hu⟩ : ∃ u, encW k x = u := ⟨_, rfl⟩
  have HU := Lib.hid hu
  have HUE := Lib.hid (encE_yes ha)
  have HUI := Lib.hid (show 0 ≤ u ∧ u < 18446744073709551616 from hu ▸ encW_in k x)
  have HUD := Lib.hid (show dK u = k ∧ dX u = x ∧ dE u = 0 from hu ▸ dec_enc ha)
  obtain ⟨v, hv⟩ : ∃ v, encW l y = v := ⟨_, rfl⟩
  have HV := Lib.hid hv
  have HVE := Lib.hid (encE_yes hb)
  have huv : u ≠ v := fun e => hne (enc_inj ha hb ((hu.trans e).trans hv.symm)).1
  have HD := Lib.hid hd
  obtain ⟨p, hp⟩ : ∃ p, dK n = p := ⟨_, rfl⟩
  obtain ⟨q, hq⟩ : ∃ q, dX n = q := ⟨_, rfl⟩
  have HP := Lib.hid hp
  have HQ := Lib.hid hq
  have HZ := Lib.hid (show encW p q = n ∧ encE p q = 0 from hp ▸ hq ▸ enc_dec hn hd)
  obtain ⟨W, hW, HB⟩ := box_vals w k x l y
  have HWE := Lib.hid hW
  have T0 := Lib.hid (show Two W w.heap.size k x l y from ⟨HB.out.2.1.1, HB.out.2.1.2, HB.out.2.2.1, HB.out.2.2.2⟩)
  clear ht hn ha hd hb hu hv hp hq hW
  go_enter Tryd.func5, Tryd.ntmps5
  go_wp2_with fail
  rw [HWE.out]
  go_at_call 6
  refine (enc_is HU.out HUE.out _).mono ?_
  rintro e w1 ⟨rfl, o⟩
  have O1 := Lib.hid (HB.out.1.trans o)
  have T1 := Lib.hid (T0.out.old o)
  obtain ⟨c0, c1, d0, d1⟩ := T1.out
  clear o
  go_wp2_with fail
  go_at_call 6
  refine (enc_is HV.out HVE.out _).mono ?_
  rintro e w2 ⟨rfl, o⟩
  have O2 := Lib.hid (O1.out.trans o)
  have T2 := Lib.hid (T1.out.old o)
  clear o c0 c1 d0 d1
  obtain ⟨c0, c1, d0, d1⟩ := T2.out
  go_wp2_with fail
  go_at_call 8
  refine (dec_is HUI.out HUD.out.1 HUD.out.2.1 HUD.out.2.2 _).mono ?_
  rintro e w3 ⟨rfl, o⟩
  have O3 := Lib.hid (O2.out.trans o)
  have T3 := Lib.hid (T2.out.old o)
  obtain ⟨W4, hW4, HB4⟩ := box_val w3 k x
  have HW4 := Lib.hid hW4
  have T4 := Lib.hid (T3.out.old HB4.out.1)
  have O4 := Lib.hid (O3.out.trans HB4.out.1)
  clear o hW4 c0 c1 d0 d1
  obtain ⟨c0, c1, d0, d1⟩ := T4.out
  obtain ⟨-, f0, f1⟩ := HB4.out
  go_upto_region 5 with fail
  rw [HW4.out]
  go_wp2_with fail
  go_at_call 8
  refine (dec_is HN.out HP.out HQ.out HD.out _).mono ?_
  rintro e w5 ⟨rfl, o⟩
  have O5 := Lib.hid (O4.out.trans o)
  obtain ⟨W6, hW6, HB6⟩ := box_val w5 (p) (q)
  have HW6 := Lib.hid hW6
  have O6 := Lib.hid (O5.out.trans HB6.out.1)
  clear o hW6 c0 c1 d0 d1
  obtain ⟨-, g0, g1⟩ := HB6.out
  go_upto_region 10 with fail
  rw [HW6.out]
  go_wp2_with fail
  go_at_call 6
  refine (enc_is HZ.out.1 HZ.out.2 _).mono ?_
  rintro e w7 ⟨rfl, o⟩
  have O7 := Lib.hid (O6.out.trans o)
  clear o
  go_wp2_with fail
  go_at_call 12
  refine (awake06_any _ (HTab.out.old O7.out)).mono ?_
  rintro e w9 ⟨rfl, o⟩
  have O9 := Lib.hid (O7.out.trans o)
  clear o
  go_wp2
  go_ret
  exact ⟨rfl, O9.out⟩

set_option maxHeartbeats 1000000 in
theorem back_diffx1 (k x y n : Int) (hn : 0 ≤ n ∧ n < 18446744073709551616) (ha : vmay k x = true) (hb : vmay k y = true) (hne : ¬ x = y) (hd : dE n = 0) (w : World) (ht : Tab w) : Calls Tryd.prog 5 #[.agg #[.int .i64 k, .int .i64 x], .agg #[.int .i64 k, .int .i64 y], .int .u64 n] w fun e w' => e = .returned (.bool true) ∧ Only nob w w' := by
  have HTab := Lib.hid ht
  have HN := Lib.hid hn
  obtain ⟨u, hu⟩ : ∃ u, encW k x = u := ⟨_, rfl⟩
  have HU := Lib.hid hu
  have HUE := Lib.hid (encE_yes ha)
  have HUI := Lib.hid (show 0 ≤ u ∧ u < 18446744073709551616 from hu ▸ encW_in k x)
  have HUD := Lib.hid (show dK u = k ∧ dX u = x ∧ dE u = 0 from hu ▸ dec_enc ha)
  obtain ⟨v, hv⟩ : ∃ v, encW k y = v := ⟨_, rfl⟩
  have HV := Lib.hid hv
  have HVE := Lib.hid (encE_yes hb)
  have huv : u ≠ v := fun e => hne (enc_inj ha hb ((hu.trans e).trans hv.symm)).2
  have HD := Lib.hid hd
  obtain ⟨p, hp⟩ : ∃ p, dK n = p := ⟨_, rfl⟩
  obtain ⟨q, hq⟩ : ∃ q, dX n = q := ⟨_, rfl⟩
  have HP := Lib.hid hp
  have HQ := Lib.hid hq
  have HZ := Lib.hid (show encW p q = n ∧ encE p q = 0 from hp ▸ hq ▸ enc_dec hn hd)
  obtain ⟨W, hW, HB⟩ := box_vals w k x k y
  have HWE := Lib.hid hW
  have T0 := Lib.hid (show Two W w.heap.size k x k y from ⟨HB.out.2.1.1, HB.out.2.1.2, HB.out.2.2.1, HB.out.2.2.2⟩)
  clear ht hn ha hd hb hu hv hp hq hW
  go_enter Tryd.func5, Tryd.ntmps5
  go_wp2_with fail
  rw [HWE.out]
  go_at_call 6
  refine (enc_is HU.out HUE.out _).mono ?_
  rintro e w1 ⟨rfl, o⟩
  have O1 := Lib.hid (HB.out.1.trans o)
  have T1 := Lib.hid (T0.out.old o)
  obtain ⟨c0, c1, d0, d1⟩ := T1.out
  clear o
  go_wp2_with fail
  go_at_call 6
  refine (enc_is HV.out HVE.out _).mono ?_
  rintro e w2 ⟨rfl, o⟩
  have O2 := Lib.hid (O1.out.trans o)
  have T2 := Lib.hid (T1.out.old o)
  clear o c0 c1 d0 d1
  obtain ⟨c0, c1, d0, d1⟩ := T2.out
  go_wp2_with fail
  go_at_call 8
  refine (dec_is HUI.out HUD.out.1 HUD.out.2.1 HUD.out.2.2 _).mono ?_
  rintro e w3 ⟨rfl, o⟩
  have O3 := Lib.hid (O2.out.trans o)
  have T3 := Lib.hid (T2.out.old o)
  obtain ⟨W4, hW4, HB4⟩ := box_val w3 k x
  have HW4 := Lib.hid hW4
  have T4 := Lib.hid (T3.out.old HB4.out.1)
  have O4 := Lib.hid (O3.out.trans HB4.out.1)
  clear o hW4 c0 c1 d0 d1
  obtain ⟨c0, c1, d0, d1⟩ := T4.out
  obtain ⟨-, f0, f1⟩ := HB4.out
  go_upto_region 5 with fail
  rw [HW4.out]
  go_wp2_with fail
  go_at_call 8
  refine (dec_is HN.out HP.out HQ.out HD.out _).mono ?_
  rintro e w5 ⟨rfl, o⟩
  have O5 := Lib.hid (O4.out.trans o)
  obtain ⟨W6, hW6, HB6⟩ := box_val w5 (p) (q)
  have HW6 := Lib.hid hW6
  have O6 := Lib.hid (O5.out.trans HB6.out.1)
  clear o hW6 c0 c1 d0 d1
  obtain ⟨-, g0, g1⟩ := HB6.out
  go_upto_region 10 with fail
  rw [HW6.out]
  go_wp2_with fail
  go_at_call 6
  refine (enc_is HZ.out.1 HZ.out.2 _).mono ?_
  rintro e w7 ⟨rfl, o⟩
  have O7 := Lib.hid (O6.out.trans o)
  clear o
  go_wp2_with fail
  go_at_call 12
  refine (awake06_any _ (HTab.out.old O7.out)).mono ?_
  rintro e w9 ⟨rfl, o⟩
  have O9 := Lib.hid (O7.out.trans o)
  clear o
  go_wp2
  go_ret
  exact ⟨rfl, O9.out⟩

set_option maxHeartbeats 1000000 in
theorem back_a1 (k x l y n : Int) (hn : 0 ≤ n ∧ n < 18446744073709551616) (ha : vmay k x = true) (hb : vmay l y = false) (hd : dE n = 0) (w : World) (ht : Tab w) : Calls Tryd.prog 5 #[.agg #[.int .i64 k, .int .i64 x], .agg #[.int .i64 l, .int .i64 y], .int .u64 n] w fun e w' => e = .returned (.bool true) ∧ Only nob w w' := by
  have HTab := Lib.hid ht
  have HN := Lib.hid hn
  obtain ⟨u, hu⟩ : ∃ u, encW k x = u := ⟨_, rfl⟩
  have HU := Lib.hid hu
  have HUE := Lib.hid (encE_yes ha)
  have HUI := Lib.hid (show 0 ≤ u ∧ u < 18446744073709551616 from hu ▸ encW_in k x)
  have HUD := Lib.hid (show dK u = k ∧ dX u = x ∧ dE u = 0 from hu ▸ dec_enc ha)
  have HV := Lib.hid (encW_no hb)
  have HVE := Lib.hid (encE_no hb)
  have HD := Lib.hid hd
  obtain ⟨p, hp⟩ : ∃ p, dK n = p := ⟨_, rfl⟩
  obtain ⟨q, hq⟩ : ∃ q, dX n = q := ⟨_, rfl⟩
  have HP := Lib.hid hp
  have HQ := Lib.hid hq
  have HZ := Lib.hid (show encW p q = n ∧ encE p q = 0 from hp ▸ hq ▸ enc_dec hn hd)
  obtain ⟨W, hW, HB⟩ := box_vals w k x l y
  have HWE := Lib.hid hW
  have T0 := Lib.hid (show Two W w.heap.size k x l y from ⟨HB.out.2.1.1, HB.out.2.1.2, HB.out.2.2.1, HB.out.2.2.2⟩)
  clear ht hn ha hd hb hu hp hq hW
  go_enter Tryd.func5, Tryd.ntmps5
  go_wp2_with fail
  rw [HWE.out]
  go_at_call 6
  refine (enc_is HU.out HUE.out _).mono ?_
  rintro e w1 ⟨rfl, o⟩
  have O1 := Lib.hid (HB.out.1.trans o)
  have T1 := Lib.hid (T0.out.old o)
  obtain ⟨c0, c1, d0, d1⟩ := T1.out
  clear o
  go_wp2_with fail
  go_at_call 6
  refine (enc_is HV.out HVE.out _).mono ?_
  rintro e w2 ⟨rfl, o⟩
  have O2 := Lib.hid (O1.out.trans o)
  have T2 := Lib.hid (T1.out.old o)
  clear o c0 c1 d0 d1
  obtain ⟨c0, c1, d0, d1⟩ := T2.out
  go_wp2_with fail
  go_at_call 8
  refine (dec_is HUI.out HUD.out.1 HUD.out.2.1 HUD.out.2.2 _).mono ?_
  rintro e w3 ⟨rfl, o⟩
  have O3 := Lib.hid (O2.out.trans o)
  have T3 := Lib.hid (T2.out.old o)
  obtain ⟨W4, hW4, HB4⟩ := box_val w3 k x
  have HW4 := Lib.hid hW4
  have T4 := Lib.hid (T3.out.old HB4.out.1)
  have O4 := Lib.hid (O3.out.trans HB4.out.1)
  clear o hW4 c0 c1 d0 d1
  obtain ⟨c0, c1, d0, d1⟩ := T4.out
  obtain ⟨-, f0, f1⟩ := HB4.out
  go_upto_region 5 with fail
  rw [HW4.out]
  go_wp2_with fail
  go_at_call 8
  refine (dec_is HN.out HP.out HQ.out HD.out _).mono ?_
  rintro e w5 ⟨rfl, o⟩
  have O5 := Lib.hid (O4.out.trans o)
  obtain ⟨W6, hW6, HB6⟩ := box_val w5 (p) (q)
  have HW6 := Lib.hid hW6
  have O6 := Lib.hid (O5.out.trans HB6.out.1)
  clear o hW6 c0 c1 d0 d1
  obtain ⟨-, g0, g1⟩ := HB6.out
  go_upto_region 10 with fail
  rw [HW6.out]
  go_wp2_with fail
  go_at_call 6
  refine (enc_is HZ.out.1 HZ.out.2 _).mono ?_
  rintro e w7 ⟨rfl, o⟩
  have O7 := Lib.hid (O6.out.trans o)
  clear o
  go_wp2_with fail
  go_at_call 12
  refine (awake06_any _ (HTab.out.old O7.out)).mono ?_
  rintro e w9 ⟨rfl, o⟩
  have O9 := Lib.hid (O7.out.trans o)
  clear o
  go_wp2
  go_ret
  exact ⟨rfl, O9.out⟩

set_option maxHeartbeats 1000000 in
theorem back_b1 (k x l y n : Int) (hn : 0 ≤ n ∧ n < 18446744073709551616) (ha : vmay k x = false) (hb : vmay l y = true) (hd : dE n = 0) (w : World) (ht : Tab w) : Calls Tryd.prog 5 #[.agg #[.int .i64 k, .int .i64 x], .agg #[.int .i64 l, .int .i64 y], .int .u64 n] w fun e w' => e = .returned (.bool true) ∧ Only nob w w' := by
  have HTab := Lib.hid ht
  have HN := Lib.hid hn
  have HU := Lib.hid (encW_no ha)
  have HUE := Lib.hid (encE_no ha)
  obtain ⟨v, hv⟩ : ∃ v, encW l y = v := ⟨_, rfl⟩
  have HV := Lib.hid hv
  have HVE := Lib.hid (encE_yes hb)
  have HD := Lib.hid hd
  obtain ⟨p, hp⟩ : ∃ p, dK n = p := ⟨_, rfl⟩
  obtain ⟨q, hq⟩ : ∃ q, dX n = q := ⟨_, rfl⟩
  have HP := Lib.hid hp
  have HQ := Lib.hid hq
  have HZ := Lib.hid (show encW p q = n ∧ encE p q = 0 from hp ▸ hq ▸ enc_dec hn hd)
  obtain ⟨W, hW, HB⟩ := box_vals w k x l y
  have HWE := Lib.hid hW
  have T0 := Lib.hid (show Two W w.heap.size k x l y from ⟨HB.out.2.1.1, HB.out.2.1.2, HB.out.2.2.1, HB.out.2.2.2⟩)
  clear ht hn ha hd hb hv hp hq hW
  go_enter Tryd.func5, Tryd.ntmps5
  go_wp2_with fail
  rw [HWE.out]
  go_at_call 6
  refine (enc_is HU.out HUE.out _).mono ?_
  rintro e w1 ⟨rfl, o⟩
  have O1 := Lib.hid (HB.out.1.trans o)
  have T1 := Lib.hid (T0.out.old o)
  obtain ⟨c0, c1, d0, d1⟩ := T1.out
  clear o
  go_wp2_with fail
  go_at_call 6
  refine (enc_is HV.out HVE.out _).mono ?_
  rintro e w2 ⟨rfl, o⟩
  have O2 := Lib.hid (O1.out.trans o)
  have T2 := Lib.hid (T1.out.old o)
  clear o c0 c1 d0 d1
  obtain ⟨c0, c1, d0, d1⟩ := T2.out
  go_wp2_with fail
  go_at_call 8
  refine (dec_is HN.out HP.out HQ.out HD.out _).mono ?_
  rintro e w5 ⟨rfl, o⟩
  have O5 := Lib.hid (O2.out.trans o)
  obtain ⟨W6, hW6, HB6⟩ := box_val w5 (p) (q)
  have HW6 := Lib.hid hW6
  have O6 := Lib.hid (O5.out.trans HB6.out.1)
  clear o hW6 c0 c1 d0 d1
  obtain ⟨-, g0, g1⟩ := HB6.out
  go_upto_region 10 with fail
  rw [HW6.out]
  go_wp2_with fail
  go_at_call 6
  refine (enc_is HZ.out.1 HZ.out.2 _).mono ?_
  rintro e w7 ⟨rfl, o⟩
  have O7 := Lib.hid (O6.out.trans o)
  clear o
  go_wp2_with fail
  go_at_call 12
  refine (awake06_any _ (HTab.out.old O7.out)).mono ?_
  rintro e w9 ⟨rfl, o⟩
  have O9 := Lib.hid (O7.out.trans o)
  clear o
  go_wp2
  go_ret
  exact ⟨rfl, O9.out⟩

set_option maxHeartbeats 1000000 in
theorem back_none1 (k x l y n : Int) (hn : 0 ≤ n ∧ n < 18446744073709551616) (ha : vmay k x = false) (hb : vmay l y = false) (hd : dE n = 0) (w : World) (ht : Tab w) : Calls Tryd.prog 5 #[.agg #[.int .i64 k, .int .i64 x], .agg #[.int .i64 l, .int .i64 y], .int .u64 n] w fun e w' => e = .returned (.bool true) ∧ Only nob w w' := by
  have HTab := Lib.hid ht
  have HN := Lib.hid hn
  have HU := Lib.hid (encW_no ha)
  have HUE := Lib.hid (encE_no ha)
  have HV := Lib.hid (encW_no hb)
  have HVE := Lib.hid (encE_no hb)
  have HD := Lib.hid hd
  obtain ⟨p, hp⟩ : ∃ p, dK n = p := ⟨_, rfl⟩
  obtain ⟨q, hq⟩ : ∃ q, dX n = q := ⟨_, rfl⟩
  have HP := Lib.hid hp
  have HQ := Lib.hid hq
  have HZ := Lib.hid (show encW p q = n ∧ encE p q = 0 from hp ▸ hq ▸ enc_dec hn hd)
  obtain ⟨W, hW, HB⟩ := box_vals w k x l y
  have HWE := Lib.hid hW
  have T0 := Lib.hid (show Two W w.heap.size k x l y from ⟨HB.out.2.1.1, HB.out.2.1.2, HB.out.2.2.1, HB.out.2.2.2⟩)
  clear ht hn ha hd hb hp hq hW
  go_enter Tryd.func5, Tryd.ntmps5
  go_wp2_with fail
  rw [HWE.out]
  go_at_call 6
  refine (enc_is HU.out HUE.out _).mono ?_
  rintro e w1 ⟨rfl, o⟩
  have O1 := Lib.hid (HB.out.1.trans o)
  have T1 := Lib.hid (T0.out.old o)
  obtain ⟨c0, c1, d0, d1⟩ := T1.out
  clear o
  go_wp2_with fail
  go_at_call 6
  refine (enc_is HV.out HVE.out _).mono ?_
  rintro e w2 ⟨rfl, o⟩
  have O2 := Lib.hid (O1.out.trans o)
  have T2 := Lib.hid (T1.out.old o)
  clear o c0 c1 d0 d1
  obtain ⟨c0, c1, d0, d1⟩ := T2.out
  go_wp2_with fail
  go_at_call 8
  refine (dec_is HN.out HP.out HQ.out HD.out _).mono ?_
  rintro e w5 ⟨rfl, o⟩
  have O5 := Lib.hid (O2.out.trans o)
  obtain ⟨W6, hW6, HB6⟩ := box_val w5 (p) (q)
  have HW6 := Lib.hid hW6
  have O6 := Lib.hid (O5.out.trans HB6.out.1)
  clear o hW6 c0 c1 d0 d1
  obtain ⟨-, g0, g1⟩ := HB6.out
  go_upto_region 10 with fail
  rw [HW6.out]
  go_wp2_with fail
  go_at_call 6
  refine (enc_is HZ.out.1 HZ.out.2 _).mono ?_
  rintro e w7 ⟨rfl, o⟩
  have O7 := Lib.hid (O6.out.trans o)
  clear o
  go_wp2_with fail
  go_at_call 12
  refine (awake06_any _ (HTab.out.old O7.out)).mono ?_
  rintro e w9 ⟨rfl, o⟩
  have O9 := Lib.hid (O7.out.trans o)
  clear o
  go_wp2
  go_ret
  exact ⟨rfl, O9.out⟩

set_option maxHeartbeats 1000000 in
theorem back_same0 (k x n : Int) (hn : 0 ≤ n ∧ n < 18446744073709551616) (ha : vmay k x = true) (hd : dE n = 3) (w : World) (ht : Tab w) : Calls Tryd.prog 5 #[.agg #[.int .i64 k, .int .i64 x], .agg #[.int .i64 k, .int .i64 x], .int .u64 n] w fun e w' => e = .returned (.bool true) ∧ Only nob w w' := by
  have HTab := Lib.hid ht
  have HN := Lib.hid hn
  obtain ⟨u, hu⟩ : ∃ u, encW k x = u := ⟨_, rfl⟩
  have HU := Lib.hid hu
  have HUE := Lib.hid (encE_yes ha)
  have HUI := Lib.hid (show 0 ≤ u ∧ u < 18446744073709551616 from hu ▸ encW_in k x)
  have HUD := Lib.hid (show dK u = k ∧ dX u = x ∧ dE u = 0 from hu ▸ dec_enc ha)
  have HD := Lib.hid hd
  have HP := Lib.hid (dE_no hd).1
  have HQ := Lib.hid (dE_no hd).2
  obtain ⟨W, hW, HB⟩ := box_vals w k x k x
  have HWE := Lib.hid hW
  have T0 := Lib.hid (show Two W w.heap.size k x k x from ⟨HB.out.2.1.1, HB.out.2.1.2, HB.out.2.2.1, HB.out.2.2.2⟩)
  clear ht hn ha hd hu hW
  go_enter Tryd.func5, Tryd.ntmps5
  go_wp2_with fail
  rw [HWE.out]
  go_at_call 6
  refine (enc_is HU.out HUE.out _).mono ?_
  rintro e w1 ⟨rfl, o⟩
  have O1 := Lib.hid (HB.out.1.trans o)
  have T1 := Lib.hid (T0.out.old o)
  obtain ⟨c0, c1, d0, d1⟩ := T1.out
  clear o
  go_wp2_with fail
  go_at_call 6
  refine (enc_is HU.out HUE.out _).mono ?_
  rintro e w2 ⟨rfl, o⟩
  have O2 := Lib.hid (O1.out.trans o)
  have T2 := Lib.hid (T1.out.old o)
  clear o c0 c1 d0 d1
  obtain ⟨c0, c1, d0, d1⟩ := T2.out
  go_wp2_with fail
  go_at_call 8
  refine (dec_is HUI.out HUD.out.1 HUD.out.2.1 HUD.out.2.2 _).mono ?_
  rintro e w3 ⟨rfl, o⟩
  have O3 := Lib.hid (O2.out.trans o)
  have T3 := Lib.hid (T2.out.old o)
  obtain ⟨W4, hW4, HB4⟩ := box_val w3 k x
  have HW4 := Lib.hid hW4
  have T4 := Lib.hid (T3.out.old HB4.out.1)
  have O4 := Lib.hid (O3.out.trans HB4.out.1)
  clear o hW4 c0 c1 d0 d1
  obtain ⟨c0, c1, d0, d1⟩ := T4.out
  obtain ⟨-, f0, f1⟩ := HB4.out
  go_upto_region 5 with fail
  rw [HW4.out]
  go_wp2_with fail
  go_at_call 8
  refine (dec_is HN.out HP.out HQ.out HD.out _).mono ?_
  rintro e w5 ⟨rfl, o⟩
  have O5 := Lib.hid (O4.out.trans o)
  obtain ⟨W6, hW6, HB6⟩ := box_val w5 (0) (0)
  have HW6 := Lib.hid hW6
  have O6 := Lib.hid (O5.out.trans HB6.out.1)
  clear o hW6 c0 c1 d0 d1
  obtain ⟨-, g0, g1⟩ := HB6.out
  go_upto_region 10 with fail
  rw [HW6.out]
  go_wp2_with fail
  go_at_call 12
  refine (awake06_any _ (HTab.out.old O6.out)).mono ?_
  rintro e w9 ⟨rfl, o⟩
  have O9 := Lib.hid (O6.out.trans o)
  clear o
  go_wp2
  go_ret
  exact ⟨rfl, O9.out⟩

set_option maxHeartbeats 1000000 in
theorem back_diffk0 (k x l y n : Int) (hn : 0 ≤ n ∧ n < 18446744073709551616) (ha : vmay k x = true) (hb : vmay l y = true) (hne : ¬ k = l) (hd : dE n = 3) (w : World) (ht : Tab w) : Calls Tryd.prog 5 #[.agg #[.int .i64 k, .int .i64 x], .agg #[.int .i64 l, .int .i64 y], .int .u64 n] w fun e w' => e = .returned (.bool true) ∧ Only nob w w' := by
  have HTab := Lib.hid ht
  have HN := Lib.hid hn
  obtain ⟨u, hu⟩ : ∃ u, encW k x = u := ⟨_, rfl⟩
  have HU := Lib.hid hu
  have HUE := Lib.hid (encE_yes ha)
  have HUI := Lib.hid (show 0 ≤ u ∧ u < 18446744073709551616 from hu ▸ encW_in k x)
  have HUD := Lib.hid (show dK u = k ∧ dX u = x ∧ dE u = 0 from hu ▸ dec_enc ha)
  obtain ⟨v, hv⟩ : ∃ v, encW l y = v := ⟨_, rfl⟩
  have HV := Lib.hid hv
  have HVE := Lib.hid (encE_yes hb)
  have huv : u ≠ v := fun e => hne (enc_inj ha hb ((hu.trans e).trans hv.symm)).1
  have HD := Lib.hid hd
  have HP := Lib.hid (dE_no hd).1
  have HQ := Lib.hid (dE_no hd).2
  obtain ⟨W, hW, HB⟩ := box_vals w k x l y
  have HWE := Lib.hid hW
  have T0 := Lib.hid (show Two W w.heap.size k x l y from ⟨HB.out.2.1.1, HB.out.2.1.2, HB.out.2.2.1, HB.out.2.2.2⟩)
  clear ht hn ha hd hb hu hv hW
  go_enter Tryd.func5, Tryd.ntmps5
  go_wp2_with fail
  rw [HWE.out]
  go_at_call 6
  refine (enc_is HU.out HUE.out _).mono ?_
  rintro e w1 ⟨rfl, o⟩
  have O1 := Lib.hid (HB.out.1.trans o)
  have T1 := Lib.hid (T0.out.old o)
  obtain ⟨c0, c1, d0, d1⟩ := T1.out
  clear o
  go_wp2_with fail
  go_at_call 6
  refine (enc_is HV.out HVE.out _).mono ?_
  rintro e w2 ⟨rfl, o⟩
  have O2 := Lib.hid (O1.out.trans o)
  have T2 := Lib.hid (T1.out.old o)
  clear o c0 c1 d0 d1
  obtain ⟨c0, c1, d0, d1⟩ := T2.out
  go_wp2_with fail
  go_at_call 8
  refine (dec_is HUI.out HUD.out.1 HUD.out.2.1 HUD.out.2.2 _).mono ?_
  rintro e w3 ⟨rfl, o⟩
  have O3 := Lib.hid (O2.out.trans o)
  have T3 := Lib.hid (T2.out.old o)
  obtain ⟨W4, hW4, HB4⟩ := box_val w3 k x
  have HW4 := Lib.hid hW4
  have T4 := Lib.hid (T3.out.old HB4.out.1)
  have O4 := Lib.hid (O3.out.trans HB4.out.1)
  clear o hW4 c0 c1 d0 d1
  obtain ⟨c0, c1, d0, d1⟩ := T4.out
  obtain ⟨-, f0, f1⟩ := HB4.out
  go_upto_region 5 with fail
  rw [HW4.out]
  go_wp2_with fail
  go_at_call 8
  refine (dec_is HN.out HP.out HQ.out HD.out _).mono ?_
  rintro e w5 ⟨rfl, o⟩
  have O5 := Lib.hid (O4.out.trans o)
  obtain ⟨W6, hW6, HB6⟩ := box_val w5 (0) (0)
  have HW6 := Lib.hid hW6
  have O6 := Lib.hid (O5.out.trans HB6.out.1)
  clear o hW6 c0 c1 d0 d1
  obtain ⟨-, g0, g1⟩ := HB6.out
  go_upto_region 10 with fail
  rw [HW6.out]
  go_wp2_with fail
  go_at_call 12
  refine (awake06_any _ (HTab.out.old O6.out)).mono ?_
  rintro e w9 ⟨rfl, o⟩
  have O9 := Lib.hid (O6.out.trans o)
  clear o
  go_wp2
  go_ret
  exact ⟨rfl, O9.out⟩

set_option maxHeartbeats 1000000 in
theorem back_diffx0 (k x y n : Int) (hn : 0 ≤ n ∧ n < 18446744073709551616) (ha : vmay k x = true) (hb : vmay k y = true) (hne : ¬ x = y) (hd : dE n = 3) (w : World) (ht : Tab w) : Calls Tryd.prog 5 #[.agg #[.int .i64 k, .int .i64 x], .agg #[.int .i64 k, .int .i64 y], .int .u64 n] w fun e w' => e = .returned (.bool true) ∧ Only nob w w' := by
  have HTab := Lib.hid ht
  have HN := Lib.hid hn
  obtain ⟨u, hu⟩ : ∃ u, encW k x = u := ⟨_, rfl⟩
  have HU := Lib.hid hu
  have HUE := Lib.hid (encE_yes ha)
  have HUI := Lib.hid (show 0 ≤ u ∧ u < 18446744073709551616 from hu ▸ encW_in k x)
  have HUD := Lib.hid (show dK u = k ∧ dX u = x ∧ dE u = 0 from hu ▸ dec_enc ha)
  obtain ⟨v, hv⟩ : ∃ v, encW k y = v := ⟨_, rfl⟩
  have HV := Lib.hid hv
  have HVE := Lib.hid (encE_yes hb)
  have huv : u ≠ v := fun e => hne (enc_inj ha hb ((hu.trans e).trans hv.symm)).2
  have HD := Lib.hid hd
  have HP := Lib.hid (dE_no hd).1
  have HQ := Lib.hid (dE_no hd).2
  obtain ⟨W, hW, HB⟩ := box_vals w k x k y
  have HWE := Lib.hid hW
  have T0 := Lib.hid (show Two W w.heap.size k x k y from ⟨HB.out.2.1.1, HB.out.2.1.2, HB.out.2.2.1, HB.out.2.2.2⟩)
  clear ht hn ha hd hb hu hv hW
  go_enter Tryd.func5, Tryd.ntmps5
  go_wp2_with fail
  rw [HWE.out]
  go_at_call 6
  refine (enc_is HU.out HUE.out _).mono ?_
  rintro e w1 ⟨rfl, o⟩
  have O1 := Lib.hid (HB.out.1.trans o)
  have T1 := Lib.hid (T0.out.old o)
  obtain ⟨c0, c1, d0, d1⟩ := T1.out
  clear o
  go_wp2_with fail
  go_at_call 6
  refine (enc_is HV.out HVE.out _).mono ?_
  rintro e w2 ⟨rfl, o⟩
  have O2 := Lib.hid (O1.out.trans o)
  have T2 := Lib.hid (T1.out.old o)
  clear o c0 c1 d0 d1
  obtain ⟨c0, c1, d0, d1⟩ := T2.out
  go_wp2_with fail
  go_at_call 8
  refine (dec_is HUI.out HUD.out.1 HUD.out.2.1 HUD.out.2.2 _).mono ?_
  rintro e w3 ⟨rfl, o⟩
  have O3 := Lib.hid (O2.out.trans o)
  have T3 := Lib.hid (T2.out.old o)
  obtain ⟨W4, hW4, HB4⟩ := box_val w3 k x
  have HW4 := Lib.hid hW4
  have T4 := Lib.hid (T3.out.old HB4.out.1)
  have O4 := Lib.hid (O3.out.trans HB4.out.1)
  clear o hW4 c0 c1 d0 d1
  obtain ⟨c0, c1, d0, d1⟩ := T4.out
  obtain ⟨-, f0, f1⟩ := HB4.out
  go_upto_region 5 with fail
  rw [HW4.out]
  go_wp2_with fail
  go_at_call 8
  refine (dec_is HN.out HP.out HQ.out HD.out _).mono ?_
  rintro e w5 ⟨rfl, o⟩
  have O5 := Lib.hid (O4.out.trans o)
  obtain ⟨W6, hW6, HB6⟩ := box_val w5 (0) (0)
  have HW6 := Lib.hid hW6
  have O6 := Lib.hid (O5.out.trans HB6.out.1)
  clear o hW6 c0 c1 d0 d1
  obtain ⟨-, g0, g1⟩ := HB6.out
  go_upto_region 10 with fail
  rw [HW6.out]
  go_wp2_with fail
  go_at_call 12
  refine (awake06_any _ (HTab.out.old O6.out)).mono ?_
  rintro e w9 ⟨rfl, o⟩
  have O9 := Lib.hid (O6.out.trans o)
  clear o
  go_wp2
  go_ret
  exact ⟨rfl, O9.out⟩

set_option maxHeartbeats 1000000 in
theorem back_a0 (k x l y n : Int) (hn : 0 ≤ n ∧ n < 18446744073709551616) (ha : vmay k x = true) (hb : vmay l y = false) (hd : dE n = 3) (w : World) (ht : Tab w) : Calls Tryd.prog 5 #[.agg #[.int .i64 k, .int .i64 x], .agg #[.int .i64 l, .int .i64 y], .int .u64 n] w fun e w' => e = .returned (.bool true) ∧ Only nob w w' := by
  have HTab := Lib.hid ht
  have HN := Lib.hid hn
  obtain ⟨u, hu⟩ : ∃ u, encW k x = u := ⟨_, rfl⟩
  have HU := Lib.hid hu
  have HUE := Lib.hid (encE_yes ha)
  have HUI := Lib.hid (show 0 ≤ u ∧ u < 18446744073709551616 from hu ▸ encW_in k x)
  have HUD := Lib.hid (show dK u = k ∧ dX u = x ∧ dE u = 0 from hu ▸ dec_enc ha)
  have HV := Lib.hid (encW_no hb)
  have HVE := Lib.hid (encE_no hb)
  have HD := Lib.hid hd
  have HP := Lib.hid (dE_no hd).1
  have HQ := Lib.hid (dE_no hd).2
  obtain ⟨W, hW, HB⟩ := box_vals w k x l y
  have HWE := Lib.hid hW
  have T0 := Lib.hid (show Two W w.heap.size k x l y from ⟨HB.out.2.1.1, HB.out.2.1.2, HB.out.2.2.1, HB.out.2.2.2⟩)
  clear ht hn ha hd hb hu hW
  go_enter Tryd.func5, Tryd.ntmps5
  go_wp2_with fail
  rw [HWE.out]
  go_at_call 6
  refine (enc_is HU.out HUE.out _).mono ?_
  rintro e w1 ⟨rfl, o⟩
  have O1 := Lib.hid (HB.out.1.trans o)
  have T1 := Lib.hid (T0.out.old o)
  obtain ⟨c0, c1, d0, d1⟩ := T1.out
  clear o
  go_wp2_with fail
  go_at_call 6
  refine (enc_is HV.out HVE.out _).mono ?_
  rintro e w2 ⟨rfl, o⟩
  have O2 := Lib.hid (O1.out.trans o)
  have T2 := Lib.hid (T1.out.old o)
  clear o c0 c1 d0 d1
  obtain ⟨c0, c1, d0, d1⟩ := T2.out
  go_wp2_with fail
  go_at_call 8
  refine (dec_is HUI.out HUD.out.1 HUD.out.2.1 HUD.out.2.2 _).mono ?_
  rintro e w3 ⟨rfl, o⟩
  have O3 := Lib.hid (O2.out.trans o)
  have T3 := Lib.hid (T2.out.old o)
  obtain ⟨W4, hW4, HB4⟩ := box_val w3 k x
  have HW4 := Lib.hid hW4
  have T4 := Lib.hid (T3.out.old HB4.out.1)
  have O4 := Lib.hid (O3.out.trans HB4.out.1)
  clear o hW4 c0 c1 d0 d1
  obtain ⟨c0, c1, d0, d1⟩ := T4.out
  obtain ⟨-, f0, f1⟩ := HB4.out
  go_upto_region 5 with fail
  rw [HW4.out]
  go_wp2_with fail
  go_at_call 8
  refine (dec_is HN.out HP.out HQ.out HD.out _).mono ?_
  rintro e w5 ⟨rfl, o⟩
  have O5 := Lib.hid (O4.out.trans o)
  obtain ⟨W6, hW6, HB6⟩ := box_val w5 (0) (0)
  have HW6 := Lib.hid hW6
  have O6 := Lib.hid (O5.out.trans HB6.out.1)
  clear o hW6 c0 c1 d0 d1
  obtain ⟨-, g0, g1⟩ := HB6.out
  go_upto_region 10 with fail
  rw [HW6.out]
  go_wp2_with fail
  go_at_call 12
  refine (awake06_any _ (HTab.out.old O6.out)).mono ?_
  rintro e w9 ⟨rfl, o⟩
  have O9 := Lib.hid (O6.out.trans o)
  clear o
  go_wp2
  go_ret
  exact ⟨rfl, O9.out⟩

set_option maxHeartbeats 1000000 in
theorem back_b0 (k x l y n : Int) (hn : 0 ≤ n ∧ n < 18446744073709551616) (ha : vmay k x = false) (hb : vmay l y = true) (hd : dE n = 3) (w : World) (ht : Tab w) : Calls Tryd.prog 5 #[.agg #[.int .i64 k, .int .i64 x], .agg #[.int .i64 l, .int .i64 y], .int .u64 n] w fun e w' => e = .returned (.bool true) ∧ Only nob w w' := by
  have HTab := Lib.hid ht
  have HN := Lib.hid hn
  have HU := Lib.hid (encW_no ha)
  have HUE := Lib.hid (encE_no ha)
  obtain ⟨v, hv⟩ : ∃ v, encW l y = v := ⟨_, rfl⟩
  have HV := Lib.hid hv
  have HVE := Lib.hid (encE_yes hb)
  have HD := Lib.hid hd
  have HP := Lib.hid (dE_no hd).1
  have HQ := Lib.hid (dE_no hd).2
  obtain ⟨W, hW, HB⟩ := box_vals w k x l y
  have HWE := Lib.hid hW
  have T0 := Lib.hid (show Two W w.heap.size k x l y from ⟨HB.out.2.1.1, HB.out.2.1.2, HB.out.2.2.1, HB.out.2.2.2⟩)
  clear ht hn ha hd hb hv hW
  go_enter Tryd.func5, Tryd.ntmps5
  go_wp2_with fail
  rw [HWE.out]
  go_at_call 6
  refine (enc_is HU.out HUE.out _).mono ?_
  rintro e w1 ⟨rfl, o⟩
  have O1 := Lib.hid (HB.out.1.trans o)
  have T1 := Lib.hid (T0.out.old o)
  obtain ⟨c0, c1, d0, d1⟩ := T1.out
  clear o
  go_wp2_with fail
  go_at_call 6
  refine (enc_is HV.out HVE.out _).mono ?_
  rintro e w2 ⟨rfl, o⟩
  have O2 := Lib.hid (O1.out.trans o)
  have T2 := Lib.hid (T1.out.old o)
  clear o c0 c1 d0 d1
  obtain ⟨c0, c1, d0, d1⟩ := T2.out
  go_wp2_with fail
  go_at_call 8
  refine (dec_is HN.out HP.out HQ.out HD.out _).mono ?_
  rintro e w5 ⟨rfl, o⟩
  have O5 := Lib.hid (O2.out.trans o)
  obtain ⟨W6, hW6, HB6⟩ := box_val w5 (0) (0)
  have HW6 := Lib.hid hW6
  have O6 := Lib.hid (O5.out.trans HB6.out.1)
  clear o hW6 c0 c1 d0 d1
  obtain ⟨-, g0, g1⟩ := HB6.out
  go_upto_region 10 with fail
  rw [HW6.out]
  go_wp2_with fail
  go_at_call 12
  refine (awake06_any _ (HTab.out.old O6.out)).mono ?_
  rintro e w9 ⟨rfl, o⟩
  have O9 := Lib.hid (O6.out.trans o)
  clear o
  go_wp2
  go_ret
  exact ⟨rfl, O9.out⟩

set_option maxHeartbeats 1000000 in
theorem back_none0 (k x l y n : Int) (hn : 0 ≤ n ∧ n < 18446744073709551616) (ha : vmay k x = false) (hb : vmay l y = false) (hd : dE n = 3) (w : World) (ht : Tab w) : Calls Tryd.prog 5 #[.agg #[.int .i64 k, .int .i64 x], .agg #[.int .i64 l, .int .i64 y], .int .u64 n] w fun e w' => e = .returned (.bool true) ∧ Only nob w w' := by
  have HTab := Lib.hid ht
  have HN := Lib.hid hn
  have HU := Lib.hid (encW_no ha)
  have HUE := Lib.hid (encE_no ha)
  have HV := Lib.hid (encW_no hb)
  have HVE := Lib.hid (encE_no hb)
  have HD := Lib.hid hd
  have HP := Lib.hid (dE_no hd).1
  have HQ := Lib.hid (dE_no hd).2
  obtain ⟨W, hW, HB⟩ := box_vals w k x l y
  have HWE := Lib.hid hW
  have T0 := Lib.hid (show Two W w.heap.size k x l y from ⟨HB.out.2.1.1, HB.out.2.1.2, HB.out.2.2.1, HB.out.2.2.2⟩)
  clear ht hn ha hd hb hW
  go_enter Tryd.func5, Tryd.ntmps5
  go_wp2_with fail
  rw [HWE.out]
  go_at_call 6
  refine (enc_is HU.out HUE.out _).mono ?_
  rintro e w1 ⟨rfl, o⟩
  have O1 := Lib.hid (HB.out.1.trans o)
  have T1 := Lib.hid (T0.out.old o)
  obtain ⟨c0, c1, d0, d1⟩ := T1.out
  clear o
  go_wp2_with fail
  go_at_call 6
  refine (enc_is HV.out HVE.out _).mono ?_
  rintro e w2 ⟨rfl, o⟩
  have O2 := Lib.hid (O1.out.trans o)
  have T2 := Lib.hid (T1.out.old o)
  clear o c0 c1 d0 d1
  obtain ⟨c0, c1, d0, d1⟩ := T2.out
  go_wp2_with fail
  go_at_call 8
  refine (dec_is HN.out HP.out HQ.out HD.out _).mono ?_
  rintro e w5 ⟨rfl, o⟩
  have O5 := Lib.hid (O2.out.trans o)
  obtain ⟨W6, hW6, HB6⟩ := box_val w5 (0) (0)
  have HW6 := Lib.hid hW6
  have O6 := Lib.hid (O5.out.trans HB6.out.1)
  clear o hW6 c0 c1 d0 d1
  obtain ⟨-, g0, g1⟩ := HB6.out
  go_upto_region 10 with fail
  rw [HW6.out]
  go_wp2_with fail
  go_at_call 12
  refine (awake06_any _ (HTab.out.old O6.out)).mono ?_
  rintro e w9 ⟨rfl, o⟩
  have O9 := Lib.hid (O6.out.trans o)
  clear o
  go_wp2
  go_ret
  exact ⟨rfl, O9.out⟩

theorem valueBack_walk (k x l y n : Int) (hn : 0 ≤ n ∧ n < 18446744073709551616) (w : World) (ht : Tab w) : Calls Tryd.prog 5 #[.agg #[.int .i64 k, .int .i64 x], .agg #[.int .i64 l, .int .i64 y], .int .u64 n] w fun e w' => e = .returned (.bool true) ∧ Below w.heap.size w w' := by
  refine Calls.mono (R := fun e w' => e = .returned (.bool true) ∧ Only nob w w') ?_ fun e w' h => ⟨h.1, h.2.whole⟩
  rcases ha : vmay k x with _ | _
  · rcases hb : vmay l y with _ | _
    · rcases e_two n with hd | hd
      · exact back_none1 k x l y n hn ha hb hd w ht
      · exact back_none0 k x l y n hn ha hb hd w ht
    · rcases e_two n with hd | hd
      · exact back_b1 k x l y n hn ha hb hd w ht
      · exact back_b0 k x l y n hn ha hb hd w ht
  · rcases hb : vmay l y with _ | _
    · rcases e_two n with hd | hd
      · exact back_a1 k x l y n hn ha hb hd w ht
      · exact back_a0 k x l y n hn ha hb hd w ht
    · by_cases hne : k = l ∧ x = y
      · obtain ⟨rfl, rfl⟩ := hne
        rcases e_two n with hd | hd
        · exact back_same1 k x n hn ha hd w ht
        · exact back_same0 k x n hn ha hd w ht
      · by_cases hk : k = l
        · subst hk
          rcases e_two n with hd | hd
          · exact back_diffx1 k x y n hn ha hb (fun e => hne ⟨rfl, e⟩) hd w ht
          · exact back_diffx0 k x y n hn ha hb (fun e => hne ⟨rfl, e⟩) hd w ht
        · rcases e_two n with hd | hd
          · exact back_diffk1 k x l y n hn ha hb hk hd w ht
          · exact back_diffk0 k x l y n hn ha hb hk hd w ht
end Go.Proofs.YtjnkcngicjghbaaDoor
