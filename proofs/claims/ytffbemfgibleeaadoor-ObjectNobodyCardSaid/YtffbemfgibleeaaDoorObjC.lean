/- Contracts of package object: Put and SetHead. -/
import Derived.Test.YtffbemfgibleeaaDoorObjB
namespace Go.Proofs.YtffbemfgibleeaaDoor
open Go.RowKit

theorem pt_may {l : List Nat} {a k f r c : Int} (m : Bool) (h : hmay k f r c = false) : ptE l a k f r c = 1 ∧ ptL l a k f r m c = l := by
  have : ptE l a k f r c = 1 := by unfold ptE; rw [if_neg (by rw [h]; decide)]
  exact ⟨this, by unfold ptL; rw [if_neg (by rw [this]; decide)]⟩
theorem pt_far {l : List Nat} {a k f r c : Int} (m : Bool) (h : hmay k f r c = true) (hf : ¬ (0 ≤ a ∧ 1 + f + r ≤ (l.length : Int) - a)) : ptE l a k f r c = 2 ∧ ptL l a k f r m c = l := by
  have : ptE l a k f r c = 2 := by unfold ptE; rw [if_pos h, if_neg hf]
  exact ⟨this, by unfold ptL; rw [if_neg (by rw [this]; decide)]⟩
theorem pt_yes {l : List Nat} {a k f r c : Int} (m : Bool) (h : hmay k f r c = true) (hf : 0 ≤ a ∧ 1 + f + r ≤ (l.length : Int) - a) : ptE l a k f r c = 0 ∧ ptL l a k f r m c = (filled l a.toNat (1 + f + r).toNat 0).set a.toNat (hW k f r m c).toNat := by
  have : ptE l a k f r c = 0 := by unfold ptE; rw [if_pos h, if_pos hf]
  exact ⟨this, by unfold ptL; rw [if_pos this]⟩
theorem sh_head {l : List Nat} {a k f r c : Int} (m : Bool) (h : ohE l a ≠ 0) : shE l a k f r c = ohE l a ∧ shL l a k f r m c = l := by
  have : shE l a k f r c = ohE l a := by unfold shE; rw [if_neg h]
  exact ⟨this, by unfold shL; rw [if_neg (by rw [this]; exact h)]⟩
theorem sh_no {l : List Nat} {a k f r c : Int} (m : Bool) (h : ohE l a = 0) (hk : ¬ (hmay k f r c = true ∧ f + r = ohF l a + ohR l a)) : shE l a k f r c = 1 ∧ shL l a k f r m c = l := by
  have : shE l a k f r c = 1 := by unfold shE; rw [if_pos h, if_neg hk]
  exact ⟨this, by unfold shL; rw [if_neg (by rw [this]; decide)]⟩
theorem sh_yes {l : List Nat} {a k f r c : Int} (m : Bool) (h : ohE l a = 0) (hk : hmay k f r c = true ∧ f + r = ohF l a + ohR l a) : shE l a k f r c = 0 ∧ shL l a k f r m c = l.set a.toNat (hW k f r m c).toNat := by
  have : shE l a k f r c = 0 := by unfold shE; rw [if_pos h, if_pos hk]
  exact ⟨this, by unfold shL; rw [if_pos this]⟩

set_option maxRecDepth 100000 in
set_option maxHeartbeats 1000000 in
theorem oPut_any (b g : Nat) (l : List Nat) (a k f r : Int) (m : Bool) (c : Int) (w : World) (h : Ar w b g l) (hp : Par w) (ha : a ≤ 9223372036854775807) :
    Calls Tryd.prog 19 #[.pointer (some ⟨b, 0, none⟩), .int .i64 a, .agg #[.int .i64 k, .int .i64 f, .int .i64 r, .bool m, .int .i64 c]] w fun e w' => e = .returned (.int .i64 (ptE l a k f r c)) ∧ Ar w' b g (ptL l a k f r m c) ∧ Only (isb g) w w' := by
  obtain ⟨W, hW0, HB⟩ := box_head w k f r m c
  have HWE := Lib.hid hW0
  have HP := Lib.hid (hp.old HB.out.1)
  have HA := Lib.hid (h.keep HB.out.1 id id)
  have HEnc := Lib.hid (hEnc_any k f r m c W HP.out)
  have hl := h.few
  obtain ⟨c0, c1, c2, c3, c4⟩ := cells5 HB.out.2
  clear hW0 h hp
  rcases hm : hmay k f r c with _ | _
  · obtain ⟨hq1, hq2⟩ := pt_may (l := l) (a := a) m hm
    rw [hq1, hq2]
    rw [hEW_no m hm, hEE_no hm] at HEnc
    clear hq1 hq2 hm
    go_enter Tryd.func19, Tryd.ntmps19
    go_wp2_with fail
    rw [HWE.out]
    go_at_call 39
    refine HEnc.out.mono ?_
    rintro e w1 ⟨rfl, o⟩
    have O1 := Lib.hid (HB.out.1.trans o)
    have A1 := Lib.hid (HA.out.keep o id id)
    clear o c0 c1 c2 c3 c4
    go_wp2
    go_ret
    exact ⟨rfl, A1.out, O1.out.mono fun _ _ h => h.elim⟩
  · rw [hEW_yes m hm, hEE_yes hm] at HEnc
    have hwl := hW_lt m hm
    have hmb := hmay_iff.1 hm
    obtain ⟨x, hx⟩ : ∃ x : Nat, hW k f r m c = x := ⟨(hW k f r m c).toNat, by omega⟩
    obtain ⟨n, hn⟩ : ∃ n : Nat, 1 + f + r = n := ⟨(1 + f + r).toNat, by omega⟩
    have HS := Lib.hid ((hSz_yes hm).trans hn)
    have hn1 : 1 ≤ n := by omega
    have hxl : x < full := by unfold full; omega
    rw [hx] at HEnc
    by_cases hf : 0 ≤ a ∧ 1 + f + r ≤ (l.length : Int) - a
    · obtain ⟨hq1, hq2⟩ := pt_yes m hm hf
      rw [hq1, hq2, hx, hn, Int.toNat_natCast, Int.toNat_natCast]
      obtain ⟨p, rfl⟩ : ∃ p : Nat, a = p := ⟨a.toNat, by omega⟩
      rw [Int.toNat_natCast]
      have hpn : p + n ≤ l.length := by omega
      have HPN := Lib.hid hpn
      have HXL := Lib.hid hxl
      have HPL := Lib.hid (show p < (filled l p n 0).length by rw [filled_len l p n 0 hpn]; omega)
      clear hq1 hq2 hm hwl hmb hx hn hn1 hxl hf hpn
      go_enter Tryd.func19, Tryd.ntmps19
      go_wp2_with fail
      rw [HWE.out]
      go_at_call 39
      refine HEnc.out.mono ?_
      rintro e w1 ⟨rfl, o⟩
      have O1 := Lib.hid (HB.out.1.trans o)
      have A1 := Lib.hid (HA.out.keep o id id)
      have P1 := Lib.hid (HP.out.old o)
      have B1 := Lib.hid (HB.out.2.keep o id)
      clear o c0 c1 c2 c3 c4
      obtain ⟨c0, c1, c2, c3, c4⟩ := cells5 B1.out
      go_wp2_with fail
      go_at_call 30
      refine (hSize_any k f r m c _ P1.out).mono ?_
      rw [HS.out]
      rintro e w2 ⟨rfl, o⟩
      have O2 := Lib.hid (O1.out.trans o)
      have A2 := Lib.hid (A1.out.keep o id id)
      clear o c0 c1 c2 c3 c4
      go_wp2_with fail
      go_at_call 40
      refine (fill_ar b g l p n 0 _ A2.out HPN.out (by decide)).mono ?_
      rintro e w3 ⟨rfl, hA3, o⟩
      have A3 := Lib.hid hA3
      have O3 := Lib.hid ((O2.out.mono (G := isb g) fun _ _ h => h.elim).trans o)
      clear hA3 o
      go_wp2_with fail
      go_at_call 38
      refine (write_ar b g _ p x _ A3.out HPL.out HXL.out).mono ?_
      rintro e w4 ⟨rfl, hA4, o⟩
      have A4 := Lib.hid hA4
      have O4 := Lib.hid (O3.out.trans o)
      clear hA4 o
      go_wp2
      go_ret
      exact ⟨rfl, A4.out, O4.out⟩
    · obtain ⟨hq1, hq2⟩ := pt_far m hm hf
      rw [hq1, hq2]
      have hnf : ¬ Fits l.length a n := by unfold Fits; omega
      have HF := Lib.hid (fun w h => fill_ar_no b g l a n 0 w h ha hnf)
      rw [show eno n = 2 from if_neg (by omega)] at HF
      clear hq1 hq2 hm hwl hmb hx hn hn1 hxl hf hnf
      go_enter Tryd.func19, Tryd.ntmps19
      go_wp2_with fail
      rw [HWE.out]
      go_at_call 39
      refine HEnc.out.mono ?_
      rintro e w1 ⟨rfl, o⟩
      have O1 := Lib.hid (HB.out.1.trans o)
      have A1 := Lib.hid (HA.out.keep o id id)
      have P1 := Lib.hid (HP.out.old o)
      have B1 := Lib.hid (HB.out.2.keep o id)
      clear o c0 c1 c2 c3 c4
      obtain ⟨c0, c1, c2, c3, c4⟩ := cells5 B1.out
      go_wp2_with fail
      go_at_call 30
      refine (hSize_any k f r m c _ P1.out).mono ?_
      rw [HS.out]
      rintro e w2 ⟨rfl, o⟩
      have O2 := Lib.hid (O1.out.trans o)
      have A2 := Lib.hid (A1.out.keep o id id)
      clear o c0 c1 c2 c3 c4
      go_wp2_with fail
      go_at_call 40
      refine (HF.out _ A2.out).mono ?_
      rintro e w3 ⟨rfl, rfl⟩
      go_wp2
      go_ret
      exact ⟨rfl, A2.out, O2.out.mono fun _ _ h => h.elim⟩

set_option maxRecDepth 100000 in
set_option maxHeartbeats 1000000 in
theorem oSetHead_any (b g : Nat) (l : List Nat) (a k f r : Int) (m : Bool) (c : Int) (w : World) (h : Ar w b g l) (hp : Par w) (ha : a ≤ 9223372036854775807) :
    Calls Tryd.prog 20 #[.pointer (some ⟨b, 0, none⟩), .int .i64 a, .agg #[.int .i64 k, .int .i64 f, .int .i64 r, .bool m, .int .i64 c]] w fun e w' => e = .returned (.int .i64 (shE l a k f r c)) ∧ Ar w' b g (shL l a k f r m c) ∧ Only (isb g) w w' := by
  have mixed : Tryd.prog.follows .mixedOrders = true := by kernel_rfl
  obtain ⟨W, hW0, HB⟩ := box_head w k f r m c
  have HWE := Lib.hid hW0
  have HP := Lib.hid (hp.old HB.out.1)
  have HA := Lib.hid (h.keep HB.out.1 id id)
  have HH := Lib.hid (oHead_any b g l a W HA.out HP.out ha)
  have HEnc := Lib.hid (fun w h => hEnc_any k f r m c w h)
  clear hW0 h hp ha
  by_cases h0 : ohE l a = 0
  · obtain ⟨hb1, hb2, hb3, hb4, -, -, hb7⟩ := oh_bounds h0
    rw [h0] at HH
    have hz := hSz_yes hb7
    rcases hm : hmay k f r c with _ | _
    · obtain ⟨hq1, hq2⟩ := sh_no m h0 (k := k) (f := f) (r := r) (c := c) (fun hx => by rw [hm] at hx; exact absurd hx.1 (by decide))
      rw [hq1, hq2]
      rw [hEW_no m hm, hEE_no hm] at HEnc
      clear hq1 hq2 hm hb1 hb2 hb3 hb4 hb7 hz h0
      generalize ohK l a = K at *
      generalize ohF l a = F at *
      generalize ohR l a = R at *
      generalize ohM l a = M at *
      generalize ohC l a = C at *
      go_enter Tryd.func20, Tryd.ntmps20
      go_wp2_with fail
      rw [HWE.out]
      go_at_call 12
      refine HH.out.mono ?_
      rintro e w1 ⟨rfl, o⟩
      obtain ⟨W3, hW3, HB3⟩ := box_head w1 K F R M C
      have HW3 := Lib.hid hW3
      have O3 := Lib.hid (HB.out.1.trans (o.trans HB3.out.1))
      have B3 := Lib.hid (HB.out.2.keep (o.trans HB3.out.1) id)
      have A3 := Lib.hid (HA.out.keep (o.trans HB3.out.1) id id)
      have P3 := Lib.hid (HP.out.old (o.trans HB3.out.1))
      clear hW3 o
      go_upto_region 2 with fail
      rw [HW3.out]
      obtain ⟨c0, c1, c2, c3, c4⟩ := cells5 B3.out
      go_wp2_with fail
      go_at_call 39
      refine (HEnc.out _ P3.out).mono ?_
      rintro e w4 ⟨rfl, o⟩
      have O4 := Lib.hid (O3.out.trans o)
      have A4 := Lib.hid (A3.out.keep o id id)
      clear o c0 c1 c2 c3 c4
      go_wp2
      go_ret
      exact ⟨rfl, A4.out, O4.out.mono fun _ _ h => h.elim⟩
    · rw [hEW_yes m hm, hEE_yes hm] at HEnc
      have hwl := hW_lt m hm
      obtain ⟨x, hx⟩ : ∃ x : Nat, hW k f r m c = x := ⟨(hW k f r m c).toNat, by omega⟩
      have HXL := Lib.hid (show x < full by unfold full; omega)
      have hz2 := hSz_yes hm
      rw [hx] at HEnc
      obtain ⟨s, hs⟩ : ∃ s, s = hSz k f r c := ⟨_, rfl⟩
      obtain ⟨t, ht⟩ : ∃ t, t = hSz (ohK l a) (ohF l a) (ohR l a) (ohC l a) := ⟨_, rfl⟩
      have HS1 := Lib.hid (show ∀ w, Par w → Calls Tryd.prog 30 #[.agg #[.int .i64 k, .int .i64 f, .int .i64 r, .bool m, .int .i64 c]] w fun e w' => e = .returned (.int .i64 s) ∧ Only nob w w' from hs ▸ hSize_any k f r m c)
      have HS2 := Lib.hid (show ∀ w, Par w → Calls Tryd.prog 30 #[.agg #[.int .i64 (ohK l a), .int .i64 (ohF l a), .int .i64 (ohR l a), .bool (ohM l a), .int .i64 (ohC l a)]] w fun e w' => e = .returned (.int .i64 t) ∧ Only nob w w' from ht ▸ hSize_any _ _ _ (ohM l a) _)
      by_cases hst : s = t
      case' pos =>
        obtain ⟨hq1, hq2⟩ := sh_yes m h0 ⟨hm, show f + r = ohF l a + ohR l a by omega⟩
        rw [hq1, hq2, hx, Int.toNat_natCast]
        obtain ⟨p, hpa, hob⟩ := ob_of h0
        have HPL := Lib.hid hob.there
        subst hpa
        rw [Int.toNat_natCast]
        subst hst
        clear hob
      case' neg =>
        obtain ⟨hq1, hq2⟩ := sh_no m h0 (k := k) (f := f) (r := r) (c := c) (fun hx => hst (by omega))
        rw [hq1, hq2]
        have hst' : (s == t) = false := by simpa using hst
      all_goals
        clear hq1 hq2 hm hwl hz2 hz hb1 hb2 hb3 hb4 hb7 h0 hx hs ht
      case pos =>
        generalize ohK l p = K at *
        generalize ohF l p = F at *
        generalize ohR l p = R at *
        generalize ohM l p = M at *
        generalize ohC l p = C at *
        go_enter Tryd.func20, Tryd.ntmps20
        go_wp2_with fail
        rw [HWE.out]
        go_at_call 12
        refine HH.out.mono ?_
        rintro e w1 ⟨rfl, o⟩
        obtain ⟨W3, hW3, HB3⟩ := box_head w1 K F R M C
        have HW3 := Lib.hid hW3
        have O3 := Lib.hid (HB.out.1.trans (o.trans HB3.out.1))
        have B3 := Lib.hid (HB.out.2.keep (o.trans HB3.out.1) id)
        have A3 := Lib.hid (HA.out.keep (o.trans HB3.out.1) id id)
        have P3 := Lib.hid (HP.out.old (o.trans HB3.out.1))
        clear hW3 o
        go_upto_region 2 with fail
        rw [HW3.out]
        obtain ⟨c0, c1, c2, c3, c4⟩ := cells5 B3.out
        go_wp2_with fail
        go_at_call 39
        refine (HEnc.out _ P3.out).mono ?_
        rintro e w4 ⟨rfl, o⟩
        have O4 := Lib.hid (O3.out.trans o)
        have A4 := Lib.hid (A3.out.keep o id id)
        have P4 := Lib.hid (P3.out.old o)
        have B4 := Lib.hid (B3.out.keep o id)
        have C4 := Lib.hid (HB3.out.2.keep o id)
        clear o c0 c1 c2 c3 c4
        go_wp2_with fail
        obtain ⟨c0, c1, c2, c3, c4⟩ := cells5 B4.out
        obtain ⟨d0, d1, d2, d3, d4⟩ := cells5 C4.out
        replace c0 := wat_cell c0
        replace c1 := wat_cell c1
        replace c2 := wat_cell c2
        replace c3 := wat_cell c3
        replace c4 := wat_cell c4
        replace d0 := wat_cell d0
        replace d1 := wat_cell d1
        replace d2 := wat_cell d2
        replace d3 := wat_cell d3
        replace d4 := wat_cell d4
        refine wp_region_only mixed (by kernel_rfl) ?_
        repeat (quiet_step ((go_at_call 30; first | (with_reducible refine wat_call (HS1.out _ (P4.out.old (only_wat _ _ _)))) | (with_reducible refine wat_call (HS2.out _ (P4.out.old (only_wat _ _ _)))))))
        refine wpQuiet_nil ?_
        rintro w' ⟨⟨nq, osq⟩, rfl⟩
        obtain ⟨W5, hW5, O5⟩ := wat_name w4 nq osq
        rw [hW5]
        have A5 := Lib.hid (A4.out.keep O5.out id id)
        have O6 := Lib.hid (O4.out.trans O5.out)
        clear hW5 c0 c1 c2 c3 c4 d0 d1 d2 d3 d4
        go_wp2_with fail
        go_at_call 38
        refine (write_ar b g _ p x _ A5.out HPL.out HXL.out).mono ?_
        rintro e w7 ⟨rfl, hA7, o⟩
        have A7 := Lib.hid hA7
        have O7 := Lib.hid ((O6.out.mono (G := isb g) fun _ _ h => h.elim).trans o)
        clear hA7 o
        go_wp2
        go_ret
        exact ⟨rfl, A7.out, O7.out⟩
      case neg =>
        generalize ohK l a = K at *
        generalize ohF l a = F at *
        generalize ohR l a = R at *
        generalize ohM l a = M at *
        generalize ohC l a = C at *
        go_enter Tryd.func20, Tryd.ntmps20
        go_wp2_with fail
        rw [HWE.out]
        go_at_call 12
        refine HH.out.mono ?_
        rintro e w1 ⟨rfl, o⟩
        obtain ⟨W3, hW3, HB3⟩ := box_head w1 K F R M C
        have HW3 := Lib.hid hW3
        have O3 := Lib.hid (HB.out.1.trans (o.trans HB3.out.1))
        have B3 := Lib.hid (HB.out.2.keep (o.trans HB3.out.1) id)
        have A3 := Lib.hid (HA.out.keep (o.trans HB3.out.1) id id)
        have P3 := Lib.hid (HP.out.old (o.trans HB3.out.1))
        clear hW3 o
        go_upto_region 2 with fail
        rw [HW3.out]
        obtain ⟨c0, c1, c2, c3, c4⟩ := cells5 B3.out
        go_wp2_with fail
        go_at_call 39
        refine (HEnc.out _ P3.out).mono ?_
        rintro e w4 ⟨rfl, o⟩
        have O4 := Lib.hid (O3.out.trans o)
        have A4 := Lib.hid (A3.out.keep o id id)
        have P4 := Lib.hid (P3.out.old o)
        have B4 := Lib.hid (B3.out.keep o id)
        have C4 := Lib.hid (HB3.out.2.keep o id)
        clear o c0 c1 c2 c3 c4
        go_wp2_with fail
        obtain ⟨c0, c1, c2, c3, c4⟩ := cells5 B4.out
        obtain ⟨d0, d1, d2, d3, d4⟩ := cells5 C4.out
        replace c0 := wat_cell c0
        replace c1 := wat_cell c1
        replace c2 := wat_cell c2
        replace c3 := wat_cell c3
        replace c4 := wat_cell c4
        replace d0 := wat_cell d0
        replace d1 := wat_cell d1
        replace d2 := wat_cell d2
        replace d3 := wat_cell d3
        replace d4 := wat_cell d4
        refine wp_region_only mixed (by kernel_rfl) ?_
        repeat (quiet_step ((go_at_call 30; first | (with_reducible refine wat_call (HS1.out _ (P4.out.old (only_wat _ _ _)))) | (with_reducible refine wat_call (HS2.out _ (P4.out.old (only_wat _ _ _)))))))
        refine wpQuiet_nil ?_
        rintro w' ⟨⟨nq, osq⟩, rfl⟩
        obtain ⟨W5, hW5, O5⟩ := wat_name w4 nq osq
        rw [hW5]
        have A5 := Lib.hid (A4.out.keep O5.out id id)
        have O6 := Lib.hid (O4.out.trans O5.out)
        clear hW5 c0 c1 c2 c3 c4 d0 d1 d2 d3 d4
        go_wp2
        go_ret
        exact ⟨rfl, A5.out, O6.out.mono fun _ _ h => h.elim⟩
  · obtain ⟨hq1, hq2⟩ := sh_head (k := k) (f := f) (r := r) (c := c) m h0
    rw [hq1, hq2]
    clear hq1 hq2
    generalize ohK l a = K at *
    generalize ohF l a = F at *
    generalize ohR l a = R at *
    generalize ohM l a = M at *
    generalize ohC l a = C at *
    generalize ohE l a = E at *
    have h0' : (E == 0) = false := by simpa using h0
    go_enter Tryd.func20, Tryd.ntmps20
    go_wp2_with fail
    rw [HWE.out]
    go_at_call 12
    refine HH.out.mono ?_
    rintro e w1 ⟨rfl, o⟩
    obtain ⟨W3, hW3, HB3⟩ := box_head w1 K F R M C
    have HW3 := Lib.hid hW3
    have O3 := Lib.hid (HB.out.1.trans (o.trans HB3.out.1))
    have A3 := Lib.hid (HA.out.keep (o.trans HB3.out.1) id id)
    clear hW3 o
    go_upto_region 2 with fail
    rw [HW3.out]
    go_wp2
    go_ret
    exact ⟨rfl, A3.out, O3.out.mono fun _ _ h => h.elim⟩
end Go.Proofs.YtffbemfgibleeaaDoor
