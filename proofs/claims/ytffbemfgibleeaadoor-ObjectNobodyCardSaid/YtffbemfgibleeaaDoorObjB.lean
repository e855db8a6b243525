/- Contracts of package object: fields and raw words. -/
import Derived.Test.YtffbemfgibleeaaDoorObjA
import Derived.Test.YtffbemfgibleeaaDoorValC
namespace Go.Proofs.YtffbemfgibleeaaDoor
open Go.RowKit

set_option maxRecDepth 100000 in
set_option maxHeartbeats 1000000 in
theorem fieldPlace_any (b g : Nat) (l : List Nat) (a i : Int) (w : World) (h : Ar w b g l) (hp : Par w) (ha : a ≤ 9223372036854775807) :
    Calls Tryd.prog 34 #[.pointer (some ⟨b, 0, none⟩), .int .i64 a, .int .i64 i] w fun e w' => e = .returned (.tuple #[.int .i64 (plP false l a i), .int .i64 (plE false l a i)]) ∧ Only nob w w' := by
  have HH := Lib.hid (oHead_any b g l a w h hp ha)
  have hl := h.few
  clear h hp
  by_cases h0 : ohE l a = 0
  · obtain ⟨hb1, hb2, hb3, hb4, hb5, hb6, -⟩ := oh_bounds h0
    rw [h0] at HH
    by_cases hi : 0 ≤ i ∧ i < many false l a
    case' pos =>
      obtain ⟨hq1, hq2⟩ := pl_yes h0 hi
      rw [hq1, hq2]
      have hi2 : 0 ≤ i ∧ i < ohF l a := hi
      have hf : first false l a = a + 1 := rfl
      rw [hf]
    case' neg =>
      obtain ⟨hq1, hq2⟩ := pl_no h0 hi
      rw [hq1, hq2]
      have hi2 : ¬ (0 ≤ i ∧ i < ohF l a) := hi
    all_goals
      generalize ohK l a = K at *
      generalize ohF l a = F at *
      generalize ohR l a = R at *
      generalize ohM l a = M at *
      generalize ohC l a = C at *
    case pos =>
      have HN := Lib.hid (fun w => nth_yes (a + 1) F i w hi2 ⟨by omega, by omega⟩)
      clear h0 hq1 hq2 hi hf hi2
      go_enter Tryd.func34, Tryd.ntmps34
      go_wp2_with fail
      go_at_call 12
      refine HH.out.mono ?_
      rintro e w1 ⟨rfl, o⟩
      obtain ⟨W3, hW3, HB3⟩ := box_head w1 K F R M C
      have HW3 := Lib.hid hW3
      have O3 := Lib.hid (o.trans HB3.out.1)
      clear hW3 o
      go_upto_region 2 with fail
      rw [HW3.out]
      obtain ⟨c0, c1, c2, c3, c4⟩ := cells5 HB3.out.2
      go_wp2_with fail
      go_at_call 49
      refine (HN.out _).mono ?_
      rintro e w4 ⟨rfl, rfl⟩
      go_wp2
      go_ret2
      exact ⟨rfl, O3.out⟩
    case neg =>
      have HN := Lib.hid (fun w => nth_no (a + 1) F i w hi2)
      clear h0 hq1 hq2 hi hi2
      go_enter Tryd.func34, Tryd.ntmps34
      go_wp2_with fail
      go_at_call 12
      refine HH.out.mono ?_
      rintro e w1 ⟨rfl, o⟩
      obtain ⟨W3, hW3, HB3⟩ := box_head w1 K F R M C
      have HW3 := Lib.hid hW3
      have O3 := Lib.hid (o.trans HB3.out.1)
      clear hW3 o
      go_upto_region 2 with fail
      rw [HW3.out]
      obtain ⟨c0, c1, c2, c3, c4⟩ := cells5 HB3.out.2
      go_wp2_with fail
      go_at_call 49
      refine (HN.out _).mono ?_
      rintro e w4 ⟨rfl, rfl⟩
      go_wp2
      go_ret2
      exact ⟨rfl, O3.out⟩
  · obtain ⟨hq1, hq2⟩ := pl_head (raw := false) (i := i) h0
    rw [hq1, hq2]
    clear hq1 hq2
    generalize ohK l a = K at *
    generalize ohF l a = F at *
    generalize ohR l a = R at *
    generalize ohM l a = M at *
    generalize ohC l a = C at *
    generalize ohE l a = E at *
    have h0' : (E == 0) = false := by simpa using h0
    go_enter Tryd.func34, Tryd.ntmps34
    go_wp2_with fail
    go_at_call 12
    refine HH.out.mono ?_
    rintro e w1 ⟨rfl, o⟩
    obtain ⟨W3, hW3, HB3⟩ := box_head w1 K F R M C
    have HW3 := Lib.hid hW3
    have O3 := Lib.hid (o.trans HB3.out.1)
    clear hW3 o
    go_upto_region 2 with fail
    rw [HW3.out]
    go_wp2
    go_ret2
    exact ⟨rfl, O3.out⟩

set_option maxRecDepth 100000 in
set_option maxHeartbeats 1000000 in
theorem rawPlace_any (b g : Nat) (l : List Nat) (a i : Int) (w : World) (h : Ar w b g l) (hp : Par w) (ha : a ≤ 9223372036854775807) :
    Calls Tryd.prog 36 #[.pointer (some ⟨b, 0, none⟩), .int .i64 a, .int .i64 i] w fun e w' => e = .returned (.tuple #[.int .i64 (plP true l a i), .int .i64 (plE true l a i)]) ∧ Only nob w w' := by
  have HH := Lib.hid (oHead_any b g l a w h hp ha)
  have hl := h.few
  clear h hp
  by_cases h0 : ohE l a = 0
  · obtain ⟨hb1, hb2, hb3, hb4, hb5, hb6, -⟩ := oh_bounds h0
    rw [h0] at HH
    by_cases hi : 0 ≤ i ∧ i < many true l a
    case' pos =>
      obtain ⟨hq1, hq2⟩ := pl_yes h0 hi
      rw [hq1, hq2]
      have hi2 : 0 ≤ i ∧ i < ohR l a := hi
      have hf : first true l a = a + 1 + ohF l a := rfl
      rw [hf]
    case' neg =>
      obtain ⟨hq1, hq2⟩ := pl_no h0 hi
      rw [hq1, hq2]
      have hi2 : ¬ (0 ≤ i ∧ i < ohR l a) := hi
    all_goals
      generalize ohK l a = K at *
      generalize ohF l a = F at *
      generalize ohR l a = R at *
      generalize ohM l a = M at *
      generalize ohC l a = C at *
    case pos =>
      have HN := Lib.hid (fun w => nth_yes (a + 1 + F) R i w hi2 ⟨by omega, by omega⟩)
      clear h0 hq1 hq2 hi hf hi2
      go_enter Tryd.func36, Tryd.ntmps36
      go_wp2_with fail
      go_at_call 12
      refine HH.out.mono ?_
      rintro e w1 ⟨rfl, o⟩
      obtain ⟨W3, hW3, HB3⟩ := box_head w1 K F R M C
      have HW3 := Lib.hid hW3
      have O3 := Lib.hid (o.trans HB3.out.1)
      clear hW3 o
      go_upto_region 2 with fail
      rw [HW3.out]
      obtain ⟨c0, c1, c2, c3, c4⟩ := cells5 HB3.out.2
      go_wp2_with fail
      go_at_call 49
      refine (HN.out _).mono ?_
      rintro e w4 ⟨rfl, rfl⟩
      go_wp2
      go_ret2
      exact ⟨rfl, O3.out⟩
    case neg =>
      have HN := Lib.hid (fun w => nth_no (a + 1 + F) R i w hi2)
      clear h0 hq1 hq2 hi hi2
      go_enter Tryd.func36, Tryd.ntmps36
      go_wp2_with fail
      go_at_call 12
      refine HH.out.mono ?_
      rintro e w1 ⟨rfl, o⟩
      obtain ⟨W3, hW3, HB3⟩ := box_head w1 K F R M C
      have HW3 := Lib.hid hW3
      have O3 := Lib.hid (o.trans HB3.out.1)
      clear hW3 o
      go_upto_region 2 with fail
      rw [HW3.out]
      obtain ⟨c0, c1, c2, c3, c4⟩ := cells5 HB3.out.2
      go_wp2_with fail
      go_at_call 49
      refine (HN.out _).mono ?_
      rintro e w4 ⟨rfl, rfl⟩
      go_wp2
      go_ret2
      exact ⟨rfl, O3.out⟩
  · obtain ⟨hq1, hq2⟩ := pl_head (raw := true) (i := i) h0
    rw [hq1, hq2]
    clear hq1 hq2
    generalize ohK l a = K at *
    generalize ohF l a = F at *
    generalize ohR l a = R at *
    generalize ohM l a = M at *
    generalize ohC l a = C at *
    generalize ohE l a = E at *
    have h0' : (E == 0) = false := by simpa using h0
    go_enter Tryd.func36, Tryd.ntmps36
    go_wp2_with fail
    go_at_call 12
    refine HH.out.mono ?_
    rintro e w1 ⟨rfl, o⟩
    obtain ⟨W3, hW3, HB3⟩ := box_head w1 K F R M C
    have HW3 := Lib.hid hW3
    have O3 := Lib.hid (o.trans HB3.out.1)
    clear hW3 o
    go_upto_region 2 with fail
    rw [HW3.out]
    go_wp2
    go_ret2
    exact ⟨rfl, O3.out⟩

set_option maxRecDepth 100000 in
set_option maxHeartbeats 1000000 in
theorem oField_any (b g : Nat) (l : List Nat) (a i : Int) (w : World) (h : Ar w b g l) (hp : Par w) (ha : a ≤ 9223372036854775807) :
    Calls Tryd.prog 14 #[.pointer (some ⟨b, 0, none⟩), .int .i64 a, .int .i64 i] w fun e w' => e = .returned (.tuple #[.int .u64 (rdW false l a i : Nat), .int .i64 (plE false l a i)]) ∧ Only nob w w' := by
  have HC := Lib.hid (fieldPlace_any b g l a i w h hp ha)
  have HA := Lib.hid h
  clear h hp
  by_cases h0 : plE false l a i = 0
  · obtain ⟨p, hpp, hpl, -⟩ := pl_in h0
    have hrd : rdW false l a i = wd l p := by unfold rdW; rw [if_pos h0, hpp, Int.toNat_natCast]
    rw [h0, hpp] at HC
    rw [h0, hrd]
    have hpl2 := Lib.hid hpl
    clear h0 hpp hrd hpl
    go_enter Tryd.func14, Tryd.ntmps14
    go_wp2_with fail
    go_at_call 34
    refine HC.out.mono ?_
    rintro e w1 ⟨rfl, o⟩
    have O1 := Lib.hid o
    have A1 := Lib.hid (HA.out.keep o id id)
    clear o
    go_wp2_with fail
    go_at_call 22
    refine (read_ar b g l p _ A1.out hpl2.out).mono ?_
    rintro e w2 ⟨rfl, rfl⟩
    go_wp2
    go_ret2
    exact ⟨rfl, O1.out⟩
  · have hrd : rdW false l a i = 0 := by unfold rdW; rw [if_neg h0]
    rw [hrd]
    clear hrd
    generalize plE false l a i = E at *
    generalize plP false l a i = p at *
    have h0' : (E == 0) = false := by simpa using h0
    go_enter Tryd.func14, Tryd.ntmps14
    go_wp2_with fail
    go_at_call 34
    refine HC.out.mono ?_
    rintro e w1 ⟨rfl, o⟩
    have O1 := Lib.hid o
    clear o
    go_wp2
    go_ret2
    exact ⟨rfl, O1.out⟩

set_option maxRecDepth 100000 in
set_option maxHeartbeats 1000000 in
theorem oRaw_any (b g : Nat) (l : List Nat) (a i : Int) (w : World) (h : Ar w b g l) (hp : Par w) (ha : a ≤ 9223372036854775807) :
    Calls Tryd.prog 16 #[.pointer (some ⟨b, 0, none⟩), .int .i64 a, .int .i64 i] w fun e w' => e = .returned (.tuple #[.int .u64 (rdW true l a i : Nat), .int .i64 (plE true l a i)]) ∧ Only nob w w' := by
  have HC := Lib.hid (rawPlace_any b g l a i w h hp ha)
  have HA := Lib.hid h
  clear h hp
  by_cases h0 : plE true l a i = 0
  · obtain ⟨p, hpp, hpl, -⟩ := pl_in h0
    have hrd : rdW true l a i = wd l p := by unfold rdW; rw [if_pos h0, hpp, Int.toNat_natCast]
    rw [h0, hpp] at HC
    rw [h0, hrd]
    have hpl2 := Lib.hid hpl
    clear h0 hpp hrd hpl
    go_enter Tryd.func16, Tryd.ntmps16
    go_wp2_with fail
    go_at_call 36
    refine HC.out.mono ?_
    rintro e w1 ⟨rfl, o⟩
    have O1 := Lib.hid o
    have A1 := Lib.hid (HA.out.keep o id id)
    clear o
    go_wp2_with fail
    go_at_call 22
    refine (read_ar b g l p _ A1.out hpl2.out).mono ?_
    rintro e w2 ⟨rfl, rfl⟩
    go_wp2
    go_ret2
    exact ⟨rfl, O1.out⟩
  · have hrd : rdW true l a i = 0 := by unfold rdW; rw [if_neg h0]
    rw [hrd]
    clear hrd
    generalize plE true l a i = E at *
    generalize plP true l a i = p at *
    have h0' : (E == 0) = false := by simpa using h0
    go_enter Tryd.func16, Tryd.ntmps16
    go_wp2_with fail
    go_at_call 36
    refine HC.out.mono ?_
    rintro e w1 ⟨rfl, o⟩
    have O1 := Lib.hid o
    clear o
    go_wp2
    go_ret2
    exact ⟨rfl, O1.out⟩

theorem st_place {raw : Bool} {l : List Nat} {a i : Int} {x : Nat} (h : plE raw l a i ≠ 0) : stE raw l a i x = plE raw l a i ∧ stL raw l a i x = l := by
  have : stE raw l a i x = plE raw l a i := by unfold stE; rw [if_neg h]
  exact ⟨this, by unfold stL; rw [if_neg (by rw [this]; exact h)]⟩
theorem st_raw {l : List Nat} {a i : Int} {x : Nat} (h : plE true l a i = 0) : stE true l a i x = 0 ∧ stL true l a i x = l.set (plP true l a i).toNat x := by
  have : stE true l a i x = 0 := by unfold stE; rw [if_pos h]; rfl
  exact ⟨this, by unfold stL; rw [if_pos this]⟩
theorem st_val {l : List Nat} {a i : Int} {x : Nat} (h : plE false l a i = 0) (k : dE x = 0) : stE false l a i x = 0 ∧ stL false l a i x = l.set (plP false l a i).toNat x := by
  have : stE false l a i x = 0 := by unfold stE; rw [if_pos h]; exact k
  exact ⟨this, by unfold stL; rw [if_pos this]⟩
theorem st_no {l : List Nat} {a i : Int} {x : Nat} (h : plE false l a i = 0) (k : dE x ≠ 0) : stE false l a i x = dE x ∧ stL false l a i x = l := by
  have : stE false l a i x = dE x := by unfold stE; rw [if_pos h]; rfl
  exact ⟨this, by unfold stL; rw [if_neg (by rw [this]; exact k)]⟩

set_option maxRecDepth 100000 in
set_option maxHeartbeats 1000000 in
theorem oSetField_any (b g : Nat) (l : List Nat) (a i : Int) (x : Nat) (w : World) (h : Ar w b g l) (hp : Par w) (ha : a ≤ 9223372036854775807) (hx : x < full) :
    Calls Tryd.prog 17 #[.pointer (some ⟨b, 0, none⟩), .int .i64 a, .int .i64 i, .int .u64 x] w fun e w' => e = .returned (.int .i64 (stE false l a i x)) ∧ Ar w' b g (stL false l a i x) ∧ Only (isb g) w w' := by
  have HC := Lib.hid (fieldPlace_any b g l a i w h hp ha)
  have HA := Lib.hid h
  have HD := Lib.hid (fun w => dec_any (n := (x : Int)) ⟨by omega, by unfold full at hx; omega⟩ w)
  have HX := Lib.hid hx
  clear h hp hx
  by_cases h0 : plE false l a i = 0
  · obtain ⟨p, hpp, hpl, -⟩ := pl_in h0
    by_cases hd : dE x = 0
    · obtain ⟨hq1, hq2⟩ := st_val h0 hd
      rw [hq1, hq2, hpp, Int.toNat_natCast]
      rw [h0, hpp] at HC
      rw [hd] at HD
      have HPL := Lib.hid hpl
      clear hq1 hq2 h0 hpp hpl hd
      generalize dK x = K at *
      generalize dX x = X at *
      go_enter Tryd.func17, Tryd.ntmps17
      go_wp2_with fail
      go_at_call 34
      refine HC.out.mono ?_
      rintro e w1 ⟨rfl, o⟩
      have O1 := Lib.hid o
      clear o
      go_wp2_with fail
      go_at_call 37
      refine (HD.out _).mono ?_
      rintro e w2 ⟨rfl, o⟩
      obtain ⟨W3, hW3, HB3⟩ := box_val w2 K X
      have HW3 := Lib.hid hW3
      have O3 := Lib.hid ((O1.out.trans o).trans HB3.out.1)
      have A3 := Lib.hid (HA.out.keep O3.out id id)
      clear hW3 o
      go_upto_region 5 with fail
      rw [HW3.out]
      go_wp2_with fail
      go_at_call 38
      refine (write_ar b g l p x _ A3.out HPL.out HX.out).mono ?_
      rintro e w4 ⟨rfl, hA4, o⟩
      have A4 := Lib.hid hA4
      have O4 := Lib.hid ((O3.out.mono (G := isb g) fun _ _ h => h.elim).trans o)
      clear o hA4
      go_wp2
      go_ret
      exact ⟨rfl, A4.out, O4.out⟩
    · obtain ⟨hq1, hq2⟩ := st_no h0 hd
      rw [hq1, hq2]
      rw [h0, hpp] at HC
      clear hq1 hq2 h0 hpp hpl
      generalize dK x = K at *
      generalize dX x = X at *
      generalize dE x = E at *
      have hd' : (E == 0) = false := by simpa using hd
      go_enter Tryd.func17, Tryd.ntmps17
      go_wp2_with fail
      go_at_call 34
      refine HC.out.mono ?_
      rintro e w1 ⟨rfl, o⟩
      have O1 := Lib.hid o
      clear o
      go_wp2_with fail
      go_at_call 37
      refine (HD.out _).mono ?_
      rintro e w2 ⟨rfl, o⟩
      obtain ⟨W3, hW3, HB3⟩ := box_val w2 K X
      have HW3 := Lib.hid hW3
      have O3 := Lib.hid ((O1.out.trans o).trans HB3.out.1)
      clear hW3 o
      go_upto_region 5 with fail
      rw [HW3.out]
      go_wp2
      go_ret
      exact ⟨rfl, HA.out.keep O3.out id id, O3.out.mono fun _ _ h => h.elim⟩
  · obtain ⟨hq1, hq2⟩ := st_place (x := x) h0
    rw [hq1, hq2]
    clear hq1 hq2
    generalize plE false l a i = E at *
    generalize plP false l a i = p at *
    have h0' : (E == 0) = false := by simpa using h0
    go_enter Tryd.func17, Tryd.ntmps17
    go_wp2_with fail
    go_at_call 34
    refine HC.out.mono ?_
    rintro e w1 ⟨rfl, o⟩
    have O1 := Lib.hid o
    clear o
    go_wp2
    go_ret
    exact ⟨rfl, HA.out.keep O1.out id id, O1.out.mono fun _ _ h => h.elim⟩

set_option maxRecDepth 100000 in
set_option maxHeartbeats 1000000 in
theorem oSetRaw_any (b g : Nat) (l : List Nat) (a i : Int) (x : Nat) (w : World) (h : Ar w b g l) (hp : Par w) (ha : a ≤ 9223372036854775807) (hx : x < full) :
    Calls Tryd.prog 18 #[.pointer (some ⟨b, 0, none⟩), .int .i64 a, .int .i64 i, .int .u64 x] w fun e w' => e = .returned (.int .i64 (stE true l a i x)) ∧ Ar w' b g (stL true l a i x) ∧ Only (isb g) w w' := by
  have HC := Lib.hid (rawPlace_any b g l a i w h hp ha)
  have HA := Lib.hid h
  have HX := Lib.hid hx
  clear h hp hx
  by_cases h0 : plE true l a i = 0
  · obtain ⟨p, hpp, hpl, -⟩ := pl_in h0
    obtain ⟨hq1, hq2⟩ := st_raw (x := x) h0
    rw [hq1, hq2, hpp, Int.toNat_natCast]
    rw [h0, hpp] at HC
    have HPL := Lib.hid hpl
    clear hq1 hq2 h0 hpp hpl
    go_enter Tryd.func18, Tryd.ntmps18
    go_wp2_with fail
    go_at_call 36
    refine HC.out.mono ?_
    rintro e w1 ⟨rfl, o⟩
    have O3 := Lib.hid o
    have A3 := Lib.hid (HA.out.keep o id id)
    clear o
    go_wp2_with fail
    go_at_call 38
    refine (write_ar b g l p x _ A3.out HPL.out HX.out).mono ?_
    rintro e w4 ⟨rfl, hA4, o⟩
    have A4 := Lib.hid hA4
    have O4 := Lib.hid ((O3.out.mono (G := isb g) fun _ _ h => h.elim).trans o)
    clear o hA4
    go_wp2
    go_ret
    exact ⟨rfl, A4.out, O4.out⟩
  · obtain ⟨hq1, hq2⟩ := st_place (x := x) h0
    rw [hq1, hq2]
    clear hq1 hq2
    generalize plE true l a i = E at *
    generalize plP true l a i = p at *
    have h0' : (E == 0) = false := by simpa using h0
    go_enter Tryd.func18, Tryd.ntmps18
    go_wp2_with fail
    go_at_call 36
    refine HC.out.mono ?_
    rintro e w1 ⟨rfl, o⟩
    have O1 := Lib.hid o
    clear o
    go_wp2
    go_ret
    exact ⟨rfl, HA.out.keep O1.out id id, O1.out.mono fun _ _ h => h.elim⟩
end Go.Proofs.YtffbemfgibleeaaDoor
