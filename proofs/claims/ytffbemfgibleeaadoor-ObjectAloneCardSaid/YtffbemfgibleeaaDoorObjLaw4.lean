/- The walk of ObjectAlone. -/
import Derived.Test.YtffbemfgibleeaaDoorObjLaw2
namespace Go.Proofs.YtffbemfgibleeaaDoor
open Go.RowKit

set_option maxRecDepth 100000 in
set_option maxHeartbeats 2000000 in
theorem objectAlone_false (v : Value) (l : List Nat) (a i : Int) (x : Nat) (w : World) (ht : Par w) (h : Sl w w.heap.size 1 v l.length (u64s l)) (hw : Words l) (hl : l.length ≤ 200) (ha : a ≤ 9223372036854775807) (hx : x < full) :
    Calls Tryd.prog 4 #[v, .int .i64 a, .int .i64 i, .int .u64 x, .bool false] w fun e w' => e = .returned (.bool true) ∧ Below w.heap.size w w' := by
  obtain ⟨i0, hi0, hz0, hz1, hz2⟩ := info_parts info_u64
  have HTab := Lib.hid ht
  have HA := Lib.hid h
  have HW := Lib.hid hw
  have HX := Lib.hid hx
  have HAT := Lib.hid ha
  obtain ⟨A, ca, rfl, hac, ham, -⟩ := h
  unfold maxLen at ham
  clear ht hw hx ha
  by_cases h0 : ohE l a = 0
  · by_cases hs : stE false l a i x = 0
    · have hp0 : plE false l a i = 0 := by
        by_cases hp0 : plE false l a i = 0
        · exact hp0
        · rw [(st_place hp0).1] at hs; exact absurd hs hp0
      obtain ⟨p, hpp, hpl, -, hi1, hi2, hap⟩ := pl_in hp0
      have hpe := (pl_yes h0 ⟨hi1, hi2⟩).2
      rw [hpp] at hpe
      have hpe' : (p : Int) = a + 1 + i := hpe
      have HPK := Lib.hid (show a + 1 + i = (p : Int) by omega)
      have hi2' : i < ohF l a := hi2
      have hb := oh_bounds h0
      obtain ⟨hb1, hb2, hb3, hb4, hb5, hb6, -⟩ := hb
      have hln : stL false l a i x = l.set p x := by unfold stL; rw [if_pos hs, hpp, Int.toNat_natCast]
      have HE0 := Lib.hid h0
      have HS := Lib.hid hs
      have HLN := Lib.hid hln
      have HPL := Lib.hid hpl
      clear h0 hs hp0 hpp hpe hpe' hi2 hln
      go_enter Tryd.func4, Tryd.ntmps4
      go_wp2_with fail
      go_at_call 7
      refine (of_any _ l _ HA.out (by omega) HW.out).mono ?_
      rintro e w1 ⟨b, g, rfl, hb, hg, hR, o1⟩
      have O1 := Lib.hid o1
      have A1 := Lib.hid hR
      have HG := Lib.hid hg
      clear hR o1 hb hg
      go_wp2_with fail
      go_at_call 12
      refine (oHead_any b g l a _ A1.out (HTab.out.old O1.out) HAT.out).mono ?_
      rw [HE0.out]
      rintro e w2 ⟨rfl, o2⟩
      obtain ⟨W3, hW3, HB3⟩ := box_head w2 (ohK l a) (ohF l a) (ohR l a) (ohM l a) (ohC l a)
      have HW3 := Lib.hid hW3
      have O3 := Lib.hid (O1.out.trans (o2.trans HB3.out.1))
      have A3 := Lib.hid (A1.out.keep (o2.trans HB3.out.1) id id)
      clear hW3 o2
      go_upto_region 7 with fail
      rw [HW3.out]
      go_wp2_with fail
      go_at_call 17
      refine (oSetField_any b g l a i x _ A3.out (HTab.out.old O3.out) HAT.out HX.out).mono ?_
      rw [HS.out, HLN.out]
      rintro e w4 ⟨rfl, hA4, o4⟩
      have O4 := Lib.hid (O3.out.andThen o4 fun q hi e => by have := HG.out; unfold isb at e; omega)
      have B4 := Lib.hid (HB3.out.2.keep o4 fun e => A3.out.row.ne HB3.out.2 (by decide) e.symm)
      have A4 := Lib.hid hA4
      clear o4 hA4
      have O6 := O4
      have B6 := B4
      have A6 := A4
      clear O4 B4 A4
      obtain ⟨c0, c1, c2, c3, c4⟩ := cells5 B6.out
      go_upto_region 21 with fail
      rw [HPK.out]
      go_wp2_with (with_reducible refine wpList_append_sl (o := ⟨some 103, _, _, _, _, _⟩) _ rfl (.tmp 101) (.tmp 102) _ rfl w4.heap.size 31 i0 _ 1 8 Tryd.underlying22 hi0 hz0 hz1 hz2 rfl (by decide) (.slice (some ⟨w4.heap.size, 0, none⟩) 0 0) 0 [] rfl ?c1 w4.heap.size (.slice A l.length ca) l.length (u64s l) rfl ?c6 (u64s_one l) ?c2 ?c3 ?c4 ?c5)
      case c1 => exact lit_own w4 _ _
      case c6 => exact ((HA.out.below O6.out.whole).more O6.out.size).below ((Below.refl _ _).alloc (Nat.le_refl _) _)
      case c2 => unfold maxLen; omega
      case c3 => omega
      case c4 => simp
      case c5 =>
        intro v1 w9 H1 o1 _
        have o2 := lit_only o1
        have HO := Lib.hid (show w9.ownsRow w4.heap.size 31 1 v1 l.length (u64s l) by simpa using H1.out)
        have O9 := Lib.hid (O6.out.trans o2)
        have A9 := Lib.hid (A6.out.keep o2 id id)
        have hgl := A6.out.row.lt
        have hbl := A6.out.head.lt
        obtain ⟨gq, c1', rfl, -, -, hq⟩ := own_form HO.out (by omega)
        have HQ := Lib.hid hq
        have HNG := Lib.hid (show gq ≠ g by omega)
        have HNB := Lib.hid (show gq ≠ b by omega)
        have HQW := Lib.hid (Nat.le_trans O6.out.size hq)
        clear H1 o1 o2 hq hgl hbl c0 c1 c2 c3 c4
        have g2' : w9.cell? ⟨gq, p, none⟩ = some (.int .u64 (wd l p : Nat)) := by rw [HO.out.cellAt p (by omega)]; exact u64s_wd _ _ HPL.out
        have g3' := HO.out.frozenAt p
        have HN := Lib.hid (HO.out.stored p (.int .u64 (x : Nat)))
        rw [u64s_set] at HN
        have HLEN := Lib.hid (show (l.set p x).length = l.length by simp)
        go_wp2_with fail
        go_at_call 11
        obtain ⟨W9, hW9⟩ : ∃ W9, W9 = w9.setCell ⟨gq, p, none⟩ (.int .u64 (x : Nat)) := ⟨_, rfl⟩
        rw [← hW9]
        have HN2 := Lib.hid (show W9.ownsRow w4.heap.size 31 1 (.slice (some ⟨gq, 0, none⟩) l.length c1') l.length (u64s (l.set p x)) from hW9 ▸ HN.out.1)
        have o10 : Only (isb gq) w9 W9 := hW9 ▸ only_set _ _ _ _
        have O10 := Lib.hid (O9.out.andThen o10 fun q hi e => by have := HQW.out; unfold isb at e; omega)
        have A10 := Lib.hid (A9.out.keep o10 (fun e => HNB.out e.symm) (fun e => HNG.out e.symm))
        clear hW9 o10 HN g2' g3'
        obtain ⟨ln, hln⟩ : ∃ ln, ln = l.set p x := ⟨_, rfl⟩
        rw [← hln] at HN2 A10 HLEN
        clear hln
        refine (words_ar b g ln _ A10.out).mono ?_
        rintro e w11 ⟨g', rfl, -, hB, o11⟩
        have HSA := Lib.hid (Sl.of_blk (size := 1) (n := ln.length) (c := ln.length) hB (by simp [u64s_len]) (Nat.le_refl _) (by unfold maxLen; have := HLEN.out; omega))
        have HSB := Lib.hid (show Sl w11 w11.heap.size 1 (.slice (some ⟨gq, 0, none⟩) l.length c1') ln.length (u64s ln) from by rw [HLEN.out]; exact let h := own_only HN2.out o11 fun _ _ => id; Sl.of_own h h.1)
        have O11 := Lib.hid (O10.out.trans o11)
        clear hB o11
        go_wp2_with fail
        go_at_call 10
        refine (same_any _ _ ln _ _ _ HSA.out HSB.out).mono ?_
        rintro e w12 ⟨rfl, mq, rfl⟩
        obtain ⟨w12, hw12⟩ : ∃ w12, w11.drewN mq = w12 := ⟨_, rfl⟩
        have O12 := Lib.hid (show Only nob w w12 from hw12 ▸ O11.out.drewN mq)
        rw [hw12]
        clear hw12
        go_wp2_with fail
        go_at_call 6
        refine (awake08_any _ (HTab.out.old O12.out)).mono ?_
        rintro e w13 ⟨rfl, ho⟩
        have O13 := Lib.hid (O12.out.trans ho)
        clear ho
        go_wp2
        go_ret
        exact ⟨rfl, O13.out.whole⟩
    · have hln : stL false l a i x = l := stL_err hs
      obtain ⟨S, hS⟩ : ∃ S, stE false l a i x = S := ⟨_, rfl⟩
      have hS0 : S ≠ 0 := hS ▸ hs
      have hS0' : (S == 0) = false := by simpa using hS0
      have HE0 := Lib.hid h0
      have HS := Lib.hid hS
      have HLN := Lib.hid hln
      clear h0 hs hS hln
      go_enter Tryd.func4, Tryd.ntmps4
      go_wp2_with fail
      go_at_call 7
      refine (of_any _ l _ HA.out (by omega) HW.out).mono ?_
      rintro e w1 ⟨b, g, rfl, hb, hg, hR, o1⟩
      have O1 := Lib.hid o1
      have A1 := Lib.hid hR
      have HG := Lib.hid hg
      clear hR o1 hb hg
      go_wp2_with fail
      go_at_call 12
      refine (oHead_any b g l a _ A1.out (HTab.out.old O1.out) HAT.out).mono ?_
      rw [HE0.out]
      rintro e w2 ⟨rfl, o2⟩
      obtain ⟨W3, hW3, HB3⟩ := box_head w2 (ohK l a) (ohF l a) (ohR l a) (ohM l a) (ohC l a)
      have HW3 := Lib.hid hW3
      have O3 := Lib.hid (O1.out.trans (o2.trans HB3.out.1))
      have A3 := Lib.hid (A1.out.keep (o2.trans HB3.out.1) id id)
      clear hW3 o2
      go_upto_region 7 with fail
      rw [HW3.out]
      go_wp2_with fail
      go_at_call 17
      refine (oSetField_any b g l a i x _ A3.out (HTab.out.old O3.out) HAT.out HX.out).mono ?_
      rw [HS.out, HLN.out]
      rintro e w4 ⟨rfl, hA4, o4⟩
      have O4 := Lib.hid (O3.out.andThen o4 fun q hi e => by have := HG.out; unfold isb at e; omega)
      have B4 := Lib.hid (HB3.out.2.keep o4 fun e => A3.out.row.ne HB3.out.2 (by decide) e.symm)
      have A4 := Lib.hid hA4
      clear o4 hA4
      have O6 := O4
      have B6 := B4
      have A6 := A4
      clear O4 B4 A4
      obtain ⟨c0, c1, c2, c3, c4⟩ := cells5 B6.out
      go_wp2_with fail
      go_at_call 11
      refine (words_ar b g l _ A6.out).mono ?_
      rintro e w11 ⟨g', rfl, -, hB, o11⟩
      have HSA := Lib.hid (Sl.of_blk (size := 1) (n := l.length) (c := l.length) hB (by simp [u64s_len]) (Nat.le_refl _) (by unfold maxLen; omega))
      have O11 := Lib.hid (O6.out.trans o11)
      have HSB := Lib.hid ((HA.out.below O11.out.whole).more O11.out.size)
      clear hB o11 c0 c1 c2 c3 c4
      go_wp2_with fail
      go_at_call 10
      refine (same_any _ _ l _ _ _ HSA.out HSB.out).mono ?_
      rintro e w12 ⟨rfl, mq, rfl⟩
      obtain ⟨w12, hw12⟩ : ∃ w12, w11.drewN mq = w12 := ⟨_, rfl⟩
      have O12 := Lib.hid (show Only nob w w12 from hw12 ▸ O11.out.drewN mq)
      rw [hw12]
      clear hw12
      go_wp2_with fail
      go_at_call 6
      refine (awake08_any _ (HTab.out.old O12.out)).mono ?_
      rintro e w13 ⟨rfl, ho⟩
      have O13 := Lib.hid (O12.out.trans ho)
      clear ho
      go_wp2
      go_ret
      exact ⟨rfl, O13.out.whole⟩
  · obtain ⟨hq1, -⟩ := pl_head (raw := false) (i := i) h0
    have hp0 : plE false l a i ≠ 0 := by rw [hq1]; exact h0
    obtain ⟨hs1, hs2⟩ := st_place (x := x) hp0
    obtain ⟨S, hS⟩ : ∃ S, ohE l a = S := ⟨_, rfl⟩
    have hS0 : S ≠ 0 := hS ▸ h0
    have hS0' : (S == 0) = false := by simpa using hS0
    have HE0 := Lib.hid hS
    have HS := Lib.hid (hs1.trans (hq1.trans hS))
    have HLN := Lib.hid hs2
    clear h0 hS hs1 hs2 hq1 hp0
    go_enter Tryd.func4, Tryd.ntmps4
    go_wp2_with fail
    go_at_call 7
    refine (of_any _ l _ HA.out (by omega) HW.out).mono ?_
    rintro e w1 ⟨b, g, rfl, hb, hg, hR, o1⟩
    have O1 := Lib.hid o1
    have A1 := Lib.hid hR
    have HG := Lib.hid hg
    clear hR o1 hb hg
    go_wp2_with fail
    go_at_call 12
    refine (oHead_any b g l a _ A1.out (HTab.out.old O1.out) HAT.out).mono ?_
    rw [HE0.out]
    rintro e w2 ⟨rfl, o2⟩
    obtain ⟨W3, hW3, HB3⟩ := box_head w2 (ohK l a) (ohF l a) (ohR l a) (ohM l a) (ohC l a)
    have HW3 := Lib.hid hW3
    have O3 := Lib.hid (O1.out.trans (o2.trans HB3.out.1))
    have A3 := Lib.hid (A1.out.keep (o2.trans HB3.out.1) id id)
    clear hW3 o2
    go_upto_region 7 with fail
    rw [HW3.out]
    go_wp2_with fail
    go_at_call 17
    refine (oSetField_any b g l a i x _ A3.out (HTab.out.old O3.out) HAT.out HX.out).mono ?_
    rw [HS.out, HLN.out]
    rintro e w4 ⟨rfl, hA4, o4⟩
    have O4 := Lib.hid (O3.out.andThen o4 fun q hi e => by have := HG.out; unfold isb at e; omega)
    have B4 := Lib.hid (HB3.out.2.keep o4 fun e => A3.out.row.ne HB3.out.2 (by decide) e.symm)
    have A4 := Lib.hid hA4
    clear o4 hA4
    have O6 := O4
    have B6 := B4
    have A6 := A4
    clear O4 B4 A4
    obtain ⟨c0, c1, c2, c3, c4⟩ := cells5 B6.out
    go_wp2_with fail
    go_at_call 11
    refine (words_ar b g l _ A6.out).mono ?_
    rintro e w11 ⟨g', rfl, -, hB, o11⟩
    have HSA := Lib.hid (Sl.of_blk (size := 1) (n := l.length) (c := l.length) hB (by simp [u64s_len]) (Nat.le_refl _) (by unfold maxLen; omega))
    have O11 := Lib.hid (O6.out.trans o11)
    have HSB := Lib.hid ((HA.out.below O11.out.whole).more O11.out.size)
    clear hB o11 c0 c1 c2 c3 c4
    go_wp2_with fail
    go_at_call 10
    refine (same_any _ _ l _ _ _ HSA.out HSB.out).mono ?_
    rintro e w12 ⟨rfl, mq, rfl⟩
    obtain ⟨w12, hw12⟩ : ∃ w12, w11.drewN mq = w12 := ⟨_, rfl⟩
    have O12 := Lib.hid (show Only nob w w12 from hw12 ▸ O11.out.drewN mq)
    rw [hw12]
    clear hw12
    go_wp2_with fail
    go_at_call 6
    refine (awake08_any _ (HTab.out.old O12.out)).mono ?_
    rintro e w13 ⟨rfl, ho⟩
    have O13 := Lib.hid (O12.out.trans ho)
    clear ho
    go_wp2
    go_ret
    exact ⟨rfl, O13.out.whole⟩

set_option maxRecDepth 100000 in
set_option maxHeartbeats 2000000 in
theorem objectAlone_true (v : Value) (l : List Nat) (a i : Int) (x : Nat) (w : World) (ht : Par w) (h : Sl w w.heap.size 1 v l.length (u64s l)) (hw : Words l) (hl : l.length ≤ 200) (ha : a ≤ 9223372036854775807) (hx : x < full) :
    Calls Tryd.prog 4 #[v, .int .i64 a, .int .i64 i, .int .u64 x, .bool true] w fun e w' => e = .returned (.bool true) ∧ Below w.heap.size w w' := by
  obtain ⟨i0, hi0, hz0, hz1, hz2⟩ := info_parts info_u64
  have HTab := Lib.hid ht
  have HA := Lib.hid h
  have HW := Lib.hid hw
  have HX := Lib.hid hx
  have HAT := Lib.hid ha
  obtain ⟨A, ca, rfl, hac, ham, -⟩ := h
  unfold maxLen at ham
  clear ht hw hx ha
  by_cases h0 : ohE l a = 0
  · by_cases hs : stE true l a i x = 0
    · have hp0 : plE true l a i = 0 := by
        by_cases hp0 : plE true l a i = 0
        · exact hp0
        · rw [(st_place hp0).1] at hs; exact absurd hs hp0
      obtain ⟨p, hpp, hpl, -, hi1, hi2, hap⟩ := pl_in hp0
      have hpe := (pl_yes h0 ⟨hi1, hi2⟩).2
      rw [hpp] at hpe
      have hpe' : (p : Int) = a + 1 + ohF l a + i := hpe
      have HPK := Lib.hid (show a + 1 + i + ohF l a = (p : Int) by omega)
      have hi2' : i < ohR l a := hi2
      have hb := oh_bounds h0
      obtain ⟨hb1, hb2, hb3, hb4, hb5, hb6, -⟩ := hb
      have hln : stL true l a i x = l.set p x := by unfold stL; rw [if_pos hs, hpp, Int.toNat_natCast]
      have HE0 := Lib.hid h0
      have HS := Lib.hid hs
      have HLN := Lib.hid hln
      have HPL := Lib.hid hpl
      clear h0 hs hp0 hpp hpe hpe' hi2 hln
      go_enter Tryd.func4, Tryd.ntmps4
      go_wp2_with fail
      go_at_call 7
      refine (of_any _ l _ HA.out (by omega) HW.out).mono ?_
      rintro e w1 ⟨b, g, rfl, hb, hg, hR, o1⟩
      have O1 := Lib.hid o1
      have A1 := Lib.hid hR
      have HG := Lib.hid hg
      clear hR o1 hb hg
      go_wp2_with fail
      go_at_call 12
      refine (oHead_any b g l a _ A1.out (HTab.out.old O1.out) HAT.out).mono ?_
      rw [HE0.out]
      rintro e w2 ⟨rfl, o2⟩
      obtain ⟨W3, hW3, HB3⟩ := box_head w2 (ohK l a) (ohF l a) (ohR l a) (ohM l a) (ohC l a)
      have HW3 := Lib.hid hW3
      have O3 := Lib.hid (O1.out.trans (o2.trans HB3.out.1))
      have A3 := Lib.hid (A1.out.keep (o2.trans HB3.out.1) id id)
      clear hW3 o2
      go_upto_region 7 with fail
      rw [HW3.out]
      go_wp2_with fail
      go_at_call 17
      refine (oSetField_any b g l a i x _ A3.out (HTab.out.old O3.out) HAT.out HX.out).mono ?_
      rintro e w4 ⟨rfl, hA4, o4⟩
      have O4 := Lib.hid (O3.out.andThen o4 fun q hi e => by have := HG.out; unfold isb at e; omega)
      have B4 := Lib.hid (HB3.out.2.keep o4 fun e => A3.out.row.ne HB3.out.2 (by decide) e.symm)
      have A4 := Lib.hid hA4
      clear o4 hA4
      go_wp2_with fail
      go_at_call 7
      refine (of_any _ l _ ((HA.out.below O4.out.whole).more O4.out.size) (by omega) HW.out).mono ?_
      rintro e w5 ⟨b2, g2, rfl, hb2, hg2, hR2, o5⟩
      have O5 := Lib.hid (O4.out.trans o5)
      have A5 := Lib.hid hR2
      have B5 := Lib.hid (B4.out.keep o5 id)
      have HG2 := Lib.hid (Nat.le_trans O4.out.size hg2)
      clear o5 hR2 hb2 hg2
      go_wp2_with fail
      go_at_call 18
      refine (oSetRaw_any b2 g2 l a i x _ A5.out (HTab.out.old O5.out) HAT.out HX.out).mono ?_
      rw [HS.out, HLN.out]
      rintro e w6 ⟨rfl, hA6, o6⟩
      have O6 := Lib.hid (O5.out.andThen o6 fun q hi e => by have := HG2.out; unfold isb at e; omega)
      have B6 := Lib.hid (B5.out.keep o6 fun e => A5.out.row.ne B5.out (by decide) e.symm)
      have A6 := Lib.hid hA6
      clear o6 hA6
      obtain ⟨c0, c1, c2, c3, c4⟩ := cells5 B6.out
      go_upto_region 21 with fail
      rw [HPK.out]
      go_wp2_with (with_reducible refine wpList_append_sl (o := ⟨some 103, _, _, _, _, _⟩) _ rfl (.tmp 101) (.tmp 102) _ rfl w6.heap.size 31 i0 _ 1 8 Tryd.underlying22 hi0 hz0 hz1 hz2 rfl (by decide) (.slice (some ⟨w6.heap.size, 0, none⟩) 0 0) 0 [] rfl ?c1 w6.heap.size (.slice A l.length ca) l.length (u64s l) rfl ?c6 (u64s_one l) ?c2 ?c3 ?c4 ?c5)
      case c1 => exact lit_own w6 _ _
      case c6 => exact ((HA.out.below O6.out.whole).more O6.out.size).below ((Below.refl _ _).alloc (Nat.le_refl _) _)
      case c2 => unfold maxLen; omega
      case c3 => omega
      case c4 => simp
      case c5 =>
        intro v1 w9 H1 o1 _
        have o2 := lit_only o1
        have HO := Lib.hid (show w9.ownsRow w6.heap.size 31 1 v1 l.length (u64s l) by simpa using H1.out)
        have O9 := Lib.hid (O6.out.trans o2)
        have A9 := Lib.hid (A6.out.keep o2 id id)
        have hgl := A6.out.row.lt
        have hbl := A6.out.head.lt
        obtain ⟨gq, c1', rfl, -, -, hq⟩ := own_form HO.out (by omega)
        have HQ := Lib.hid hq
        have HNG := Lib.hid (show gq ≠ g2 by omega)
        have HNB := Lib.hid (show gq ≠ b2 by omega)
        have HQW := Lib.hid (Nat.le_trans O6.out.size hq)
        clear H1 o1 o2 hq hgl hbl c0 c1 c2 c3 c4
        have g2' : w9.cell? ⟨gq, p, none⟩ = some (.int .u64 (wd l p : Nat)) := by rw [HO.out.cellAt p (by omega)]; exact u64s_wd _ _ HPL.out
        have g3' := HO.out.frozenAt p
        have HN := Lib.hid (HO.out.stored p (.int .u64 (x : Nat)))
        rw [u64s_set] at HN
        have HLEN := Lib.hid (show (l.set p x).length = l.length by simp)
        go_wp2_with fail
        go_at_call 11
        obtain ⟨W9, hW9⟩ : ∃ W9, W9 = w9.setCell ⟨gq, p, none⟩ (.int .u64 (x : Nat)) := ⟨_, rfl⟩
        rw [← hW9]
        have HN2 := Lib.hid (show W9.ownsRow w6.heap.size 31 1 (.slice (some ⟨gq, 0, none⟩) l.length c1') l.length (u64s (l.set p x)) from hW9 ▸ HN.out.1)
        have o10 : Only (isb gq) w9 W9 := hW9 ▸ only_set _ _ _ _
        have O10 := Lib.hid (O9.out.andThen o10 fun q hi e => by have := HQW.out; unfold isb at e; omega)
        have A10 := Lib.hid (A9.out.keep o10 (fun e => HNB.out e.symm) (fun e => HNG.out e.symm))
        clear hW9 o10 HN g2' g3'
        obtain ⟨ln, hln⟩ : ∃ ln, ln = l.set p x := ⟨_, rfl⟩
        rw [← hln] at HN2 A10 HLEN
        clear hln
        refine (words_ar b2 g2 ln _ A10.out).mono ?_
        rintro e w11 ⟨g', rfl, -, hB, o11⟩
        have HSA := Lib.hid (Sl.of_blk (size := 1) (n := ln.length) (c := ln.length) hB (by simp [u64s_len]) (Nat.le_refl _) (by unfold maxLen; have := HLEN.out; omega))
        have HSB := Lib.hid (show Sl w11 w11.heap.size 1 (.slice (some ⟨gq, 0, none⟩) l.length c1') ln.length (u64s ln) from by rw [HLEN.out]; exact let h := own_only HN2.out o11 fun _ _ => id; Sl.of_own h h.1)
        have O11 := Lib.hid (O10.out.trans o11)
        clear hB o11
        go_wp2_with fail
        go_at_call 10
        refine (same_any _ _ ln _ _ _ HSA.out HSB.out).mono ?_
        rintro e w12 ⟨rfl, mq, rfl⟩
        obtain ⟨w12, hw12⟩ : ∃ w12, w11.drewN mq = w12 := ⟨_, rfl⟩
        have O12 := Lib.hid (show Only nob w w12 from hw12 ▸ O11.out.drewN mq)
        rw [hw12]
        clear hw12
        go_wp2_with fail
        go_at_call 6
        refine (awake08_any _ (HTab.out.old O12.out)).mono ?_
        rintro e w13 ⟨rfl, ho⟩
        have O13 := Lib.hid (O12.out.trans ho)
        clear ho
        go_wp2
        go_ret
        exact ⟨rfl, O13.out.whole⟩
    · have hln : stL true l a i x = l := stL_err hs
      obtain ⟨S, hS⟩ : ∃ S, stE true l a i x = S := ⟨_, rfl⟩
      have hS0 : S ≠ 0 := hS ▸ hs
      have hS0' : (S == 0) = false := by simpa using hS0
      have HE0 := Lib.hid h0
      have HS := Lib.hid hS
      have HLN := Lib.hid hln
      clear h0 hs hS hln
      go_enter Tryd.func4, Tryd.ntmps4
      go_wp2_with fail
      go_at_call 7
      refine (of_any _ l _ HA.out (by omega) HW.out).mono ?_
      rintro e w1 ⟨b, g, rfl, hb, hg, hR, o1⟩
      have O1 := Lib.hid o1
      have A1 := Lib.hid hR
      have HG := Lib.hid hg
      clear hR o1 hb hg
      go_wp2_with fail
      go_at_call 12
      refine (oHead_any b g l a _ A1.out (HTab.out.old O1.out) HAT.out).mono ?_
      rw [HE0.out]
      rintro e w2 ⟨rfl, o2⟩
      obtain ⟨W3, hW3, HB3⟩ := box_head w2 (ohK l a) (ohF l a) (ohR l a) (ohM l a) (ohC l a)
      have HW3 := Lib.hid hW3
      have O3 := Lib.hid (O1.out.trans (o2.trans HB3.out.1))
      have A3 := Lib.hid (A1.out.keep (o2.trans HB3.out.1) id id)
      clear hW3 o2
      go_upto_region 7 with fail
      rw [HW3.out]
      go_wp2_with fail
      go_at_call 17
      refine (oSetField_any b g l a i x _ A3.out (HTab.out.old O3.out) HAT.out HX.out).mono ?_
      rintro e w4 ⟨rfl, hA4, o4⟩
      have O4 := Lib.hid (O3.out.andThen o4 fun q hi e => by have := HG.out; unfold isb at e; omega)
      have B4 := Lib.hid (HB3.out.2.keep o4 fun e => A3.out.row.ne HB3.out.2 (by decide) e.symm)
      have A4 := Lib.hid hA4
      clear o4 hA4
      go_wp2_with fail
      go_at_call 7
      refine (of_any _ l _ ((HA.out.below O4.out.whole).more O4.out.size) (by omega) HW.out).mono ?_
      rintro e w5 ⟨b2, g2, rfl, hb2, hg2, hR2, o5⟩
      have O5 := Lib.hid (O4.out.trans o5)
      have A5 := Lib.hid hR2
      have B5 := Lib.hid (B4.out.keep o5 id)
      have HG2 := Lib.hid (Nat.le_trans O4.out.size hg2)
      clear o5 hR2 hb2 hg2
      go_wp2_with fail
      go_at_call 18
      refine (oSetRaw_any b2 g2 l a i x _ A5.out (HTab.out.old O5.out) HAT.out HX.out).mono ?_
      rw [HS.out, HLN.out]
      rintro e w6 ⟨rfl, hA6, o6⟩
      have O6 := Lib.hid (O5.out.andThen o6 fun q hi e => by have := HG2.out; unfold isb at e; omega)
      have B6 := Lib.hid (B5.out.keep o6 fun e => A5.out.row.ne B5.out (by decide) e.symm)
      have A6 := Lib.hid hA6
      clear o6 hA6
      obtain ⟨c0, c1, c2, c3, c4⟩ := cells5 B6.out
      go_wp2_with fail
      go_at_call 11
      refine (words_ar b2 g2 l _ A6.out).mono ?_
      rintro e w11 ⟨g', rfl, -, hB, o11⟩
      have HSA := Lib.hid (Sl.of_blk (size := 1) (n := l.length) (c := l.length) hB (by simp [u64s_len]) (Nat.le_refl _) (by unfold maxLen; omega))
      have O11 := Lib.hid (O6.out.trans o11)
      have HSB := Lib.hid ((HA.out.below O11.out.whole).more O11.out.size)
      clear hB o11 c0 c1 c2 c3 c4
      go_wp2_with fail
      go_at_call 10
      refine (same_any _ _ l _ _ _ HSA.out HSB.out).mono ?_
      rintro e w12 ⟨rfl, mq, rfl⟩
      obtain ⟨w12, hw12⟩ : ∃ w12, w11.drewN mq = w12 := ⟨_, rfl⟩
      have O12 := Lib.hid (show Only nob w w12 from hw12 ▸ O11.out.drewN mq)
      rw [hw12]
      clear hw12
      go_wp2_with fail
      go_at_call 6
      refine (awake08_any _ (HTab.out.old O12.out)).mono ?_
      rintro e w13 ⟨rfl, ho⟩
      have O13 := Lib.hid (O12.out.trans ho)
      clear ho
      go_wp2
      go_ret
      exact ⟨rfl, O13.out.whole⟩
  · obtain ⟨hq1, -⟩ := pl_head (raw := true) (i := i) h0
    have hp0 : plE true l a i ≠ 0 := by rw [hq1]; exact h0
    obtain ⟨hs1, hs2⟩ := st_place (x := x) hp0
    obtain ⟨S, hS⟩ : ∃ S, ohE l a = S := ⟨_, rfl⟩
    have hS0 : S ≠ 0 := hS ▸ h0
    have hS0' : (S == 0) = false := by simpa using hS0
    have HE0 := Lib.hid hS
    have HS := Lib.hid (hs1.trans (hq1.trans hS))
    have HLN := Lib.hid hs2
    clear h0 hS hs1 hs2 hq1 hp0
    go_enter Tryd.func4, Tryd.ntmps4
    go_wp2_with fail
    go_at_call 7
    refine (of_any _ l _ HA.out (by omega) HW.out).mono ?_
    rintro e w1 ⟨b, g, rfl, hb, hg, hR, o1⟩
    have O1 := Lib.hid o1
    have A1 := Lib.hid hR
    have HG := Lib.hid hg
    clear hR o1 hb hg
    go_wp2_with fail
    go_at_call 12
    refine (oHead_any b g l a _ A1.out (HTab.out.old O1.out) HAT.out).mono ?_
    rw [HE0.out]
    rintro e w2 ⟨rfl, o2⟩
    obtain ⟨W3, hW3, HB3⟩ := box_head w2 (ohK l a) (ohF l a) (ohR l a) (ohM l a) (ohC l a)
    have HW3 := Lib.hid hW3
    have O3 := Lib.hid (O1.out.trans (o2.trans HB3.out.1))
    have A3 := Lib.hid (A1.out.keep (o2.trans HB3.out.1) id id)
    clear hW3 o2
    go_upto_region 7 with fail
    rw [HW3.out]
    go_wp2_with fail
    go_at_call 17
    refine (oSetField_any b g l a i x _ A3.out (HTab.out.old O3.out) HAT.out HX.out).mono ?_
    rintro e w4 ⟨rfl, hA4, o4⟩
    have O4 := Lib.hid (O3.out.andThen o4 fun q hi e => by have := HG.out; unfold isb at e; omega)
    have B4 := Lib.hid (HB3.out.2.keep o4 fun e => A3.out.row.ne HB3.out.2 (by decide) e.symm)
    have A4 := Lib.hid hA4
    clear o4 hA4
    go_wp2_with fail
    go_at_call 7
    refine (of_any _ l _ ((HA.out.below O4.out.whole).more O4.out.size) (by omega) HW.out).mono ?_
    rintro e w5 ⟨b2, g2, rfl, hb2, hg2, hR2, o5⟩
    have O5 := Lib.hid (O4.out.trans o5)
    have A5 := Lib.hid hR2
    have B5 := Lib.hid (B4.out.keep o5 id)
    have HG2 := Lib.hid (Nat.le_trans O4.out.size hg2)
    clear o5 hR2 hb2 hg2
    go_wp2_with fail
    go_at_call 18
    refine (oSetRaw_any b2 g2 l a i x _ A5.out (HTab.out.old O5.out) HAT.out HX.out).mono ?_
    rw [HS.out, HLN.out]
    rintro e w6 ⟨rfl, hA6, o6⟩
    have O6 := Lib.hid (O5.out.andThen o6 fun q hi e => by have := HG2.out; unfold isb at e; omega)
    have B6 := Lib.hid (B5.out.keep o6 fun e => A5.out.row.ne B5.out (by decide) e.symm)
    have A6 := Lib.hid hA6
    clear o6 hA6
    obtain ⟨c0, c1, c2, c3, c4⟩ := cells5 B6.out
    go_wp2_with fail
    go_at_call 11
    refine (words_ar b2 g2 l _ A6.out).mono ?_
    rintro e w11 ⟨g', rfl, -, hB, o11⟩
    have HSA := Lib.hid (Sl.of_blk (size := 1) (n := l.length) (c := l.length) hB (by simp [u64s_len]) (Nat.le_refl _) (by unfold maxLen; omega))
    have O11 := Lib.hid (O6.out.trans o11)
    have HSB := Lib.hid ((HA.out.below O11.out.whole).more O11.out.size)
    clear hB o11 c0 c1 c2 c3 c4
    go_wp2_with fail
    go_at_call 10
    refine (same_any _ _ l _ _ _ HSA.out HSB.out).mono ?_
    rintro e w12 ⟨rfl, mq, rfl⟩
    obtain ⟨w12, hw12⟩ : ∃ w12, w11.drewN mq = w12 := ⟨_, rfl⟩
    have O12 := Lib.hid (show Only nob w w12 from hw12 ▸ O11.out.drewN mq)
    rw [hw12]
    clear hw12
    go_wp2_with fail
    go_at_call 6
    refine (awake08_any _ (HTab.out.old O12.out)).mono ?_
    rintro e w13 ⟨rfl, ho⟩
    have O13 := Lib.hid (O12.out.trans ho)
    clear ho
    go_wp2
    go_ret
    exact ⟨rfl, O13.out.whole⟩

set_option maxRecDepth 100000 in
set_option maxHeartbeats 400000 in
theorem objectAlone_walk (v : Value) (l : List Nat) (a i : Int) (x : Nat) (raw : Bool) (w : World) (ht : Par w) (h : Sl w w.heap.size 1 v l.length (u64s l)) (hw : Words l) (ha : a ≤ 9223372036854775807) (hx : x < full) :
    Calls Tryd.prog 4 #[v, .int .i64 a, .int .i64 i, .int .u64 x, .bool raw] w fun e w' => e = .returned (.bool true) ∧ Below w.heap.size w w' := by
  by_cases hl : l.length ≤ 200
  · cases raw
    · exact objectAlone_false v l a i x w ht h hw hl ha hx
    · exact objectAlone_true v l a i x w ht h hw hl ha hx
  · have HTab := Lib.hid ht
    have hl2 : 200 < l.length := by omega
    obtain ⟨A, c, rfl, -⟩ := h
    clear ht hl
    go_enter Tryd.func4, Tryd.ntmps4
    go_wp2_with fail
    go_at_call 6
    refine (awake08_any _ HTab.out).mono ?_
    rintro e w6 ⟨rfl, ho⟩
    have HO2 := Lib.hid ho
    clear ho
    go_wp2
    go_ret
    exact ⟨rfl, HO2.out.whole⟩
end Go.Proofs.YtffbemfgibleeaaDoor
