/- The document's own layer 8: Set, SetHead, Put in a list of words. -/
import Derived.Test.YtffbemfgibleeaaDoorRef08
import Derived.Test.YtffbemfgibleeaaDoorObjC
import Derived.Test.YtffbemfgibleeaaDoorRef02
namespace Go.Proofs.YtffbemfgibleeaaDoor
open Go.RowKit

/-- What a list that is not written itself comes to: the old one, with an error, or one that is new. -/
def NewL (w w' : World) (v v' : Value) (E : Int) (l' : List Nat) : Prop := (E ≠ 0 → v' = v) ∧ (E = 0 → w'.ownsRow w.heap.size 31 1 v' l'.length (u64s l'))
theorem NewL.old {w w' : World} {v : Value} {E : Int} {l' : List Nat} (h : E ≠ 0) : NewL w w' v v E l' := ⟨fun _ => rfl, fun k => absurd k h⟩


set_option maxRecDepth 100000 in
set_option maxHeartbeats 1000000 in
theorem rSet_false (v : Value) (B : Nat) (l : List Nat) (a i : Int) (x : Nat) (w : World) (h : Sl w B 1 v l.length (u64s l)) (hB : B ≤ w.heap.size) (hw : Words l) (hl : l.length ≤ 98304) (hx : x < full) :
    Calls Tryd.prog 26 #[v, .int .i64 a, .int .i64 i, .int .u64 x, .bool false] w fun e w' => ∃ v', e = .returned (.tuple #[v', .int .i64 (stE false l a i x)]) ∧ NewL w w' v v' (stE false l a i x) (stL false l a i x) ∧ Only nob w w' := by
  obtain ⟨i0, hi0, hz0, hz1, hz2⟩ := info_parts info_u64
  have HC := Lib.hid (rPlace_any v B l a i false w h hB hw hl)
  have HD := Lib.hid (fun w => refDec_any (n := (x : Int)) ⟨by omega, by unfold full at hx; omega⟩ w)
  have HSL := Lib.hid h
  have hB2 := Lib.hid hB
  obtain ⟨A, ca, rfl, hca, hcm, -⟩ := h
  unfold maxLen at hcm
  clear hw hB hx
  by_cases h0 : plE false l a i = 0
  · obtain ⟨p, hpp, hpl, -⟩ := pl_in h0
    by_cases hd : dE x = 0
    · skip
      obtain ⟨hq1, hq2⟩ := st_val h0 hd
      rw [hq1, hq2, hpp, Int.toNat_natCast]
      rw [h0, hpp] at HC
      rw [hd] at HD
      have HPL := Lib.hid hpl
      clear hq1 hq2 h0 hpp hd
      generalize dK x = K at *
      generalize dX x = X at *
      go_enter Tryd.func26, Tryd.ntmps26
      go_wp2_with fail
      go_at_call 35
      refine HC.out.mono ?_
      rintro e w1 ⟨rfl, o⟩
      have O1 := Lib.hid o
      clear o
      go_wp2_with fail
      go_at_call 43
      refine (HD.out _).mono ?_
      rintro e w2 ⟨rfl, o⟩
      have O2 := Lib.hid (O1.out.trans o)
      clear o
      have O5 := Lib.hid O2.out
      have S5 := Lib.hid ((HSL.out.only O5.out hB2.out (fun _ h => h.elim)).more (Nat.le_trans hB2.out O5.out.size))
      clear O2
      go_wp2_with (with_reducible refine wpList_append_sl (o := ⟨some 40, _, _, _, _, _⟩) _ rfl (.tmp 38) (.tmp 39) _ rfl w2.heap.size 31 i0 _ 1 8 Tryd.underlying22 hi0 hz0 hz1 hz2 rfl (by decide) (.slice (some ⟨w2.heap.size, 0, none⟩) 0 0) 0 [] rfl ?c1 w2.heap.size (.slice A l.length ca) l.length (u64s l) rfl ?c6 (u64s_one l) ?c2 ?c3 ?c4 ?c5)
      case c1 => exact lit_own w2 _ _
      case c6 => exact S5.out.below ((Below.refl _ _).alloc (Nat.le_refl _) _)
      case c2 => unfold maxLen; omega
      case c3 => omega
      case c4 => simp
      case c5 =>
        intro v1 w9 H1 o1 _
        have o2 := lit_only o1
        have HO := Lib.hid (show w9.ownsRow w2.heap.size 31 1 v1 l.length (u64s l) by simpa using H1.out)
        have O9 := Lib.hid (O5.out.trans o2)
        have hsz := Lib.hid O5.out.size
        obtain ⟨g, c1, rfl, -, -, hg⟩ := own_form HO.out (by omega)
        have HG := Lib.hid hg
        clear H1 o1 o2 hg
        have g2 : w9.cell? ⟨g, p, none⟩ = some (.int .u64 (wd l p : Nat)) := by rw [HO.out.cellAt p (by have := HPL.out; omega)]; exact u64s_wd _ _ HPL.out
        have g3 := HO.out.frozenAt p
        have HN := Lib.hid (HO.out.stored p (.int .u64 (x : Nat)))
        rw [u64s_set] at HN
        have HLN := Lib.hid (show (l.set p x).length = l.length by simp)
        go_wp2
        go_ret2
        exact ⟨_, rfl, ⟨fun h => absurd rfl h, fun _ => by rw [HLN.out]; exact own_more HN.out.1 (fun k hk => Nat.le_trans hsz.out (own_lt HN.out.1 hk).1)⟩, O9.out.andThen (only_set _ _ _ _) fun i hi e => by unfold isb at e; have h1 := HG.out; have h2 := hsz.out; omega⟩
    · obtain ⟨hq1, hq2⟩ := st_no h0 hd
      rw [hq1, hq2]
      rw [h0, hpp] at HC
      clear hq1 hq2 h0 hpp hpl
      generalize dK x = K at *
      generalize dX x = X at *
      generalize dE x = E at *
      have hd' : (E == 0) = false := by simpa using hd
      have HNE := Lib.hid hd
      go_enter Tryd.func26, Tryd.ntmps26
      go_wp2_with fail
      go_at_call 35
      refine HC.out.mono ?_
      rintro e w1 ⟨rfl, o⟩
      have O1 := Lib.hid o
      clear o
      go_wp2_with fail
      go_at_call 43
      refine (HD.out _).mono ?_
      rintro e w2 ⟨rfl, o⟩
      have O2 := Lib.hid (O1.out.trans o)
      clear o
      go_wp2
      go_ret2
      exact ⟨_, rfl, NewL.old HNE.out, O2.out⟩
  · obtain ⟨hq1, hq2⟩ := st_place (x := x) h0
    rw [hq1, hq2]
    clear hq1 hq2
    generalize plE false l a i = E at *
    generalize plP false l a i = p at *
    have h0' : (E == 0) = false := by simpa using h0
    have HNE := Lib.hid h0
    go_enter Tryd.func26, Tryd.ntmps26
    go_wp2_with fail
    go_at_call 35
    refine HC.out.mono ?_
    rintro e w1 ⟨rfl, o⟩
    have O1 := Lib.hid o
    clear o
    go_wp2
    go_ret2
    exact ⟨_, rfl, NewL.old HNE.out, O1.out⟩

set_option maxRecDepth 100000 in
set_option maxHeartbeats 1000000 in
theorem rSet_true (v : Value) (B : Nat) (l : List Nat) (a i : Int) (x : Nat) (w : World) (h : Sl w B 1 v l.length (u64s l)) (hB : B ≤ w.heap.size) (hw : Words l) (hl : l.length ≤ 98304) (hx : x < full) :
    Calls Tryd.prog 26 #[v, .int .i64 a, .int .i64 i, .int .u64 x, .bool true] w fun e w' => ∃ v', e = .returned (.tuple #[v', .int .i64 (stE true l a i x)]) ∧ NewL w w' v v' (stE true l a i x) (stL true l a i x) ∧ Only nob w w' := by
  obtain ⟨i0, hi0, hz0, hz1, hz2⟩ := info_parts info_u64
  have HC := Lib.hid (rPlace_any v B l a i true w h hB hw hl)
  have HD := Lib.hid (fun w => refDec_any (n := (x : Int)) ⟨by omega, by unfold full at hx; omega⟩ w)
  have HSL := Lib.hid h
  have hB2 := Lib.hid hB
  obtain ⟨A, ca, rfl, hca, hcm, -⟩ := h
  unfold maxLen at hcm
  clear hw hB hx
  by_cases h0 : plE true l a i = 0
  · obtain ⟨p, hpp, hpl, -⟩ := pl_in h0
    · skip
      obtain ⟨hq1, hq2⟩ := st_raw (x := x) h0
      rw [hq1, hq2, hpp, Int.toNat_natCast]
      rw [h0, hpp] at HC
      have HPL := Lib.hid hpl
      clear hq1 hq2 h0 hpp
      go_enter Tryd.func26, Tryd.ntmps26
      go_wp2_with fail
      go_at_call 35
      refine HC.out.mono ?_
      rintro e w1 ⟨rfl, o⟩
      have O1 := Lib.hid o
      clear o
      have O5 := Lib.hid O1.out
      have S5 := Lib.hid ((HSL.out.only O5.out hB2.out (fun _ h => h.elim)).more (Nat.le_trans hB2.out O5.out.size))
      clear O1
      go_wp2_with (with_reducible refine wpList_append_sl (o := ⟨some 40, _, _, _, _, _⟩) _ rfl (.tmp 38) (.tmp 39) _ rfl w1.heap.size 31 i0 _ 1 8 Tryd.underlying22 hi0 hz0 hz1 hz2 rfl (by decide) (.slice (some ⟨w1.heap.size, 0, none⟩) 0 0) 0 [] rfl ?c1 w1.heap.size (.slice A l.length ca) l.length (u64s l) rfl ?c6 (u64s_one l) ?c2 ?c3 ?c4 ?c5)
      case c1 => exact lit_own w1 _ _
      case c6 => exact S5.out.below ((Below.refl _ _).alloc (Nat.le_refl _) _)
      case c2 => unfold maxLen; omega
      case c3 => omega
      case c4 => simp
      case c5 =>
        intro v1 w9 H1 o1 _
        have o2 := lit_only o1
        have HO := Lib.hid (show w9.ownsRow w1.heap.size 31 1 v1 l.length (u64s l) by simpa using H1.out)
        have O9 := Lib.hid (O5.out.trans o2)
        have hsz := Lib.hid O5.out.size
        obtain ⟨g, c1, rfl, -, -, hg⟩ := own_form HO.out (by omega)
        have HG := Lib.hid hg
        clear H1 o1 o2 hg
        have g2 : w9.cell? ⟨g, p, none⟩ = some (.int .u64 (wd l p : Nat)) := by rw [HO.out.cellAt p (by have := HPL.out; omega)]; exact u64s_wd _ _ HPL.out
        have g3 := HO.out.frozenAt p
        have HN := Lib.hid (HO.out.stored p (.int .u64 (x : Nat)))
        rw [u64s_set] at HN
        have HLN := Lib.hid (show (l.set p x).length = l.length by simp)
        go_wp2
        go_ret2
        exact ⟨_, rfl, ⟨fun h => absurd rfl h, fun _ => by rw [HLN.out]; exact own_more HN.out.1 (fun k hk => Nat.le_trans hsz.out (own_lt HN.out.1 hk).1)⟩, O9.out.andThen (only_set _ _ _ _) fun i hi e => by unfold isb at e; have h1 := HG.out; have h2 := hsz.out; omega⟩
  · obtain ⟨hq1, hq2⟩ := st_place (x := x) h0
    rw [hq1, hq2]
    clear hq1 hq2
    generalize plE true l a i = E at *
    generalize plP true l a i = p at *
    have h0' : (E == 0) = false := by simpa using h0
    have HNE := Lib.hid h0
    go_enter Tryd.func26, Tryd.ntmps26
    go_wp2_with fail
    go_at_call 35
    refine HC.out.mono ?_
    rintro e w1 ⟨rfl, o⟩
    have O1 := Lib.hid o
    clear o
    go_wp2
    go_ret2
    exact ⟨_, rfl, NewL.old HNE.out, O1.out⟩

theorem rSet_any (v : Value) (B : Nat) (l : List Nat) (a i : Int) (x : Nat) (raw : Bool) (w : World) (h : Sl w B 1 v l.length (u64s l)) (hB : B ≤ w.heap.size) (hw : Words l) (hl : l.length ≤ 98304) (hx : x < full) :
    Calls Tryd.prog 26 #[v, .int .i64 a, .int .i64 i, .int .u64 x, .bool raw] w fun e w' => ∃ v', e = .returned (.tuple #[v', .int .i64 (stE raw l a i x)]) ∧ NewL w w' v v' (stE raw l a i x) (stL raw l a i x) ∧ Only nob w w' := by
  cases raw
  · exact rSet_false v B l a i x w h hB hw hl hx
  · exact rSet_true v B l a i x w h hB hw hl hx

set_option maxRecDepth 100000 in
set_option maxHeartbeats 2000000 in
theorem rSetHead_any (v : Value) (B : Nat) (l : List Nat) (a k f r : Int) (m : Bool) (c : Int) (w : World) (h : Sl w B 1 v l.length (u64s l)) (hB : B ≤ w.heap.size) (hw : Words l) (hl : l.length ≤ 98304) :
    Calls Tryd.prog 25 #[v, .int .i64 a, .agg #[.int .i64 k, .int .i64 f, .int .i64 r, .bool m, .int .i64 c]] w fun e w' => ∃ v', e = .returned (.tuple #[v', .int .i64 (shE l a k f r c)]) ∧ NewL w w' v v' (shE l a k f r c) (shL l a k f r m c) ∧ Only nob w w' := by
  have mixed : Tryd.prog.follows .mixedOrders = true := by kernel_rfl
  obtain ⟨i0, hi0, hz0, hz1, hz2⟩ := info_parts info_u64
  obtain ⟨W, hW0, HB⟩ := box_head w k f r m c
  have HWE := Lib.hid hW0
  have HSL := Lib.hid h
  have hB2 := Lib.hid hB
  have HH := Lib.hid (rHead_any v B l a W (h.only HB.out.1 hB (fun _ h => h.elim)) (Nat.le_trans hB HB.out.1.size) hw hl)
  have HEnc := Lib.hid (fun w => refEnc07_any k f r m c w)
  obtain ⟨A, ca, rfl, hca, hcm, -⟩ := h
  unfold maxLen at hcm
  clear hW0 hw hB
  by_cases h0 : ohE l a = 0
  · obtain ⟨hb1, hb2, hb3, hb4, -, -, hb7⟩ := oh_bounds h0
    rw [h0] at HH
    have hz := hSz_yes hb7
    rcases hm : hmay k f r c with _ | _
    · obtain ⟨hq1, hq2⟩ := sh_no m h0 (k := k) (f := f) (r := r) (c := c) (fun hx => by rw [hm] at hx; exact absurd hx.1 (by decide))
      rw [hq1, hq2]
      rw [hEW_no m hm, hEE_no hm] at HEnc
      clear hq1 hq2 hm hb1 hb2 hb3 hb4 hb7 hz h0
      generalize ohK l a = K at *
      generalize ohF l a = F at *
      generalize ohR l a = R at *
      generalize ohM l a = M at *
      generalize ohC l a = C at *
      · skip
        go_enter Tryd.func25, Tryd.ntmps25
        go_upto_region 1 with fail
        rw [HWE.out]
        go_wp2_with fail
        go_at_call 13
        refine HH.out.mono ?_
        rintro e w1 ⟨rfl, o⟩
        obtain ⟨W3, hW3, HB3⟩ := box_head w1 K F R M C
        have HW3 := Lib.hid hW3
        have O3 := Lib.hid (HB.out.1.trans (o.trans HB3.out.1))
        have B3 := Lib.hid (HB.out.2.keep (o.trans HB3.out.1) id)
        clear hW3 o
        go_upto_region 2 with fail
        rw [HW3.out]
        obtain ⟨c0, c1, c2, c3, c4⟩ := cells5 B3.out
        go_wp2_with fail
        go_at_call 42
        refine (HEnc.out _).mono ?_
        rintro e w4 ⟨rfl, o⟩
        have O4 := Lib.hid (O3.out.trans o)
        have B4 := Lib.hid (B3.out.keep o id)
        have C4 := Lib.hid (HB3.out.2.keep o id)
        clear o c0 c1 c2 c3 c4
        have O5 := Lib.hid O4.out
        go_wp2_with fail
        refine wp_region_only mixed (by kernel_rfl) ?_
        repeat (quiet_step (fail))
        refine wpQuiet_nil ?_
        rintro w' ⟨⟨nq, osq⟩, rfl⟩
        obtain ⟨W5, hW5, hO5⟩ := wat_name w4 nq osq
        rw [hW5]
        have O6 := Lib.hid (O5.out.trans hO5.out)
        clear hW5 hO5
        go_wp2
        go_ret2
        exact ⟨_, rfl, NewL.old (by decide), O6.out⟩
    · rw [hEW_yes m hm, hEE_yes hm] at HEnc
      have hwl := hW_lt m hm
      obtain ⟨x, hx⟩ : ∃ x : Nat, hW k f r m c = x := ⟨(hW k f r m c).toNat, by omega⟩
      have hz2 := hSz_yes hm
      rw [hx] at HEnc
      obtain ⟨s, hs⟩ : ∃ s, s = hSz k f r c := ⟨_, rfl⟩
      obtain ⟨t, ht⟩ : ∃ t, t = hSz (ohK l a) (ohF l a) (ohR l a) (ohC l a) := ⟨_, rfl⟩
      have HS1 := Lib.hid (show ∀ w, Calls Tryd.prog 33 #[.agg #[.int .i64 k, .int .i64 f, .int .i64 r, .bool m, .int .i64 c]] w fun e w' => e = .returned (.int .i64 s) ∧ Only nob w w' from hs ▸ refSize07_any k f r m c)
      have HS2 := Lib.hid (show ∀ w, Calls Tryd.prog 33 #[.agg #[.int .i64 (ohK l a), .int .i64 (ohF l a), .int .i64 (ohR l a), .bool (ohM l a), .int .i64 (ohC l a)]] w fun e w' => e = .returned (.int .i64 t) ∧ Only nob w w' from ht ▸ refSize07_any _ _ _ (ohM l a) _)
      by_cases hst : s = t
      case' pos =>
        obtain ⟨hq1, hq2⟩ := sh_yes m h0 ⟨hm, show f + r = ohF l a + ohR l a by omega⟩
        rw [hq1, hq2, hx, Int.toNat_natCast]
        obtain ⟨p, hpa, hob⟩ := ob_of h0
        have HPL := Lib.hid hob.there
        have hpl := hob.there
        subst hpa
        rw [Int.toNat_natCast]
        subst hst
        clear hob
      case' neg =>
        obtain ⟨hq1, hq2⟩ := sh_no m h0 (k := k) (f := f) (r := r) (c := c) (fun hx => hst (by omega))
        rw [hq1, hq2]
        have hst' : (s == t) = false := by simpa using hst
      all_goals
        clear hq1 hq2 hm hwl hz2 hz hb1 hb2 hb3 hb4 hb7 h0 hx hs ht
      case pos =>
        generalize ohK l p = K at *
        generalize ohF l p = F at *
        generalize ohR l p = R at *
        generalize ohM l p = M at *
        generalize ohC l p = C at *
        go_enter Tryd.func25, Tryd.ntmps25
        go_upto_region 1 with fail
        rw [HWE.out]
        go_wp2_with fail
        go_at_call 13
        refine HH.out.mono ?_
        rintro e w1 ⟨rfl, o⟩
        obtain ⟨W3, hW3, HB3⟩ := box_head w1 K F R M C
        have HW3 := Lib.hid hW3
        have O3 := Lib.hid (HB.out.1.trans (o.trans HB3.out.1))
        have B3 := Lib.hid (HB.out.2.keep (o.trans HB3.out.1) id)
        clear hW3 o
        go_upto_region 2 with fail
        rw [HW3.out]
        obtain ⟨c0, c1, c2, c3, c4⟩ := cells5 B3.out
        go_wp2_with fail
        go_at_call 42
        refine (HEnc.out _).mono ?_
        rintro e w4 ⟨rfl, o⟩
        have O4 := Lib.hid (O3.out.trans o)
        have B4 := Lib.hid (B3.out.keep o id)
        have C4 := Lib.hid (HB3.out.2.keep o id)
        clear o c0 c1 c2 c3 c4
        go_wp2_with fail
        obtain ⟨c0, c1, c2, c3, c4⟩ := cells5 B4.out
        obtain ⟨d0, d1, d2, d3, d4⟩ := cells5 C4.out
        replace c0 := wat_cell c0
        replace c1 := wat_cell c1
        replace c2 := wat_cell c2
        replace c3 := wat_cell c3
        replace c4 := wat_cell c4
        replace d0 := wat_cell d0
        replace d1 := wat_cell d1
        replace d2 := wat_cell d2
        replace d3 := wat_cell d3
        replace d4 := wat_cell d4
        refine wp_region_only mixed (by kernel_rfl) ?_
        repeat (quiet_step ((go_at_call 33; first | (with_reducible refine wat_call (HS1.out _)) | (with_reducible refine wat_call (HS2.out _)))))
        refine wpQuiet_nil ?_
        rintro w' ⟨⟨nq, osq⟩, rfl⟩
        obtain ⟨W5, hW5, hO5⟩ := wat_name w4 nq osq
        rw [hW5]
        have O5 := Lib.hid (O4.out.trans hO5.out)
        clear hW5 hO5 c0 c1 c2 c3 c4 d0 d1 d2 d3 d4
        have S5 := Lib.hid ((HSL.out.only O5.out hB2.out (fun _ h => h.elim)).more (Nat.le_trans hB2.out O5.out.size))
        go_wp2_with (with_reducible refine wpList_append_sl (o := ⟨some 39, _, _, _, _, _⟩) _ rfl (.tmp 37) (.tmp 38) _ rfl W5.heap.size 31 i0 _ 1 8 Tryd.underlying22 hi0 hz0 hz1 hz2 rfl (by decide) (.slice (some ⟨W5.heap.size, 0, none⟩) 0 0) 0 [] rfl ?c1 W5.heap.size (.slice A l.length ca) l.length (u64s l) rfl ?c6 (u64s_one l) ?c2 ?c3 ?c4 ?c5)
        case c1 => exact lit_own W5 _ _
        case c6 => exact S5.out.below ((Below.refl _ _).alloc (Nat.le_refl _) _)
        case c2 => unfold maxLen; omega
        case c3 => omega
        case c4 => simp
        case c5 =>
          intro v1 w9 H1 o1 _
          have o2 := lit_only o1
          have HO := Lib.hid (show w9.ownsRow W5.heap.size 31 1 v1 l.length (u64s l) by simpa using H1.out)
          have O9 := Lib.hid (O5.out.trans o2)
          have hsz := Lib.hid O5.out.size
          obtain ⟨g, c1, rfl, -, -, hg⟩ := own_form HO.out (by omega)
          have HG := Lib.hid hg
          clear H1 o1 o2 hg
          have g2 : w9.cell? ⟨g, p, none⟩ = some (.int .u64 (wd l p : Nat)) := by rw [HO.out.cellAt p (by have := HPL.out; omega)]; exact u64s_wd _ _ HPL.out
          have g3 := HO.out.frozenAt p
          have HN := Lib.hid (HO.out.stored p (.int .u64 (x : Nat)))
          rw [u64s_set] at HN
          have HLN := Lib.hid (show (l.set p x).length = l.length by simp)
          go_wp2
          go_ret2
          exact ⟨_, rfl, ⟨fun h => absurd rfl h, fun _ => by rw [HLN.out]; exact own_more HN.out.1 (fun k hk => Nat.le_trans hsz.out (own_lt HN.out.1 hk).1)⟩, O9.out.andThen (only_set _ _ _ _) fun i hi e => by unfold isb at e; have h1 := HG.out; have h2 := hsz.out; omega⟩
      case neg =>
        generalize ohK l a = K at *
        generalize ohF l a = F at *
        generalize ohR l a = R at *
        generalize ohM l a = M at *
        generalize ohC l a = C at *
        go_enter Tryd.func25, Tryd.ntmps25
        go_upto_region 1 with fail
        rw [HWE.out]
        go_wp2_with fail
        go_at_call 13
        refine HH.out.mono ?_
        rintro e w1 ⟨rfl, o⟩
        obtain ⟨W3, hW3, HB3⟩ := box_head w1 K F R M C
        have HW3 := Lib.hid hW3
        have O3 := Lib.hid (HB.out.1.trans (o.trans HB3.out.1))
        have B3 := Lib.hid (HB.out.2.keep (o.trans HB3.out.1) id)
        clear hW3 o
        go_upto_region 2 with fail
        rw [HW3.out]
        obtain ⟨c0, c1, c2, c3, c4⟩ := cells5 B3.out
        go_wp2_with fail
        go_at_call 42
        refine (HEnc.out _).mono ?_
        rintro e w4 ⟨rfl, o⟩
        have O4 := Lib.hid (O3.out.trans o)
        have B4 := Lib.hid (B3.out.keep o id)
        have C4 := Lib.hid (HB3.out.2.keep o id)
        clear o c0 c1 c2 c3 c4
        go_wp2_with fail
        obtain ⟨c0, c1, c2, c3, c4⟩ := cells5 B4.out
        obtain ⟨d0, d1, d2, d3, d4⟩ := cells5 C4.out
        replace c0 := wat_cell c0
        replace c1 := wat_cell c1
        replace c2 := wat_cell c2
        replace c3 := wat_cell c3
        replace c4 := wat_cell c4
        replace d0 := wat_cell d0
        replace d1 := wat_cell d1
        replace d2 := wat_cell d2
        replace d3 := wat_cell d3
        replace d4 := wat_cell d4
        refine wp_region_only mixed (by kernel_rfl) ?_
        repeat (quiet_step ((go_at_call 33; first | (with_reducible refine wat_call (HS1.out _)) | (with_reducible refine wat_call (HS2.out _)))))
        refine wpQuiet_nil ?_
        rintro w' ⟨⟨nq, osq⟩, rfl⟩
        obtain ⟨W5, hW5, hO5⟩ := wat_name w4 nq osq
        rw [hW5]
        have O5 := Lib.hid (O4.out.trans hO5.out)
        clear hW5 hO5 c0 c1 c2 c3 c4 d0 d1 d2 d3 d4
        go_wp2
        go_ret2
        exact ⟨_, rfl, NewL.old (by decide), O5.out⟩
  · obtain ⟨hq1, hq2⟩ := sh_head (k := k) (f := f) (r := r) (c := c) m h0
    rw [hq1, hq2]
    clear hq1 hq2
    generalize ohK l a = K at *
    generalize ohF l a = F at *
    generalize ohR l a = R at *
    generalize ohM l a = M at *
    generalize ohC l a = C at *
    generalize ohE l a = E at *
    have h0' : (E == 0) = false := by simpa using h0
    have HNE := Lib.hid h0
    go_enter Tryd.func25, Tryd.ntmps25
    go_upto_region 1 with fail
    rw [HWE.out]
    go_wp2_with fail
    go_at_call 13
    refine HH.out.mono ?_
    rintro e w1 ⟨rfl, o⟩
    obtain ⟨W3, hW3, HB3⟩ := box_head w1 K F R M C
    have HW3 := Lib.hid hW3
    have O3 := Lib.hid (HB.out.1.trans (o.trans HB3.out.1))
    have B3 := Lib.hid (HB.out.2.keep (o.trans HB3.out.1) id)
    clear hW3 o
    go_upto_region 2 with fail
    rw [HW3.out]
    go_wp2
    go_ret2
    exact ⟨_, rfl, NewL.old HNE.out, O3.out⟩

set_option maxRecDepth 100000 in
set_option maxHeartbeats 2000000 in
theorem rPut_any (v : Value) (B : Nat) (l : List Nat) (a k f r : Int) (m : Bool) (c : Int) (w : World) (h : Sl w B 1 v l.length (u64s l)) (hB : B ≤ w.heap.size) (hl : l.length ≤ 98304) :
    Calls Tryd.prog 24 #[v, .int .i64 a, .agg #[.int .i64 k, .int .i64 f, .int .i64 r, .bool m, .int .i64 c]] w fun e w' => ∃ v', e = .returned (.tuple #[v', .int .i64 (ptE l a k f r c)]) ∧ NewL w w' v v' (ptE l a k f r c) (ptL l a k f r m c) ∧ Only nob w w' := by
  obtain ⟨i0, hi0, hz0, hz1, hz2⟩ := info_parts info_u64
  obtain ⟨W, hW0, HB⟩ := box_head w k f r m c
  have HWE := Lib.hid hW0
  have HSL := Lib.hid h
  have hB2 := Lib.hid hB
  have HEnc := Lib.hid (refEnc07_any k f r m c W)
  obtain ⟨A, ca, rfl, hca, hcm, -⟩ := h
  unfold maxLen at hcm
  obtain ⟨c0, c1, c2, c3, c4⟩ := cells5 HB.out.2
  clear hW0 hB
  rcases hm : hmay k f r c with _ | _
  · obtain ⟨hq1, hq2⟩ := pt_may (l := l) (a := a) m hm
    rw [hq1, hq2]
    rw [hEW_no m hm, hEE_no hm] at HEnc
    clear hq1 hq2 hm
    go_enter Tryd.func24, Tryd.ntmps24
    go_wp2_with fail
    rw [HWE.out]
    go_at_call 42
    refine HEnc.out.mono ?_
    rintro e w1 ⟨rfl, o⟩
    have O1 := Lib.hid (HB.out.1.trans o)
    clear o c0 c1 c2 c3 c4
    go_wp2
    go_ret2
    exact ⟨_, rfl, NewL.old (by decide), O1.out⟩
  · rw [hEW_yes m hm, hEE_yes hm] at HEnc
    have hwl := hW_lt m hm
    have hmb := hmay_iff.1 hm
    obtain ⟨x, hx⟩ : ∃ x : Nat, hW k f r m c = x := ⟨(hW k f r m c).toNat, by omega⟩
    obtain ⟨n, hn⟩ : ∃ n : Nat, 1 + f + r = n := ⟨(1 + f + r).toNat, by omega⟩
    have HS := Lib.hid ((hSz_yes hm).trans hn)
    have hn1 : 1 ≤ n ∧ n ≤ 8193 := by omega
    rw [hx] at HEnc
    by_cases hf : 0 ≤ a ∧ 1 + f + r ≤ (l.length : Int) - a
    · obtain ⟨hq1, hq2⟩ := pt_yes m hm hf
      rw [hq1, hq2, hx, hn, Int.toNat_natCast, Int.toNat_natCast]
      obtain ⟨p, rfl⟩ : ∃ p : Nat, a = p := ⟨a.toNat, by omega⟩
      rw [Int.toNat_natCast]
      have hpn : p + n ≤ l.length := by omega
      clear hq1 hq2 hm hwl hmb hx hn hf
      go_enter Tryd.func24, Tryd.ntmps24
      go_wp2_with fail
      rw [HWE.out]
      go_at_call 42
      refine HEnc.out.mono ?_
      rintro e w1 ⟨rfl, o⟩
      have O1 := Lib.hid (HB.out.1.trans o)
      have B1 := Lib.hid (HB.out.2.keep o id)
      clear o c0 c1 c2 c3 c4
      obtain ⟨c0, c1, c2, c3, c4⟩ := cells5 B1.out
      go_wp2_with fail
      go_at_call 33
      refine (refSize07_any k f r m c _).mono ?_
      rw [HS.out]
      rintro e w2 ⟨rfl, o⟩
      have O5 := Lib.hid (O1.out.trans o)
      have S5 := Lib.hid ((HSL.out.only O5.out hB2.out (fun _ h => h.elim)).more (Nat.le_trans hB2.out O5.out.size))
      clear o c0 c1 c2 c3 c4
      go_wp2_with (with_reducible refine wpList_append_sl (o := ⟨some 43, _, _, _, _, _⟩) _ rfl (.tmp 41) (.tmp 42) _ rfl w2.heap.size 31 i0 _ 1 8 Tryd.underlying22 hi0 hz0 hz1 hz2 rfl (by decide) (.slice (some ⟨w2.heap.size, 0, none⟩) 0 0) 0 [] rfl ?c1 w2.heap.size (.slice A l.length ca) l.length (u64s l) rfl ?c6 (u64s_one l) ?c2 ?c3 ?c4 ?c5)
      case c1 => exact lit_own w2 _ _
      case c6 => exact S5.out.below ((Below.refl _ _).alloc (Nat.le_refl _) _)
      case c2 => unfold maxLen; omega
      case c3 => omega
      case c4 => simp
      case c5 =>
        intro v1 w9 H1 o1 _
        have o2 := lit_only o1
        have HO := Lib.hid (show w9.ownsRow w2.heap.size 31 1 v1 l.length (u64s l) by simpa using H1.out)
        have O9 := Lib.hid (O5.out.trans o2)
        have hsz := Lib.hid O5.out.size
        obtain ⟨g, c1, rfl, -, -, hg⟩ := own_form HO.out (by omega)
        have HG := Lib.hid hg
        clear H1 o1 o2
        clear hg
        go_wp2_with fail
        go_loopw [12] (fun i wr => ∃ k : Nat, k ≤ n ∧ i = .int .i64 k ∧ wr.ownsRow w2.heap.size 31 1 (.slice (some ⟨g, 0, none⟩) l.length c1) l.length (u64s (filled l p k 0)) ∧ Only nob w wr) (fun i _ => n - (intOf i).toNat)
        case atStart => exact ⟨0, Nat.zero_le _, rfl, by rw [filled_zero]; exact HO.out, O9.out⟩
        case round =>
          obtain ⟨k, hk, rfl, hw, hO⟩ := hrel
          have HX := Lib.hid hO
          by_cases hlt : k < n
          · have g2 : wr.cell? ⟨g, p + k, none⟩ = some (.int .u64 (wd (filled l p k 0) (p + k) : Nat)) := by
              rw [hw.cellAt (p + k) (by omega)]; exact u64s_wd _ _ (by rw [filled_len _ _ _ _ (by omega)]; omega)
            have g3 := hw.frozenAt (p + k)
            have HN := Lib.hid (hw.stored (p + k) (.int .u64 ((0 : Nat) : Int)))
            rw [u64s_set, filled_set _ _ _ _ (by omega)] at HN
            clear hw hO
            go_wp2
            go_roundw
            case rel => exact ⟨k + 1, by omega, by go_num, HN.out.1, HX.out.andThen (only_set _ _ _ _) fun i hi e => by unfold isb at e; have h1 := HG.out; have h2 := hsz.out; omega⟩
            case measure => simp [intOf]; omega
          · obtain rfl : k = n := by omega
            have HW := Lib.hid hw
            have hlf := filled_len l p k 0 hpn
            have g2 : wr.cell? ⟨g, p, none⟩ = some (.int .u64 (wd (filled l p k 0) p : Nat)) := by
              rw [hw.cellAt p (by omega)]; exact u64s_wd _ _ (by omega)
            have g3 := hw.frozenAt p
            have HN := Lib.hid (hw.stored p (.int .u64 (x : Nat)))
            rw [u64s_set] at HN
            have HLN := Lib.hid (show ((filled l p k 0).set p x).length = l.length by rw [List.length_set]; exact hlf)
            clear hw hO hlf
            go_wp2
            go_ret2
            exact ⟨_, rfl, ⟨fun h => absurd rfl h, fun _ => by rw [HLN.out]; exact own_more HN.out.1 (fun k hk => Nat.le_trans hsz.out (own_lt HN.out.1 hk).1)⟩, HX.out.andThen (only_set _ _ _ _) fun i hi e => by unfold isb at e; have h1 := HG.out; have h2 := hsz.out; omega⟩
    · obtain ⟨hq1, hq2⟩ := pt_far m hm hf
      rw [hq1, hq2]
      have hfn : ¬ (0 ≤ a ∧ (n : Int) ≤ (l.length : Int) - a) := by omega
      clear hq1 hq2 hm hwl hmb hx hn hf
      by_cases h1 : a < 0
      · clear hfn
        go_enter Tryd.func24, Tryd.ntmps24
        go_wp2_with fail
        rw [HWE.out]
        go_at_call 42
        refine HEnc.out.mono ?_
        rintro e w1 ⟨rfl, o⟩
        have O1 := Lib.hid (HB.out.1.trans o)
        have B1 := Lib.hid (HB.out.2.keep o id)
        clear o c0 c1 c2 c3 c4
        obtain ⟨c0, c1, c2, c3, c4⟩ := cells5 B1.out
        go_wp2_with fail
        go_at_call 33
        refine (refSize07_any k f r m c _).mono ?_
        rw [HS.out]
        rintro e w2 ⟨rfl, o⟩
        have O5 := Lib.hid (O1.out.trans o)
        clear o c0 c1 c2 c3 c4
        go_wp2
        go_ret2
        exact ⟨_, rfl, NewL.old (by decide), O5.out⟩
      · by_cases h2 : (l.length : Int) < a
        · clear hfn
          go_enter Tryd.func24, Tryd.ntmps24
          go_wp2_with fail
          rw [HWE.out]
          go_at_call 42
          refine HEnc.out.mono ?_
          rintro e w1 ⟨rfl, o⟩
          have O1 := Lib.hid (HB.out.1.trans o)
          have B1 := Lib.hid (HB.out.2.keep o id)
          clear o c0 c1 c2 c3 c4
          obtain ⟨c0, c1, c2, c3, c4⟩ := cells5 B1.out
          go_wp2_with fail
          go_at_call 33
          refine (refSize07_any k f r m c _).mono ?_
          rw [HS.out]
          rintro e w2 ⟨rfl, o⟩
          have O5 := Lib.hid (O1.out.trans o)
          clear o c0 c1 c2 c3 c4
          go_wp2
          go_ret2
          exact ⟨_, rfl, NewL.old (by decide), O5.out⟩
        · have h3 : (l.length : Int) - a < n := by omega
          clear hfn
          go_enter Tryd.func24, Tryd.ntmps24
          go_wp2_with fail
          rw [HWE.out]
          go_at_call 42
          refine HEnc.out.mono ?_
          rintro e w1 ⟨rfl, o⟩
          have O1 := Lib.hid (HB.out.1.trans o)
          have B1 := Lib.hid (HB.out.2.keep o id)
          clear o c0 c1 c2 c3 c4
          obtain ⟨c0, c1, c2, c3, c4⟩ := cells5 B1.out
          go_wp2_with fail
          go_at_call 33
          refine (refSize07_any k f r m c _).mono ?_
          rw [HS.out]
          rintro e w2 ⟨rfl, o⟩
          have O5 := Lib.hid (O1.out.trans o)
          clear o c0 c1 c2 c3 c4
          go_wp2
          go_ret2
          exact ⟨_, rfl, NewL.old (by decide), O5.out⟩
end Go.Proofs.YtffbemfgibleeaaDoor
