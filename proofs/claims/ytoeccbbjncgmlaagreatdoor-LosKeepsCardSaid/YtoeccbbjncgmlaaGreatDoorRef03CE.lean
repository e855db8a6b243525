/- Contracts of the document's own answers for spans: all together; whether they lie apart. -/
import Derived.Test.YtoeccbbjncgmlaaGreatDoorRef03AB
import Derived.StillTailTactics
import Derived.Deep.DeepCutAuto
import Derived.Deep.CutBlock
namespace Go.Proofs.YtoeccbbjncgmlaaGreatDoor
set_option maxRecDepth 100000

open Go.RowKit

set_option maxHeartbeats 2000000 in
theorem refApart_any (v : Value) (l : List Sp) (B : Nat) (w : World) (h : Sl w B 2 v l.length (spc l)) (hB : B ≤ w.heap.size) :
    Calls Tryz.prog 39 #[v] w fun e w' => e = .returned (.bool (decide (ApartL l))) ∧ Only nob w w' := by
  have HA := Lib.hid h
  obtain ⟨A, ca, rfl, hac, ham, -⟩ := h
  unfold maxLen at ham
  go_enter Tryz.func39, Tryz.ntmps39
  go_wp2_with fail
  go_loopw [3] (fun i wr => ∃ k : Nat, k ≤ l.length ∧ i = .int .i64 k ∧ Hid (∀ (i : Nat) x, i < k → l[i]? = some x → x.ok ∧ ∀ (j : Nat) y, j < i → l[j]? = some y → ¬ Sp.meets x y) ∧ Only nob w wr) (fun i _ => l.length - (intOf i).toNat)
  case atStart => exact ⟨0, Nat.zero_le _, rfl, fun j _ hj _ => absurd hj (Nat.not_lt_zero j), Only.refl _ _⟩
  case round =>
    obtain ⟨k, hk, rfl, hall, hO⟩ := hrel
    have HX := Lib.hid hO
    by_cases hlt : k < l.length
    · obtain ⟨x, hx⟩ : ∃ x, l[k]? = some x := ⟨_, List.getElem?_eq_getElem hlt⟩
      obtain ⟨b, o, rfl, hb, c0, c1⟩ := sl_span HA.out (hO.below hB fun _ h => h.elim) hx
      have HXX := Lib.hid hx
      clear hO hx
      by_cases hp : x.ok
      · have HP := Lib.hid (decide_eq_true hp)
        have HPP := Lib.hid hp
        clear hp
        go_wp2_with fail
        refine (refMay03_any x _).mono ?_
        rw [HP.out]
        rintro e w1 ⟨rfl, ho⟩
        have HO := Lib.hid (HX.out.trans ho)
        clear ho c0 c1
        obtain ⟨wo, rfl⟩ : ∃ wo : World, wo = wr := ⟨_, rfl⟩
        go_wp2_with fail
        go_loopw [4] (fun i wr => ∃ j : Nat, j ≤ k ∧ i = .int .i64 j ∧ Hid (∀ (q : Nat) y, q < j → l[q]? = some y → ¬ Sp.meets x y) ∧ Only nob w wr) (fun i _ => k - (intOf i).toNat)
        case atStart => exact ⟨0, Nat.zero_le _, rfl, fun j _ hj _ => absurd hj (Nat.not_lt_zero j), HO.out⟩
        case round =>
          obtain ⟨j, hj, rfl, hin, hO⟩ := hrel
          have HY := Lib.hid hO
          by_cases hjl : j < k
          · obtain ⟨y, hy⟩ : ∃ y, l[j]? = some y := ⟨_, List.getElem?_eq_getElem (by omega)⟩
            obtain ⟨b1, o1, e1, -, c0, c1⟩ := sl_span HA.out (hO.below hB fun _ h => h.elim) HXX.out
            obtain ⟨rfl, rfl⟩ : b1 = b ∧ o1 = o := by simpa using e1.symm
            obtain ⟨b2, o2, e2, -, d0, d1⟩ := sl_span HA.out (hO.below hB fun _ h => h.elim) hy
            obtain ⟨rfl, rfl⟩ : b2 = b1 ∧ o2 = o1 := by simpa using e2.symm
            have HYY := Lib.hid hy
            have hj2 : j < l.length := by omega
            have HY2 := Lib.hid (hO.drewN 1)
            clear hO hy e1 e2
            go_wp2_with fail
            go_still_tail 8, (by kernel_rfl)
            change wpList _ _ _ _ _ wr.drew
            generalize hwd : wr.drew = wd
            have HO3 := Lib.hid (show Only nob w wd by rw [← hwd]; exact HY2.out)
            clear hwd c0 c1 d0 d1
            by_cases hm : Sp.meets x y
            · have HM := Lib.hid (decide_eq_true hm)
              have HK := Lib.hid (decide_eq_false (apart_no2 HXX.out HYY.out hjl hm))
              clear hm
              go_wp2_with fail
              refine (refMeets_any x y _).mono ?_
              rw [HM.out]
              rintro e w2 ⟨rfl, ho⟩
              have HO4 := Lib.hid (HO3.out.trans ho)
              clear ho
              go_wp2
              go_ret
              exact ⟨ret_bool (by rw [HK.out]), HO4.out⟩
            · have HM := Lib.hid (decide_eq_false hm)
              have HN := Lib.hid hm
              clear hm
              go_wp2_with fail
              refine (refMeets_any x y _).mono ?_
              rw [HM.out]
              rintro e w2 ⟨rfl, ho⟩
              have HO4 := Lib.hid (HO3.out.trans ho)
              clear ho
              go_wp2
              go_roundw
              case rel =>
                refine ⟨j + 1, by omega, by go_num, fun q z hq hz => ?_, HO4.out⟩
                rcases Nat.lt_or_ge q j with h' | h'
                · exact hin.out q z h' hz
                · obtain rfl : q = j := by omega
                  rw [HYY.out] at hz
                  obtain rfl := Option.some.inj hz
                  exact HN.out
              case measure => simp [intOf]; omega
          · obtain rfl : j = k := by omega
            clear hO
            go_wp2
            go_roundw
            case rel =>
              refine ⟨j + 1, by omega, by go_num, fun i z hi hz => ?_, HY.out⟩
              rcases Nat.lt_or_ge i j with h' | h'
              · exact hall.out i z h' hz
              · obtain rfl : i = j := by omega
                rw [HXX.out] at hz
                obtain rfl := Option.some.inj hz
                exact ⟨HPP.out, hin.out⟩
            case measure => simp [intOf]; omega
      · have HP := Lib.hid (decide_eq_false hp)
        have HK := Lib.hid (decide_eq_false (apart_no1 HXX.out hp))
        clear hp
        go_wp2_with fail
        refine (refMay03_any x _).mono ?_
        rw [HP.out]
        rintro e w1 ⟨rfl, ho⟩
        have HO := Lib.hid (HX.out.trans ho)
        clear ho
        go_wp2
        go_ret
        exact ⟨ret_bool (by rw [HK.out]), HO.out⟩
    · obtain rfl : k = l.length := by omega
      have HK := Lib.hid (decide_eq_true (apart_yes (l := l) fun i x hi => hall.out i x (List.getElem?_eq_some_iff.1 hi).1 hi))
      clear hO
      go_wp2
      go_ret
      exact ⟨ret_bool (by rw [HK.out]), HX.out⟩

end Go.Proofs.YtoeccbbjncgmlaaGreatDoor

/- Contracts of the document's own answers for spans: Sort. -/
namespace Go.Proofs.YtoeccbbjncgmlaaGreatDoor
set_option maxRecDepth 100000

open Go.RowKit

set_option maxHeartbeats 4000000 in
theorem refSort_any (v : Value) (l : List Sp) (B : Nat) (w : World) (h : Sl w B 2 v l.length (spc l)) (hB : B ≤ w.heap.size) (hl : l.length ≤ 100000) :
    Calls Tryz.prog 91 #[v] w fun e w' => ∃ v' L, e = .returned v' ∧ SortedOf l l.length L ∧ w'.ownsRow w.heap.size 30 2 v' L.length (spc L) ∧ Only nob w w' := by
  obtain ⟨i0, hi0, hz0, hz1, hz2⟩ := info_parts info_span
  have HA := Lib.hid h
  obtain ⟨A, ca, rfl, hac, ham, -⟩ := h
  unfold maxLen at ham
  go_enter Tryz.func91, Tryz.ntmps91
  go_wp2_with fail
  go_loopw [3, 4] (fun s i wr => ∃ (k : Nat) (L : List Sp), k ≤ l.length ∧ i = .int .i64 k ∧ SortedOf l k L ∧ wr.ownsRow w.heap.size 30 2 s L.length (spc L) ∧ Only nob w wr) (fun _ i _ => l.length - (intOf i).toNat)
  case atStart => exact ⟨0, [], Nat.zero_le _, rfl, ⟨List.Pairwise.nil, by simp⟩, World.ownsRow_nil _ _ _ _, Only.refl _ _⟩
  case round =>
    obtain ⟨k, L, hk, rfl, hS, hown, hO⟩ := hrel
    have HX := Lib.hid hO
    have HS := Lib.hid hS
    have HW := Lib.hid hown
    have hL := HS.out.len hk
    have hLk : L.length ≤ k := by omega
    obtain ⟨A1, c1, rfl, hc1, hm1⟩ := own_len hown
    unfold maxLen at hm1
    clear hO hS hown
    by_cases hlt : k < l.length
    · obtain ⟨x, hx⟩ : ∃ x, l[k]? = some x := ⟨_, List.getElem?_eq_getElem hlt⟩
      obtain ⟨b, o, rfl, hb, c0, c1'⟩ := sl_span HA.out (HX.out.below hB fun _ h => h.elim) hx
      have HXX := Lib.hid hx
      have HSL := Lib.hid (Sl.of_own HW.out HW.out.1)
      have HL := Lib.hid hL
      clear hx hL
      obtain ⟨wo, rfl⟩ : ∃ wo : World, wo = wr := ⟨_, rfl⟩
      go_upto_block 2 with fail
      go_cut [5] (fun s5 wx => ∃ (a m : Nat), a ≤ L.length ∧ s5 = .int .i64 a ∧ Hid (∀ (j : Nat) y, a ≤ j → L[j]? = some y → Sp.lt x y) ∧ Hid (a = 0 ∨ ∃ y, L[a - 1]? = some y ∧ ¬ Sp.lt x y) ∧ wx = wo.drewN m)
      case first =>
        go_wp2_with fail
        go_loopw [5] (fun i wr => ∃ (a m : Nat), a ≤ L.length ∧ i = .int .i64 a ∧ Hid (∀ (j : Nat) y, a ≤ j → L[j]? = some y → Sp.lt x y) ∧ wr = wo.drewN m) (fun i _ => (intOf i).toNat)
        case atStart => exact ⟨L.length, 0, Nat.le_refl _, rfl, (fun j y hj hy => by rw [List.getElem?_eq_none hj] at hy; cases hy), rfl⟩
        case round =>
          obtain ⟨a, m, ha, rfl, hbig, rfl⟩ := hrel
          have hex : (Hid (a = 0 ∨ ∃ y, L[a - 1]? = some y ∧ ¬ Sp.lt x y) ∧ (decide (0 < a) = false ∨ (0 < a ∧ ∃ y : Sp, L[a - 1]? = some y ∧ (y.1 < x.1 ∨ x.1 = y.1 ∧ ¬ x.2 < y.2)))) ∨
              (0 < a ∧ ∃ y : Sp, L[a - 1]? = some y ∧ Hid (Sp.lt x y) ∧ (x.1 < y.1 ∨ x.1 = y.1 ∧ x.2 < y.2)) := by
            rcases Nat.eq_zero_or_pos a with h0 | hpos
            · exact .inl ⟨.inl h0, .inl (by simp; omega)⟩
            · have hy : L[a - 1]? = some L[a - 1] := List.getElem?_eq_getElem (by omega)
              by_cases hlt : Sp.lt x L[a - 1]
              · exact .inr ⟨hpos, _, hy, hlt, hlt⟩
              · exact .inl ⟨.inr ⟨_, hy, hlt⟩, .inr ⟨hpos, _, hy, by unfold Sp.lt at hlt; omega⟩⟩
          rcases hex with ⟨HE, hd | ⟨hpos, y, hy, hd | ⟨hd, hd2⟩⟩⟩ | ⟨hpos, y, hy, HLT, hd | ⟨hd, hd2⟩⟩
          case' inl.inr.inl =>
            obtain ⟨b2, o2, rfl, -, d0, d1⟩ := sl_span HSL.out (Below.refl _ _) hy
            have hd' : decide (x.1 < y.1) = false := by simp; omega
            have hd3 : (x.1 == y.1) = false := by simp; omega
            clear hd hy
          case' inl.inr.inr =>
            obtain ⟨b2, o2, rfl, -, d0, d1⟩ := sl_span HSL.out (Below.refl _ _) hy
            have hd' : decide (x.1 < y.1) = false := by simp; omega
            have hd3 : (x.1 == y.1) = true := by simp; omega
            have hd4 : decide (x.2 < y.2) = false := by simpa using hd2
            clear hd hd2 hy
          case' inr.inl =>
            obtain ⟨b2, o2, rfl, -, d0, d1⟩ := sl_span HSL.out (Below.refl _ _) hy
            have hd' : decide (x.1 < y.1) = true := by simpa using hd
            have HY := Lib.hid hy
            clear hd hy
          case' inr.inr =>
            obtain ⟨b2, o2, rfl, -, d0, d1⟩ := sl_span HSL.out (Below.refl _ _) hy
            have hd' : decide (x.1 < y.1) = false := by simp; omega
            have hd3 : (x.1 == y.1) = true := by simp; omega
            have hd4 : decide (x.2 < y.2) = true := by simpa using hd2
            have HY := Lib.hid hy
            clear hd hd2 hy
          case inr.inl =>
            go_wp2_with fail
            go_quiet (fail)
            go_wp2
            go_roundw
            case rel =>
              refine ⟨a - 1, _, by omega, congrArg (Value.int .i64) (by omega), fun j z hj hz => ?_, rfl⟩
              rcases Nat.lt_or_ge j a with h' | h'
              · obtain rfl : j = a - 1 := by omega
                rw [HY.out] at hz
                obtain rfl := Option.some.inj hz
                exact HLT.out
              · exact hbig.out j z h' hz
            case measure => simp [intOf]; omega
          case inr.inr =>
            go_wp2_with fail
            go_quiet (fail)
            go_wp2
            go_roundw
            case rel =>
              refine ⟨a - 1, _, by omega, congrArg (Value.int .i64) (by omega), fun j z hj hz => ?_, rfl⟩
              rcases Nat.lt_or_ge j a with h' | h'
              · obtain rfl : j = a - 1 := by omega
                rw [HY.out] at hz
                obtain rfl := Option.some.inj hz
                exact HLT.out
              · exact hbig.out j z h' hz
            case measure => simp [intOf]; omega
          all_goals
            go_wp2_with fail
            go_quiet (fail)
            go_wp2_with fail
            go_meet
            exact ⟨a, _, ha, rfl, hbig, HE, World.drewN_drewN _ _ _⟩
      case rest =>
        obtain ⟨a, m, ha, rfl, hbig, HE, rfl⟩ := hcut
        have hcut1 := run_cut_h Tryz.underlying34 hi0 A1 L.length c1 a (by omega)
        have hcut2 := run_cut_l Tryz.underlying34 hi0 A1 L.length c1 a ha
        rw [hz1] at hcut1 hcut2
        have HT := Lib.hid (sl_take HSL.out ha)
        have HDR := Lib.hid (sl_drop HSL.out ha)
        have HO0 := Lib.hid (HX.out.drewN m)
        have hsz : w.heap.size ≤ wo.heap.size := HX.out.size
        go_wp2_with (with_reducible refine wpList_append_sl (o := ⟨some 65, _, _, _, _, _⟩) _ rfl (.tmp 61) (.tmp 64) _ rfl wo.heap.size 30 i0 _ 2 16 Tryz.underlying34 hi0 hz0 hz1 hz2 rfl (by decide) (.slice (some ⟨wo.heap.size, 0, none⟩) 0 0) 0 [] rfl ?c1 wo.heap.size (cutv A1 0 a c1 2) a (spc (L.take a)) rfl ?c6 (spc_one _) ?c2 ?c3 ?c4 ?c5)
        case c1 => exact lit_own (wo.drewN m) _ _
        case c6 => exact HT.out.below (((Only.refl nob wo).drewN m).alloc _).whole
        case c2 => unfold maxLen; omega
        case c3 => omega
        case c4 => simp
        case c5 =>
          intro v1 w1 H1 o1 _
          have HO1 := Lib.hid (HO0.out.trans (lit_only (w := wo.drewN m) o1))
          have HB1 := Lib.hid (show Below wo.heap.size wo w1 from ((Only.refl nob wo).drewN m).whole.trans (lit_only (w := wo.drewN m) o1).whole)
          have HW1 := Lib.hid (show w1.ownsRow wo.heap.size 30 2 v1 a (spc (L.take a)) by simpa using H1.out)
          obtain ⟨b3, o3, e3, -, d0, d1⟩ := sl_span HA.out (HO1.out.below hB fun _ h => h.elim) HXX.out
          obtain ⟨rfl, rfl⟩ : b3 = b ∧ o3 = o := by simpa using e3.symm
          obtain ⟨A2, c2, rfl, -, -⟩ := own_len HW1.out
          have hs1 : wo.heap.size ≤ w1.heap.size := HB1.out.size
          clear H1 o1 e3
          go_wp2_with (with_reducible refine wpList_append_sl (o := ⟨some 72, _, _, _, _, _⟩) _ rfl (.tmp 66) (.tmp 71) _ rfl wo.heap.size 30 i0 _ 2 16 Tryz.underlying34 hi0 hz0 hz1 hz2 rfl (by decide) (.slice A2 a c2) a (spc (L.take a)) rfl ?d1 (w1.heap.size + 1) (.slice (some ⟨w1.heap.size, 0, none⟩) 1 1) 1 (spc [x]) rfl ?d6 (spc_one _) ?d2 ?d3 ?d4 ?d5)
          case d1 => exact HW1.out.alloc _
          case d6 =>
            have := Sl.of_blk (size := 2) (n := 1) (c := 1) (Blk.new w1 30 #[.int .i64 x.1, .int .i64 x.2]) rfl (Nat.le_refl _) (by decide)
            simpa [spc] using this
          case d2 => unfold maxLen; omega
          case d3 => omega
          case d4 => simp; omega
          case d5 =>
            intro v2 w2 H2 o2 _
            have hb2 := own_below (HW1.out.alloc (.cells #[.int .i64 x.1, .int .i64 x.2] 30)) o2 (by simp; omega)
            have HB2 := Lib.hid (show Below wo.heap.size wo w2 from (HB1.out.alloc hs1 _).trans hb2)
            have HO2 := Lib.hid (own_nob (HO1.out.alloc _) (HW1.out.alloc (.cells #[.int .i64 x.1, .int .i64 x.2] 30)) o2 hsz)
            have HW2 := Lib.hid (show w2.ownsRow wo.heap.size 30 2 v2 (a + 1) (spc (L.take a ++ [x])) by rw [spc_append]; exact H2.out)
            obtain ⟨A3, c3, rfl, -, -⟩ := own_len HW2.out
            have hs2 : wo.heap.size ≤ w2.heap.size := HB2.out.size
            clear H2 o2 hb2
            go_wp2_with (with_reducible refine wpList_append_sl (o := ⟨some 77, _, _, _, _, _⟩) _ rfl (.tmp 73) (.tmp 76) _ rfl wo.heap.size 30 i0 _ 2 16 Tryz.underlying34 hi0 hz0 hz1 hz2 rfl (by decide) (.slice A3 (a + 1) c3) (a + 1) (spc (L.take a ++ [x])) rfl ?e1 wo.heap.size (cutv A1 a L.length c1 2) (L.length - a) (spc (L.drop a)) rfl ?e6 (spc_one _) ?e2 ?e3 ?e4 ?e5)
            case e1 => exact HW2.out
            case e6 => exact HDR.out.below HB2.out
            case e2 => unfold maxLen; omega
            case e3 => omega
            case e4 => exact hs2
            case e5 =>
              intro v3 w3 H3 o3 _
              have hb3 := own_below HW2.out o3 hs2
              have HO3 := Lib.hid (own_nob HO2.out HW2.out o3 hsz)
              have hlen : (L.take a ++ x :: L.drop a).length = a + 1 + (L.length - a) := by simp; omega
              have HW3 := Lib.hid (show w3.ownsRow w.heap.size 30 2 v3 (L.take a ++ x :: L.drop a).length (spc (L.take a ++ x :: L.drop a)) by
                rw [hlen]
                have h3 := own_more (base' := w.heap.size) H3.out fun q hq => Nat.le_trans hsz (own_lt H3.out hq).1
                rw [← spc_append, List.append_assoc] at h3
                exact h3)
              have HS3 := Lib.hid (sortedOf_put HS.out HXX.out ha hbig.out HE.out)
              clear H3 o3 hb3 hlen
              go_wp2
              go_roundw
              case rel => exact ⟨k + 1, _, by omega, by go_num, HS3.out, HW3.out, HO3.out⟩
              case measure => simp [intOf]; omega
    · obtain rfl : k = l.length := by omega
      go_wp2
      go_ret
      exact ⟨_, L, rfl, HS.out, HW.out, HX.out⟩

end Go.Proofs.YtoeccbbjncgmlaaGreatDoor

/- Contracts of the document's own answers for spans: put, ends. -/
namespace Go.Proofs.YtoeccbbjncgmlaaGreatDoor
set_option maxRecDepth 100000

open Go.RowKit

set_option maxHeartbeats 2000000 in
theorem refPutS_any (v : Value) (L : List Sp) (x y : Int) (B : Nat) (w : World) (h : w.ownsRow B 30 2 v L.length (spc L)) (hB : B ≤ w.heap.size) (hn : L.length ≤ 1000000) (hL : ∀ z ∈ L, Sp.ok z) (hx : 0 ≤ x ∧ x ≤ 1099511627776) (hy : 0 ≤ y ∧ y ≤ 1099511627776) :
    Calls Tryz.prog 78 #[v, .int .i64 x, .int .i64 y] w fun e w' => ∃ v', e = .returned v' ∧ w'.ownsRow B 30 2 v' (putL L x y).length (spc (putL L x y)) ∧ Only (fun k => v.ownBlock = some k) w w' := by
  obtain ⟨i0, hi0, hz0, hz1, hz2⟩ := info_parts info_span
  rcases last_cases L with rfl | ⟨p, z, rfl⟩
  · have HW := Lib.hid h
    obtain ⟨A, c, rfl, hc, hm⟩ := own_len h
    unfold maxLen at hm
    have hd : decide (0 < 0) = false := rfl
    clear h hd
    go_enter Tryz.func78, Tryz.ntmps78
    go_wp2_with fail
    go_quiet (fail)
    go_wp2_with (with_reducible refine wpList_append_sl (o := ⟨some 50, _, _, _, _, _⟩) _ rfl (.tmp 43) (.tmp 49) _ rfl B 30 i0 _ 2 16 Tryz.underlying34 hi0 hz0 hz1 hz2 rfl (by decide) (.slice A 0 c) 0 [] rfl ?c1 (w.heap.size + 1) (.slice (some ⟨w.heap.size, 0, none⟩) 1 1) 1 (spc [(x, y - x)]) rfl ?c6 (spc_one _) ?c2 ?c3 ?c4 ?c5)
    case c1 => exact (HW.out : w.ownsRow B _ 2 _ 0 []).alloc _
    case c6 =>
      have := Sl.of_blk (size := 2) (n := 1) (c := 1) (Blk.new (w.drewN nq) 30 #[.int .i64 x, .int .i64 (y - x)]) rfl (Nat.le_refl _) (by decide)
      simpa [spc] using this
    case c2 => unfold maxLen; omega
    case c3 => omega
    case c4 => simp; omega
    case c5 =>
      intro v1 w1 H1 o1 _
      have HO := Lib.hid ((((Only.refl (fun k => (Value.slice A 0 c).ownBlock = some k) w).drewN nq).alloc _).trans o1)
      have HW1 := Lib.hid (show w1.ownsRow B 30 2 v1 (putL [] x y).length (spc (putL [] x y)) from H1.out)
      clear H1 o1
      go_wp2
      go_ret
      exact ⟨_, rfl, HW1.out, HO.out⟩
  · have HW := Lib.hid h
    have hz := hL z (by simp)
    have hzb : 0 ≤ z.1 ∧ z.1 ≤ 1099511627776 ∧ 1 ≤ z.2 ∧ z.2 ≤ 1099511627776 := by unfold Sp.ok most at hz; omega
    have hlen : (p ++ [z]).length = p.length + 1 := by simp
    have HLEN := Lib.hid hlen
    obtain ⟨g, c, rfl, hc, hm, hg⟩ := own_form h (by omega)
    unfold maxLen at hm
    obtain ⟨q0, q1⟩ := spc_at (l := p ++ [z]) (k := p.length) (x := z) (by simp)
    have d0 : w.cell? ⟨g, p.length * 2, none⟩ = some (.int .i64 z.1) := (h.cellAt _ (by omega)).trans q0
    have d1 : w.cell? ⟨g, p.length * 2 + 1, none⟩ = some (.int .i64 z.2) := (h.cellAt _ (by omega)).trans q1
    have f1 := h.frozenAt (p.length * 2 + 1)
    have hst := h.stored (p.length * 2 + 1) (.int .i64 (y - z.1))
    rw [spc_set2 p z (z.1, y - z.1) rfl] at hst
    have HST := Lib.hid hst
    obtain ⟨n, hn1⟩ : ∃ n, n = (p ++ [z]).length := ⟨_, rfl⟩
    have hn0 : 0 < n := by omega
    have hnp : n - 1 = p.length := by omega
    rw [← hn1] at HW HST hc hn ⊢
    rw [← hnp] at d0 d1 f1 HST
    have HNP := Lib.hid hnp
    have HN1 := Lib.hid hn1
    have hdn : decide (0 < n) = true := by simpa using hn0
    clear h hst q0 q1 hL hz hlen hn1 hnp
    by_cases hj : z.1 + z.2 = x
    · have hj' : (z.1 + z.2 == x) = true := by simpa using hj
      have HP := Lib.hid (putL_join p z x y hj)
      clear hj
      go_enter Tryz.func78, Tryz.ntmps78
      go_wp2_with fail
      go_quiet (fail)
      go_wp2
      go_ret
      refine ⟨_, rfl, ?_, ?_⟩
      · rw [HP.out, show (p ++ [(z.1, y - z.1)]).length = n by rw [HN1.out]; simp]
        exact own_heap HST.out.1 rfl
      · exact ((Only.refl (fun k => (Value.slice (some (⟨g, 0, none⟩ : Addr)) n c).ownBlock = some k) w).drewN nq).setCell (p := ⟨g, (n - 1) * 2 + 1, none⟩) (fun _ => show some g = some g from rfl) _
    · have hj' : (z.1 + z.2 == x) = false := by simpa using hj
      have HP := Lib.hid (putL_more p z x y hj)
      clear hj
      go_enter Tryz.func78, Tryz.ntmps78
      go_wp2_with fail
      go_quiet (fail)
      go_wp2_with (with_reducible refine wpList_append_sl (o := ⟨some 50, _, _, _, _, _⟩) _ rfl (.tmp 43) (.tmp 49) _ rfl B 30 i0 _ 2 16 Tryz.underlying34 hi0 hz0 hz1 hz2 rfl (by decide) (.slice (some ⟨g, 0, none⟩) n c) n (spc (p ++ [z])) rfl ?d1 (w.heap.size + 1) (.slice (some ⟨w.heap.size, 0, none⟩) 1 1) 1 (spc [(x, y - x)]) rfl ?d6 (spc_one _) ?d2 ?d3 ?d4 ?d5)
      case d1 => exact HW.out.alloc _
      case d6 =>
        have := Sl.of_blk (size := 2) (n := 1) (c := 1) (Blk.new (w.drewN nq) 30 #[.int .i64 x, .int .i64 (y - x)]) rfl (Nat.le_refl _) (by decide)
        simpa [spc] using this
      case d2 => unfold maxLen; omega
      case d3 => omega
      case d4 => simp; omega
      case d5 =>
        intro v1 w1 H1 o1 _
        have HO := Lib.hid ((((Only.refl (fun k => (Value.slice (some (⟨g, 0, none⟩ : Addr)) n c).ownBlock = some k) w).drewN nq).alloc _).trans o1)
        have HW1 := Lib.hid (show w1.ownsRow B 30 2 v1 (putL (p ++ [z]) x y).length (spc (putL (p ++ [z]) x y)) by
          rw [HP.out, spc_append, List.length_append, ← HN1.out]
          exact H1.out)
        clear H1 o1
        go_wp2
        go_ret
        exact ⟨_, rfl, HW1.out, HO.out⟩

end Go.Proofs.YtoeccbbjncgmlaaGreatDoor
