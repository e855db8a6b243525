/- The walk of LayoutParts: a config that is ok. -/
import Derived.Test.YtmlpppcdammelaaLayLaw3
namespace Go.Proofs.Ytmlpppcdammelaa
open Go.RowKit Go.Sort

theorem pair_own (w : World) (e : TypeId) (x y : Sp) : (w.alloc (.cells #[.int .i64 x.1, .int .i64 x.2, .int .i64 y.1, .int .i64 y.2] e)).ownsRow w.heap.size e 2 (.slice (some ⟨w.heap.size, 0, none⟩) 2 2) 2 (spc [x, y]) :=
  ⟨by simp [spc], .inr ⟨w.heap.size, 2, _, rfl, Nat.le_refl _, heap_alloc_new w _, Nat.le_refl _, by decide, by simp, by simp [spc]⟩⟩
theorem where_pos {c : Cf} (h : c.ok) (s : Bool) (p : Int) : 0 < cWhere c s p ↔ 0 ≤ p ∧ p < cWords c := by
  unfold cWhere
  by_cases hq : 0 ≤ p ∧ p < cWords c
  · rw [if_pos ⟨h, hq⟩]
    refine ⟨fun _ => hq, fun _ => ?_⟩
    (repeat' split) <;> decide
  · rw [if_neg fun g => hq g.2]
    exact ⟨fun g => absurd g (by decide), fun g => absurd g hq⟩
theorem apart_all (hAp : SpApart) {W WZ : World} {v : Value} {l : List Sp} (hs : Sl W W.heap.size 2 v l.length (spc l)) (hO : Only nob W WZ) (hl : l.length ≤ 3) (hf : Fits l) (ha : decide (ApartL l) = true) (n : Nat) (os : Array Obj) :
    Calls Try.prog 22 #[v] (wat WZ n os) fun e w' => e = .returned (.bool true) ∧ Only nob (wat WZ n os) w' := by
  have h := hAp v l W.heap.size (wat WZ n os) (hs.below (hO.trans (only_wat WZ n os)).whole) (hO.trans (only_wat WZ n os)).size (by omega) hf
  rw [ha] at h
  exact h
set_option maxRecDepth 100000 in
set_option maxHeartbeats 8000000 in
theorem layoutParts_yes (hC : LyCheck) (hW : LyWords) (hF : LyFrom) (hT : LyTo) (hL : LyLarge) (hWh : LyWhere) (hAw : LyAwake) (hH : SpHas) (hAp : SpApart) (hJ : SpJoin) (c : Cf) (s : Bool) (p : Int) (hc : CFit c) (hp : I64 p) (hok : c.ok) (w : World) :
    Calls Try.prog 4 #[.agg #[.int .i64 c.semi, .int .i64 c.large, .int .i64 c.slots, .int .i64 c.limit], .bool s, .int .i64 p] w fun e w' => e = .returned (.bool true) ∧ Below w.heap.size w w' := by
  obtain ⟨i0, hi0, hz0, hz1, hz2⟩ := info_parts info_span
  have A1 := Lib.hid (fun w => hC c w hc)
  have C1 := Lib.hid (fun w => hF c s w hc)
  have D1 := Lib.hid (fun w => hT c s w hc)
  have E1 := Lib.hid (fun w => hL c w hc)
  have B1 := Lib.hid (fun w => hW c w hc)
  have F1 := Lib.hid (fun w => hWh c s p w hc hp)
  have D2 := fun w => hT c (!s) w hc
  have HD2 := Lib.hid (show cTo c (!s) = cFrom c s by unfold cTo; rw [Bool.not_not])
  rw [HD2.out] at D2
  replace D2 := Lib.hid D2
  have HN := Lib.hid (decide_eq_true hok)
  have HAW := Lib.hid (show ∀ w : World, Calls Try.prog 19 #[] w fun e w' => e = .returned (.bool true) ∧ Only nob w w' from hAw)
  have HP := Lib.hid (parts_are hok s)
  obtain ⟨W, hWn, HB⟩ : ∃ W, (w.alloc (.cells #[.int .i64 c.semi, .int .i64 c.large, .int .i64 c.slots, .int .i64 c.limit] 23)) = W ∧ Hid (Only nob w W ∧ CBox W w.heap.size c) := ⟨_, rfl, only_box w c, CBox.new w c⟩
  have HWN := Lib.hid hWn
  clear hWn
  go_enter Try.func4, Try.ntmps4
  go_wp2_with fail
  rw [HWN.out]
  obtain ⟨c0, c1, c2, c3⟩ := HB.out.2
  go_wp2_with fail
  go_at_call 5
  refine (A1.out _).mono ?_
  rw [HN.out]
  rintro e w1 ⟨rfl, o⟩
  have O1 := Lib.hid (And.intro (HB.out.1.trans o) (HB.out.2.keep o))
  clear o c0 c1 c2 c3
  go_wp2_with fail
  obtain ⟨c0, c1, c2, c3⟩ := O1.out.2.all
  refine wp_region_only_tail 6 mixedL (by kernel_rfl) ?_
  simp only [List.take, List.drop]
  repeat (quiet_step (first
    | (go_at_call 9; with_reducible refine wat_call (C1.out _))
    | (go_at_call 11; with_reducible refine wat_call (D1.out _))))
  refine wpQuiet_nil ?_
  rintro w' ⟨⟨nq, osq⟩, rfl⟩
  obtain ⟨W3, hW3, O3⟩ := wat_name w1 nq osq
  rw [hW3]
  clear hW3 c0 c1 c2 c3
  have HB3 := Lib.hid (And.intro (O1.out.1.trans O3.out) (O1.out.2.keep O3.out))
  obtain ⟨l, hl⟩ : ∃ l, l = cParts c s := ⟨_, rfl⟩
  have HL := Lib.hid hl
  have HLn := Lib.hid (show l.length ≤ 3 by rw [hl]; unfold cParts; split <;> simp)
  have HLf := Lib.hid (show Fits l from fun x hx => .of_ok (HP.out.ok x (hl ▸ hx)))
  have HLa := Lib.hid (show decide (ApartL l) = true from decide_eq_true (hl ▸ HP.out.apart))
  have HLw := Lib.hid (show ∀ q, cov l q ↔ cov [(0, cWords c)] q from fun q => by rw [hl, HP.out.words, HP.out.wholeWords])
  have HLc := Lib.hid (show cntP l p = if 0 ≤ p ∧ p < cWords c then 1 else 0 by rw [hl, HP.out.count])
  clear hl
  rcases Int.lt_or_le 0 c.large with hq | hq
  · have HQ := Lib.hid (show decide (0 < c.large) = true from decide_eq_true hq)
    have HO4 := Lib.hid ((Only.refl nob W3).alloc (.cells #[.int .i64 (cFrom c s).1, .int .i64 (cFrom c s).2, .int .i64 (cTo c s).1, .int .i64 (cTo c s).2] 27))
    have HR4 := Lib.hid (pair_own W3 27 (cFrom c s) (cTo c s))
    obtain ⟨c0, c1, c2, c3⟩ := HB3.out.2.keep HO4.out
    go_wp2_with fail
    go_at_call 13
    refine (E1.out _).mono ?_
    rintro e w5 ⟨rfl, o⟩
    have HR5 := Lib.hid (own_only HR4.out o (fun _ _ h => h))
    have HO5 := Lib.hid o
    have hs5 : W3.heap.size ≤ w5.heap.size := (HO4.out.trans o).size
    clear o c0 c1 c2 c3
    go_wp2_with (with_reducible refine wpList_append_sl (o := ⟨some 42, _, _, _, _, _⟩) _ rfl (.tmp 38) (.tmp 41) _ rfl W3.heap.size 27 i0 _ 2 16 Try.underlying34 hi0 hz0 hz1 hz2 rfl (by decide) (.slice (some ⟨W3.heap.size, 0, none⟩) 2 2) 2 (spc [cFrom c s, cTo c s]) rfl ?c1 (w5.heap.size + 1) (.slice (some ⟨w5.heap.size, 0, none⟩) 1 1) 1 (spc [cLarge c]) rfl ?c6 (spc_one _) ?c2 ?c3 ?c4 ?c5)
    case c1 => exact own_only HR5.out ((Only.refl nob w5).alloc _) (fun _ _ h => h)
    case c6 => have := Sl.of_blk (size := 2) (n := 1) (c := 1) (Blk.new w5 27 #[.int .i64 (cLarge c).1, .int .i64 (cLarge c).2]) (by simp) (Nat.le_refl _) (by decide); simpa [spc] using this
    case c2 => decide
    case c3 => decide
    case c4 => simp; omega
    case c5 =>
      intro v6 w6 H6 o6 _
      have hO := lit_only (((HO5.out.alloc _).mono (fun _ _ h => h.elim)).trans o6)
      have O6 := Lib.hid (And.intro (HB3.out.1.trans hO) (HB3.out.2.keep hO))
      have HS6 := Lib.hid (show Sl w6 w6.heap.size 2 v6 l.length (spc l) by
        have e : l = [cFrom c s, cTo c s, cLarge c] := by rw [HL.out]; unfold cParts; rw [if_pos hq]; rfl
        have := Sl.of_own H6.out (by simp [spc])
        rw [e]; simpa [spc] using this)
      clear hO H6 o6 HQ
      go_wp2_with fail
      go_at_call 20
      refine (hJ _ l w6.heap.size w6 HS6.out (Nat.le_refl _) (by have := HLn.out; omega) HLf.out).mono ?_
      rintro e w7 ⟨v7, O, rfl, hj, hcv, hsl, o⟩
      obtain rfl := joined_unique HP.out.whole hj fun q => by rw [hcv, HLw.out]
      obtain ⟨A, ca, rfl, hac, ham⟩ := HS6.out.form
      unfold maxLen at ham
      have HS := Lib.hid ((HS6.out.below o.whole).more o.size)
      have HS7 := Lib.hid hsl
      have O7 := Lib.hid (And.intro (O6.out.1.trans o) (O6.out.2.keep o))
      have hs7 : w6.heap.size ≤ w7.heap.size := o.size
      have hln := HLn.out
      clear hj hcv hsl o
      try clear c0 c1 c2 c3
      go_wp2_with fail
      go_loopw [9, 10] (fun n i wr => ∃ k : Nat, k ≤ l.length ∧ i = .int .i64 k ∧ n = .int .i64 (cntP (l.take k) p) ∧ Only nob w7 wr) (fun _ i _ => l.length - (intOf i).toNat)
      case atStart => exact ⟨0, Nat.zero_le _, rfl, rfl, Only.refl _ _⟩
      case round =>
        obtain ⟨k, hk, rfl, rfl, hO⟩ := hrel
        have HX := Lib.hid hO
        have hle := cntP_lo (l.take k) p
        have hlk : (l.take k).length = k := by simp; omega
        rw [hlk] at hle
        obtain ⟨T, hT⟩ : ∃ T, T = cntP (l.take k) p := ⟨_, rfl⟩
        rw [← hT] at hle ⊢
        have HT := Lib.hid hT
        clear hT hlk
        by_cases hlt : k < l.length
        · obtain ⟨y, hy⟩ : ∃ y, l[k]? = some y := ⟨_, List.getElem?_eq_getElem hlt⟩
          obtain ⟨b, q, rfl, hb, d0, d1⟩ := sl_span HS.out hO.whole hy
          have HY := Lib.hid hy
          have HE := Lib.hid (cntP_next hy p)
          clear hO hy
          by_cases hh : y.has p
          · have HH := Lib.hid (decide_eq_true hh)
            have HE1 := Lib.hid (show cntP (l.take (k + 1)) p = T + 1 by rw [HE.out, if_pos hh, HT.out])
            clear hh
            go_wp2_with fail
            refine (hH y p _ (HLf.out.get HY.out) hp.1 hp.2).mono ?_
            rw [HH.out]
            rintro e w8 ⟨rfl, o⟩
            have HO := Lib.hid (HX.out.trans o)
            clear o d0 d1
            go_wp2
            go_roundw
            case rel => exact ⟨k + 1, by omega, by go_num, by rw [HE1.out]; first | done | go_num, HO.out⟩
            case measure => simp [intOf]; omega
          · have HH := Lib.hid (decide_eq_false hh)
            have HE1 := Lib.hid (show cntP (l.take (k + 1)) p = T by rw [HE.out, if_neg hh, HT.out, Int.add_zero])
            clear hh
            go_wp2_with fail
            refine (hH y p _ (HLf.out.get HY.out) hp.1 hp.2).mono ?_
            rw [HH.out]
            rintro e w8 ⟨rfl, o⟩
            have HO := Lib.hid (HX.out.trans o)
            clear o d0 d1
            go_wp2
            go_roundw
            case rel => exact ⟨k + 1, by omega, by go_num, by rw [HE1.out], HO.out⟩
            case measure => simp [intOf]; omega
        · obtain rfl : k = l.length := by omega
          have HTT := Lib.hid (show T = cntP l p by rw [HT.out, List.take_length])
          obtain ⟨wo, rfl⟩ : ∃ wo : World, wo = wr := ⟨_, rfl⟩
          have O8 := Lib.hid (And.intro (O7.out.1.trans hO) (O7.out.2.keep hO))
          obtain ⟨c0, c1, c2, c3⟩ := O8.out.2
          clear hO
          have ways : (Hid (decide (0 ≤ p) = false) ∧ Hid (decide (0 < cWhere c s p) = false) ∧ T = 0) ∨ (Hid (decide (0 ≤ p) = true) ∧ Hid (decide (p < cWords c) = false) ∧ Hid (decide (0 < cWhere c s p) = false) ∧ T = 0) ∨ (Hid (decide (0 ≤ p) = true) ∧ Hid (decide (p < cWords c) = true) ∧ Hid (decide (0 < cWhere c s p) = true) ∧ T = 1) := by
            rw [HTT.out, HLc.out]
            by_cases h1 : 0 ≤ p
            · by_cases h2 : p < cWords c
              · exact .inr (.inr ⟨decide_eq_true h1, decide_eq_true h2, decide_eq_true ((where_pos hok s p).2 ⟨h1, h2⟩), if_pos ⟨h1, h2⟩⟩)
              · exact .inr (.inl ⟨decide_eq_true h1, decide_eq_false h2, decide_eq_false fun h => h2 ((where_pos hok s p).1 h).2, if_neg fun h => h2 h.2⟩)
            · exact .inl ⟨decide_eq_false h1, decide_eq_false fun h => h1 ((where_pos hok s p).1 h).1, if_neg fun h => h1 h.1⟩
          clear HTT HT
          rcases ways with ⟨HZ1, HZ3, rfl⟩ | ⟨HZ1, HZ2, HZ3, rfl⟩ | ⟨HZ1, HZ2, HZ3, rfl⟩
          · have z1 : p < 0 := Int.not_le.1 (of_decide_eq_false HZ1.out)
            have z3 : cWhere c s p ≤ 0 := Int.not_lt.1 (of_decide_eq_false HZ3.out)
            have O9 := O8
            have HXZ := HX
            go_wp2_with fail
            clear c0 c1 c2 c3
            obtain ⟨c0, c1, c2, c3⟩ := O9.out.2.all
            obtain ⟨b7, o7, c7, rfl, hc7, hm7, hb7, hg⟩ := (show Sl w7 w7.heap.size 2 v7 1 (spc [(0, cWords c)]) from HS7.out).at_ (by decide)
            have j0 := wat_cell (HXZ.out.keeps (hg 0 (.int .i64 0) rfl))
            have j1 := wat_cell (HXZ.out.keeps (hg 1 (.int .i64 (cWords c)) rfl))
            have AP := Lib.hid (apart_all hAp HS.out HXZ.out HLn.out HLf.out HLa.out)
            rw [Nat.add_zero] at j0
            clear hg hJ hH hC hW hF hT hL hWh hAw hAp
            refine wp_region_only mixedL (by kernel_rfl) ?_
            repeat (quiet_step (first
              | (go_at_call 22; with_reducible refine wat_call (AP.out _ _))
              | (go_at_call 7; with_reducible refine wat_call (B1.out _))
              | (go_at_call 15; with_reducible refine wat_call (F1.out _))
              | (go_at_call 9; with_reducible refine wat_call (C1.out _))
              | (go_at_call 11; with_reducible refine wat_call (D2.out _))
              | (go_at_call 19; with_reducible refine wat_call (HAW.out _))))
            refine wpQuiet_nil ?_
            rintro w' ⟨⟨nq, osq⟩, rfl⟩
            obtain ⟨WE, hWE, OE⟩ := wat_name _ nq osq
            rw [hWE]
            clear hWE c0 c1 c2 c3 j0 j1
            go_wp2
            go_ret
            exact ⟨congrArg (fun b => Ending.returned (Value.bool b)) (show (!decide (0 < cWhere c s p)) = true by rw [HZ3.out]; rfl), (O9.out.1.trans OE.out).whole⟩
          · have z1 : 0 ≤ p := of_decide_eq_true HZ1.out
            have z2 : cWords c ≤ p := Int.not_lt.1 (of_decide_eq_false HZ2.out)
            have z3 : cWhere c s p ≤ 0 := Int.not_lt.1 (of_decide_eq_false HZ3.out)
            go_wp2_with fail
            go_at_call 7
            refine (B1.out _).mono ?_
            rintro e w9 ⟨rfl, o⟩
            have O9 := Lib.hid (And.intro (O8.out.1.trans o) (O8.out.2.keep o))
            have HXZ := Lib.hid (HX.out.trans o)
            clear o c0 c1 c2 c3
            go_wp2_with fail
            obtain ⟨c0, c1, c2, c3⟩ := O9.out.2.all
            obtain ⟨b7, o7, c7, rfl, hc7, hm7, hb7, hg⟩ := (show Sl w7 w7.heap.size 2 v7 1 (spc [(0, cWords c)]) from HS7.out).at_ (by decide)
            have j0 := wat_cell (HXZ.out.keeps (hg 0 (.int .i64 0) rfl))
            have j1 := wat_cell (HXZ.out.keeps (hg 1 (.int .i64 (cWords c)) rfl))
            have AP := Lib.hid (apart_all hAp HS.out HXZ.out HLn.out HLf.out HLa.out)
            rw [Nat.add_zero] at j0
            clear hg hJ hH hC hW hF hT hL hWh hAw hAp
            refine wp_region_only mixedL (by kernel_rfl) ?_
            repeat (quiet_step (first
              | (go_at_call 22; with_reducible refine wat_call (AP.out _ _))
              | (go_at_call 7; with_reducible refine wat_call (B1.out _))
              | (go_at_call 15; with_reducible refine wat_call (F1.out _))
              | (go_at_call 9; with_reducible refine wat_call (C1.out _))
              | (go_at_call 11; with_reducible refine wat_call (D2.out _))
              | (go_at_call 19; with_reducible refine wat_call (HAW.out _))))
            refine wpQuiet_nil ?_
            rintro w' ⟨⟨nq, osq⟩, rfl⟩
            obtain ⟨WE, hWE, OE⟩ := wat_name _ nq osq
            rw [hWE]
            clear hWE c0 c1 c2 c3 j0 j1
            go_wp2
            go_ret
            exact ⟨congrArg (fun b => Ending.returned (Value.bool b)) (show (!decide (0 < cWhere c s p)) = true by rw [HZ3.out]; rfl), (O9.out.1.trans OE.out).whole⟩
          · have z1 : 0 ≤ p := of_decide_eq_true HZ1.out
            have z2 : p < cWords c := of_decide_eq_true HZ2.out
            have z3 : 0 < cWhere c s p := of_decide_eq_true HZ3.out
            go_wp2_with fail
            go_at_call 7
            refine (B1.out _).mono ?_
            rintro e w9 ⟨rfl, o⟩
            have O9 := Lib.hid (And.intro (O8.out.1.trans o) (O8.out.2.keep o))
            have HXZ := Lib.hid (HX.out.trans o)
            clear o c0 c1 c2 c3
            go_wp2_with fail
            obtain ⟨c0, c1, c2, c3⟩ := O9.out.2.all
            obtain ⟨b7, o7, c7, rfl, hc7, hm7, hb7, hg⟩ := (show Sl w7 w7.heap.size 2 v7 1 (spc [(0, cWords c)]) from HS7.out).at_ (by decide)
            have j0 := wat_cell (HXZ.out.keeps (hg 0 (.int .i64 0) rfl))
            have j1 := wat_cell (HXZ.out.keeps (hg 1 (.int .i64 (cWords c)) rfl))
            have AP := Lib.hid (apart_all hAp HS.out HXZ.out HLn.out HLf.out HLa.out)
            rw [Nat.add_zero] at j0
            clear hg hJ hH hC hW hF hT hL hWh hAw hAp
            refine wp_region_only mixedL (by kernel_rfl) ?_
            repeat (quiet_step (first
              | (go_at_call 22; with_reducible refine wat_call (AP.out _ _))
              | (go_at_call 7; with_reducible refine wat_call (B1.out _))
              | (go_at_call 15; with_reducible refine wat_call (F1.out _))
              | (go_at_call 9; with_reducible refine wat_call (C1.out _))
              | (go_at_call 11; with_reducible refine wat_call (D2.out _))
              | (go_at_call 19; with_reducible refine wat_call (HAW.out _))))
            refine wpQuiet_nil ?_
            rintro w' ⟨⟨nq, osq⟩, rfl⟩
            obtain ⟨WE, hWE, OE⟩ := wat_name _ nq osq
            rw [hWE]
            clear hWE c0 c1 c2 c3 j0 j1
            go_wp2
            go_ret
            exact ⟨rfl, (O9.out.1.trans OE.out).whole⟩
  · have HQ := Lib.hid (show decide (0 < c.large) = false from decide_eq_false (by omega))
    have HO4 := Lib.hid ((Only.refl nob W3).alloc (.cells #[.int .i64 (cFrom c s).1, .int .i64 (cFrom c s).2, .int .i64 (cTo c s).1, .int .i64 (cTo c s).2] 27))
    have HR4 := Lib.hid (pair_own W3 27 (cFrom c s) (cTo c s))
    obtain ⟨c0, c1, c2, c3⟩ := HB3.out.2.keep HO4.out
    obtain ⟨w6, hw6⟩ : ∃ w6, (W3.alloc (.cells #[.int .i64 (cFrom c s).1, .int .i64 (cFrom c s).2, .int .i64 (cTo c s).1, .int .i64 (cTo c s).2] 27)) = w6 := ⟨_, rfl⟩
    obtain ⟨v6, hv6⟩ : ∃ v6, Value.slice (some ⟨W3.heap.size, 0, none⟩) 2 2 = v6 := ⟨_, rfl⟩
    have HW6 := Lib.hid hw6
    have HV6 := Lib.hid hv6
    have O6 : Hid (Only nob w w6 ∧ CBox w6 w.heap.size c) := Lib.hid (by rw [← hw6]; exact And.intro (HB3.out.1.trans HO4.out) (HB3.out.2.keep HO4.out))
    have HS6 := Lib.hid (show Sl w6 w6.heap.size 2 v6 l.length (spc l) by
        have e : l = [cFrom c s, cTo c s] := by rw [HL.out]; unfold cParts; rw [if_neg (by omega)]; rfl
        have := Sl.of_own HR4.out (by simp [spc])
        rw [e, ← hw6, ← hv6]; exact this)
    clear hw6 hv6
    go_wp2_with fail
    rw [HW6.out, HV6.out]
    go_at_call 20
    refine (hJ _ l w6.heap.size w6 HS6.out (Nat.le_refl _) (by have := HLn.out; omega) HLf.out).mono ?_
    rintro e w7 ⟨v7, O, rfl, hj, hcv, hsl, o⟩
    obtain rfl := joined_unique HP.out.whole hj fun q => by rw [hcv, HLw.out]
    obtain ⟨A, ca, rfl, hac, ham⟩ := HS6.out.form
    unfold maxLen at ham
    have HS := Lib.hid ((HS6.out.below o.whole).more o.size)
    have HS7 := Lib.hid hsl
    have O7 := Lib.hid (And.intro (O6.out.1.trans o) (O6.out.2.keep o))
    have hs7 : w6.heap.size ≤ w7.heap.size := o.size
    have hln := HLn.out
    clear hj hcv hsl o
    try clear c0 c1 c2 c3
    go_wp2_with fail
    go_loopw [9, 10] (fun n i wr => ∃ k : Nat, k ≤ l.length ∧ i = .int .i64 k ∧ n = .int .i64 (cntP (l.take k) p) ∧ Only nob w7 wr) (fun _ i _ => l.length - (intOf i).toNat)
    case atStart => exact ⟨0, Nat.zero_le _, rfl, rfl, Only.refl _ _⟩
    case round =>
      obtain ⟨k, hk, rfl, rfl, hO⟩ := hrel
      have HX := Lib.hid hO
      have hle := cntP_lo (l.take k) p
      have hlk : (l.take k).length = k := by simp; omega
      rw [hlk] at hle
      obtain ⟨T, hT⟩ : ∃ T, T = cntP (l.take k) p := ⟨_, rfl⟩
      rw [← hT] at hle ⊢
      have HT := Lib.hid hT
      clear hT hlk
      by_cases hlt : k < l.length
      · obtain ⟨y, hy⟩ : ∃ y, l[k]? = some y := ⟨_, List.getElem?_eq_getElem hlt⟩
        obtain ⟨b, q, rfl, hb, d0, d1⟩ := sl_span HS.out hO.whole hy
        have HY := Lib.hid hy
        have HE := Lib.hid (cntP_next hy p)
        clear hO hy
        by_cases hh : y.has p
        · have HH := Lib.hid (decide_eq_true hh)
          have HE1 := Lib.hid (show cntP (l.take (k + 1)) p = T + 1 by rw [HE.out, if_pos hh, HT.out])
          clear hh
          go_wp2_with fail
          refine (hH y p _ (HLf.out.get HY.out) hp.1 hp.2).mono ?_
          rw [HH.out]
          rintro e w8 ⟨rfl, o⟩
          have HO := Lib.hid (HX.out.trans o)
          clear o d0 d1
          go_wp2
          go_roundw
          case rel => exact ⟨k + 1, by omega, by go_num, by rw [HE1.out]; first | done | go_num, HO.out⟩
          case measure => simp [intOf]; omega
        · have HH := Lib.hid (decide_eq_false hh)
          have HE1 := Lib.hid (show cntP (l.take (k + 1)) p = T by rw [HE.out, if_neg hh, HT.out, Int.add_zero])
          clear hh
          go_wp2_with fail
          refine (hH y p _ (HLf.out.get HY.out) hp.1 hp.2).mono ?_
          rw [HH.out]
          rintro e w8 ⟨rfl, o⟩
          have HO := Lib.hid (HX.out.trans o)
          clear o d0 d1
          go_wp2
          go_roundw
          case rel => exact ⟨k + 1, by omega, by go_num, by rw [HE1.out], HO.out⟩
          case measure => simp [intOf]; omega
      · obtain rfl : k = l.length := by omega
        have HTT := Lib.hid (show T = cntP l p by rw [HT.out, List.take_length])
        obtain ⟨wo, rfl⟩ : ∃ wo : World, wo = wr := ⟨_, rfl⟩
        have O8 := Lib.hid (And.intro (O7.out.1.trans hO) (O7.out.2.keep hO))
        obtain ⟨c0, c1, c2, c3⟩ := O8.out.2
        clear hO
        have ways : (Hid (decide (0 ≤ p) = false) ∧ Hid (decide (0 < cWhere c s p) = false) ∧ T = 0) ∨ (Hid (decide (0 ≤ p) = true) ∧ Hid (decide (p < cWords c) = false) ∧ Hid (decide (0 < cWhere c s p) = false) ∧ T = 0) ∨ (Hid (decide (0 ≤ p) = true) ∧ Hid (decide (p < cWords c) = true) ∧ Hid (decide (0 < cWhere c s p) = true) ∧ T = 1) := by
          rw [HTT.out, HLc.out]
          by_cases h1 : 0 ≤ p
          · by_cases h2 : p < cWords c
            · exact .inr (.inr ⟨decide_eq_true h1, decide_eq_true h2, decide_eq_true ((where_pos hok s p).2 ⟨h1, h2⟩), if_pos ⟨h1, h2⟩⟩)
            · exact .inr (.inl ⟨decide_eq_true h1, decide_eq_false h2, decide_eq_false fun h => h2 ((where_pos hok s p).1 h).2, if_neg fun h => h2 h.2⟩)
          · exact .inl ⟨decide_eq_false h1, decide_eq_false fun h => h1 ((where_pos hok s p).1 h).1, if_neg fun h => h1 h.1⟩
        clear HTT HT
        rcases ways with ⟨HZ1, HZ3, rfl⟩ | ⟨HZ1, HZ2, HZ3, rfl⟩ | ⟨HZ1, HZ2, HZ3, rfl⟩
        · have z1 : p < 0 := Int.not_le.1 (of_decide_eq_false HZ1.out)
          have z3 : cWhere c s p ≤ 0 := Int.not_lt.1 (of_decide_eq_false HZ3.out)
          have O9 := O8
          have HXZ := HX
          go_wp2_with fail
          clear c0 c1 c2 c3
          obtain ⟨c0, c1, c2, c3⟩ := O9.out.2.all
          obtain ⟨b7, o7, c7, rfl, hc7, hm7, hb7, hg⟩ := (show Sl w7 w7.heap.size 2 v7 1 (spc [(0, cWords c)]) from HS7.out).at_ (by decide)
          have j0 := wat_cell (HXZ.out.keeps (hg 0 (.int .i64 0) rfl))
          have j1 := wat_cell (HXZ.out.keeps (hg 1 (.int .i64 (cWords c)) rfl))
          have AP := Lib.hid (apart_all hAp HS.out HXZ.out HLn.out HLf.out HLa.out)
          rw [Nat.add_zero] at j0
          clear hg hJ hH hC hW hF hT hL hWh hAw hAp
          refine wp_region_only mixedL (by kernel_rfl) ?_
          repeat (quiet_step (first
            | (go_at_call 22; with_reducible refine wat_call (AP.out _ _))
            | (go_at_call 7; with_reducible refine wat_call (B1.out _))
            | (go_at_call 15; with_reducible refine wat_call (F1.out _))
            | (go_at_call 9; with_reducible refine wat_call (C1.out _))
            | (go_at_call 11; with_reducible refine wat_call (D2.out _))
            | (go_at_call 19; with_reducible refine wat_call (HAW.out _))))
          refine wpQuiet_nil ?_
          rintro w' ⟨⟨nq, osq⟩, rfl⟩
          obtain ⟨WE, hWE, OE⟩ := wat_name _ nq osq
          rw [hWE]
          clear hWE c0 c1 c2 c3 j0 j1
          go_wp2
          go_ret
          exact ⟨congrArg (fun b => Ending.returned (Value.bool b)) (show (!decide (0 < cWhere c s p)) = true by rw [HZ3.out]; rfl), (O9.out.1.trans OE.out).whole⟩
        · have z1 : 0 ≤ p := of_decide_eq_true HZ1.out
          have z2 : cWords c ≤ p := Int.not_lt.1 (of_decide_eq_false HZ2.out)
          have z3 : cWhere c s p ≤ 0 := Int.not_lt.1 (of_decide_eq_false HZ3.out)
          go_wp2_with fail
          go_at_call 7
          refine (B1.out _).mono ?_
          rintro e w9 ⟨rfl, o⟩
          have O9 := Lib.hid (And.intro (O8.out.1.trans o) (O8.out.2.keep o))
          have HXZ := Lib.hid (HX.out.trans o)
          clear o c0 c1 c2 c3
          go_wp2_with fail
          obtain ⟨c0, c1, c2, c3⟩ := O9.out.2.all
          obtain ⟨b7, o7, c7, rfl, hc7, hm7, hb7, hg⟩ := (show Sl w7 w7.heap.size 2 v7 1 (spc [(0, cWords c)]) from HS7.out).at_ (by decide)
          have j0 := wat_cell (HXZ.out.keeps (hg 0 (.int .i64 0) rfl))
          have j1 := wat_cell (HXZ.out.keeps (hg 1 (.int .i64 (cWords c)) rfl))
          have AP := Lib.hid (apart_all hAp HS.out HXZ.out HLn.out HLf.out HLa.out)
          rw [Nat.add_zero] at j0
          clear hg hJ hH hC hW hF hT hL hWh hAw hAp
          refine wp_region_only mixedL (by kernel_rfl) ?_
          repeat (quiet_step (first
            | (go_at_call 22; with_reducible refine wat_call (AP.out _ _))
            | (go_at_call 7; with_reducible refine wat_call (B1.out _))
            | (go_at_call 15; with_reducible refine wat_call (F1.out _))
            | (go_at_call 9; with_reducible refine wat_call (C1.out _))
            | (go_at_call 11; with_reducible refine wat_call (D2.out _))
            | (go_at_call 19; with_reducible refine wat_call (HAW.out _))))
          refine wpQuiet_nil ?_
          rintro w' ⟨⟨nq, osq⟩, rfl⟩
          obtain ⟨WE, hWE, OE⟩ := wat_name _ nq osq
          rw [hWE]
          clear hWE c0 c1 c2 c3 j0 j1
          go_wp2
          go_ret
          exact ⟨congrArg (fun b => Ending.returned (Value.bool b)) (show (!decide (0 < cWhere c s p)) = true by rw [HZ3.out]; rfl), (O9.out.1.trans OE.out).whole⟩
        · have z1 : 0 ≤ p := of_decide_eq_true HZ1.out
          have z2 : p < cWords c := of_decide_eq_true HZ2.out
          have z3 : 0 < cWhere c s p := of_decide_eq_true HZ3.out
          go_wp2_with fail
          go_at_call 7
          refine (B1.out _).mono ?_
          rintro e w9 ⟨rfl, o⟩
          have O9 := Lib.hid (And.intro (O8.out.1.trans o) (O8.out.2.keep o))
          have HXZ := Lib.hid (HX.out.trans o)
          clear o c0 c1 c2 c3
          go_wp2_with fail
          obtain ⟨c0, c1, c2, c3⟩ := O9.out.2.all
          obtain ⟨b7, o7, c7, rfl, hc7, hm7, hb7, hg⟩ := (show Sl w7 w7.heap.size 2 v7 1 (spc [(0, cWords c)]) from HS7.out).at_ (by decide)
          have j0 := wat_cell (HXZ.out.keeps (hg 0 (.int .i64 0) rfl))
          have j1 := wat_cell (HXZ.out.keeps (hg 1 (.int .i64 (cWords c)) rfl))
          have AP := Lib.hid (apart_all hAp HS.out HXZ.out HLn.out HLf.out HLa.out)
          rw [Nat.add_zero] at j0
          clear hg hJ hH hC hW hF hT hL hWh hAw hAp
          refine wp_region_only mixedL (by kernel_rfl) ?_
          repeat (quiet_step (first
            | (go_at_call 22; with_reducible refine wat_call (AP.out _ _))
            | (go_at_call 7; with_reducible refine wat_call (B1.out _))
            | (go_at_call 15; with_reducible refine wat_call (F1.out _))
            | (go_at_call 9; with_reducible refine wat_call (C1.out _))
            | (go_at_call 11; with_reducible refine wat_call (D2.out _))
            | (go_at_call 19; with_reducible refine wat_call (HAW.out _))))
          refine wpQuiet_nil ?_
          rintro w' ⟨⟨nq, osq⟩, rfl⟩
          obtain ⟨WE, hWE, OE⟩ := wat_name _ nq osq
          rw [hWE]
          clear hWE c0 c1 c2 c3 j0 j1
          go_wp2
          go_ret
          exact ⟨rfl, (O9.out.1.trans OE.out).whole⟩
theorem layoutParts_walk (hC : LyCheck) (hW : LyWords) (hF : LyFrom) (hT : LyTo) (hL : LyLarge) (hWh : LyWhere) (hAw : LyAwake) (hH : SpHas) (hAp : SpApart) (hJ : SpJoin) (c : Cf) (s : Bool) (p : Int) (hc : CFit c) (hp : I64 p) (w : World) :
    Calls Try.prog 4 #[.agg #[.int .i64 c.semi, .int .i64 c.large, .int .i64 c.slots, .int .i64 c.limit], .bool s, .int .i64 p] w fun e w' => e = .returned (.bool true) ∧ Below w.heap.size w w' := by
  by_cases hok : c.ok
  · exact layoutParts_yes hC hW hF hT hL hWh hAw hH hAp hJ c s p hc hp hok w
  · exact layoutParts_no hC hW hF hAw c s p hc hok w
end Go.Proofs.Ytmlpppcdammelaa
