/- The walk of BumpApart. -/
import Derived.Test.YtpgkmjkickkieaaBumpLaw3
namespace Go.Proofs.Ytpgkmjkickkieaa
open Go.RowKit Go.Sort

set_option maxRecDepth 100000 in
set_option maxHeartbeats 1000000 in
theorem bumpApart_big (x : Sp) (A : Option Addr) (len c : Nat) (w : World) (h : 100 < len) :
    Calls Try.prog 4 #[.agg #[.int .i64 x.1, .int .i64 x.2], .slice A len c] w fun e w' => e = .returned (.bool true) ∧ Below w.heap.size w w' := by
  obtain ⟨W, hW, HB⟩ := box_name w x
  have HWE := Lib.hid hW
  clear hW
  go_enter Try.func4, Try.ntmps4
  go_wp2_with fail
  rw [HWE.out]
  go_wp2_with fail
  go_at_call 6
  refine (awake05_any _).mono ?_
  rintro e w6 ⟨rfl, ho⟩
  have HO2 := Lib.hid (HB.out.1.trans ho)
  clear ho
  go_wp2
  go_ret
  exact ⟨rfl, HO2.out.whole⟩

set_option maxRecDepth 100000 in
set_option maxHeartbeats 1000000 in
theorem bumpApart_no (x : Sp) (A : Option Addr) (len c : Nat) (w : World) (h : len ≤ 100) (hf : Fit x) (hx : ¬ x.ok) :
    Calls Try.prog 4 #[.agg #[.int .i64 x.1, .int .i64 x.2], .slice A len c] w fun e w' => e = .returned (.bool true) ∧ Below w.heap.size w w' := by
  obtain ⟨W, hW, HB⟩ := box_name w x
  have HWE := Lib.hid hW
  have HX := Lib.hid hx
  clear hW hx
  go_enter Try.func4, Try.ntmps4
  go_wp2_with fail
  rw [HWE.out]
  obtain ⟨c0, c1⟩ := HB.out.2
  go_wp2_with fail
  go_at_call 7
  refine (bNew_no x _ hf HX.out).mono ?_
  rintro e w1 ⟨rfl, o⟩
  have O1 := Lib.hid (HB.out.1.trans o)
  clear o c0 c1
  go_wp2_with fail
  go_at_call 6
  refine (awake05_any _).mono ?_
  rintro e w6 ⟨rfl, ho⟩
  have O3 := Lib.hid (O1.out.trans ho)
  clear ho
  go_wp2
  go_ret
  exact ⟨rfl, O3.out.whole⟩

/-- What holds at the head of each round: the bump, taken up to x.1 + u; what was taken, in s; nothing that was there ahead has turned. -/
structure GotIs (W w1 : World) (b : Nat) (x : Sp) (u : Int) (g : List Sp) (s : Value) (wr : World) : Prop where
  bm : Bm wr b x (x.1 + u)
  own : wr.ownsRow w1.heap.size 23 2 s g.length (spc g)
  ch : Chain x.1 (x.1 + u) g
  only : Only nob W wr
  base : w1.heap.size ≤ wr.heap.size
theorem GotIs.old {W w1 wr wx : World} {b : Nat} {x : Sp} {u : Int} {g : List Sp} {s : Value} (h : GotIs W w1 b x u g s wr) (o : Only nob wr wx) : GotIs W w1 b x u g s wx :=
  ⟨h.bm.old o, own_only h.own o fun _ _ => id, h.ch, h.only.trans o, Nat.le_trans h.base o.size⟩
theorem one_span (w : World) (x : Sp) : Sl (w.alloc (.cells #[.int .i64 x.1, .int .i64 x.2] 23)) (w.heap.size + 1) 2 (.slice (some ⟨w.heap.size, 0, none⟩) 1 1) 1 (spc [x]) := by
  have := Sl.of_blk (size := 2) (n := 1) (c := 1) (Blk.new w 23 #[.int .i64 x.1, .int .i64 x.2]) (by simp) (Nat.le_refl _) (by decide)
  simpa [spc] using this
/-- One more was taken, and laid behind the others. -/
theorem GotIs.more {W w1 wr wt wz : World} {b : Nat} {x : Sp} {u z : Int} {g : List Sp} {s s' : Value} (h : GotIs W w1 b x u g s wr) (hb0 : W.heap.size ≤ b) (hb : b < w1.heap.size) (hz : 1 ≤ z)
    (hB : Bm wt b x (x.1 + u + z)) (ho : Only (isb b) wr wt) {o : Obj}
    (hown : wz.ownsRow w1.heap.size 23 2 s' (g.length + 1) (spc g ++ spc [(x.1 + u, z)])) (ho2 : Only (fun k => s.ownBlock = some k) (wt.alloc o) wz) (_hW : W.heap.size ≤ w1.heap.size) :
    GotIs W w1 b x (u + z) (g ++ [(x.1 + u, z)]) s' wz := by
  have hs : ∀ k, s.ownBlock = some k → w1.heap.size ≤ k := fun k hk => (own_lt h.own hk).1
  have o3 : Only (fun k => s.ownBlock = some k) wt wz := ((Only.refl _ _).alloc o).trans ho2
  have e : x.1 + (u + z) = x.1 + u + z := by omega
  have hr := hB.range
  have hr2 := h.bm.range
  refine ⟨?_, ?_, ?_, ?_, ?_⟩
  · rw [e]; exact hB.keep o3 fun hk => by have := hs b hk; omega
  · rw [spc_append]; simpa using hown
  · rw [e]; exact h.ch.more (by omega) (by omega) hz (by omega)
  · exact (h.only.andThen ho fun i hi e => by unfold isb at e; omega).andThen o3 fun i hi e => by have := hs i e; omega
  · exact Nat.le_trans h.base (Nat.le_trans ho.size o3.size)

set_option maxRecDepth 100000 in
set_option maxHeartbeats 4000000 in
theorem bumpApart_yes (x : Sp) (v : Value) (l : List Int) (w : World) (hs : Sl w w.heap.size 1 v l.length (i64s l)) (h : l.length ≤ 100) (hx : x.ok) :
    Calls Try.prog 4 #[.agg #[.int .i64 x.1, .int .i64 x.2], v] w fun e w' => e = .returned (.bool true) ∧ Below w.heap.size w w' := by
  obtain ⟨i0, hi0, hz0, hz1, hz2⟩ := info_parts info_span
  obtain ⟨W, hW, HB⟩ := box_name w x
  have HWE := Lib.hid hW
  have HX := Lib.hid hx
  have HS := Lib.hid hs
  obtain ⟨A, c, rfl, hac, ham, -⟩ := hs
  unfold maxLen at ham
  clear hW hx
  go_enter Try.func4, Try.ntmps4
  go_wp2_with fail
  rw [HWE.out]
  obtain ⟨c0, c1⟩ := HB.out.2
  go_wp2_with fail
  go_at_call 7
  refine (bNew_yes x _ HX.out).mono ?_
  rintro e w1 ⟨b, rfl, hb, hB, o⟩
  have O1 := Lib.hid o
  have HM1 := Lib.hid hB
  have hb1 : b < w1.heap.size := hB.blk.lt
  have hW1 : W.heap.size ≤ w1.heap.size := o.size
  clear o c0 c1 hB
  go_wp2_with fail
  go_loopw [7, 8] (fun s i wr => ∃ (k : Nat) (u : Int) (g : List Sp), k ≤ l.length ∧ g.length ≤ k ∧ i = .int .i64 k ∧ GotIs W w1 b x u g s wr) (fun _ i _ => l.length - (intOf i).toNat)
  case atStart => exact ⟨0, 0, [], Nat.zero_le _, Nat.le_refl _, rfl, by rw [Int.add_zero]; exact HM1.out, World.ownsRow_nil _ _ _ _, by rw [Int.add_zero]; exact Chain.nil _, O1.out, Nat.le_refl _⟩
  case round =>
    obtain ⟨k, u, g, hk, hg, rfl, hG⟩ := hrel
    have HG := Lib.hid hG
    have HW := Lib.hid (HB.out.1.trans hG.only)
    obtain ⟨r0, r1, r2, r3, r4, r5, r6⟩ := hG.bm.range
    obtain ⟨A2, cx, rfl, hcx, hmx⟩ := own_len hG.own
    unfold maxLen at hmx
    have r7 : 0 ≤ u := by omega
    have r8 : u ≤ x.2 := by omega
    have hwr := hG.base
    clear hG
    by_cases hlt : k < l.length
    · obtain ⟨z, hz⟩ : ∃ z, l[k]? = some z := ⟨_, List.getElem?_eq_getElem hlt⟩
      obtain ⟨q, o, rfl, hq, d0⟩ := sl_int HS.out HW.out.whole hz
      have HZ := Lib.hid hz
      clear hz
      by_cases hn : z < 1 ∨ x.2 - u < z
      · have hT : tno z ≠ 0 := by unfold tno; split <;> decide
        obtain ⟨T, hTT⟩ : ∃ T, T = tno z := ⟨_, rfl⟩
        rw [← hTT] at hT
        have HTT := Lib.hid hTT.symm
        have hT2 : (T == 0) = false := by simpa using hT
        clear hTT hT
        go_wp2_with fail
        go_at_call 10
        refine (bTake_no b x (x.1 + u) z _ HG.out.bm (by omega)).mono ?_
        rw [HTT.out]
        rintro e w3 ⟨rfl, o3⟩
        have HG3 := Lib.hid (HG.out.old o3)
        clear o3
        go_wp2
        go_roundw
        case rel => exact ⟨k + 1, u, g, by omega, by omega, by go_num, HG3.out⟩
        case measure => simp [intOf]; omega
      · have hz1' : 1 ≤ z := by omega
        have hz2' : z ≤ x.2 - u := by omega
        go_wp2_with fail
        go_at_call 10
        refine (bTake_yes b x (x.1 + u) z _ HG.out.bm (by omega) (by omega)).mono ?_
        rintro e w3 ⟨rfl, hB3, o3⟩
        have HM3 := Lib.hid hB3
        have O3 := Lib.hid o3
        have HOW := Lib.hid (own_only HG.out.own o3 fun j hj e => by have := (own_lt HG.out.own hj).1; unfold isb at e; omega)
        have d1 := ((HW.out.andThen o3 fun i hi e => by unfold isb at e; have := HB.out.1.size; omega).cell (p := ⟨q, o + k, none⟩) hq id).trans (((HW.out.cell (p := ⟨q, o + k, none⟩) hq id).symm).trans d0)
        have hs3 := o3.size
        clear hB3 o3 d0
        go_wp2_with (with_reducible refine wpList_append_sl (o := ⟨some 56, _, _, _, _, _⟩) _ rfl (.tmp 48) (.tmp 55) _ rfl w1.heap.size 23 i0 _ 2 16 Try.underlying36 hi0 hz0 hz1 hz2 rfl (by decide) (.slice A2 g.length cx) g.length (spc g) rfl ?c1 (w3.heap.size + 1) (.slice (some ⟨w3.heap.size, 0, none⟩) 1 1) 1 (spc [(x.1 + u, z)]) rfl ?c6 (spc_one _) ?c2 ?c3 ?c4 ?c5)
        case c1 => exact own_only HOW.out ((Only.refl nob w3).alloc _) (fun _ _ h => h)
        case c6 => exact one_span w3 (x.1 + u, z)
        case c2 => unfold maxLen; omega
        case c3 => omega
        case c4 => simp; omega
        case c5 =>
          intro v6 w6 H6 o6 _
          have HG6 := Lib.hid (HG.out.more hb hb1 hz1' HM3.out O3.out H6.out o6 hW1)
          clear H6 o6 d1
          go_wp2
          go_roundw
          case rel => exact ⟨k + 1, u + z, g ++ [(x.1 + u, z)], by omega, by simp; omega, by go_num, HG6.out⟩
          case measure => simp [intOf]; omega
    · obtain rfl : k = l.length := by omega
      go_wp2_with fail
      go_at_call 13
      refine (bRoom_bm b x (x.1 + u) _ HG.out.bm).mono ?_
      rw [show x.2 - (x.1 + u - x.1) = x.2 - u by omega]
      rintro e w3 ⟨rfl, o3⟩
      have HG3 := Lib.hid (HG.out.old o3)
      have hs3 := o3.size
      clear o3
      go_upto_if 60 with fail
      go_cut [7] (fun s wx => ∃ g' : List Sp, g'.length ≤ 101 ∧ GotIs W w1 b x x.2 g' s wx)
      case first =>
        by_cases hn : 0 < x.2 - u
        · go_wp2_with fail
          go_at_call 10
          refine (bTake_yes b x (x.1 + u) (x.2 - u) _ HG3.out.bm (by omega) (by omega)).mono ?_
          rintro e w4 ⟨rfl, hB4, o4⟩
          have HM4 := Lib.hid hB4
          have O4 := Lib.hid o4
          have HOW := Lib.hid (own_only HG3.out.own o4 fun j hj e => by have := (own_lt HG3.out.own hj).1; unfold isb at e; omega)
          have hs4 := o4.size
          clear hB4 o4
          go_wp2_with (with_reducible refine wpList_append_sl (o := ⟨some 74, _, _, _, _, _⟩) _ rfl (.tmp 69) (.tmp 73) _ rfl w1.heap.size 23 i0 _ 2 16 Try.underlying36 hi0 hz0 hz1 hz2 rfl (by decide) (.slice A2 g.length cx) g.length (spc g) rfl ?e1 (w4.heap.size + 1) (.slice (some ⟨w4.heap.size, 0, none⟩) 1 1) 1 (spc [(x.1 + u, x.2 - u)]) rfl ?e6 (spc_one _) ?e2 ?e3 ?e4 ?e5)
          case e1 => exact own_only HOW.out ((Only.refl nob w4).alloc _) (fun _ _ h => h)
          case e6 => exact one_span w4 (x.1 + u, x.2 - u)
          case e2 => unfold maxLen; omega
          case e3 => omega
          case e4 => simp; omega
          case e5 =>
            intro v6 w6 H6 o6 _
            have HG6 := Lib.hid (HG3.out.more hb hb1 (by omega) HM4.out O4.out H6.out o6 hW1)
            clear H6 o6
            go_wp2
            go_meet
            exact ⟨g ++ [(x.1 + u, x.2 - u)], by simp; omega, by have := HG6.out; rwa [show u + (x.2 - u) = x.2 by omega] at this⟩
        · go_wp2
          go_meet
          exact ⟨g, by omega, by have := HG3.out; rwa [show u = x.2 by omega] at this⟩
      case rest =>
        obtain ⟨g', hg', hG⟩ := hcut
        have HG4 := Lib.hid hG
        clear hG
        obtain ⟨A3, cy, rfl, hcy, hmy⟩ := own_len HG4.out.own
        unfold maxLen at hmy
        have HSL := Lib.hid (Sl.of_own HG4.out.own HG4.out.own.1)
        go_wp2_with fail
        go_at_call 14
        refine (refJoin_any _ g' wc.heap.size _ HSL.out (Nat.le_refl _) (by omega)).mono ?_
        rintro e w5 ⟨v5, O, rfl, hj, hcv, hown, o5⟩
        obtain rfl := HG4.out.ch.joins HX.out hj hcv
        have HG5 := Lib.hid (HG4.out.old o5)
        have HSL5 := Lib.hid (HSL.out.below o5.whole)
        have HZ5 := Lib.hid o5.size
        have HOW5 := Lib.hid hown
        obtain ⟨gb, cz, rfl, hcz, hmz, hgb⟩ := own_form hown (by simp)
        have k0 : w5.cell? ⟨gb, 0, none⟩ = some (.int .i64 x.1) := by rw [hown.cellAt 0 (by simp)]; rfl
        have k1 : w5.cell? ⟨gb, 1, none⟩ = some (.int .i64 x.2) := by rw [hown.cellAt 1 (by simp)]; rfl
        obtain ⟨b0, b1⟩ := HB.out.2.old HG5.out.only
        have HAP := Lib.hid (show ∀ (n : Nat) (os : Array Obj), Calls Try.prog 15 #[.slice A3 g'.length cy] (wat w5 n os) fun e w' => e = .returned (.bool true) ∧ Only nob (wat w5 n os) w' from fun n os => by
          have h := refApart_any _ g' wc.heap.size (wat w5 n os) (HSL5.out.below (Below.mono (only_wat w5 n os).whole HZ5.out)) (Nat.le_trans HZ5.out (only_wat w5 n os).size)
          rwa [decide_eq_true HG5.out.ch.apart] at h)
        have HRM := Lib.hid (show ∀ (n : Nat) (os : Array Obj), Calls Try.prog 13 #[.pointer (some ⟨b, 0, none⟩)] (wat w5 n os) fun e w' => e = .returned (.int .i64 0) ∧ Only nob (wat w5 n os) w' from fun n os => by
          have h := bRoom_bm b x (x.1 + x.2) (wat w5 n os) (HG5.out.bm.old (only_wat w5 n os))
          rwa [show x.2 - (x.1 + x.2 - x.1) = 0 by omega] at h)
        have HAW := Lib.hid (show ∀ (n : Nat) (os : Array Obj), Calls Try.prog 6 #[] (wat w5 n os) fun e w' => e = .returned (.bool true) ∧ Only nob (wat w5 n os) w' from fun n os => awake05_any _)
        clear hj hcv hown o5
        go_wp2_with fail
        have f0 := wat_cell k0
        have f1 := wat_cell k1
        have f2 := wat_cell b0
        have f3 := wat_cell b1
        clear k0 k1 b0 b1
        refine wp_region_only mixedBm (by kernel_rfl) ?_
        repeat (quiet_step (first
          | (go_at_call 15; with_reducible refine wat_call (HAP.out _ _))
          | (go_at_call 13; with_reducible refine wat_call (HRM.out _ _))
          | (go_at_call 6; with_reducible refine wat_call (HAW.out _ _))))
        refine wpQuiet_nil ?_
        rintro w' ⟨⟨nq, osq⟩, rfl⟩
        obtain ⟨W7, hW7, O7⟩ := wat_name w5 nq osq
        rw [hW7]
        clear hW7 f0 f1 f2 f3
        have O8 := Lib.hid (HB.out.1.trans (HG5.out.only.trans O7.out))
        go_wp2
        go_ret
        exact ⟨rfl, O8.out.whole⟩

theorem bumpApart_walk (x : Sp) (v : Value) (l : List Int) (w : World) (hs : Sl w w.heap.size 1 v l.length (i64s l)) (hf : Fit x) :
    Calls Try.prog 4 #[.agg #[.int .i64 x.1, .int .i64 x.2], v] w fun e w' => e = .returned (.bool true) ∧ Below w.heap.size w w' := by
  by_cases h : l.length ≤ 100
  · by_cases hx : x.ok
    · exact bumpApart_yes x v l w hs h hx
    · obtain ⟨A, c, rfl, -⟩ := hs
      exact bumpApart_no x A _ c w h hf hx
  · obtain ⟨A, c, rfl, -⟩ := hs
    exact bumpApart_big x A _ c w (by omega)
end Go.Proofs.Ytpgkmjkickkieaa
