/- The walk of LosKeeps. -/
import Derived.Test.YtoeccbbjncgmlaaGreatDoorLosLaw2
import Derived.Test.YtoeccbbjncgmlaaGreatDoorSpanOP
namespace Go.Proofs.YtoeccbbjncgmlaaGreatDoor
open Go.RowKit
set_option maxRecDepth 100000

theorem flags_nosp {w : World} {bu n : Nat} {rs : List Nat} (h : Blk w bu 4 (flags n rs)) : NoSp w bu := by
  intro o x y h0 _
  rw [h.cell] at h0
  simp [flags] at h0
/-- While objects are marked: the part, the table's copy, and what was marked. -/
structure Mk13 (all : Sp) (w : World) (p b g qa bu : Nat) (vT : Value) (T F : List Sp) (qs rs : List Nat) (wr : World) : Prop where
  kp : Kp all w p b g qa T F (inL qs) qs wr
  row : Sl wr wr.heap.size 2 vT T.length (spc T)
  fl : Blk wr bu 4 (flags T.length rs)
  wb : w.heap.size ≤ bu
section
variable {all : Sp} {w wr wz : World} {p b g qa bu k : Nat} {vT : Value} {T F : List Sp} {qs qs' rs : List Nat}
theorem Mk13.old (h : Mk13 all w p b g qa bu vT T F qs rs wr) (o : Only nob wr wz) : Mk13 all w p b g qa bu vT T F qs rs wz :=
  ⟨h.kp.keep o, (h.row.below o.whole).more o.size, h.fl.keep o id, h.wb⟩
theorem Mk13.turn (h : Mk13 all w p b g qa bu vT T F qs rs wr) (h' : ∃ l vt vf, LoS all wz p b g T F (inL qs') qs' l vt vf) (o : Only (pgb p g) wr wz) : Mk13 all w p b g qa bu vT T F qs' rs wz := by
  obtain ⟨l, vt, vf, h1⟩ := h.kp.part
  have hp : bu ≠ p := h.fl.ne h1.lo.box (by decide)
  have hg : bu ≠ g := h.fl.ne h1.lo.ar.row (by decide)
  refine ⟨h.kp.turn h' o, (spc_keep h.row o (Nat.le_refl _) fun j e => ?_).more o.size, h.fl.keep o (fun e => e.elim hp hg), h.wb⟩
  rcases e with rfl | rfl
  · exact h1.lo.nosp
  · exact h1.lo.ar.nosp
/-- A mark is set down. -/
theorem Mk13.set (h : Mk13 all w p b g qa bu vT T F qs rs wr) (k : Nat) : Mk13 all w p b g qa bu vT T F qs (k :: rs) (wr.setCell ⟨bu, k, none⟩ (.bool true)) := by
  obtain ⟨l, vt, vf, h1⟩ := h.kp.part
  have o := only_set wr bu k (.bool true)
  have hp : bu ≠ p := h.fl.ne h1.lo.box (by decide)
  have hg : bu ≠ g := h.fl.ne h1.lo.ar.row (by decide)
  have hb : bu ≠ b := h.fl.ne h1.lo.ar.head (by decide)
  have hq : bu ≠ qa := h.fl.ne h.kp.box (by decide)
  have hn : ∀ j, isb bu j → NoSp wr j := fun j e => by unfold isb at e; subst e; exact flags_nosp h.fl
  have hwb := h.wb
  refine ⟨⟨⟨l, vt, vf, ⟨⟨h1.lo.ar.keep o (fun e => hb e.symm) (fun e => hg e.symm), h1.lo.box.keep o (fun e => hp e.symm), (spc_keep h1.lo.tab o (Nat.le_refl _) hn).more o.size, (spc_keep h1.lo.free o (Nat.le_refl _) hn).more o.size⟩, h1.los⟩⟩, h.kp.box.keep o (fun e => hq e.symm), h.kp.only.andThen o (fun i hi e => by unfold isb at e; omega), h.kp.par.keep o hn, h.kp.qp, h.kp.qg, h.kp.wp, h.kp.wg⟩, (spc_keep h.row o (Nat.le_refl _) hn).more o.size, ?_, h.wb⟩
  have := h.fl.put k (.bool true)
  rwa [flags_put] at this
theorem Mk13.again (h : Mk13 all w p b g qa bu vT T F qs (k :: rs) wr) (hk : k ∈ rs) : Mk13 all w p b g qa bu vT T F qs rs wr := ⟨h.kp, h.row, flags_again hk ▸ h.fl, h.wb⟩
end

/-- While objects are popped: the part, and the row of what is wanted. -/
structure Pp13 (all : Sp) (w : World) (p b g qa : Nat) (T F : List Sp) (ms : Nat → Bool) (rs : List Nat) (vw : Value) (L : List Sp) (wr : World) : Prop where
  kp : Kp all w p b g qa T F ms rs wr
  row : Sl wr wr.heap.size 2 vw L.length (spc L)
section
variable {all : Sp} {w wr wz : World} {p b g qa : Nat} {vw : Value} {T F T' F' L : List Sp} {ms ms' : Nat → Bool} {rs rs' : List Nat}
theorem Pp13.old (h : Pp13 all w p b g qa T F ms rs vw L wr) (o : Only nob wr wz) : Pp13 all w p b g qa T F ms rs vw L wz := ⟨h.kp.keep o, (h.row.below o.whole).more o.size⟩
theorem Pp13.turn (h : Pp13 all w p b g qa T F ms rs vw L wr) (h' : ∃ l vt vf, LoS all wz p b g T' F' ms' rs' l vt vf) (o : Only (pgb p g) wr wz) : Pp13 all w p b g qa T' F' ms' rs' vw L wz := by
  obtain ⟨l, vt, vf, h1⟩ := h.kp.part
  refine ⟨h.kp.turn h' o, (spc_keep h.row o (Nat.le_refl _) fun j e => ?_).more o.size⟩
  rcases e with rfl | rfl
  · exact h1.lo.nosp
  · exact h1.lo.ar.nosp
end

set_option maxHeartbeats 8000000 in
theorem losKeeps_small (s n : Nat) (v1 v2 : Value) (xs : List Value) (zs : List Int) (w : World) (ht : Par w) (h1 : Sl w w.heap.size 5 v1 n xs) (hh : Hds n xs) (h2 : Sl w w.heap.size 1 v2 zs.length (i64s zs)) (hs : 1 ≤ s ∧ s ≤ 300) (hn : n ≤ 30) (hz : zs.length ≤ 60) :
    Calls Tryz.prog 3 #[.int .i64 s, v1, v2] w fun e w' => e = .returned (.bool true) ∧ Below w.heap.size w w' := by
  obtain ⟨i0, hi0, hz0, hz1, hz2⟩ := info_parts info_span
  obtain ⟨hs1, hs2⟩ := hs
  have HP := Lib.hid ht
  have HS := Lib.hid h1
  have HH := Lib.hid hh
  have HO := Lib.hid h2
  obtain ⟨A, c, rfl, hac, ham, -⟩ := h1
  obtain ⟨A', c', rfl, hac', ham', -⟩ := h2
  unfold maxLen at ham ham'
  obtain ⟨all, hall⟩ : ∃ all : Sp, all = (0, (s : Int)) := ⟨_, rfl⟩
  have HALL := Lib.hid hall
  have HOK := Lib.hid (show all.ok from by rw [hall]; exact ⟨Int.le_refl _, by show (1 : Int) ≤ s; omega, by show (0 : Int) ≤ most; decide, by show (s : Int) ≤ most - 0; unfold most; omega⟩)
  clear ht hh hall
  go_enter Tryz.func3, Tryz.ntmps3
  go_wp2_with fail
  go_at_call 5
  refine (new_any s _ (by omega)).mono ?_
  rintro e w1 ⟨b, g, rfl, hb, hg, hA, o⟩
  obtain ⟨W1, hW1, HB1⟩ : ∃ W1, w1.alloc (.cells #[.int .i64 0, .int .i64 s] 30) = W1 ∧ Hid (Only nob w W1 ∧ Blk W1 w1.heap.size 30 #[.int .i64 0, .int .i64 s] ∧ Ar W1 b g (List.replicate s 0)) :=
    ⟨_, rfl, Lib.hid ⟨o.alloc _, Blk.new _ _ _, hA.keep ((Only.refl nob w1).alloc _) id id⟩⟩
  have HW1 := Lib.hid hW1
  obtain ⟨W2, hW2, HB2⟩ : ∃ W2, W1.alloc (.cells #[.int .i64 0, .int .i64 s] 30) = W2 ∧ Hid (Only nob w W2 ∧ Blk W2 W1.heap.size 30 #[.int .i64 0, .int .i64 s] ∧ Ar W2 b g (List.replicate s 0) ∧ Blk W2 w1.heap.size 30 #[.int .i64 0, .int .i64 s]) :=
    ⟨_, rfl, Lib.hid ⟨HB1.out.1.alloc _, Blk.new _ _ _, HB1.out.2.2.keep ((Only.refl nob W1).alloc _) id id, HB1.out.2.1.alloc _⟩⟩
  have HW2 := Lib.hid hW2
  have HG := Lib.hid (show w.heap.size ≤ g ∧ g < w1.heap.size ∧ w1.heap.size < W2.heap.size from ⟨hg, hA.row.lt, HB2.out.2.2.2.lt⟩)
  have SV := Lib.hid (show Sl W2 W2.heap.size 2 (.slice (some ⟨W1.heap.size, 0, none⟩) 1 1) 1 (spc [all]) from by
    have := Sl.of_blk (size := 2) (n := 1) (c := 1) HB2.out.2.1 (by simp) (Nat.le_refl _) (by decide)
    rw [HALL.out]
    simpa [spc] using this)
  have s0 := HB1.out.2.1.cell 0
  have s1 := HB1.out.2.1.cell 1
  simp at s0 s1
  clear hb hg hA o hW1 hW2
  go_upto_region 5 with fail
  rw [HW1.out]
  go_wp2_with fail
  rw [HW2.out]
  clear s0 s1
  go_at_call 6
  have HNEW := Lib.hid (sNew (all := all) HB2.out.2.2.1 HOK.out (by rw [HALL.out]; simp) SV.out)
  rw [HALL.out] at HNEW
  refine HNEW.out.mono ?_
  rintro e w3 ⟨p, vt, vf, rfl, hp, hL, o⟩
  obtain ⟨qa, hqa⟩ : ∃ qa, qa = w1.heap.size := ⟨_, rfl⟩
  rw [← hqa]
  have hK0 : Kp all w p b g qa [] [all] (fun _ => false) [] w3 := by
    have hbox : Blk w3 qa 30 #[.int .i64 all.1, .int .i64 all.2] := by
      rw [HALL.out, hqa]; exact HB2.out.2.2.2.keep o id
    have hlos : LoS all w3 p b g [] [all] (fun _ => false) [] (List.replicate s 0) vt vf := by
      rw [HALL.out]; exact hL
    have q1 := HG.out.2.2
    have q2 := HG.out.2.1
    exact ⟨⟨_, vt, vf, hlos⟩, hbox, HB2.out.1.trans o, HP.out.old (HB2.out.1.trans o), by omega, by omega, Nat.le_trans HB2.out.1.size hp, HG.out.1⟩
  have HK := Lib.hid hK0
  clear hp hL o HNEW hqa hK0
  go_wp2_with fail
  go_loopw [12] (fun i wr => ∃ (k : Nat) (T F : List Sp), k ≤ n ∧ i = .int .i64 k ∧ T.length ≤ k ∧ Hid (Kp all w p b g qa T F (fun _ => false) [] wr)) (fun i _ => n - (intOf i).toNat)
  case atStart => exact ⟨0, [], [all], Nat.zero_le _, rfl, Nat.zero_le _, HK⟩
  case round =>
    clear HK
    obtain ⟨k, T, F, hk, rfl, hTk, HK⟩ := hrel
    by_cases hlt : k < n
    · obtain ⟨hk0, hf0, hr0, hm0, hc0, y0, y1, y2, y3, y4⟩ := HH.out k hlt
      obtain ⟨bb, oo, cc, e5, -, -, hb5, hc5⟩ := (HS.out.below HK.out.only.whole).at_ (by omega)
      obtain ⟨rfl, rfl⟩ : A = some ⟨bb, oo, none⟩ ∧ c = cc := by simpa using e5
      have d0 := hc5 _ _ y0
      have d1 := hc5 _ _ y1
      have d2 := hc5 _ _ y2
      have d3 := hc5 _ _ y3
      have d4 := hc5 _ _ y4
      rw [← Nat.add_assoc] at d1 d2 d3 d4
      obtain ⟨W4, hW4, HB4⟩ := box_head wr hk0 hf0 hr0 hm0 hc0
      have HW4 := Lib.hid hW4
      obtain ⟨W5, hW5, HB5⟩ : ∃ W5, W4.setCell ⟨wr.heap.size, 3, none⟩ (.bool false) = W5 ∧ Hid (Only nob wr W5 ∧ Blk W5 wr.heap.size 36 #[.int .i64 hk0, .int .i64 hf0, .int .i64 hr0, .bool false, .int .i64 hc0]) :=
        ⟨_, rfl, Lib.hid ⟨HB4.out.1.setCell (p := ⟨wr.heap.size, 3, none⟩) (fun hlt => absurd hlt (Nat.lt_irrefl _)) _, by simpa using HB4.out.2.put 3 (.bool false)⟩⟩
      have HW5 := Lib.hid hW5
      clear y0 y1 y2 y3 y4 e5 hc5 hW4 hW5
      go_upto_region 12 with fail
      rw [HW4.out]
      clear d0 d1 d2 d3 d4
      have k3 := HB4.out.2.cell 3
      have f3 := HB4.out.2.free 3
      simp at k3
      go_upto_region 13 with fail
      rw [HW5.out]
      clear k3 f3
      obtain ⟨d0, d1, d2, d3, d4⟩ := cells5 HB5.out.2
      go_wp2_with fail
      go_at_call 7
      refine (kPut (HK.out.keep HB5.out.1) (by omega) hk0 hf0 hr0 hc0).mono ?_
      rintro e w6 ⟨⟨v6, rfl⟩, T', F', hT', hK'⟩
      have HK' := Lib.hid hK'
      clear hK' d0 d1 d2 d3 d4
      go_wp2
      go_roundw
      case rel => exact ⟨k + 1, T', F', by omega, by go_num, by omega, HK'⟩
      case measure => exact meas13 hlt _ (by first | rfl | go_num)
    · obtain rfl : k = n := by omega
      clear hlt
      have hT30 : T.length ≤ 30 := by omega
      obtain ⟨l, vt', vf', hL⟩ := HK.out.part
      have HL := Lib.hid hL
      clear hL
      go_wp2_with fail
      go_at_call 8
      refine (lTable_any p b g _ _ _ _ _ _ _ HL.out.lo (by omega)).mono ?_
      rintro e w4 ⟨vT, rfl, hown, o⟩
      obtain ⟨AT, cT, rfl, hcT, hmT⟩ := own_len hown
      unfold maxLen at hmT
      obtain ⟨Wm, hWm, HM⟩ : ∃ Wm, w4.alloc (.cells (flags T.length []) 4) = Wm ∧ Hid (Mk13 all w p b g qa w4.heap.size (.slice AT T.length cT) T F [] [] Wm) := ⟨_, rfl, Lib.hid (by
        have o1 : Only nob w4 (w4.alloc (.cells (flags T.length []) 4)) := (Only.refl nob w4).alloc _
        have hK2 := HK.out.keep (o.trans o1)
        rw [inL_nil] at hK2
        exact ⟨hK2, ((Sl.of_own hown hown.1).below o1.whole).more o1.size, Blk.new _ _ _, (HK.out.only.trans o).size⟩)⟩
      have HWm := Lib.hid hWm
      have hmk := make_bool T.length (by omega) w4
      obtain ⟨bu, hbu⟩ : ∃ bu, bu = w4.heap.size := ⟨_, rfl⟩
      rw [← hbu] at HM hmk
      clear hown o hbu HL
      go_wp2_with fail
      clear hmk hWm HWm
      go_loopw [17] (fun i wr => ∃ (k : Nat) (qs : List Nat), k ≤ zs.length ∧ i = .int .i64 k ∧ Hid (Mk13 all w p b g qa bu (.slice AT T.length cT) T F qs qs wr)) (fun i _ => zs.length - (intOf i).toNat)
      case atStart => exact ⟨0, [], Nat.zero_le _, rfl, HM⟩
      case round =>
        clear HM
        obtain ⟨k, qs, hk, rfl, H⟩ := hrel
        by_cases hlt : k < zs.length
        · obtain ⟨z, hz'⟩ : ∃ z, zs[k]? = some z := ⟨_, List.getElem?_eq_getElem hlt⟩
          obtain ⟨q, oo, rfl, hq, d0⟩ := sl_int HO.out H.out.kp.only.whole hz'
          have HZ := Lib.hid hz'
          clear hz'
          by_cases hz0' : z < 0
          · go_wp2
            go_roundw
            case rel => exact ⟨k + 1, qs, by omega, by go_num, H⟩
            case measure => exact meas13 hlt _ (by first | rfl | go_num)
          · obtain ⟨j, rfl⟩ := Int.eq_ofNat_of_zero_le (by omega : 0 ≤ z)
            by_cases hj : j < T.length
            · obtain ⟨x, hx⟩ : ∃ x, T[j]? = some x := ⟨_, List.getElem?_eq_getElem hj⟩
              obtain ⟨bt, ot, rfl, hbt, t0, t1⟩ := sl_span H.out.row (Below.refl _ _) hx
              have HX := Lib.hid hx
              obtain ⟨l5, vt5, vf5, hL⟩ := H.out.kp.part
              have HL := Lib.hid hL
              clear hx hL
              by_cases hin : j ∈ qs
              · have HIN := Lib.hid hin
                clear hin
                go_wp2_with fail
                go_at_call 9
                refine (sMark_twice (k := j) HL.out H.out.kp.par HX.out (decide_eq_true HIN.out)).mono ?_
                rintro e w5 ⟨rfl, o⟩
                have M5 := Lib.hid (H.out.old o)
                clear o d0 t0 t1
                obtain ⟨q2, o2, e2, -, d0⟩ := sl_int HO.out M5.out.kp.only.whole HZ.out
                obtain ⟨rfl, rfl⟩ : q = q2 ∧ oo = o2 := by simpa using e2
                have u0 := M5.out.fl.cell j
                rw [flags_at hj, decide_eq_true HIN.out] at u0
                have u1 := M5.out.fl.free j
                obtain ⟨W6, hW6, M6⟩ : ∃ W6, w5.setCell ⟨bu, j, none⟩ (.bool true) = W6 ∧ Hid (Mk13 all w p b g qa bu (.slice (some ⟨bt, ot, none⟩) T.length cT) T F qs qs W6) := ⟨_, rfl, Lib.hid ((M5.out.set j).again HIN.out)⟩
                have HW6 := Lib.hid hW6
                clear e2 hW6
                go_upto_region 19 with fail
                rw [HW6.out]
                clear d0 u0 u1
                go_wp2
                go_roundw
                case rel => exact ⟨k + 1, _, by omega, by go_num, M6⟩
                case measure => exact meas13 hlt _ (by first | rfl | go_num)
              · have HIN := Lib.hid hin
                clear hin
                go_wp2_with fail
                go_at_call 9
                refine (sMark_ok (k := j) HL.out H.out.kp.par (by omega) HX.out (decide_eq_false HIN.out)).mono ?_
                rintro e w5 ⟨rfl, ⟨l6, hL6⟩, o⟩
                rw [inL_cons] at hL6
                have M5 := Lib.hid (H.out.turn ⟨l6, _, _, hL6⟩ o)
                clear o hL6 d0 t0 t1
                obtain ⟨q2, o2, e2, -, d0⟩ := sl_int HO.out M5.out.kp.only.whole HZ.out
                obtain ⟨rfl, rfl⟩ : q = q2 ∧ oo = o2 := by simpa using e2
                have u0 := M5.out.fl.cell j
                rw [flags_at hj, decide_eq_false HIN.out] at u0
                have u1 := M5.out.fl.free j
                obtain ⟨W6, hW6, M6⟩ : ∃ W6, w5.setCell ⟨bu, j, none⟩ (.bool true) = W6 ∧ Hid (Mk13 all w p b g qa bu (.slice (some ⟨bt, ot, none⟩) T.length cT) T F (j :: qs) (j :: qs) W6) := ⟨_, rfl, Lib.hid (M5.out.set j)⟩
                have HW6 := Lib.hid hW6
                clear e2 hW6
                go_upto_region 19 with fail
                rw [HW6.out]
                clear d0 u0 u1
                go_wp2
                go_roundw
                case rel => exact ⟨k + 1, _, by omega, by go_num, M6⟩
                case measure => exact meas13 hlt _ (by first | rfl | go_num)
            · go_wp2
              go_roundw
              case rel => exact ⟨k + 1, qs, by omega, by go_num, H⟩
              case measure => exact meas13 hlt _ (by first | rfl | go_num)
        · obtain rfl : k = zs.length := by omega
          clear hlt
          go_wp2_with fail
          obtain ⟨wo, rfl⟩ : ∃ wo : World, wo = wr := ⟨_, rfl⟩
          have HQQ := Lib.hid (show qs.Nodup ∧ (∀ k ∈ qs, k < T.length) from by
            obtain ⟨l, vt, vf, hL⟩ := H.out.kp.part
            exact ⟨hL.los.list.nodup, hL.los.list.lt⟩)
          have hcount : (picks (inL qs) T T.length).length = qs.length := picks_count T qs HQQ.out.1 HQQ.out.2
          have hqT : qs.length ≤ T.length := by have := picks_le (inL qs) T T.length (Nat.le_refl _); omega
          have HCNT := Lib.hid hcount
          have hwo : w.heap.size ≤ wo.heap.size := H.out.kp.only.size
          clear hcount
          go_loopw [15, 20] (fun v i wr => ∃ k : Nat, k ≤ T.length ∧ i = .int .i64 k ∧ Hid (Only nob wo wr ∧ wr.ownsRow wo.heap.size 30 2 v (picks (inL qs) T k).length (spc (picks (inL qs) T k)))) (fun _ i _ => T.length - (intOf i).toNat)
          case atStart => exact ⟨0, Nat.zero_le _, rfl, Lib.hid ⟨Only.refl _ _, World.ownsRow_nil _ _ _ _⟩⟩
          case round =>
            obtain ⟨k, hk, rfl, HR⟩ := hrel
            obtain ⟨Aw, cw, rfl, hcw, hmw⟩ := own_len HR.out.2
            unfold maxLen at hmw
            by_cases hlt : k < T.length
            · obtain ⟨x, hx⟩ : ∃ x, T[k]? = some x := ⟨_, List.getElem?_eq_getElem hlt⟩
              have M4 := Lib.hid (H.out.old HR.out.1)
              have HX := Lib.hid hx
              by_cases hin : k ∈ qs
              · have HIN := Lib.hid hin
                obtain ⟨bt, ot, rfl, hbt, t0, t1⟩ := sl_span M4.out.row (Below.refl _ _) hx
                have u0 := M4.out.fl.cell k
                rw [flags_at hlt, decide_eq_true HIN.out] at u0
                have hwl : (picks (inL qs) T k).length ≤ 30 := by have := picks_le (inL qs) T k hk; omega
                have HW4 := Lib.hid HR.out.2
                have hws : wo.heap.size ≤ wr.heap.size := HR.out.1.size
                obtain ⟨n, hn⟩ : ∃ n, n = (picks (inL qs) T k).length := ⟨_, rfl⟩
                obtain ⟨P, hP⟩ : ∃ P, P = picks (inL qs) T k := ⟨_, rfl⟩
                have HN := Lib.hid hn
                have HPP := Lib.hid hP
                rw [← hn] at hwl hcw HW4 ⊢
                rw [← hP] at HW4
                clear hn hP hin hx
                go_wp2_with (with_reducible refine wpList_append_sl (o := ⟨some 149, _, _, _, _, _⟩) _ rfl (.tmp 143) (.tmp 148) _ rfl wo.heap.size 30 i0 _ 2 16 Tryz.underlying34 hi0 hz0 hz1 hz2 rfl (by decide) (.slice Aw n cw) n (spc P) rfl ?c1 (wr.heap.size + 1) (.slice (some ⟨wr.heap.size, 0, none⟩) 1 1) 1 (spc [x]) rfl ?c6 (spc_one _) ?c2 ?c3 ?c4 ?c5)
                case c1 => exact own_only HW4.out ((Only.refl nob wr).alloc _) (fun _ _ h => h)
                case c6 => exact one_span13 wr x
                case c2 => have := maxLen_big; omega
                case c3 => omega
                case c4 => simp; omega
                case c5 =>
                  intro v6 w6 H6 o6 _
                  have hpk : picks (inL qs) T (k + 1) = P ++ [x] := by rw [HPP.out]; exact picks_yes HX.out (decide_eq_true HIN.out)
                  have HR6 := Lib.hid (show Only nob wo w6 ∧ w6.ownsRow wo.heap.size 30 2 v6 (picks (inL qs) T (k + 1)).length (spc (picks (inL qs) T (k + 1))) from
                    ⟨own_nob (HR.out.1.alloc (.cells #[.int .i64 x.1, .int .i64 x.2] 30)) (own_only HW4.out ((Only.refl nob wr).alloc (.cells #[.int .i64 x.1, .int .i64 x.2] 30)) (fun _ _ h => h)) o6 (Nat.le_refl _), by
                      rw [hpk, spc_append, List.length_append, List.length_singleton, show P.length = n by rw [HPP.out, HN.out]]
                      exact H6.out⟩)
                  clear H6 o6 hpk t0 t1 u0
                  go_wp2
                  go_roundw
                  case rel => exact ⟨k + 1, by omega, by go_num, HR6⟩
                  case measure => exact meas13 hlt _ (by first | rfl | go_num)
              · have u0 := M4.out.fl.cell k
                rw [flags_at hlt, decide_eq_false hin] at u0
                have HR6 := Lib.hid (show Only nob wo wr ∧ wr.ownsRow wo.heap.size 30 2 (.slice Aw (picks (inL qs) T k).length cw) (picks (inL qs) T (k + 1)).length (spc (picks (inL qs) T (k + 1))) from by
                  rw [picks_no (b := inL qs) (T := T) (n := k) (decide_eq_false hin)]; exact HR.out)
                clear hin hx
                go_wp2
                go_roundw
                case rel => exact ⟨k + 1, by omega, by go_num, HR6⟩
                case measure => exact meas13 hlt _ (by first | rfl | go_num)
            · obtain rfl : k = T.length := by omega
              clear hlt
              obtain ⟨P, hP⟩ : ∃ P, P = picks (inL qs) T T.length := ⟨_, rfl⟩
              have HPP := Lib.hid hP
              have hPq : P.length = qs.length := by rw [hP]; exact HCNT.out
              have HPQ := Lib.hid hPq
              have HP4 := Lib.hid (show Pp13 all w p b g qa T F (inL qs) qs (.slice Aw P.length cw) P wr from by
                have h1 := HR.out.2
                rw [← hP] at h1
                rw [hP]
                rw [← hP]
                exact ⟨H.out.kp.keep HR.out.1, Sl.of_own h1 h1.1⟩)
              rw [← hP] at hcw ⊢
              clear HR hP hPq hk
              go_wp2_with fail
              go_loopw [21, 22] (fun n i wr => ∃ (k : Nat) (ps rs : List Nat), Hid (qs = ps ++ rs) ∧ n = .int .i64 ps.length ∧ i = .int .i64 k ∧ k ≤ T.length + 1 ∧ ps.length ≤ T.length ∧ Hid (rs = [] ∨ ps.length = k) ∧ Hid (Pp13 all w p b g qa T F (inL qs) rs (.slice Aw P.length cw) P wr)) (fun _ i _ => T.length + 1 - (intOf i).toNat)
              case atStart => exact ⟨0, [], qs, rfl, rfl, rfl, Nat.zero_le _, Nat.zero_le _, Lib.hid (.inr rfl), HP4⟩
              case round =>
                clear HP4
                obtain ⟨k, ps, rs, HQ, rfl, rfl, hk, hps, HOR, HP4⟩ := hrel
                obtain ⟨l5, vt5, vf5, hL⟩ := HP4.out.kp.part
                have HL := Lib.hid hL
                clear hL
                by_cases hlt : k ≤ T.length
                · rcases rs with _ | ⟨j, rs⟩
                  · go_wp2_with fail
                    go_at_call 10
                    refine (sPop_none HL.out).mono ?_
                    rintro e w5 ⟨rfl, o⟩
                    have HP5 := Lib.hid (HP4.out.old o)
                    clear o
                    go_wp2
                    go_roundw
                    case rel => exact ⟨k + 1, ps, [], HQ, rfl, by go_num, by omega, hps, Lib.hid (.inl rfl), HP5⟩
                    case measure => exact meas13 (show k < T.length + 1 by omega) _ (by first | rfl | go_num)
                  · have hpk : ps.length = k := HOR.out.elim (fun h => by cases h) id
                    have hps2 : ps.length + 1 ≤ T.length := by
                      have := congrArg List.length HQ.out
                      rw [List.length_append, List.length_cons] at this
                      omega
                    have HQ2 := Lib.hid (show qs = (ps ++ [j]) ++ rs from by rw [List.append_assoc]; exact HQ.out)
                    have HOR2 := Lib.hid (show rs = [] ∨ (ps ++ [j]).length = k + 1 from .inr (by rw [List.length_append, List.length_singleton, hpk]))
                    have hl2 : (ps ++ [j]).length = ps.length + 1 := by simp
                    clear hpk
                    go_wp2_with fail
                    go_at_call 10
                    refine (sPop_ok HL.out HP4.out.kp.par).mono ?_
                    rintro e w5 ⟨⟨x, hx, rfl⟩, ⟨l6, hL6⟩, o⟩
                    have HP5 := Lib.hid (HP4.out.turn ⟨l6, _, _, hL6⟩ o)
                    clear hx hL6 o
                    go_wp2
                    go_roundw
                    case rel => exact ⟨k + 1, ps ++ [j], rs, HQ2, by rw [hl2]; first | rfl | go_num, by go_num, by omega, by omega, HOR2, HP5⟩
                    case measure => exact meas13 (show k < T.length + 1 by omega) _ (by first | rfl | go_num)
                · obtain rfl : rs = [] := by
                    rcases HOR.out with h | h
                    · exact h
                    · omega
                  obtain rfl : qs = ps := by have := HQ.out; rwa [List.append_nil] at this
                  clear HOR HQ
                  go_wp2_with fail
                  go_at_call 11
                  refine (sSweep HL.out HP4.out.kp.par (by omega)).mono ?_
                  rintro e w5 ⟨vg, rfl, hg5, ⟨l6, O, vt6, vf6, hL6⟩, o⟩
                  obtain ⟨Ag, cg, rfl, -, -⟩ := hg5.form
                  obtain ⟨G, hG⟩ : ∃ G, G = (picks (fun j => !inL qs j) T T.length).length := ⟨_, rfl⟩
                  have hsub0 := picks_both (inL qs) T T.length (Nat.le_refl _)
                  rw [HCNT.out, ← hG] at hsub0
                  have HSUB := Lib.hid hsub0
                  rw [← hG]
                  have HP5 := Lib.hid (HP4.out.turn ⟨l6, vt6, vf6, hL6⟩ o)
                  rw [← HPP.out] at HP5 hL6
                  have HL5 := Lib.hid hL6
                  have HFP := Lib.hid hL6.los.fitsT
                  have HFO := Lib.hid hL6.los.fitsF
                  have hOl := hL6.los.lenF
                  have HTB := Lib.hid hL6.los.tab
                  have hPs : P.length ≤ 30 := by have := HPQ.out; omega
                  have hOs : O.length ≤ 31 := by omega
                  clear hg5 o hG hL6 hsub0 hOl
                  have s0 := HP5.out.kp.box.cell 0
                  have s1 := HP5.out.kp.box.cell 1
                  simp at s0 s1
                  have HGP := Lib.hid (spGaps all _ P w5.heap.size w5 HP5.out.row (Nat.le_refl _) (by omega) HFP.out (Fit.of_ok HOK.out))
                  go_wp2_with fail
                  go_at_call 12
                  refine HGP.out.mono ?_
                  rintro e w6 ⟨v6, Of, rfl, hj, hc, hs6, o⟩
                  obtain rfl : O = Of := sweep_gaps HTB.out hj hc
                  have HP6 := Lib.hid (HP5.out.old o)
                  have SL6 := Lib.hid hs6
                  have L6 := Lib.hid (HL5.out.keep o)
                  obtain ⟨Al, cl, rfl, -, -⟩ := hs6.form
                  clear hj hc hs6 o s0 s1 HGP
                  have s0 := HP6.out.kp.box.cell 0
                  have s1 := HP6.out.kp.box.cell 1
                  simp at s0 s1
                  go_upto_region 39 with fail
                  rw [← HPQ.out]
                  have hsub : IntKind.i64.wrap ((T.length : Int) - (P.length : Int)) = (G : Int) := by
                    have h1 := HSUB.out
                    have h2 := HPQ.out
                    rw [IntKind.wrap_i64]
                    omega
                  have HT := Lib.hid (show ∀ W', Only nob w6 W' → Calls Tryz.prog 8 #[.pointer (some ⟨p, 0, none⟩)] W' fun e w' => ∃ v', e = .returned v' ∧ Sl w' w'.heap.size 2 v' P.length (spc P) ∧ Only nob W' w' from fun W' o =>
                    (lTable_any p b g _ _ _ _ _ _ W' (L6.out.keep o).lo (by omega)).mono fun _ _ ⟨v', e1, e2, e3⟩ => ⟨v', e1, Sl.of_own e2 e2.1, e3⟩)
                  have HF := Lib.hid (show ∀ W', Only nob w6 W' → Calls Tryz.prog 14 #[.pointer (some ⟨p, 0, none⟩)] W' fun e w' => ∃ v', e = .returned v' ∧ Sl w' w'.heap.size 2 v' O.length (spc O) ∧ Only nob W' w' from fun W' o =>
                    (lFree_any p b g _ _ _ _ _ _ W' (L6.out.keep o).lo (by omega)).mono fun _ _ ⟨v', e1, e2, e3⟩ => ⟨v', e1, Sl.of_own e2 e2.1, e3⟩)
                  have HSA := Lib.hid (show ∀ W' v, Only nob w6 W' → Sl W' W'.heap.size 2 v P.length (spc P) → Calls Tryz.prog 13 #[v, .slice Aw P.length cw] W' fun e w' => e = .returned (.bool true) ∧ Only nob W' w' from fun W' v o h => by
                    have := refSame_any v _ P P _ _ W' h ((HP6.out.row.below o.whole))
                    rwa [decide_eq_true rfl] at this)
                  have HSB := Lib.hid (show ∀ W' v, Only nob w6 W' → Sl W' W'.heap.size 2 v O.length (spc O) → Calls Tryz.prog 13 #[v, .slice Al O.length cl] W' fun e w' => e = .returned (.bool true) ∧ Only nob W' w' from fun W' v o h => by
                    have := refSame_any v _ O O _ _ W' h (SL6.out.below o.whole)
                    rwa [decide_eq_true rfl] at this)
                  have HRT := Lib.hid (show ∀ W' v u, Only nob w6 W' → Sl W' W'.heap.size 2 v P.length (spc P) → Sl W' W'.heap.size 2 u O.length (spc O) → Calls Tryz.prog 15 #[.agg #[.int .i64 all.1, .int .i64 all.2], v, u] W' fun e w' => e = .returned (.bool true) ∧ Only nob W' w' from fun W' v u o h k => by
                    have := rTable all v u P O W'.heap.size W' h k (Nat.le_refl _) (by omega)
                    rwa [decide_eq_true HTB.out] at this)
                  have HAW := Lib.hid (show ∀ W', Only nob w6 W' → Calls Tryz.prog 4 #[] W' fun e w' => e = .returned (.bool true) ∧ Only nob W' w' from fun W' o => awake13_any W' (HP6.out.kp.par.old o))
                  have OC := Lib.hid (show Only nob w6 w6.drew from (Only.refl nob w6).drewN 1)
                  have mixed := mixedLos
                  have HW6 := Lib.hid HP6.out.kp.only
                  go_region_held3 (fun w' => w'.cell? ⟨qa, 0, none⟩ = some (.int .i64 all.1) ∧ w'.cell? ⟨qa, 1, none⟩ = some (.int .i64 all.2)) (first | (with_reducible exact And.intro (OC.out.keeps s0) (OC.out.keeps s1)) | go_keep)
                    (first
                      | (go_at_call 8
                         with_reducible refine (HT.out _ OC.out).mono ?_
                         rintro e wt ⟨vt7, rfl, hst, o⟩
                         have ST := Lib.hid hst
                         have OC := Lib.hid (OC.out.trans o)
                         clear hst o)
                      | (go_at_call 14
                         with_reducible refine (HF.out _ OC.out).mono ?_
                         rintro e wf ⟨vf7, rfl, hst, o⟩
                         have SF := Lib.hid hst
                         first
                         | (have ST := Lib.hid ((ST.out.below o.whole).more o.size)
                            have OC := Lib.hid (OC.out.trans o)
                            clear hst o)
                         | (have OC := Lib.hid (OC.out.trans o)
                            clear hst o))
                      | (go_at_call 13
                         first
                         | (with_reducible refine (HSA.out _ _ OC.out ST.out).mono ?_
                            rintro e ws ⟨rfl, o⟩
                            have OC := Lib.hid (OC.out.trans o)
                            clear o)
                         | (with_reducible refine (HSB.out _ _ OC.out SF.out).mono ?_
                            rintro e ws ⟨rfl, o⟩
                            have OC := Lib.hid (OC.out.trans o)
                            clear o))
                      | (go_at_call 15
                         with_reducible refine (HRT.out _ _ _ OC.out ST.out SF.out).mono ?_
                         rintro e ws ⟨rfl, o⟩
                         have OC := Lib.hid (OC.out.trans o)
                         clear o)
                      | (go_at_call 4
                         with_reducible refine (HAW.out _ OC.out).mono ?_
                         rintro e ws ⟨rfl, o⟩
                         have OC := Lib.hid (OC.out.trans o)
                         clear o))
                  all_goals
                    have OE := Lib.hid (HW6.out.trans OC.out)
                    go_wp2
                    go_ret
                    exact ⟨rfl, OE.out.whole⟩

set_option maxHeartbeats 1000000 in
theorem losKeeps_big (z : Int) (A A' : Option Addr) (n c m c' : Nat) (w : World) (ht : Par w) (h : ¬ (1 ≤ z ∧ z ≤ 300 ∧ n ≤ 30 ∧ m ≤ 60)) :
    Calls Tryz.prog 3 #[.int .i64 z, .slice A n c, .slice A' m c'] w fun e w' => e = .returned (.bool true) ∧ Below w.heap.size w w' := by
  have HP := Lib.hid ht
  clear ht
  by_cases h1 : z < 1
  · clear h
    go_enter Tryz.func3, Tryz.ntmps3
    go_wp2_with fail
    go_at_call 4
    refine (awake13_any _ HP.out).mono ?_
    rintro e w1 ⟨rfl, o⟩
    have O := Lib.hid o
    clear o
    go_wp2
    go_ret
    exact ⟨rfl, O.out.whole⟩
  · by_cases h2 : 300 < z
    · clear h
      go_enter Tryz.func3, Tryz.ntmps3
      go_wp2_with fail
      go_at_call 4
      refine (awake13_any _ HP.out).mono ?_
      rintro e w1 ⟨rfl, o⟩
      have O := Lib.hid o
      clear o
      go_wp2
      go_ret
      exact ⟨rfl, O.out.whole⟩
    · by_cases h3 : 30 < n
      · clear h
        go_enter Tryz.func3, Tryz.ntmps3
        go_wp2_with fail
        go_at_call 4
        refine (awake13_any _ HP.out).mono ?_
        rintro e w1 ⟨rfl, o⟩
        have O := Lib.hid o
        clear o
        go_wp2
        go_ret
        exact ⟨rfl, O.out.whole⟩
      · have h4 : 60 < m := by omega
        clear h
        go_enter Tryz.func3, Tryz.ntmps3
        go_wp2_with fail
        go_at_call 4
        refine (awake13_any _ HP.out).mono ?_
        rintro e w1 ⟨rfl, o⟩
        have O := Lib.hid o
        clear o
        go_wp2
        go_ret
        exact ⟨rfl, O.out.whole⟩

theorem losKeeps_walk (z : Int) (v1 v2 : Value) (n : Nat) (xs : List Value) (zs : List Int) (w : World) (ht : Par w) (h1 : Sl w w.heap.size 5 v1 n xs) (hh : Hds n xs) (h2 : Sl w w.heap.size 1 v2 zs.length (i64s zs)) :
    Calls Tryz.prog 3 #[.int .i64 z, v1, v2] w fun e w' => e = .returned (.bool true) ∧ Below w.heap.size w w' := by
  by_cases h : 1 ≤ z ∧ z ≤ 300 ∧ n ≤ 30 ∧ zs.length ≤ 60
  · obtain ⟨s, rfl⟩ := Int.eq_ofNat_of_zero_le (show 0 ≤ z by omega)
    exact losKeeps_small s n v1 v2 xs zs w ht h1 hh h2 (by omega) (by omega) (by omega)
  · obtain ⟨A, c, rfl, -⟩ := h1
    obtain ⟨A', c', rfl, -⟩ := h2
    exact losKeeps_big z A A' n c _ c' w ht h
/-- Headers that come in, read out of what opens them. -/
theorem hds_of {H : Type} {enc : TypeId × Value → H} {w : World} {base n : Nat} {sp : Nat → Bool} {held : Bool} {xs : List Value} {fs : Array Field} (hfs : fs.map (·.type) = #[3, 3, 3, 4, 3])
    (u : ∀ i j f, i < n → fs[j]? = some f → ∃ (u : Value) (y : DataW H × List MemPlace) (k : Nat), xs[i * 5 + j]? = some u ∧ DataW.trod enc Tryz.prog w base sp held k f.type [u] = some y) : Hds n xs := by
  have hty : ∀ (j : Nat) (t : TypeId), (#[3, 3, 3, 4, 3] : Array TypeId)[j]? = some t → ∃ f, fs[j]? = some f ∧ f.type = t := fun j t h => by
    rw [← hfs, Array.getElem?_map] at h
    rcases e : fs[j]? with _ | f
    · rw [e] at h; cases h
    · rw [e] at h; exact ⟨f, rfl, Option.some.inj h⟩
  intro i hi
  have hI : ∀ j, (#[3, 3, 3, 4, 3] : Array TypeId)[j]? = some 3 → ∃ a : Int, xs[i * 5 + j]? = some (.int .i64 a) := fun j h => by
    obtain ⟨f, e1, e2⟩ := hty j _ h
    obtain ⟨v, y, k, hx, hd⟩ := u i j f hi e1
    rw [e2] at hd
    obtain ⟨a, i0, -, -⟩ := DataW.trod_int (k := .i64) Tryz.underlying3 hd
    simp at i0
    exact ⟨a, by rw [hx, i0]⟩
  obtain ⟨k, h0⟩ := hI 0 rfl
  obtain ⟨f, h1⟩ := hI 1 rfl
  obtain ⟨r, h2⟩ := hI 2 rfl
  obtain ⟨c, h4⟩ := hI 4 rfl
  obtain ⟨fb, e1, e2⟩ := hty 3 _ rfl
  obtain ⟨v, y, kk, hx, hd⟩ := u i 3 fb hi e1
  rw [e2] at hd
  obtain ⟨m, i3, -⟩ := DataW.trod_bool Tryz.underlying4 hd
  simp at i3
  exact ⟨k, f, r, m, c, by simpa using h0, h1, h2, by rw [hx, i3], h4⟩
end Go.Proofs.YtoeccbbjncgmlaaGreatDoor
