/- The document's own answer whether two heaps are the same. -/
import Derived.Test.YtciidodmhigpdaaGreatDoorRefSt1
namespace Go.Proofs.YtciidodmhigpdaaGreatDoor
open Go.RowKit
set_option maxRecDepth 100000

theorem st_ext {s t : St} (h1 : s.cf.semi = t.cf.semi ∧ s.cf.large = t.cf.large ∧ s.cf.slots = t.cf.slots ∧ s.cf.limit = t.cf.limit) (h2 : s.sec = t.sec) (h3 : s.top = t.top) (h4 : s.ws = t.ws) (h5 : s.tb = t.tb) (h6 : s.fr = t.fr) (h7 : s.sl = t.sl) : s = t := by
  obtain ⟨⟨a, b, c, d⟩, e, f, g, h, i, j⟩ := s
  obtain ⟨⟨a', b', c', d'⟩, e', f', g', h', i', j'⟩ := t
  simp only at h1 h2 h3 h4 h5 h6 h7
  obtain ⟨rfl, rfl, rfl, rfl⟩ := h1
  subst h2 h3 h4 h5 h6 h7
  rfl
def cfEq (a b : Cf) : Bool := decide (a.semi = b.semi ∧ a.large = b.large ∧ a.slots = b.slots ∧ a.limit = b.limit)
theorem eqCf (a b : Cf) (w : World) : (Op.equalIn 10000 23 (.agg #[.int .i64 a.semi, .int .i64 a.large, .int .i64 a.slots, .int .i64 a.limit]) (.agg #[.int .i64 b.semi, .int .i64 b.large, .int .i64 b.slots, .int .i64 b.limit])).run Tryz.prog w = .ok (cfEq a b) w := by
  have hS : Tryz.prog.underlying 23 = some (.struct (Tryz.prog.fieldsOf 23)) := by kernel_rfl
  rw [show (10000 : Nat) = 9999 + 1 from rfl, run_equalIn_agg w 9999 23 _ _ hS (by kernel_rfl)]
  simp only [Program.fieldsOf, Tryz.underlying23]
  go_simp
  unfold cfEq
  by_cases h1 : a.semi = b.semi <;> by_cases h2 : a.large = b.large <;> by_cases h3 : a.slots = b.slots <;> by_cases h4 : a.limit = b.limit <;> simp [h1, h2, h3, h4]
set_option maxHeartbeats 8000000 in
theorem rSame15 : SameC 20 := by
  intro s t vw vt vf vs uw ut uf us B B' w hs ht hB hB'
  have HRS := Lib.hid hs
  have HRT := Lib.hid ht
  obtain ⟨W, hW, HA1⟩ := box_state w s vw vt vf vs
  obtain ⟨W2, hW2, HA2⟩ := box_state W t uw ut uf us
  have HWB := Lib.hid (show (w.alloc (.cells #[.int .i64 s.cf.semi, .int .i64 s.cf.large, .int .i64 s.cf.slots, .int .i64 s.cf.limit, .bool s.sec, vw, .int .i64 s.top, vt, vf, vs] 28)).alloc (.cells #[.int .i64 t.cf.semi, .int .i64 t.cf.large, .int .i64 t.cf.slots, .int .i64 t.cf.limit, .bool t.sec, uw, .int .i64 t.top, ut, uf, us] 28) = W2 by rw [hW, hW2])
  have HB := Lib.hid (And.intro (HA1.out.1.trans HA2.out.1) True.intro)
  have hz : W.heap.size = w.heap.size + 1 := by rw [← hW]; simp
  have XA0 := Lib.hid (HA1.out.2.2.keep HA2.out.1)
  have XB0 := Lib.hid HA2.out.2.2
  rw [hz] at XB0
  have HWS := Lib.hid (show ∀ W', Only nob W2 W' → Calls Tryz.prog 49 #[vw, uw] W' fun e w' => e = .returned (.bool (decide (s.ws = t.ws))) ∧ Only nob W' w' from fun W' o => rSameW vw uw s.ws t.ws B B' W' (HRS.out.words.below ((HB.out.1.trans o).below hB fun _ h => h.elim)) (HRT.out.words.below ((HB.out.1.trans o).below hB' fun _ h => h.elim)))
  have HTS := Lib.hid (show ∀ W', Only nob W2 W' → Calls Tryz.prog 50 #[vt, ut] W' fun e w' => e = .returned (.bool (decide (s.tb = t.tb))) ∧ Only nob W' w' from fun W' o => refSame_any vt ut s.tb t.tb B B' W' (HRS.out.tab.below ((HB.out.1.trans o).below hB fun _ h => h.elim)) (HRT.out.tab.below ((HB.out.1.trans o).below hB' fun _ h => h.elim)))
  have HFS := Lib.hid (show ∀ W', Only nob W2 W' → Calls Tryz.prog 50 #[vf, uf] W' fun e w' => e = .returned (.bool (decide (s.fr = t.fr))) ∧ Only nob W' w' from fun W' o => refSame_any vf uf s.fr t.fr B B' W' (HRS.out.free.below ((HB.out.1.trans o).below hB fun _ h => h.elim)) (HRT.out.free.below ((HB.out.1.trans o).below hB' fun _ h => h.elim)))
  have HSS := Lib.hid (show ∀ W', Only nob W2 W' → Calls Tryz.prog 51 #[vs, us] W' fun e w' => e = .returned (.bool (decide (s.sl = t.sl))) ∧ Only nob W' w' from fun W' o => rSame14 vs us s.sl t.sl B B' W' (HRS.out.slots.below ((HB.out.1.trans o).below hB fun _ h => h.elim)) (HRT.out.slots.below ((HB.out.1.trans o).below hB' fun _ h => h.elim)))
  have heq := eqCf s.cf t.cf
  obtain ⟨q, hq⟩ : ∃ q, q = sameS s t := ⟨_, rfl⟩
  have HNE := Lib.hid (show ¬ s = t → q = false from fun h => hq.trans (sameS_no h))
  have HEQ := Lib.hid (show s = t → q = true from fun h => hq.trans (sameS_yes h))
  rw [← hq]
  obtain ⟨c0, c1, c2, c3, c4, c5, c6, c7, c8, c9⟩ := XA0.out
  obtain ⟨d0, d1, d2, d3, d4, d5, d6, d7, d8, d9⟩ := XB0.out
  clear hs ht hW hW2 hz hq
  by_cases h1 : cfEq s.cf t.cf = true
  case neg =>
    have HF := Lib.hid (HNE.out fun e => by rw [e] at h1; exact h1 (by unfold cfEq; simp))
    rw [show cfEq s.cf t.cf = false by simpa using h1] at heq
    clear h1
    go_enter Tryz.func20, Tryz.ntmps20
    go_upto_region 1 with fail
    rw [HWB.out]
    go_wp2
    go_ret
    exact ⟨ret_bool (by rw [HF.out]), HB.out.1⟩
  case pos =>
    by_cases h2 : s.sec = t.sec
    case neg =>
      have HF := Lib.hid (HNE.out fun e => h2 (by rw [e]))
      rw [h1] at heq
      have b2 : (s.sec != t.sec) = true := by simpa using h2
      clear h1
      go_enter Tryz.func20, Tryz.ntmps20
      go_upto_region 1 with fail
      rw [HWB.out]
      go_wp2
      go_ret
      exact ⟨ret_bool (by rw [HF.out]), HB.out.1⟩
    case pos =>
      by_cases h3 : s.top = t.top
      case neg =>
        have HF := Lib.hid (HNE.out fun e => h3 (by rw [e]))
        rw [h1] at heq
        have b2 : (s.sec != t.sec) = false := by simpa using h2
        have b3 : (s.top != t.top) = true := by simpa using h3
        clear h1 h3
        rw [h2] at HWB
        go_enter Tryz.func20, Tryz.ntmps20
        go_upto_region 1 with fail
        rw [HWB.out]
        go_wp2
        go_ret
        exact ⟨ret_bool (by rw [HF.out]), HB.out.1⟩
      case pos =>
        by_cases h4 : s.ws = t.ws
        case neg =>
          have HF := Lib.hid (HNE.out fun e => h4 (by rw [e]))
          rw [h1] at heq
          have b2 : (s.sec != t.sec) = false := by simpa using h2
          have b3 : (s.top != t.top) = false := by simpa using h3
          rw [decide_eq_false h4] at HWS
          clear h1 h3 h4
          rw [h2] at HWB
          go_enter Tryz.func20, Tryz.ntmps20
          go_upto_region 1 with fail
          rw [HWB.out]
          go_wp2_with fail
          go_at_call 49
          refine (HWS.out _ (Only.refl _ _)).mono ?_
          rintro e w3 ⟨rfl, o⟩
          have O3 := Lib.hid ((show Hid (Only nob W2 W2) from Lib.hid (Only.refl _ _)).out.trans o)
          have XA3 := Lib.hid (XA0.out.keep o)
          have XB3 := Lib.hid (XB0.out.keep o)
          clear c0 c1 c2 c3 c4 c5 c6 c7 c8 c9 d0 d1 d2 d3 d4 d5 d6 d7 d8 d9
          clear o
          obtain ⟨c0, c1, c2, c3, c4, c5, c6, c7, c8, c9⟩ := XA3.out
          obtain ⟨d0, d1, d2, d3, d4, d5, d6, d7, d8, d9⟩ := XB3.out
          clear c0 c1 c2 c3 c4 c5 c6 c7 c8 c9 d0 d1 d2 d3 d4 d5 d6 d7 d8 d9
          go_wp2
          go_ret
          exact ⟨ret_bool (by rw [HF.out]), HB.out.1.trans O3.out⟩
        case pos =>
          by_cases h5 : s.tb = t.tb
          case neg =>
            have HF := Lib.hid (HNE.out fun e => h5 (by rw [e]))
            rw [h1] at heq
            have b2 : (s.sec != t.sec) = false := by simpa using h2
            have b3 : (s.top != t.top) = false := by simpa using h3
            rw [decide_eq_true h4] at HWS
            rw [decide_eq_false h5] at HTS
            clear h1 h3 h4 h5
            rw [h2] at HWB
            go_enter Tryz.func20, Tryz.ntmps20
            go_upto_region 1 with fail
            rw [HWB.out]
            go_wp2_with fail
            go_at_call 49
            refine (HWS.out _ (Only.refl _ _)).mono ?_
            rintro e w3 ⟨rfl, o⟩
            have O3 := Lib.hid ((show Hid (Only nob W2 W2) from Lib.hid (Only.refl _ _)).out.trans o)
            have XA3 := Lib.hid (XA0.out.keep o)
            have XB3 := Lib.hid (XB0.out.keep o)
            clear c0 c1 c2 c3 c4 c5 c6 c7 c8 c9 d0 d1 d2 d3 d4 d5 d6 d7 d8 d9
            clear o
            obtain ⟨c0, c1, c2, c3, c4, c5, c6, c7, c8, c9⟩ := XA3.out
            obtain ⟨d0, d1, d2, d3, d4, d5, d6, d7, d8, d9⟩ := XB3.out
            go_wp2_with fail
            go_at_call 50
            refine (HTS.out _ O3.out).mono ?_
            rintro e w4 ⟨rfl, o⟩
            have O4 := Lib.hid (O3.out.trans o)
            have XA4 := Lib.hid (XA3.out.keep o)
            have XB4 := Lib.hid (XB3.out.keep o)
            clear c0 c1 c2 c3 c4 c5 c6 c7 c8 c9 d0 d1 d2 d3 d4 d5 d6 d7 d8 d9
            clear o
            obtain ⟨c0, c1, c2, c3, c4, c5, c6, c7, c8, c9⟩ := XA4.out
            obtain ⟨d0, d1, d2, d3, d4, d5, d6, d7, d8, d9⟩ := XB4.out
            clear c0 c1 c2 c3 c4 c5 c6 c7 c8 c9 d0 d1 d2 d3 d4 d5 d6 d7 d8 d9
            go_wp2
            go_ret
            exact ⟨ret_bool (by rw [HF.out]), HB.out.1.trans O4.out⟩
          case pos =>
            by_cases h6 : s.fr = t.fr
            case neg =>
              have HF := Lib.hid (HNE.out fun e => h6 (by rw [e]))
              rw [h1] at heq
              have b2 : (s.sec != t.sec) = false := by simpa using h2
              have b3 : (s.top != t.top) = false := by simpa using h3
              rw [decide_eq_true h4] at HWS
              rw [decide_eq_true h5] at HTS
              rw [decide_eq_false h6] at HFS
              clear h1 h3 h4 h5 h6
              rw [h2] at HWB
              go_enter Tryz.func20, Tryz.ntmps20
              go_upto_region 1 with fail
              rw [HWB.out]
              go_wp2_with fail
              go_at_call 49
              refine (HWS.out _ (Only.refl _ _)).mono ?_
              rintro e w3 ⟨rfl, o⟩
              have O3 := Lib.hid ((show Hid (Only nob W2 W2) from Lib.hid (Only.refl _ _)).out.trans o)
              have XA3 := Lib.hid (XA0.out.keep o)
              have XB3 := Lib.hid (XB0.out.keep o)
              clear c0 c1 c2 c3 c4 c5 c6 c7 c8 c9 d0 d1 d2 d3 d4 d5 d6 d7 d8 d9
              clear o
              obtain ⟨c0, c1, c2, c3, c4, c5, c6, c7, c8, c9⟩ := XA3.out
              obtain ⟨d0, d1, d2, d3, d4, d5, d6, d7, d8, d9⟩ := XB3.out
              go_wp2_with fail
              go_at_call 50
              refine (HTS.out _ O3.out).mono ?_
              rintro e w4 ⟨rfl, o⟩
              have O4 := Lib.hid (O3.out.trans o)
              have XA4 := Lib.hid (XA3.out.keep o)
              have XB4 := Lib.hid (XB3.out.keep o)
              clear c0 c1 c2 c3 c4 c5 c6 c7 c8 c9 d0 d1 d2 d3 d4 d5 d6 d7 d8 d9
              clear o
              obtain ⟨c0, c1, c2, c3, c4, c5, c6, c7, c8, c9⟩ := XA4.out
              obtain ⟨d0, d1, d2, d3, d4, d5, d6, d7, d8, d9⟩ := XB4.out
              go_wp2_with fail
              go_at_call 50
              refine (HFS.out _ O4.out).mono ?_
              rintro e w5 ⟨rfl, o⟩
              have O5 := Lib.hid (O4.out.trans o)
              have XA5 := Lib.hid (XA4.out.keep o)
              have XB5 := Lib.hid (XB4.out.keep o)
              clear c0 c1 c2 c3 c4 c5 c6 c7 c8 c9 d0 d1 d2 d3 d4 d5 d6 d7 d8 d9
              clear o
              obtain ⟨c0, c1, c2, c3, c4, c5, c6, c7, c8, c9⟩ := XA5.out
              obtain ⟨d0, d1, d2, d3, d4, d5, d6, d7, d8, d9⟩ := XB5.out
              clear c0 c1 c2 c3 c4 c5 c6 c7 c8 c9 d0 d1 d2 d3 d4 d5 d6 d7 d8 d9
              go_wp2
              go_ret
              exact ⟨ret_bool (by rw [HF.out]), HB.out.1.trans O5.out⟩
            case pos =>
              by_cases h7 : s.sl = t.sl
              case neg =>
                have HF := Lib.hid (HNE.out fun e => h7 (by rw [e]))
                rw [h1] at heq
                have b2 : (s.sec != t.sec) = false := by simpa using h2
                have b3 : (s.top != t.top) = false := by simpa using h3
                rw [decide_eq_true h4] at HWS
                rw [decide_eq_true h5] at HTS
                rw [decide_eq_true h6] at HFS
                rw [decide_eq_false h7] at HSS
                clear h1 h3 h4 h5 h6 h7
                rw [h2] at HWB
                go_enter Tryz.func20, Tryz.ntmps20
                go_upto_region 1 with fail
                rw [HWB.out]
                go_wp2_with fail
                go_at_call 49
                refine (HWS.out _ (Only.refl _ _)).mono ?_
                rintro e w3 ⟨rfl, o⟩
                have O3 := Lib.hid ((show Hid (Only nob W2 W2) from Lib.hid (Only.refl _ _)).out.trans o)
                have XA3 := Lib.hid (XA0.out.keep o)
                have XB3 := Lib.hid (XB0.out.keep o)
                clear c0 c1 c2 c3 c4 c5 c6 c7 c8 c9 d0 d1 d2 d3 d4 d5 d6 d7 d8 d9
                clear o
                obtain ⟨c0, c1, c2, c3, c4, c5, c6, c7, c8, c9⟩ := XA3.out
                obtain ⟨d0, d1, d2, d3, d4, d5, d6, d7, d8, d9⟩ := XB3.out
                go_wp2_with fail
                go_at_call 50
                refine (HTS.out _ O3.out).mono ?_
                rintro e w4 ⟨rfl, o⟩
                have O4 := Lib.hid (O3.out.trans o)
                have XA4 := Lib.hid (XA3.out.keep o)
                have XB4 := Lib.hid (XB3.out.keep o)
                clear c0 c1 c2 c3 c4 c5 c6 c7 c8 c9 d0 d1 d2 d3 d4 d5 d6 d7 d8 d9
                clear o
                obtain ⟨c0, c1, c2, c3, c4, c5, c6, c7, c8, c9⟩ := XA4.out
                obtain ⟨d0, d1, d2, d3, d4, d5, d6, d7, d8, d9⟩ := XB4.out
                go_wp2_with fail
                go_at_call 50
                refine (HFS.out _ O4.out).mono ?_
                rintro e w5 ⟨rfl, o⟩
                have O5 := Lib.hid (O4.out.trans o)
                have XA5 := Lib.hid (XA4.out.keep o)
                have XB5 := Lib.hid (XB4.out.keep o)
                clear c0 c1 c2 c3 c4 c5 c6 c7 c8 c9 d0 d1 d2 d3 d4 d5 d6 d7 d8 d9
                clear o
                obtain ⟨c0, c1, c2, c3, c4, c5, c6, c7, c8, c9⟩ := XA5.out
                obtain ⟨d0, d1, d2, d3, d4, d5, d6, d7, d8, d9⟩ := XB5.out
                go_wp2_with fail
                go_at_call 51
                refine (HSS.out _ O5.out).mono ?_
                rintro e w6 ⟨rfl, o⟩
                have O6 := Lib.hid (O5.out.trans o)
                have XA6 := Lib.hid (XA5.out.keep o)
                have XB6 := Lib.hid (XB5.out.keep o)
                clear c0 c1 c2 c3 c4 c5 c6 c7 c8 c9 d0 d1 d2 d3 d4 d5 d6 d7 d8 d9
                clear o
                obtain ⟨c0, c1, c2, c3, c4, c5, c6, c7, c8, c9⟩ := XA6.out
                obtain ⟨d0, d1, d2, d3, d4, d5, d6, d7, d8, d9⟩ := XB6.out
                clear c0 c1 c2 c3 c4 c5 c6 c7 c8 c9 d0 d1 d2 d3 d4 d5 d6 d7 d8 d9
                go_wp2
                go_ret
                exact ⟨ret_bool (by rw [HF.out]), HB.out.1.trans O6.out⟩
              case pos =>
                have HF := Lib.hid (HEQ.out (st_ext (of_decide_eq_true h1) h2 h3 h4 h5 h6 h7))
                rw [h1] at heq
                have b2 : (s.sec != t.sec) = false := by simpa using h2
                have b3 : (s.top != t.top) = false := by simpa using h3
                rw [decide_eq_true h4] at HWS
                rw [decide_eq_true h5] at HTS
                rw [decide_eq_true h6] at HFS
                rw [decide_eq_true h7] at HSS
                clear h1 h3 h4 h5 h6 h7
                rw [h2] at HWB
                go_enter Tryz.func20, Tryz.ntmps20
                go_upto_region 1 with fail
                rw [HWB.out]
                go_wp2_with fail
                go_at_call 49
                refine (HWS.out _ (Only.refl _ _)).mono ?_
                rintro e w3 ⟨rfl, o⟩
                have O3 := Lib.hid ((show Hid (Only nob W2 W2) from Lib.hid (Only.refl _ _)).out.trans o)
                have XA3 := Lib.hid (XA0.out.keep o)
                have XB3 := Lib.hid (XB0.out.keep o)
                clear c0 c1 c2 c3 c4 c5 c6 c7 c8 c9 d0 d1 d2 d3 d4 d5 d6 d7 d8 d9
                clear o
                obtain ⟨c0, c1, c2, c3, c4, c5, c6, c7, c8, c9⟩ := XA3.out
                obtain ⟨d0, d1, d2, d3, d4, d5, d6, d7, d8, d9⟩ := XB3.out
                go_wp2_with fail
                go_at_call 50
                refine (HTS.out _ O3.out).mono ?_
                rintro e w4 ⟨rfl, o⟩
                have O4 := Lib.hid (O3.out.trans o)
                have XA4 := Lib.hid (XA3.out.keep o)
                have XB4 := Lib.hid (XB3.out.keep o)
                clear c0 c1 c2 c3 c4 c5 c6 c7 c8 c9 d0 d1 d2 d3 d4 d5 d6 d7 d8 d9
                clear o
                obtain ⟨c0, c1, c2, c3, c4, c5, c6, c7, c8, c9⟩ := XA4.out
                obtain ⟨d0, d1, d2, d3, d4, d5, d6, d7, d8, d9⟩ := XB4.out
                go_wp2_with fail
                go_at_call 50
                refine (HFS.out _ O4.out).mono ?_
                rintro e w5 ⟨rfl, o⟩
                have O5 := Lib.hid (O4.out.trans o)
                have XA5 := Lib.hid (XA4.out.keep o)
                have XB5 := Lib.hid (XB4.out.keep o)
                clear c0 c1 c2 c3 c4 c5 c6 c7 c8 c9 d0 d1 d2 d3 d4 d5 d6 d7 d8 d9
                clear o
                obtain ⟨c0, c1, c2, c3, c4, c5, c6, c7, c8, c9⟩ := XA5.out
                obtain ⟨d0, d1, d2, d3, d4, d5, d6, d7, d8, d9⟩ := XB5.out
                go_wp2_with fail
                go_at_call 51
                refine (HSS.out _ O5.out).mono ?_
                rintro e w6 ⟨rfl, o⟩
                have O6 := Lib.hid (O5.out.trans o)
                have XA6 := Lib.hid (XA5.out.keep o)
                have XB6 := Lib.hid (XB5.out.keep o)
                clear c0 c1 c2 c3 c4 c5 c6 c7 c8 c9 d0 d1 d2 d3 d4 d5 d6 d7 d8 d9
                clear o
                obtain ⟨c0, c1, c2, c3, c4, c5, c6, c7, c8, c9⟩ := XA6.out
                obtain ⟨d0, d1, d2, d3, d4, d5, d6, d7, d8, d9⟩ := XB6.out
                clear c0 c1 c2 c3 c4 c5 c6 c7 c8 c9 d0 d1 d2 d3 d4 d5 d6 d7 d8 d9
                go_wp2
                go_ret
                exact ⟨ret_bool (by rw [HF.out]), HB.out.1.trans O6.out⟩
end Go.Proofs.YtciidodmhigpdaaGreatDoor

/- The document's own answer whether a heap may be. -/
namespace Go.Proofs.YtciidodmhigpdaaGreatDoor
open Go.RowKit
set_option maxRecDepth 100000

section
variable {s : St}
theorem chkS_1 (h : ¬ s.cf.ok) : chkS s = 1 := by unfold chkS; rw [if_neg h]
theorem chkS_2 (h1 : s.cf.ok) (h : ¬ (s.ws.length : Int) = cWords s.cf) : chkS s = 2 := by unfold chkS; rw [if_pos h1, if_neg h]
theorem chkS_3 (h1 : s.cf.ok) (h2 : (s.ws.length : Int) = cWords s.cf) (h : r3 s = false) : chkS s = 3 := by unfold chkS; rw [if_pos h1, if_pos h2, if_neg (by rw [h]; decide)]
theorem chkS_4 (h1 : s.cf.ok) (h2 : (s.ws.length : Int) = cWords s.cf) (h3 : r3 s = true) (h : ¬ wkE s.steps = 0) : chkS s = 4 := by unfold chkS; rw [if_pos h1, if_pos h2, if_pos h3, if_neg h]
theorem chkS_5 (h1 : s.cf.ok) (h2 : (s.ws.length : Int) = cWords s.cf) (h3 : r3 s = true) (h4 : wkE s.steps = 0) (h : r5 s = false) : chkS s = 5 := by unfold chkS; rw [if_pos h1, if_pos h2, if_pos h3, if_pos h4, if_neg (by rw [h]; decide)]
theorem chkS_6 (h1 : s.cf.ok) (h2 : (s.ws.length : Int) = cWords s.cf) (h3 : r3 s = true) (h4 : wkE s.steps = 0) (h5 : r5 s = true) (h : r6 s = false) : chkS s = 6 := by unfold chkS; rw [if_pos h1, if_pos h2, if_pos h3, if_pos h4, if_pos h5, if_neg (by rw [h]; decide)]
theorem chkS_7 (h1 : s.cf.ok) (h2 : (s.ws.length : Int) = cWords s.cf) (h3 : r3 s = true) (h4 : wkE s.steps = 0) (h5 : r5 s = true) (h6 : r6 s = true) (h : r7 s = false) : chkS s = 7 := by unfold chkS; rw [if_pos h1, if_pos h2, if_pos h3, if_pos h4, if_pos h5, if_pos h6, if_neg (by rw [h]; decide)]
theorem chkS_8 (h1 : s.cf.ok) (h2 : (s.ws.length : Int) = cWords s.cf) (h3 : r3 s = true) (h4 : wkE s.steps = 0) (h5 : r5 s = true) (h6 : r6 s = true) (h7 : r7 s = true) (h : r8 s = false) : chkS s = 8 := by unfold chkS; rw [if_pos h1, if_pos h2, if_pos h3, if_pos h4, if_pos h5, if_pos h6, if_pos h7, if_neg (by rw [h]; decide)]
theorem chkS_9 (h1 : s.cf.ok) (h2 : (s.ws.length : Int) = cWords s.cf) (h3 : r3 s = true) (h4 : wkE s.steps = 0) (h5 : r5 s = true) (h6 : r6 s = true) (h7 : r7 s = true) (h8 : r8 s = true) (h : r9 s = false) : chkS s = 9 := by unfold chkS; rw [if_pos h1, if_pos h2, if_pos h3, if_pos h4, if_pos h5, if_pos h6, if_pos h7, if_pos h8, if_neg (by rw [h]; decide)]
/-- Where the walk ends well and the large objects are right, each object has its header. -/
theorem obj_head (h4 : wkE s.steps = 0) (h6 : r6 s = true) {p : Int} (hp : p ∈ s.objs) : ohE s.ws p = 0 := by
  unfold St.objs at hp
  rcases List.mem_append.1 hp with hp | hp
  · exact small_head h4 hp
  · obtain ⟨x, hx, rfl⟩ := List.mem_map.1 hp
    unfold r6 at h6
    rw [Bool.and_eq_true, List.all_eq_true] at h6
    have := h6.2 x hx
    unfold big at this
    rw [Bool.and_eq_true, decide_eq_true_iff] at this
    exact this.1
end
def slotR (all : List Int) (t : Slt) : Bool := !t.1 || leads all t.2.2
theorem allR_no {p : Nat → Bool} {n j : Nat} (hj : j < n) (h : p j = false) : (List.range n).all p = false := by
  rw [List.all_eq_false]
  exact ⟨j, List.mem_range.2 hj, by rw [h]; simp⟩
theorem allR_yes {p : Nat → Bool} {n : Nat} (h : ∀ m, m < n → p m = true) : (List.range n).all p = true := by
  rw [List.all_eq_true]
  exact fun m hm => h m (List.mem_range.1 hm)

set_option maxHeartbeats 16000000 in
theorem rCheck15 : CheckC 14 := by
  intro s vw vt vf vs B w h hB hok hpar
  have HR := Lib.hid h
  have HOK := Lib.hid hok
  obtain ⟨At, ct, rfl, hat, hct⟩ := h.tab.form
  obtain ⟨Aw, cw, rfl, haw, hcw⟩ := h.words.form
  obtain ⟨Al, cl, rfl, hal, hcl⟩ := h.slots.form
  unfold maxLen at hct hcw hcl
  have hfew := hok.few
  have htp := hok.top
  unfold I64 at htp
  obtain ⟨W, hW, HB⟩ := box_state w s (.slice Aw s.ws.length cw) (.slice At s.tb.length ct) vf (.slice Al s.sl.length cl)
  have HW := Lib.hid hW
  obtain ⟨p, hp⟩ : ∃ p, p = w.heap.size := ⟨_, rfl⟩
  have HBX := Lib.hid HB.out.2.2
  rw [← hp] at HBX
  have HP := Lib.hid hp
  have hfb := frm_bounds s
  have HCK := Lib.hid (fun w => refCheck_any s.cf w)
  have HCW := Lib.hid (fun w => refWords_any s.cf w)
  have HFR := Lib.hid (show ∀ w, Calls Tryz.prog 33 #[.agg #[.int .i64 s.cf.semi, .int .i64 s.cf.large, .int .i64 s.cf.slots, .int .i64 s.cf.limit], .bool s.sec] w fun e w' => e = .returned (.agg #[.int .i64 s.frm.1, .int .i64 s.frm.2]) ∧ Only nob w w' from fun w => refFrom_any s.cf s.sec w)
  have HWK := Lib.hid (show ∀ W', Only nob w W' → Calls Tryz.prog 34 #[.slice Aw s.ws.length cw, .agg #[.int .i64 s.frm.1, .int .i64 s.frm.2], .int .i64 s.top] W' fun e w' => ∃ v', e = .returned (.tuple #[v', .int .i64 (wkP s.steps s.top), .int .i64 (wkE s.steps)]) ∧ Sl w' w'.heap.size 1 v' s.smalls.length (i64s s.smalls) ∧ Only nob W' w' from fun W' o => by
    refine (rWalk _ B s.ws (cFrom s.cf s.sec) s.top W' (HR.out.words.below (o.below hB fun _ h => h.elim)) (Nat.le_trans hB o.size) HOK.out.ws HOK.out.few.1).mono ?_
    rintro e w' ⟨v', rfl, hO, o3⟩
    exact ⟨v', rfl, Sl.of_own hO (by rw [i64s_len, Nat.mul_one]), o3⟩)
  have HLG := Lib.hid (show ∀ W', Only nob w W' → Calls Tryz.prog 37 #[.agg #[.int .i64 s.cf.semi, .int .i64 s.cf.large, .int .i64 s.cf.slots, .int .i64 s.cf.limit, .bool s.sec, .slice Aw s.ws.length cw, .int .i64 s.top, .slice At s.tb.length ct, vf, .slice Al s.sl.length cl]] W' fun e w' => e = .returned (.bool (r6 s)) ∧ Only nob W' w' from fun W' o => rLarge15 s _ _ _ _ B W' (HR.out.only o hB) (Nat.le_trans hB o.size) HOK.out)
  have HAL := Lib.hid (show ∀ W', Only nob w W' → Calls Tryz.prog 25 #[.agg #[.int .i64 s.cf.semi, .int .i64 s.cf.large, .int .i64 s.cf.slots, .int .i64 s.cf.limit, .bool s.sec, .slice Aw s.ws.length cw, .int .i64 s.top, .slice At s.tb.length ct, vf, .slice Al s.sl.length cl]] W' fun e w' => ∃ v', e = .returned v' ∧ Sl w' w'.heap.size 1 v' s.objs.length (i64s s.objs) ∧ Only nob W' w' from fun W' o => by
    refine (rAll15 s _ _ _ _ B W' (HR.out.only o hB) (Nat.le_trans hB o.size) HOK.out).mono ?_
    rintro e w' ⟨v', rfl, hO, o3⟩
    exact ⟨v', rfl, Sl.of_own hO (by rw [i64s_len, Nat.mul_one]), o3⟩)
  have HRT := Lib.hid (show ∀ W', Only nob w W' → Calls Tryz.prog 38 #[.slice Al s.sl.length cl, .int .i64 s.cf.slots] W' fun e w' => e = .returned (.bool (r7 s)) ∧ Only nob W' w' from fun W' o => rRight14 _ s.sl s.cf.slots B W' (HR.out.slots.below (o.below hB fun _ h => h.elim)) (Nat.le_trans hB o.size) (by omega) HOK.out.sl)
  obtain ⟨q, hq⟩ : ∃ q, q = chkS s := ⟨_, rfl⟩
  have HQ := Lib.hid hq
  rw [← hq]
  obtain ⟨c0, c1, c2, c3, c4, c5, c6, c7, c8, c9⟩ := HBX.out
  clear h hok hW hp hq
  go_enter Tryz.func14, Tryz.ntmps14
  go_upto_region 1 with fail
  rw [HW.out, ← HP.out]
  go_wp2_with fail
  go_at_call 31
  refine (HCK.out _).mono ?_
  by_cases h1 : s.cf.ok
  case neg =>
    rw [decide_eq_false h1]
    rintro e w1 ⟨rfl, o⟩
    have O1 := Lib.hid (HB.out.1.trans o)
    have HF := Lib.hid (HQ.out.trans (chkS_1 h1))
    clear o c0 c1 c2 c3 c4 c5 c6 c7 c8 c9 h1
    go_wp2
    go_ret
    exact ⟨ret_int (by rw [HF.out]), O1.out⟩
  case pos =>
  rw [decide_eq_true h1]
  have H1 := Lib.hid h1
  rintro e w1 ⟨rfl, o⟩
  have O1 := Lib.hid (HB.out.1.trans o)
  have X1 := Lib.hid (HBX.out.keep o)
  clear o c0 c1 c2 c3 c4 c5 c6 c7 c8 c9 h1
  obtain ⟨c0, c1, c2, c3, c4, c5, c6, c7, c8, c9⟩ := X1.out.all
  go_wp2_with fail
  by_cases h2 : (s.ws.length : Int) = cWords s.cf
  case neg =>
    have HF := Lib.hid (HQ.out.trans (chkS_2 H1.out h2))
    have hbq : ((s.ws.length : Int) != cWords s.cf) = true := by simpa using h2
    clear h2
    refine wp_region_only mixedSt (by kernel_rfl) ?_
    repeat (with_reducible refine wpQuiet_step ?_; intro K hK; go_simp; first | (with_reducible refine hK _ ?_; clear hK K) | (apply Exists.intro; with_reducible refine ⟨fun _ => ?_, hK _ ?_⟩; (first | (go_at_call 32; with_reducible refine wat_call (HCW.out _))); clear hK K))
    refine wpQuiet_nil ?_
    rintro w' ⟨⟨nq, osq⟩, rfl⟩
    obtain ⟨W2, hW2, QW2⟩ := wat_name w1 nq osq
    rw [hW2]
    clear hW2
    have O2 := Lib.hid (O1.out.trans QW2)
    clear QW2 c0 c1 c2 c3 c4 c5 c6 c7 c8 c9
    go_wp2
    go_ret
    exact ⟨ret_int (by rw [HF.out]), O2.out⟩
  case pos =>
  have H2 := Lib.hid h2
  have hbq : ((s.ws.length : Int) != cWords s.cf) = false := by simpa using h2
  clear h2
  refine wp_region_only mixedSt (by kernel_rfl) ?_
  repeat (with_reducible refine wpQuiet_step ?_; intro K hK; go_simp; first | (with_reducible refine hK _ ?_; clear hK K) | (apply Exists.intro; with_reducible refine ⟨fun _ => ?_, hK _ ?_⟩; (first | (go_at_call 32; with_reducible refine wat_call (HCW.out _))); clear hK K))
  refine wpQuiet_nil ?_
  rintro w' ⟨⟨nq, osq⟩, rfl⟩
  obtain ⟨W2, hW2, QW2⟩ := wat_name w1 nq osq
  rw [hW2]
  clear hW2
  have O2 := Lib.hid (O1.out.trans QW2.out)
  have X2 := Lib.hid (X1.out.keep QW2.out)
  clear QW2 c0 c1 c2 c3 c4 c5 c6 c7 c8 c9 hbq
  obtain ⟨c0, c1, c2, c3, c4, c5, c6, c7, c8, c9⟩ := X2.out
  go_wp2_with fail
  go_at_call 33
  refine (HFR.out _).mono ?_
  rintro e w3 ⟨rfl, o⟩
  obtain ⟨a, ha⟩ : ∃ a, a = s.frm.1 := ⟨_, rfl⟩
  obtain ⟨n, hn⟩ : ∃ n, n = s.frm.2 := ⟨_, rfl⟩
  have HAN := Lib.hid (And.intro ha hn)
  rw [← ha, ← hn] at hfb HWK ⊢
  obtain ⟨W3, hW3, HB3⟩ := box_span15 w3 a n
  have HW3 := Lib.hid hW3
  have oo := o.trans HB3.out.1
  have O3 := Lib.hid (O2.out.trans oo)
  have X3 := Lib.hid (X2.out.keep oo)
  clear o oo hW3 ha hn c0 c1 c2 c3 c4 c5 c6 c7 c8 c9
  go_upto_region 6 with fail
  rw [HW3.out]
  obtain ⟨c0, c1, c2, c3, c4, c5, c6, c7, c8, c9⟩ := X3.out
  obtain ⟨-, -, d0, d1⟩ := HB3.out
  by_cases h3 : a ≤ s.top
  case neg =>
    have HF := Lib.hid (HQ.out.trans (chkS_3 H1.out H2.out (decide_eq_false (by rw [← HAN.out.1, ← HAN.out.2]; exact fun h => h3 h.1))))
    go_wp2
    go_ret
    exact ⟨ret_int (by rw [HF.out]), O3.out⟩
  case pos =>
  by_cases h3' : s.top ≤ a + n
  case neg =>
    have HF := Lib.hid (HQ.out.trans (chkS_3 H1.out H2.out (decide_eq_false (by rw [← HAN.out.1, ← HAN.out.2]; exact fun h => h3' h.2))))
    go_wp2
    go_ret
    exact ⟨ret_int (by rw [HF.out]), O3.out⟩
  case pos =>
  have H3 := Lib.hid (show r3 s = true from decide_eq_true (by rw [← HAN.out.1, ← HAN.out.2]; exact ⟨h3, h3'⟩))
  go_wp2_with fail
  go_at_call 34
  refine (HWK.out _ O3.out).mono ?_
  rintro e w4 ⟨v4, rfl, hs4, o⟩
  obtain ⟨z4, hz4⟩ : ∃ z, z = wkE s.steps := ⟨_, rfl⟩
  have HZ4 := Lib.hid hz4
  rw [← hz4]
  have O4 := Lib.hid (O3.out.trans o)
  have X4 := Lib.hid (X3.out.keep o)
  have S4 := Lib.hid hs4
  obtain ⟨A4, c44, rfl, hc4, hm4⟩ := hs4.form
  unfold maxLen at hm4
  clear o hs4 hz4 h3 h3' c0 c1 c2 c3 c4 c5 c6 c7 c8 c9 d0 d1
  by_cases h4 : z4 = 0
  case neg =>
    have HF := Lib.hid (HQ.out.trans (chkS_4 H1.out H2.out H3.out (by rw [← HZ4.out]; exact h4)))
    have hbq : (z4 != 0) = true := by simpa using h4
    clear h4
    go_wp2
    go_ret
    exact ⟨ret_int (by rw [HF.out]), O4.out⟩
  case pos =>
  subst h4
  have H4 := Lib.hid HZ4.out.symm
  have hsm := smalls_len s
  go_wp2_with fail
  go_loopw [7] (fun i wr => ∃ k : Nat, k ≤ s.smalls.length ∧ i = .int .i64 k ∧ Hid (∀ (j : Nat) y, j < k → s.smalls[j]? = some y → low s.cf s.ws y = true) ∧ Hid (Only nob w wr ∧ Only nob w4 wr ∧ SBox wr p s (.slice Aw s.ws.length cw) (.slice At s.tb.length ct) vf (.slice Al s.sl.length cl))) (fun i _ => s.smalls.length - (intOf i).toNat)
  case atStart => exact ⟨0, Nat.zero_le _, rfl, Lib.hid (fun j _ hj _ => absurd hj (Nat.not_lt_zero j)), Lib.hid ⟨O4.out, Only.refl _ _, X4.out⟩⟩
  case round =>
  obtain ⟨k, hk, rfl, HNO, HO⟩ := hrel
  by_cases hlt : k < s.smalls.length
  case pos =>
    obtain ⟨x0, hx⟩ : ∃ x, s.smalls[k]? = some x := ⟨_, List.getElem?_eq_getElem hlt⟩
    obtain ⟨bt, ot, rfl, hbt, t0⟩ := sl_int S4.out HO.out.2.1.whole hx
    have HX := Lib.hid hx
    have h0 : ohE s.ws x0 = 0 := small_head H4.out (List.mem_of_getElem? hx)
    have HE0 := Lib.hid h0
    obtain ⟨K, hK⟩ : ∃ K, K = ohK s.ws x0 := ⟨_, rfl⟩
    obtain ⟨F, hF⟩ : ∃ F, F = ohF s.ws x0 := ⟨_, rfl⟩
    obtain ⟨R, hR⟩ : ∃ R, R = ohR s.ws x0 := ⟨_, rfl⟩
    obtain ⟨M, hM⟩ : ∃ M, M = ohM s.ws x0 := ⟨_, rfl⟩
    obtain ⟨C, hC⟩ : ∃ C, C = ohC s.ws x0 := ⟨_, rfl⟩
    obtain ⟨E, hE⟩ : ∃ E, E = ohE s.ws x0 := ⟨_, rfl⟩
    have HHD := Lib.hid (show ∀ W', Only nob wr W' → Calls Tryz.prog 12 #[.slice Aw s.ws.length cw, .int .i64 x0] W' fun e w' => e = .returned (.tuple #[.agg #[.int .i64 K, .int .i64 F, .int .i64 R, .bool M, .int .i64 C], .int .i64 E]) ∧ Only nob W' w' from fun W' o => by
      have o2 := HO.out.1.trans o
      rw [hE, hK, hF, hR, hM, hC]
      exact rHead_any _ B s.ws x0 W' (HR.out.words.below (o2.below hB fun _ h => h.elim)) (Nat.le_trans hB o2.size) HOK.out.ws HOK.out.few.1)
    obtain ⟨Z, hZ⟩ : ∃ Z, Z = osz (hAr s.ws) x0 := ⟨_, rfl⟩
    have HSZ := Lib.hid (show ∀ W', Calls Tryz.prog 30 #[.agg #[.int .i64 K, .int .i64 F, .int .i64 R, .bool M, .int .i64 C]] W' fun e w' => e = .returned (.int .i64 Z) ∧ Only nob W' w' from fun W' => by
      have := refSize07_any K F R M C W'
      rw [hK, hF, hR, hC] at this ⊢
      rw [hSz_oh s.ws x0 HE0.out, ← hZ] at this
      exact this)
    have HQT := Lib.hid (fun W => rQuiet15 K F R M C W)
    obtain ⟨I, hI⟩ : ∃ I, I = hIdle M C := ⟨_, rfl⟩
    rw [← hI] at HQT
    have HSM := Lib.hid (fun W => refSmall_any s.cf Z W)
    obtain ⟨S, hS⟩ : ∃ S, S = cSmall s.cf Z := ⟨_, rfl⟩
    rw [← hS] at HSM
    have HLW := Lib.hid (show low s.cf s.ws x0 = (I && S) by rw [hI, hS, hZ, hM, hC]; rfl)
    have c5 := HO.out.2.2.c5
    clear hx h0 hE hK hF hR hM hC hZ hI hS
    have HN0 := Lib.hid (show Only nob wr wr.drew from (Only.refl nob wr).drewN 1)
    have HN1 := Lib.hid (show Only nob wr (wr.alloc (.cells #[.int .i64 0, .int .i64 0, .int .i64 0, .bool false, .int .i64 0] 36)).drew from ((Only.refl nob wr).alloc _).drewN 1)
    go_upto_region 14 with fail
    go_cut [8] (fun sp wx => ∃ bq : Nat, sp = .pointer (some ⟨bq, 0, none⟩) ∧ Hid (Only nob wr wx ∧ Blk wx bq 36 #[.int .i64 K, .int .i64 F, .int .i64 R, .bool M, .int .i64 C]))
    case first =>
      go_region_held3 (fun w' => w'.cell? ⟨p, 5, none⟩ = some (.slice Aw s.ws.length cw) ∧ w'.cell? ⟨bt, ot + k, none⟩ = some (.int .i64 x0)) (first | (with_reducible exact C1.out) | (with_reducible exact And.intro ((O3.out.alloc _).keeps c5) ((O3.out.alloc _).keeps t0)) | (with_reducible exact And.intro (HN0.out.keeps c5) (HN0.out.keeps t0)) | (with_reducible exact And.intro (((Only.refl nob wr).alloc _).keeps c5) (((Only.refl nob wr).alloc _).keeps t0)) | go_keep | with_reducible exact And.intro ((only_five O3.out (Nat.le_refl _) _ _ _ _ _).keeps c5) ((only_five O3.out (Nat.le_refl _) _ _ _ _ _).keeps t0))
        ((go_at_call 12
          first
          | (with_reducible refine (HHD.out wr.drew HN0.out).mono ?_
             rintro e w3 ⟨rfl, o⟩
             have O3 := Lib.hid o.drewL
             have TA := True.intro
             have C1 := Lib.hid (And.intro (O3.out.keeps c5) (O3.out.keeps t0))
             clear o)
          | (with_reducible refine (HHD.out (wr.alloc (.cells #[.int .i64 0, .int .i64 0, .int .i64 0, .bool false, .int .i64 0] 36)).drew HN1.out).mono ?_
             rintro e w3 ⟨rfl, o⟩
             have O3 := Lib.hid (((Only.refl nob wr).alloc (.cells #[.int .i64 0, .int .i64 0, .int .i64 0, .bool false, .int .i64 0] 36)).trans o.drewL)
             have BZ := Lib.hid ((Blk.new wr 36 #[.int .i64 0, .int .i64 0, .int .i64 0, .bool false, .int .i64 0]).keep o.drewL id)
             have TB := True.intro
             obtain ⟨y0, y1, y2, y3, y4⟩ := cells5 BZ.out
             obtain ⟨z0, z1, z2, z3, z4⟩ := frees5 BZ.out
             have C1 := Lib.hid (And.intro (O3.out.keeps c5) (O3.out.keeps t0))
             clear o)))
      all_goals
        first
        | (clear TA
           obtain ⟨W5, hW5, HBX⟩ := box_head w3 K F R M C
           have HW5 := Lib.hid hW5
           clear hW5
           rw [HW5.out]
           go_wp2
           go_meet
           exact ⟨_, rfl, Lib.hid ⟨O3.out.trans HBX.out.1, HBX.out.2⟩⟩)
        | (clear TB y0 y1 y2 y3 y4 z0 z1 z2 z3 z4
           obtain ⟨W5, hW5, OX, BX⟩ := puts5 O3.out (Nat.le_refl _) BZ.out (.int .i64 K) (.int .i64 F) (.int .i64 R) (.bool M) (.int .i64 C)
           rw [hW5]
           go_wp2
           go_meet
           exact ⟨_, rfl, Lib.hid ⟨OX, BX⟩⟩)
    case rest =>
    obtain ⟨bq, rfl, HC5⟩ := hcut
    obtain ⟨W5, rfl⟩ : ∃ W5 : World, W5 = wc := ⟨_, rfl⟩
    have HO5 := Lib.hid (HO.out.1.trans HC5.out.1)
    have HP5 := Lib.hid (HO.out.2.1.trans HC5.out.1)
    have HX5 := Lib.hid (HO.out.2.2.keep HC5.out.1)
    obtain ⟨h0, h1, h2, h3, h4⟩ := head_all HC5.out.2
    obtain ⟨D0, D1, D2, D3, D4, D5, D6, D7, D8, D9⟩ := HX5.out.all
    clear c5 t0
    go_wp2_with fail
    cases I with
    | false =>
      have HF := Lib.hid (HQ.out.trans (chkS_5 H1.out H2.out H3.out H4.out (allB_no HX.out (HLW.out.trans (by simp)))))
      refine wp_region_only mixedSt (by kernel_rfl) ?_
      repeat (with_reducible refine wpQuiet_step ?_; intro K hK; go_simp; first | (with_reducible refine hK _ ?_; clear hK K) | (apply Exists.intro; with_reducible refine ⟨fun _ => ?_, hK _ ?_⟩; (first | (go_at_call 30; with_reducible refine wat_call (HSZ.out _)) | (go_at_call 35; with_reducible refine wat_call (HQT.out _)) | (go_at_call 36; with_reducible refine wat_call (HSM.out _))); clear hK K))
      refine wpQuiet_nil ?_
      rintro w' ⟨⟨nq, osq⟩, rfl⟩
      obtain ⟨W6, hW6, QW6⟩ := wat_name W5 nq osq
      rw [hW6]
      clear hW6
      have O6 := Lib.hid (HO5.out.trans QW6.out)
      have P6 := Lib.hid (HP5.out.trans QW6.out)
      have X6 := Lib.hid (HX5.out.keep QW6.out)
      clear QW6 h0 h1 h2 h3 h4 D0 D1 D2 D3 D4 D5 D6 D7 D8 D9
      go_wp2
      go_ret
      exact ⟨ret_int (by rw [HF.out]), O6.out⟩
    | true =>
      cases S with
      | false =>
        have HF := Lib.hid (HQ.out.trans (chkS_5 H1.out H2.out H3.out H4.out (allB_no HX.out (HLW.out.trans (by simp)))))
        refine wp_region_only mixedSt (by kernel_rfl) ?_
        repeat (with_reducible refine wpQuiet_step ?_; intro K hK; go_simp; first | (with_reducible refine hK _ ?_; clear hK K) | (apply Exists.intro; with_reducible refine ⟨fun _ => ?_, hK _ ?_⟩; (first | (go_at_call 30; with_reducible refine wat_call (HSZ.out _)) | (go_at_call 35; with_reducible refine wat_call (HQT.out _)) | (go_at_call 36; with_reducible refine wat_call (HSM.out _))); clear hK K))
        refine wpQuiet_nil ?_
        rintro w' ⟨⟨nq, osq⟩, rfl⟩
        obtain ⟨W6, hW6, QW6⟩ := wat_name W5 nq osq
        rw [hW6]
        clear hW6
        have O6 := Lib.hid (HO5.out.trans QW6.out)
        have P6 := Lib.hid (HP5.out.trans QW6.out)
        have X6 := Lib.hid (HX5.out.keep QW6.out)
        clear QW6 h0 h1 h2 h3 h4 D0 D1 D2 D3 D4 D5 D6 D7 D8 D9
        go_wp2
        go_ret
        exact ⟨ret_int (by rw [HF.out]), O6.out⟩
      | true =>
        have HN2 := Lib.hid (allB_next HNO.out HX.out (HLW.out.trans (by simp)))
        refine wp_region_only mixedSt (by kernel_rfl) ?_
        repeat (with_reducible refine wpQuiet_step ?_; intro K hK; go_simp; first | (with_reducible refine hK _ ?_; clear hK K) | (apply Exists.intro; with_reducible refine ⟨fun _ => ?_, hK _ ?_⟩; (first | (go_at_call 30; with_reducible refine wat_call (HSZ.out _)) | (go_at_call 35; with_reducible refine wat_call (HQT.out _)) | (go_at_call 36; with_reducible refine wat_call (HSM.out _))); clear hK K))
        refine wpQuiet_nil ?_
        rintro w' ⟨⟨nq, osq⟩, rfl⟩
        obtain ⟨W6, hW6, QW6⟩ := wat_name W5 nq osq
        rw [hW6]
        clear hW6
        have O6 := Lib.hid (HO5.out.trans QW6.out)
        have P6 := Lib.hid (HP5.out.trans QW6.out)
        have X6 := Lib.hid (HX5.out.keep QW6.out)
        clear QW6 h0 h1 h2 h3 h4 D0 D1 D2 D3 D4 D5 D6 D7 D8 D9
        go_wp2
        go_roundw
        case rel => exact ⟨k + 1, by omega, by go_num, HN2, Lib.hid ⟨O6.out, P6.out, X6.out⟩⟩
        case measure => simp [intOf]; omega
  case neg =>
  obtain rfl : k = s.smalls.length := by omega
  have H5 := Lib.hid (show r5 s = true from allB_yes HNO.out)
  obtain ⟨w5, rfl⟩ : ∃ w5 : World, w5 = wr := ⟨_, rfl⟩
  have O5 := Lib.hid HO.out.1
  have X5 := Lib.hid HO.out.2.2
  clear HNO HO hlt hk
  obtain ⟨c0, c1, c2, c3, c4, c5, c6, c7, c8, c9⟩ := X5.out
  go_wp2_with fail
  go_at_call 37
  refine (HLG.out _ O5.out).mono ?_
  rintro e w6 ⟨rfl, o⟩
  have O6 := Lib.hid (O5.out.trans o)
  have X6 := Lib.hid (X5.out.keep o)
  clear o c0 c1 c2 c3 c4 c5 c6 c7 c8 c9
  cases h6 : r6 s
  case false =>
    have HF := Lib.hid (HQ.out.trans (chkS_6 H1.out H2.out H3.out H4.out H5.out h6))
    clear h6
    go_wp2
    go_ret
    exact ⟨ret_int (by rw [HF.out]), O6.out⟩
  case true =>
  have H6 := Lib.hid h6
  clear h6
  obtain ⟨c0, c1, c2, c3, c4, c5, c6, c7, c8, c9⟩ := X6.out
  go_wp2_with fail
  go_at_call 38
  refine (HRT.out _ O6.out).mono ?_
  rintro e w7 ⟨rfl, o⟩
  have O7 := Lib.hid (O6.out.trans o)
  have X7 := Lib.hid (X6.out.keep o)
  clear o c0 c1 c2 c3 c4 c5 c6 c7 c8 c9
  cases h7 : r7 s
  case false =>
    have HF := Lib.hid (HQ.out.trans (chkS_7 H1.out H2.out H3.out H4.out H5.out H6.out h7))
    clear h7
    go_wp2
    go_ret
    exact ⟨ret_int (by rw [HF.out]), O7.out⟩
  case true =>
  have H7 := Lib.hid h7
  clear h7
  obtain ⟨c0, c1, c2, c3, c4, c5, c6, c7, c8, c9⟩ := X7.out
  go_wp2_with fail
  go_at_call 25
  refine (HAL.out _ O7.out).mono ?_
  rintro e w8 ⟨v8, rfl, hs8, o⟩
  have O8 := Lib.hid (O7.out.trans o)
  have X8 := Lib.hid (X7.out.keep o)
  have S8 := Lib.hid hs8
  obtain ⟨A8, c88, rfl, hc8, hm8⟩ := hs8.form
  unfold maxLen at hm8
  have hob : s.objs.length ≤ 40000 := by
    have h1 := smalls_len s
    unfold St.objs
    rw [List.length_append, List.length_map]
    omega
  clear o hs8 c0 c1 c2 c3 c4 c5 c6 c7 c8 c9
  go_wp2_with fail
  go_loopw [11] (fun i wr => ∃ k : Nat, k ≤ s.objs.length ∧ i = .int .i64 k ∧ Hid (∀ (j : Nat) y, j < k → s.objs[j]? = some y → fieldsR s.objs s.ws y = true) ∧ Hid (Only nob w wr ∧ Only nob w8 wr ∧ SBox wr p s (.slice Aw s.ws.length cw) (.slice At s.tb.length ct) vf (.slice Al s.sl.length cl))) (fun i _ => s.objs.length - (intOf i).toNat)
  case atStart => exact ⟨0, Nat.zero_le _, rfl, Lib.hid (fun j _ hj _ => absurd hj (Nat.not_lt_zero j)), Lib.hid ⟨O8.out, Only.refl _ _, X8.out⟩⟩
  case round =>
  obtain ⟨k, hk, rfl, HNO, HO⟩ := hrel
  by_cases hlt : k < s.objs.length
  case pos =>
    obtain ⟨x0, hx⟩ : ∃ x, s.objs[k]? = some x := ⟨_, List.getElem?_eq_getElem hlt⟩
    obtain ⟨bt, ot, rfl, hbt, t0⟩ := sl_int S8.out HO.out.2.1.whole hx
    have HX := Lib.hid hx
    have h0 : ohE s.ws x0 = 0 := obj_head H4.out H6.out (List.mem_of_getElem? hx)
    obtain ⟨xn, hxn, hob0⟩ := ob_of h0
    have hxl : xn < s.ws.length := hob0.there
    have hbn := oh_bounds h0
    obtain ⟨K, hK⟩ : ∃ K, K = ohK s.ws x0 := ⟨_, rfl⟩
    obtain ⟨F, hF⟩ : ∃ F, F = ohF s.ws x0 := ⟨_, rfl⟩
    obtain ⟨R, hR⟩ : ∃ R, R = ohR s.ws x0 := ⟨_, rfl⟩
    obtain ⟨M, hM⟩ : ∃ M, M = ohM s.ws x0 := ⟨_, rfl⟩
    obtain ⟨C, hC⟩ : ∃ C, C = ohC s.ws x0 := ⟨_, rfl⟩
    obtain ⟨E, hE⟩ : ∃ E, E = ohE s.ws x0 := ⟨_, rfl⟩
    have HHD := Lib.hid (show ∀ W', Only nob wr W' → Calls Tryz.prog 12 #[.slice Aw s.ws.length cw, .int .i64 x0] W' fun e w' => e = .returned (.tuple #[.agg #[.int .i64 K, .int .i64 F, .int .i64 R, .bool M, .int .i64 C], .int .i64 E]) ∧ Only nob W' w' from fun W' o => by
      have o2 := HO.out.1.trans o
      rw [hE, hK, hF, hR, hM, hC]
      exact rHead_any _ B s.ws x0 W' (HR.out.words.below (o2.below hB fun _ h => h.elim)) (Nat.le_trans hB o2.size) HOK.out.ws HOK.out.few.1)
    have hF0 : 0 ≤ F ∧ 0 ≤ R ∧ (xn : Int) + (1 + F + R) ≤ s.ws.length := by
      rw [hF, hR]
      exact ⟨hbn.1, hbn.2.1, by have := hbn.2.2.2.1; omega⟩
    have HFR2 := Lib.hid (show fieldsR s.objs s.ws x0 = ((List.range F.toNat).all fun j => leads s.objs (wd s.ws (x0 + 1 + (j : Nat)).toNat)) by rw [hF]; rfl)
    have c5 := HO.out.2.2.c5
    have HXN := Lib.hid hxn
    clear hx h0 hE hK hF hR hM hC hob0 hbn hxn
    have HN0 := Lib.hid (show Only nob wr wr.drew from (Only.refl nob wr).drewN 1)
    have HN1 := Lib.hid (show Only nob wr (wr.alloc (.cells #[.int .i64 0, .int .i64 0, .int .i64 0, .bool false, .int .i64 0] 36)).drew from ((Only.refl nob wr).alloc _).drewN 1)
    go_upto_region 25 with fail
    go_cut [12] (fun sp wx => ∃ bq : Nat, sp = .pointer (some ⟨bq, 0, none⟩) ∧ Hid (Only nob wr wx ∧ Blk wx bq 36 #[.int .i64 K, .int .i64 F, .int .i64 R, .bool M, .int .i64 C]))
    case first =>
      go_region_held3 (fun w' => w'.cell? ⟨p, 5, none⟩ = some (.slice Aw s.ws.length cw) ∧ w'.cell? ⟨bt, ot + k, none⟩ = some (.int .i64 x0)) (first | (with_reducible exact C1.out) | (with_reducible exact And.intro ((O3.out.alloc _).keeps c5) ((O3.out.alloc _).keeps t0)) | (with_reducible exact And.intro (HN0.out.keeps c5) (HN0.out.keeps t0)) | (with_reducible exact And.intro (((Only.refl nob wr).alloc _).keeps c5) (((Only.refl nob wr).alloc _).keeps t0)) | go_keep | with_reducible exact And.intro ((only_five O3.out (Nat.le_refl _) _ _ _ _ _).keeps c5) ((only_five O3.out (Nat.le_refl _) _ _ _ _ _).keeps t0))
        ((go_at_call 12
          first
          | (with_reducible refine (HHD.out wr.drew HN0.out).mono ?_
             rintro e w3 ⟨rfl, o⟩
             have O3 := Lib.hid o.drewL
             have TA := True.intro
             have C1 := Lib.hid (And.intro (O3.out.keeps c5) (O3.out.keeps t0))
             clear o)
          | (with_reducible refine (HHD.out (wr.alloc (.cells #[.int .i64 0, .int .i64 0, .int .i64 0, .bool false, .int .i64 0] 36)).drew HN1.out).mono ?_
             rintro e w3 ⟨rfl, o⟩
             have O3 := Lib.hid (((Only.refl nob wr).alloc (.cells #[.int .i64 0, .int .i64 0, .int .i64 0, .bool false, .int .i64 0] 36)).trans o.drewL)
             have BZ := Lib.hid ((Blk.new wr 36 #[.int .i64 0, .int .i64 0, .int .i64 0, .bool false, .int .i64 0]).keep o.drewL id)
             have TB := True.intro
             obtain ⟨y0, y1, y2, y3, y4⟩ := cells5 BZ.out
             obtain ⟨z0, z1, z2, z3, z4⟩ := frees5 BZ.out
             have C1 := Lib.hid (And.intro (O3.out.keeps c5) (O3.out.keeps t0))
             clear o)))
      all_goals
        first
        | (clear TA
           obtain ⟨W5, hW5, HBX⟩ := box_head w3 K F R M C
           have HW5 := Lib.hid hW5
           clear hW5
           rw [HW5.out]
           go_wp2
           go_meet
           exact ⟨_, rfl, Lib.hid ⟨O3.out.trans HBX.out.1, HBX.out.2⟩⟩)
        | (clear TB y0 y1 y2 y3 y4 z0 z1 z2 z3 z4
           obtain ⟨W5, hW5, OX, BX⟩ := puts5 O3.out (Nat.le_refl _) BZ.out (.int .i64 K) (.int .i64 F) (.int .i64 R) (.bool M) (.int .i64 C)
           rw [hW5]
           go_wp2
           go_meet
           exact ⟨_, rfl, Lib.hid ⟨OX, BX⟩⟩)
    case rest =>
    obtain ⟨bq, rfl, HC5⟩ := hcut
    obtain ⟨W5, rfl⟩ : ∃ W5 : World, W5 = wc := ⟨_, rfl⟩
    have HO5 := Lib.hid (HO.out.1.trans HC5.out.1)
    have HP5 := Lib.hid (HO.out.2.1.trans HC5.out.1)
    have HX5 := Lib.hid (HO.out.2.2.keep HC5.out.1)
    clear c5 t0
    obtain ⟨f, rfl⟩ : ∃ f : Nat, F = f := ⟨F.toNat, by omega⟩
    go_wp2_with fail
    go_loopw [14] (fun i wy => ∃ j : Nat, j ≤ f ∧ i = .int .i64 j ∧ Hid (∀ (m : Nat), m < j → leads s.objs (wd s.ws (x0 + 1 + (m : Nat)).toNat) = true) ∧ Hid (Only nob W5 wy)) (fun i _ => f - (intOf i).toNat)
    case atStart => exact ⟨0, Nat.zero_le _, rfl, Lib.hid (fun m hm => absurd hm (Nat.not_lt_zero m)), Lib.hid (Only.refl _ _)⟩
    case round =>
    obtain ⟨j, hj, rfl, HNJ, HOJ⟩ := hrel
    obtain ⟨wy, rfl⟩ : ∃ wy : World, wy = wr := ⟨_, rfl⟩
    have HBH := Lib.hid (HC5.out.2.keep HOJ.out id)
    have HXJ := Lib.hid (HX5.out.keep HOJ.out)
    obtain ⟨g0, g1, g2, g3, g4⟩ := cells5 HBH.out
    have OW := Lib.hid (HO5.out.trans HOJ.out)
    have PW := Lib.hid (HP5.out.trans HOJ.out)
    by_cases hjl : j < f
    case pos =>
      obtain ⟨a0, ha0⟩ : ∃ a0 : Nat, (x0 + 1 + (j : Nat)).toNat = a0 := ⟨_, rfl⟩
      have hxz := HXN.out
      have ha1 : x0 + 1 + (j : Int) = a0 := by omega
      have ha2 : a0 < s.ws.length := by omega
      obtain ⟨y, hy⟩ : ∃ y, s.ws[a0]? = some y := ⟨_, List.getElem?_eq_getElem ha2⟩
      obtain ⟨bw, ow, rfl, hbw, u0⟩ := sl_word HR.out.words (OW.out.below hB fun _ h => h.elim) hy
      have hyw : wd s.ws a0 = y := by unfold wd; rw [List.getD_eq_getElem?_getD, hy]; rfl
      have hyf : y < full := HOK.out.ws y (List.mem_of_getElem? hy)
      have HLD := Lib.hid (show ∀ W', Only nob wy W' → Calls Tryz.prog 39 #[.slice (some ⟨bt, ot, none⟩) s.objs.length c88, .int .u64 (y : Nat)] W' fun e w' => e = .returned (.bool (leads s.objs y)) ∧ Only nob W' w' from fun W' o => rLeads15 _ s.objs y _ W' (S8.out.below (PW.out.trans o).whole) (PW.out.trans o).size hyf)
      have HLJ := Lib.hid (show leads s.objs (wd s.ws (x0 + 1 + (j : Nat)).toNat) = leads s.objs y by rw [ha0, hyw])
      obtain ⟨b2, o2, e2, -, t1⟩ := sl_int S8.out PW.out.whole HX.out
      obtain ⟨rfl, rfl⟩ : bt = b2 ∧ ot = o2 := by simpa using e2
      obtain ⟨D0, D1, D2, D3, D4, D5, D6, D7, D8, D9⟩ := HXJ.out.all
      have T1 := wat_cell t1
      have U0 := wat_cell u0
      have hi0 : 0 ≤ x0 := by omega
      have hi1 : x0 ≤ 98304 := by omega
      have m1 : IntKind.i64.wrap (x0 + 1) = x0 + 1 := by rw [IntKind.wrap_i64]; omega
      have m2 : IntKind.i64.wrap (x0 + 1 + (j : Int)) = (a0 : Int) := by rw [IntKind.wrap_i64]; omega
      have m3 : IntKind.i64.wrap (a0 : Int) = (a0 : Int) := by rw [IntKind.wrap_i64]; omega
      clear e2 hy hyw hyf ha0 hxz
      go_upto_region 29 with fail
      clear g0 g1 g2 g3 g4 t1 u0
      cases hl : leads s.objs y
      case false =>
        rw [hl] at HLD HLJ
        have HF := Lib.hid (HQ.out.trans (chkS_8 H1.out H2.out H3.out H4.out H5.out H6.out H7.out (allB_no HX.out (HFR2.out.trans (allR_no (by omega) HLJ.out)))))
        clear hl
        refine wp_region_only mixedSt (by kernel_rfl) ?_
        repeat (with_reducible refine wpQuiet_step ?_; intro K hK; go_simp; first | (with_reducible refine hK _ ?_; clear hK K) | (apply Exists.intro; with_reducible refine ⟨fun _ => ?_, hK _ ?_⟩; (first | (go_at_call 39; with_reducible refine wat_call (HLD.out _ (only_wat _ _ _)))); clear hK K))
        refine wpQuiet_nil ?_
        rintro w' ⟨⟨nq, osq⟩, rfl⟩
        obtain ⟨W9, hW9, QW9⟩ := wat_name wy nq osq
        rw [hW9]
        clear hW9
        have O9 := Lib.hid (OW.out.trans QW9.out)
        clear T1 U0 D0 D1 D2 D3 D4 D5 D6 D7 D8 D9
        go_wp2
        go_ret
        exact ⟨ret_int (by rw [HF.out]), O9.out⟩
      case true =>
        rw [hl] at HLD HLJ
        have HNJ2 := Lib.hid (show ∀ (m : Nat), m < j + 1 → leads s.objs (wd s.ws (x0 + 1 + (m : Nat)).toNat) = true from fun m hm => by
          rcases Nat.lt_or_ge m j with h' | h'
          · exact HNJ.out m h'
          · obtain rfl : m = j := by omega
            exact HLJ.out)
        clear hl
        refine wp_region_only mixedSt (by kernel_rfl) ?_
        repeat (with_reducible refine wpQuiet_step ?_; intro K hK; go_simp; first | (with_reducible refine hK _ ?_; clear hK K) | (apply Exists.intro; with_reducible refine ⟨fun _ => ?_, hK _ ?_⟩; (first | (go_at_call 39; with_reducible refine wat_call (HLD.out _ (only_wat _ _ _)))); clear hK K))
        refine wpQuiet_nil ?_
        rintro w' ⟨⟨nq, osq⟩, rfl⟩
        obtain ⟨W9, hW9, QW9⟩ := wat_name wy nq osq
        rw [hW9]
        clear hW9
        have O9 := Lib.hid (OW.out.trans QW9.out)
        clear T1 U0 D0 D1 D2 D3 D4 D5 D6 D7 D8 D9
        go_wp2
        go_roundw
        case rel => exact ⟨j + 1, by omega, by go_num, HNJ2, Lib.hid (HOJ.out.trans QW9.out)⟩
        case measure => simp [intOf]; omega
    case neg =>
    obtain rfl : j = f := by omega
    have HN2 := Lib.hid (allB_next HNO.out HX.out (HFR2.out.trans (allR_yes HNJ.out)))
    go_wp2
    go_roundw
    case rel => exact ⟨k + 1, by omega, by go_num, HN2, Lib.hid ⟨OW.out, PW.out, HXJ.out⟩⟩
    case measure => simp [intOf]; omega
  case neg =>
  obtain rfl : k = s.objs.length := by omega
  have H8 := Lib.hid (show r8 s = true from allB_yes HNO.out)
  obtain ⟨w9, rfl⟩ : ∃ w9 : World, w9 = wr := ⟨_, rfl⟩
  have O9 := Lib.hid HO.out.1
  have P9 := Lib.hid HO.out.2.1
  have X9 := Lib.hid HO.out.2.2
  clear HNO HO hlt hk
  go_wp2_with fail
  go_loopw [15] (fun i wr => ∃ k : Nat, k ≤ s.sl.length ∧ i = .int .i64 k ∧ Hid (∀ (j : Nat) y, j < k → s.sl[j]? = some y → slotR s.objs y = true) ∧ Hid (Only nob w9 wr)) (fun i _ => s.sl.length - (intOf i).toNat)
  case atStart => exact ⟨0, Nat.zero_le _, rfl, Lib.hid (fun j _ hj _ => absurd hj (Nat.not_lt_zero j)), Lib.hid (Only.refl _ _)⟩
  case round =>
  obtain ⟨k, hk, rfl, HNO, HO⟩ := hrel
  have OW := Lib.hid (O9.out.trans HO.out)
  have PW := Lib.hid (P9.out.trans HO.out)
  have XW := Lib.hid (X9.out.keep HO.out)
  obtain ⟨c0, c1, c2, c3, c4, c5, c6, c7, c8, c9⟩ := XW.out
  by_cases hlt : k < s.sl.length
  case pos =>
    obtain ⟨x, hx⟩ : ∃ x, s.sl[k]? = some x := ⟨_, List.getElem?_eq_getElem hlt⟩
    obtain ⟨bt, ot, rfl, hbt, t0, t1, t2⟩ := sl_slot HR.out.slots (OW.out.below hB fun _ h => h.elim) hx
    have hx64 : x.2.2 < full := (HOK.out.sl.get hx).2.2
    obtain ⟨u, gn, y⟩ := x
    have HX := Lib.hid hx
    simp only at hx64 t0 t1 t2
    have HLD := Lib.hid (show ∀ W', Only nob wr W' → Calls Tryz.prog 39 #[.slice A8 s.objs.length c88, .int .u64 (y : Nat)] W' fun e w' => e = .returned (.bool (leads s.objs y)) ∧ Only nob W' w' from fun W' o => rLeads15 _ s.objs y _ W' (S8.out.below (PW.out.trans o).whole) (PW.out.trans o).size hx64)
    clear hx hx64
    cases u with
    | false =>
      have HN2 := Lib.hid (allB_next (p := slotR s.objs) HNO.out HX.out rfl)
      go_wp2
      go_roundw
      case rel => exact ⟨k + 1, by omega, by go_num, (by first | exact HN2 | exact Lib.hid fun j a b c hj h => HN2.out j (a, b, c) hj h), HO⟩
      case measure => simp [intOf]; omega
    | true =>
      go_wp2_with fail
      go_at_call 39
      refine (HLD.out _ (Only.refl _ _)).mono ?_
      cases hl : leads s.objs y
      case false =>
        have HF := Lib.hid (HQ.out.trans (chkS_9 H1.out H2.out H3.out H4.out H5.out H6.out H7.out H8.out (allB_no (p := slotR s.objs) HX.out hl)))
        rintro e wl ⟨rfl, o⟩
        have O10 := Lib.hid (OW.out.trans o)
        clear o hl c0 c1 c2 c3 c4 c5 c6 c7 c8 c9 t0 t1 t2
        go_wp2
        go_ret
        exact ⟨ret_int (by rw [HF.out]), O10.out⟩
      case true =>
        have HN2 := Lib.hid (allB_next (p := slotR s.objs) HNO.out HX.out hl)
        rintro e wl ⟨rfl, o⟩
        have O10 := Lib.hid (HO.out.trans o)
        clear o hl c0 c1 c2 c3 c4 c5 c6 c7 c8 c9 t0 t1 t2
        go_wp2
        go_roundw
        case rel => exact ⟨k + 1, by omega, by go_num, (by first | exact HN2 | exact Lib.hid fun j a b c hj h => HN2.out j (a, b, c) hj h), O10⟩
        case measure => simp [intOf]; omega
  case neg =>
  obtain rfl : k = s.sl.length := by omega
  have HF := Lib.hid (HQ.out.trans (chkS_iff.2 ⟨H1.out, H2.out, H3.out, H4.out, H5.out, H6.out, H7.out, H8.out, allB_yes (p := slotR s.objs) HNO.out⟩))
  go_wp2
  go_ret
  exact ⟨ret_int (by rw [HF.out]), OW.out⟩
end Go.Proofs.YtciidodmhigpdaaGreatDoor

/- The document's own answers for heaps: Objects. -/
namespace Go.Proofs.YtciidodmhigpdaaGreatDoor
open Go.RowKit
set_option maxRecDepth 100000

theorem obL_yes {s : St} (h : chkS s = 0) : obE s = 0 ∧ obL s = s.objs := by unfold obE obL; rw [if_pos h, if_pos h]; exact ⟨rfl, rfl⟩
theorem obL_no {s : St} (h : ¬ chkS s = 0) : obE s = 4 ∧ obL s = [] := by unfold obE obL; rw [if_neg h, if_neg h]; exact ⟨rfl, rfl⟩
set_option maxHeartbeats 2000000 in
theorem rObjects15 : ObjectsC 10 := by
  intro s vw vt vf vs B w h hB hok hpar
  obtain ⟨W, hW, HB⟩ := box_state w s vw vt vf vs
  have HW := Lib.hid hW
  have HR1 := h.only HB.out.1 hB
  have hB1 := Nat.le_trans hB HB.out.1.size
  have HCK := Lib.hid (rCheck15 s vw vt vf vs B W HR1 hB1 hok (hpar.old HB.out.1))
  have HAL := Lib.hid (show ∀ W', Only nob W W' → Calls Tryz.prog 25 #[.agg #[.int .i64 s.cf.semi, .int .i64 s.cf.large, .int .i64 s.cf.slots, .int .i64 s.cf.limit, .bool s.sec, vw, .int .i64 s.top, vt, vf, vs]] W' fun e w' => ∃ v', e = .returned v' ∧ Sl w' w'.heap.size 1 v' s.objs.length (i64s s.objs) ∧ Only nob W' w' from fun W' o => by
    refine (rAll15 s _ _ _ _ B W' (HR1.only o hB1) (Nat.le_trans hB1 o.size) hok).mono ?_
    rintro e w' ⟨v', rfl, hO, o3⟩
    exact ⟨v', rfl, Sl.of_own hO (by rw [i64s_len, Nat.mul_one]), o3⟩)
  obtain ⟨c0, c1, c2, c3, c4, c5, c6, c7, c8, c9⟩ := HB.out.2.2
  obtain ⟨z, hz⟩ : ∃ z, z = chkS s := ⟨_, rfl⟩
  have HZ := Lib.hid hz
  rw [← hz] at HCK
  obtain ⟨E, hE⟩ : ∃ E, E = obE s := ⟨_, rfl⟩
  obtain ⟨L, hL⟩ : ∃ L, L = obL s := ⟨_, rfl⟩
  have HEL := Lib.hid (And.intro hE hL)
  rw [← hE, ← hL]
  clear hW HR1 hB1 hz hE hL h hok hpar
  go_enter Tryz.func10, Tryz.ntmps10
  go_upto_region 1 with fail
  rw [HW.out]
  go_wp2_with fail
  go_at_call 14
  refine HCK.out.mono ?_
  rintro e w1 ⟨rfl, o⟩
  have O1 := Lib.hid o
  have X1 := Lib.hid (HB.out.2.2.keep o)
  clear o c0 c1 c2 c3 c4 c5 c6 c7 c8 c9
  obtain ⟨c0, c1, c2, c3, c4, c5, c6, c7, c8, c9⟩ := X1.out
  by_cases hz0 : z = 0
  · have HY := Lib.hid (obL_yes (s := s) (HZ.out.symm.trans hz0))
    subst hz0
    go_wp2_with fail
    go_at_call 25
    refine (HAL.out _ O1.out).mono ?_
    rintro e w2 ⟨v2, rfl, hs, o⟩
    have O2 := Lib.hid (HB.out.1.trans (O1.out.trans o))
    have S2 := Lib.hid hs
    clear o hs c0 c1 c2 c3 c4 c5 c6 c7 c8 c9
    go_wp2
    go_ret2
    exact ⟨_, by rw [HEL.out.1, HY.out.1]; rfl, by rw [HEL.out.2, HY.out.2]; exact S2.out, O2.out⟩
  · have HY := Lib.hid (obL_no (s := s) (fun e => hz0 (HZ.out.trans e)))
    have hbq : (z != 0) = true := by simpa using hz0
    clear hz0 c0 c1 c2 c3 c4 c5 c6 c7 c8 c9
    go_wp2
    go_ret2
    exact ⟨_, by rw [HEL.out.1, HY.out.1]; rfl, by rw [HEL.out.2, HY.out.2]; exact Sl.nil_, HB.out.1.trans O1.out⟩
end Go.Proofs.YtciidodmhigpdaaGreatDoor
