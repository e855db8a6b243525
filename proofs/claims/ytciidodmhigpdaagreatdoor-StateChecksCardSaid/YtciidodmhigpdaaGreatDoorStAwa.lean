/- The heaps of chapter 15's first statement lines: what Check says of each. No program in it. -/
import Derived.Test.YtciidodmhigpdaaGreatDoorStBase
import Derived.Test.YtciidodmhigpdaaGreatDoorRefSt2
namespace Go.Proofs.YtciidodmhigpdaaGreatDoor
open Go.RowKit
set_option maxRecDepth 100000

def aC : Cf := ⟨4, 3, 2, 3⟩
theorem aC_ok : aC.ok := by unfold Cf.ok aC; simp
def aS : St := ⟨aC, false, List.replicate 11 0, 0, [], [(8, 3)], [(false, 0, 0), (false, 0, 0)]⟩
theorem aS_new : newS aC = aS := by
  rw [newS_ok aC_ok]
  unfold cLarge cWords
  rw [if_pos aC_ok]
  unfold aS aC
  simp
  unfold Cf.ok
  simp
def aT : St := { aS with top := 1 }
def aU : St := { aS with ws := [3, 38, 0, 0, 0, 0, 0, 0, 0, 0, 0], top := 1 }
def aV : St := { aU with sl := [(true, 0, 18), (false, 0, 0)] }
theorem aS_may : May15 aS := aS_new ▸ may_new aC_ok
theorem aS_chk : chkS aS = 0 := chkS_iff.2 aS_may
theorem a_frm : cFrom aC false = (0, 4) := by
  rw [cFrom_first aC_ok]
  rfl
theorem aT_frm : aT.frm = (0, 4) := a_frm
theorem aU_frm : aU.frm = (0, 4) := a_frm
theorem aV_frm : aV.frm = (0, 4) := a_frm
theorem a_many {ws : List Nat} (h : ws.length = 11) : (ws.length : Int) = cWords aC := by
  rw [h]
  unfold cWords
  rw [if_pos aC_ok]
  rfl
theorem a_r3 {s : St} (h1 : s.frm = (0, 4)) (h2 : s.top = 1) : r3 s = true := by
  unfold r3
  rw [h1, h2]
  decide
theorem a_may9 : may9 ((0, 4) : Sp) 1 := by unfold may9 Sp.ok most; simp
theorem aT_chk : chkS aT = 4 := by
  refine chkS_4 aC_ok (a_many rfl) (a_r3 aT_frm rfl) fun h0 => ?_
  have hok := wkE_zero h0
  have hs : aT.steps = tr (hAr aT.ws) 1 0 := by
    unfold St.steps walkL
    rw [aT_frm]
    exact if_pos a_may9
  rw [hs] at hok
  have hE : (hAr aT.ws 0).e = 3 := by decide
  have hsw : swE (hAr aT.ws) 1 0 ≠ 0 := by rw [sw_head (by rw [hE]; decide), hE]; decide
  rw [tr_err (by decide) hsw] at hok
  have := hok _ (List.mem_singleton.2 rfl)
  rw [item_e] at this
  exact hsw this
theorem aU_steps : aU.steps = [item (hAr aU.ws) 1 0] := by
  have hs : aU.steps = tr (hAr aU.ws) 1 0 := by
    unfold St.steps walkL
    rw [aU_frm]
    exact if_pos a_may9
  have hE : (hAr aU.ws 0).e = 0 := by decide
  have hZ : osz (hAr aU.ws) 0 = 1 := by decide
  have hsw : swE (hAr aU.ws) 1 0 = 0 := sw_ok hE (by rw [hZ]; decide)
  rw [hs, tr_ok (hAr_ok _) (by decide) hsw, hZ, tr_end (by decide)]
theorem aU_item : (item (hAr aU.ws) 1 0).e = 0 := by
  have hE : (hAr aU.ws 0).e = 0 := by decide
  have hZ : osz (hAr aU.ws) 0 = 1 := by decide
  rw [item_e]
  exact sw_ok hE (by rw [hZ]; decide)
theorem aU_walk : wkE aU.steps = 0 ∧ aU.smalls = [0] := by
  have hok : ∀ y ∈ aU.steps, y.e = 0 := by
    intro y hy
    rw [aU_steps, List.mem_singleton] at hy
    rw [hy]; exact aU_item
  obtain ⟨-, h2, h3⟩ := wk_ok hok aU.top
  refine ⟨h2, ?_⟩
  unfold St.smalls
  rw [h3, aU_steps]
  simp [ats, item_at]
theorem aU_objs : aU.objs = [0] := by
  unfold St.objs
  rw [aU_walk.2]
  rfl
theorem a_table : TableP (cLarge aC) [] [(8, 3)] := by
  have h := aS_may.big
  unfold r6 at h
  rw [Bool.and_eq_true, decide_eq_true_iff] at h
  exact h.1
theorem a_small : cSmall aC 1 = true := by
  unfold cSmall
  rw [decide_eq_true aC_ok]
  rfl
theorem aU_r5 : r5 aU = true := by
  unfold r5
  rw [aU_walk.2]
  have hZ : osz (hAr aU.ws) 0 = 1 := by decide
  show (low aC aU.ws 0 && true) = true
  unfold low
  rw [hZ, a_small]
  decide
theorem aU_r6 : r6 aU = true := by
  unfold r6
  rw [Bool.and_eq_true, decide_eq_true_iff]
  exact ⟨a_table, rfl⟩
theorem aU_r8 : r8 aU = true := by
  unfold r8
  rw [aU_objs]
  have : ohF aU.ws 0 = 0 := by decide
  show (fieldsR [0] aU.ws 0 && true) = true
  unfold fieldsR
  rw [this]
  rfl
theorem aU_may : May15 aU where
  ok := aC_ok
  many := a_many rfl
  top := a_r3 aU_frm rfl
  walk := aU_walk.1
  low := aU_r5
  big := aU_r6
  slots := aS_may.slots
  fields := aU_r8
  leads := rfl
theorem aU_chk : chkS aU = 0 := chkS_iff.2 aU_may
theorem aV_chk : chkS aV = 9 := by
  refine chkS_9 aC_ok (a_many rfl) (a_r3 aV_frm rfl) aU_walk.1 aU_r5 aU_r6 ?_ aU_r8 ?_
  · show rightS dE [(true, 0, 18), (false, 0, 0)] 2 = true
    decide
  · show ([((true, 0, 18) : Slt), (false, 0, 0)].all fun t => !t.1 || leads aU.objs t.2.2) = false
    rw [aU_objs]
    decide
theorem noSt_chk : chkS noSt = 1 := chkS_1 (by unfold Cf.ok noSt; simp)
theorem a_lists : obE aS = 0 ∧ obL aS = [] ∧ obE aU = 0 ∧ obL aU = [0] := by
  obtain ⟨h1, h2⟩ := obL_yes aS_chk
  obtain ⟨h3, h4⟩ := obL_yes aU_chk
  refine ⟨h1, ?_, h3, h4.trans aU_objs⟩
  rw [h2, ← aS_new, newS_ok aC_ok]
  unfold St.objs St.smalls St.steps St.frm
  simp only [cFrom_first aC_ok]
  unfold walkL
  rw [if_pos (by unfold may9 Sp.ok most aC; simp)]
  rw [tr_end (by omega)]
  rfl
theorem a_used : usT aU = 1 := by
  rw [usT_yes aC_ok (by rw [aU_frm]; decide) (by rw [aU_frm]; decide), aU_frm]
  decide
theorem a_head : ohE aU.ws 0 = 0 ∧ ohF aU.ws 0 = 0 := by decide
theorem a_same : sameS aS aT = false := sameS_no fun e => by
  have := congrArg St.top e
  exact absurd this (by decide)
end Go.Proofs.YtciidodmhigpdaaGreatDoor

/- What is asked of package state; the statements' Large; StateChecks: out of the contracts. -/
namespace Go.Proofs.YtciidodmhigpdaaGreatDoor
open Go.RowKit
set_option maxRecDepth 100000

/-- Used, of a heap whose lists read. -/
def UsedH (f : FuncId) : Prop := ∀ (s : St) (vw vt vf vs : Value) (B : Nat) (w : World), Rd w B s vw vt vf vs → B ≤ w.heap.size → StOk s →
  Calls Tryz.prog f #[.agg #[.int .i64 s.cf.semi, .int .i64 s.cf.large, .int .i64 s.cf.slots, .int .i64 s.cf.limit, .bool s.sec, vw, .int .i64 s.top, vt, vf, vs]] w fun e w' => e = .returned (.int .i64 (usT s)) ∧ Only nob w w'
/-- What is asked of package state. -/
structure StateC : Prop where
  new : NewC15 18
  check : CheckC 13
  objects : ObjectsC 9
  head : HeadC 11
  used : UsedH 16
  copy : CopyC 21
  same : SameC 22
/-- What the statements answer where a heap is too large. -/
def AwC : Prop := ∀ w : World, Par w → Calls Tryz.prog 8 #[] w fun e w' => e = .returned (.bool true) ∧ Only nob w w'
def largeS (s : St) : Bool := decide (400 < s.ws.length) || (decide (60 < s.tb.length) || (decide (60 < s.fr.length) || decide (100 < s.sl.length)))
theorem large_no {s : St} (h : largeS s = false) : s.ws.length ≤ 400 ∧ s.tb.length ≤ 60 ∧ s.fr.length ≤ 60 ∧ s.sl.length ≤ 100 := by
  unfold largeS at h
  simp at h
  omega
set_option maxHeartbeats 2000000 in
theorem largeL (s : St) (vw vt vf vs : Value) (B : Nat) (w : World) (h : Rd w B s vw vt vf vs) : Calls Tryz.prog 7 #[.agg #[.int .i64 s.cf.semi, .int .i64 s.cf.large, .int .i64 s.cf.slots, .int .i64 s.cf.limit, .bool s.sec, vw, .int .i64 s.top, vt, vf, vs]] w fun e w' => e = .returned (.bool (largeS s)) ∧ Only nob w w' := by
  obtain ⟨At, ct, rfl, hat, hct⟩ := h.tab.form
  obtain ⟨Aw, cw, rfl, haw, hcw⟩ := h.words.form
  obtain ⟨Al, cl, rfl, hal, hcl⟩ := h.slots.form
  obtain ⟨Af, cf, rfl, haf, hcf⟩ := h.free.form
  unfold maxLen at hct hcw hcl hcf
  obtain ⟨W, hW, HB⟩ := box_state w s (.slice Aw s.ws.length cw) (.slice At s.tb.length ct) (.slice Af s.fr.length cf) (.slice Al s.sl.length cl)
  have HW := Lib.hid hW
  obtain ⟨c0, c1, c2, c3, c4, c5, c6, c7, c8, c9⟩ := HB.out.2.2
  obtain ⟨q, hq⟩ : ∃ q, q = largeS s := ⟨_, rfl⟩
  have HQ := Lib.hid hq
  rw [← hq]
  clear hW hq h
  by_cases h1 : 400 < s.ws.length
  · have HF := Lib.hid (HQ.out.trans (show largeS s = true by unfold largeS; simp [h1]))
    go_enter Tryz.func7, Tryz.ntmps7
    go_upto_region 1 with fail
    rw [HW.out]
    go_wp2
    go_ret
    exact ⟨ret_bool (by rw [HF.out]), HB.out.1⟩
  · by_cases h2 : 60 < s.tb.length
    · have HF := Lib.hid (HQ.out.trans (show largeS s = true by unfold largeS; simp [h2]))
      go_enter Tryz.func7, Tryz.ntmps7
      go_upto_region 1 with fail
      rw [HW.out]
      go_wp2
      go_ret
      exact ⟨ret_bool (by rw [HF.out]), HB.out.1⟩
    · by_cases h3 : 60 < s.fr.length
      · have HF := Lib.hid (HQ.out.trans (show largeS s = true by unfold largeS; simp [h3]))
        go_enter Tryz.func7, Tryz.ntmps7
        go_upto_region 1 with fail
        rw [HW.out]
        go_wp2
        go_ret
        exact ⟨ret_bool (by rw [HF.out]), HB.out.1⟩
      · have HF := Lib.hid (HQ.out.trans (show largeS s = decide (100 < s.sl.length) by unfold largeS; simp [h1, h2, h3]))
        by_cases h4 : 100 < s.sl.length
        · rw [decide_eq_true h4] at HF
          go_enter Tryz.func7, Tryz.ntmps7
          go_upto_region 1 with fail
          rw [HW.out]
          go_wp2
          go_ret
          exact ⟨ret_bool (by rw [HF.out]; simp; omega), HB.out.1⟩
        · rw [decide_eq_false h4] at HF
          go_enter Tryz.func7, Tryz.ntmps7
          go_upto_region 1 with fail
          rw [HW.out]
          go_wp2
          go_ret
          exact ⟨ret_bool (by rw [HF.out]; simp; omega), HB.out.1⟩

/-- A heap whose numbers are of 64 bits. -/
structure Wide15 (s : St) : Prop where
  cf : CFit s.cf
  ws : Words s.ws
  top : I64 s.top
  tb : SpOk s.tb
  fr : SpOk s.fr
  sl : SlOk s.sl
theorem Wide15.ok {s : St} (h : Wide15 s) (hl : largeS s = false) : StOk s := by
  have := large_no hl
  exact ⟨h.cf, h.ws, h.top, h.tb, h.fr, h.sl, by omega⟩
theorem hsame_refl (k f r : Int) (m : Bool) (c : Int) : hsame k f r m c k f r m c = true := by unfold hsame; simp

set_option maxHeartbeats 16000000 in
theorem stateChecks_walk (C : StateC) (AW : AwC) (s : St) (at_ : Int) (vw vt vf vs : Value) (w : World) (h : Rd w w.heap.size s vw vt vf vs) (hok : Wide15 s) (hpar : Par w) :
    Calls Tryz.prog 3 #[.agg #[.int .i64 s.cf.semi, .int .i64 s.cf.large, .int .i64 s.cf.slots, .int .i64 s.cf.limit, .bool s.sec, vw, .int .i64 s.top, vt, vf, vs], .int .i64 at_] w fun e w' => e = .returned (.bool true) ∧ Below w.heap.size w w' := by
  obtain ⟨W, hW, HB⟩ := box_state w s vw vt vf vs
  have HW := Lib.hid hW
  obtain ⟨p, hp⟩ : ∃ p, p = w.heap.size := ⟨_, rfl⟩
  have HBX := Lib.hid HB.out.2.2
  rw [← hp] at HBX
  have HP := Lib.hid hp
  have HR := Lib.hid h
  have HPAR := Lib.hid hpar
  have HLG := Lib.hid (largeL s vw vt vf vs w.heap.size W (h.only HB.out.1 (Nat.le_refl _)))
  obtain ⟨c0, c1, c2, c3, c4, c5, c6, c7, c8, c9⟩ := HBX.out
  have HAW := Lib.hid (show ∀ W', Only nob w W' → Calls Tryz.prog 8 #[] W' fun e w' => e = .returned (.bool true) ∧ Only nob W' w' from fun W' o => AW W' (HPAR.out.old o))
  obtain ⟨Aw, cw, rfl, haw, hcw⟩ := h.words.form
  clear hW hp
  go_enter Tryz.func3, Tryz.ntmps3
  go_upto_region 1 with fail
  rw [HW.out, ← HP.out]
  go_wp2_with fail
  go_at_call 7
  refine HLG.out.mono ?_
  cases hL : largeS s
  case true =>
    rintro e w1 ⟨rfl, o⟩
    have O1 := Lib.hid (HB.out.1.trans o)
    clear o hL c0 c1 c2 c3 c4 c5 c6 c7 c8 c9 h hok hpar
    go_wp2_with fail
    go_at_call 8
    refine (HAW.out _ O1.out).mono ?_
    rintro e w2 ⟨rfl, o⟩
    have O2 := Lib.hid (O1.out.trans o)
    clear o
    go_wp2
    go_ret
    exact ⟨rfl, O2.out.whole⟩
  case false =>
  have HOK := Lib.hid (hok.ok hL)
  have hK : ∀ W', Only nob w W' → Rd W' w.heap.size s (.slice Aw s.ws.length cw) vt vf vs ∧ w.heap.size ≤ W'.heap.size ∧ Par W' := fun W' o => ⟨HR.out.only o (Nat.le_refl _), o.size, HPAR.out.old o⟩
  have HK := Lib.hid hK
  have HCK := Lib.hid (show ∀ W', Only nob w W' → Calls Tryz.prog 13 #[.agg #[.int .i64 s.cf.semi, .int .i64 s.cf.large, .int .i64 s.cf.slots, .int .i64 s.cf.limit, .bool s.sec, .slice Aw s.ws.length cw, .int .i64 s.top, vt, vf, vs]] W' fun e w' => e = .returned (.int .i64 (chkS s)) ∧ Only nob W' w' from fun W' o => C.check s _ _ _ _ _ W' (HK.out W' o).1 (HK.out W' o).2.1 HOK.out (HK.out W' o).2.2)
  have HCR := Lib.hid (show ∀ W', Only nob w W' → Calls Tryz.prog 14 #[.agg #[.int .i64 s.cf.semi, .int .i64 s.cf.large, .int .i64 s.cf.slots, .int .i64 s.cf.limit, .bool s.sec, .slice Aw s.ws.length cw, .int .i64 s.top, vt, vf, vs]] W' fun e w' => e = .returned (.int .i64 (chkS s)) ∧ Only nob W' w' from fun W' o => rCheck15 s _ _ _ _ _ W' (HK.out W' o).1 (HK.out W' o).2.1 HOK.out (HK.out W' o).2.2)
  have HUS := Lib.hid (show ∀ W', Only nob w W' → Calls Tryz.prog 16 #[.agg #[.int .i64 s.cf.semi, .int .i64 s.cf.large, .int .i64 s.cf.slots, .int .i64 s.cf.limit, .bool s.sec, .slice Aw s.ws.length cw, .int .i64 s.top, vt, vf, vs]] W' fun e w' => e = .returned (.int .i64 (usT s)) ∧ Only nob W' w' from fun W' o => C.used s _ _ _ _ _ W' (HK.out W' o).1 (HK.out W' o).2.1 HOK.out)
  have HUR := Lib.hid (show ∀ W', Only nob w W' → Calls Tryz.prog 17 #[.agg #[.int .i64 s.cf.semi, .int .i64 s.cf.large, .int .i64 s.cf.slots, .int .i64 s.cf.limit, .bool s.sec, .slice Aw s.ws.length cw, .int .i64 s.top, vt, vf, vs]] W' fun e w' => e = .returned (.int .i64 (usT s)) ∧ Only nob W' w' from fun W' _ => rUsed15 s _ _ _ _ W' HOK.out)
  obtain ⟨q, hq⟩ : ∃ q, q = chkS s := ⟨_, rfl⟩
  obtain ⟨u, hu⟩ : ∃ u, u = usT s := ⟨_, rfl⟩
  rw [← hq] at HCK HCR
  rw [← hu] at HUS HUR
  rintro e w1 ⟨rfl, o⟩
  have O1 := Lib.hid (HB.out.1.trans o)
  have X1 := Lib.hid (HBX.out.keep o)
  clear o hL c0 c1 c2 c3 c4 c5 c6 c7 c8 c9 h hok hpar hK hq hu
  obtain ⟨c0, c1, c2, c3, c4, c5, c6, c7, c8, c9⟩ := X1.out
  go_wp2_with fail
  go_at_call 9
  refine (C.objects s _ _ _ _ _ w1 (HK.out w1 O1.out).1 (HK.out w1 O1.out).2.1 HOK.out (HK.out w1 O1.out).2.2).mono ?_
  rintro e w2 ⟨v2, rfl, hs2, o⟩
  have O2 := Lib.hid (O1.out.trans o)
  have X2 := Lib.hid (X1.out.keep o)
  have S2 := Lib.hid hs2
  clear o hs2 c0 c1 c2 c3 c4 c5 c6 c7 c8 c9
  obtain ⟨c0, c1, c2, c3, c4, c5, c6, c7, c8, c9⟩ := X2.out
  go_wp2_with fail
  go_at_call 10
  refine (rObjects15 s _ _ _ _ _ w2 (HK.out w2 O2.out).1 (HK.out w2 O2.out).2.1 HOK.out (HK.out w2 O2.out).2.2).mono ?_
  rintro e w3 ⟨v3, rfl, hs3, o⟩
  have O3 := Lib.hid (O2.out.trans o)
  have X3 := Lib.hid (X2.out.keep o)
  have S2' := Lib.hid ((S2.out.below o.whole).more o.size)
  have S3 := Lib.hid hs3
  clear o hs3 c0 c1 c2 c3 c4 c5 c6 c7 c8 c9
  obtain ⟨oE, hoE⟩ : ∃ oE, oE = obE s := ⟨_, rfl⟩
  rw [← hoE]
  have HHS := Lib.hid (C.head s at_ _ _ _ _ _ w3 (HK.out w3 O3.out).1 (HK.out w3 O3.out).2.1 HOK.out (HK.out w3 O3.out).2.2)
  obtain ⟨K, hKk⟩ : ∃ K, K = ohK s.ws at_ := ⟨_, rfl⟩
  obtain ⟨F, hF⟩ : ∃ F, F = ohF s.ws at_ := ⟨_, rfl⟩
  obtain ⟨R, hRr⟩ : ∃ R, R = ohR s.ws at_ := ⟨_, rfl⟩
  obtain ⟨M, hM⟩ : ∃ M, M = ohM s.ws at_ := ⟨_, rfl⟩
  obtain ⟨Z, hZ⟩ : ∃ Z, Z = ohC s.ws at_ := ⟨_, rfl⟩
  obtain ⟨E, hE⟩ : ∃ E, E = ohE s.ws at_ := ⟨_, rfl⟩
  have HHR := Lib.hid (show ∀ W', Only nob w W' → Calls Tryz.prog 12 #[.slice Aw s.ws.length cw, .int .i64 at_] W' fun e w' => e = .returned (.tuple #[.agg #[.int .i64 K, .int .i64 F, .int .i64 R, .bool M, .int .i64 Z], .int .i64 E]) ∧ Only nob W' w' from fun W' o => by
    rw [hKk, hF, hRr, hM, hZ, hE]
    exact rHead_any _ w.heap.size s.ws at_ W' (HK.out W' o).1.words (HK.out W' o).2.1 HOK.out.ws HOK.out.few.1)
  rw [← hKk, ← hF, ← hRr, ← hM, ← hZ, ← hE] at HHS
  clear hoE hKk hF hRr hM hZ hE
  obtain ⟨c0, c1, c2, c3, c4, c5, c6, c7, c8, c9⟩ := X3.out
  go_wp2_with fail
  go_at_call 11
  refine HHS.out.mono ?_
  rintro e w4 ⟨rfl, o⟩
  obtain ⟨W4, hW4, HB4⟩ := box_head w4 K F R M Z
  have HW4 := Lib.hid hW4
  have o4 := o.trans HB4.out.1
  have O4 := Lib.hid (O3.out.trans o4)
  have X4 := Lib.hid (X3.out.keep o4)
  have P4 := Lib.hid o4
  clear o o4 hW4 c0 c1 c2 c3 c4 c5 c6 c7 c8 c9
  go_upto_region 6 with fail
  rw [HW4.out]
  obtain ⟨c0, c1, c2, c3, c4, c5, c6, c7, c8, c9⟩ := X4.out
  go_wp2_with fail
  go_at_call 12
  refine (HHR.out _ O4.out).mono ?_
  rintro e w5 ⟨rfl, o⟩
  obtain ⟨W5, hW5, HB5⟩ := box_head w5 K F R M Z
  have HW5 := Lib.hid hW5
  have o5 := o.trans HB5.out.1
  have O5 := Lib.hid (O4.out.trans o5)
  have X5 := Lib.hid (X4.out.keep o5)
  have B4 := Lib.hid (HB4.out.2.keep o5 id)
  have SA := Lib.hid ((S2'.out.below (P4.out.trans o5).whole).more (P4.out.trans o5).size)
  have SB := Lib.hid ((S3.out.below (P4.out.trans o5).whole).more (P4.out.trans o5).size)
  clear o o5 hW5 c0 c1 c2 c3 c4 c5 c6 c7 c8 c9
  go_upto_region 7 with fail
  rw [HW5.out]
  obtain ⟨c0, c1, c2, c3, c4, c5, c6, c7, c8, c9⟩ := X5.out.all
  obtain ⟨h0, h1, h2, h3, h4⟩ := head_all B4.out
  obtain ⟨k0, k1, k2, k3, k4⟩ := head_all HB5.out.2
  have HIN := Lib.hid (show ∀ W', Only nob W5 W' → Calls Tryz.prog 15 #[v2, v3] W' fun e w' => e = .returned (.bool true) ∧ Only nob W' w' from fun W' o => (rInts v2 v3 (obL s) _ _ W' (SA.out.below o.whole) (SB.out.below o.whole)).mono fun e w' ⟨h1, m, h2⟩ => ⟨h1, by rw [h2]; exact (Only.refl _ _).drewN m⟩)
  have heq := eqHead K F R M Z K F R M Z
  rw [hsame_refl] at heq
  have OW := Lib.hid (show ∀ n os, Only nob w (wat W5 n os) from fun n os => O5.out.trans (only_wat _ _ _))
  refine wp_region_only mixedSt (by kernel_rfl) ?_
  repeat (with_reducible refine wpQuiet_step ?_; intro K' hK'; go_simp; first | (with_reducible refine hK' _ ?_; clear hK' K') | (apply Exists.intro; with_reducible refine ⟨fun _ => ?_, hK' _ ?_⟩; (first | (go_at_call 13; with_reducible refine wat_call (HCK.out _ (OW.out _ _))) | (go_at_call 14; with_reducible refine wat_call (HCR.out _ (OW.out _ _))) | (go_at_call 15; with_reducible refine wat_call (HIN.out _ (only_wat _ _ _))) | (go_at_call 16; with_reducible refine wat_call (HUS.out _ (OW.out _ _))) | (go_at_call 17; with_reducible refine wat_call (HUR.out _ (OW.out _ _))) | (go_at_call 8; with_reducible refine wat_call (HAW.out _ (OW.out _ _)))); clear hK' K'))
  refine wpQuiet_nil ?_
  rintro w' ⟨⟨nq, osq⟩, rfl⟩
  obtain ⟨W6, hW6, O6⟩ := wat_name W5 nq osq
  rw [hW6]
  clear hW6 c0 c1 c2 c3 c4 c5 c6 c7 c8 c9 h0 h1 h2 h3 h4 k0 k1 k2 k3 k4
  go_wp2
  go_ret
  exact ⟨rfl, (O5.out.trans O6.out).whole⟩
end Go.Proofs.YtciidodmhigpdaaGreatDoor
