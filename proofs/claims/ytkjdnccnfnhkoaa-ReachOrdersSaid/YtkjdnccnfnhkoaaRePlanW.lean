/- Package reach: Plan walked. (Printed by wip/tools/gen17plan.py.) -/
import Derived.Test.YtkjdnccnfnhkoaaRePlanC
import Derived.Carry
namespace Go.Proofs.Ytkjdnccnfnhkoaa
open Go.RowKit Go.Lib
set_option maxRecDepth 100000
set_option linter.unusedSimpArgs false
set_option linter.unusedVariables false

theorem infoP_bool : (Try.prog.info? 4).map (fun i => (i.zero, i.size, i.bytes)) = some (some (.bool false), 1, 1) := by kernel_rfl
theorem make_flQ (n : Nat) (hn : n ≤ 1000000) (w : World) : (Instr.makeSlice 49 (.int .i64 (n : Int)) (.int .i64 (n : Int))).run Try.prog w = .ok (.slice (some ⟨w.heap.size, 0, none⟩) n n) (w.alloc (.cells (flQ n []) 4)) := by
  obtain ⟨i0, hi0, hz0, hz1, hz2⟩ := info_parts infoP_bool
  have h := run_make (P := Try.prog) w 49 4 i0 _ Try.underlying49 hi0 hz0 .i64 .i64 n n (by omega) (Int.le_refl _) (by rw [hz2]; omega) (by omega)
  rw [h]
  simp only [Int.toNat_natCast, hz1, Nat.mul_one]
  have e : madeCells (Value.bool false).cells n = flQ n [] := by
    apply Array.ext'
    show (madeCells #[.bool false] n).toList = _
    rw [toList_madeCells_one]
    apply List.ext_getElem?
    intro j
    simp [flQ, List.getElem?_replicate]
    split <;> simp_all
  rw [e]
theorem plan_err {g : Gr} {lim order block : Int} {n : Int} (h : planE g lim order block = n) (hn : n ≠ 0) : planSm g lim order block = [] ∧ planLg g lim order block = [] := by
  unfold planSm planLg
  rw [if_neg (by rw [h]; exact hn), if_neg (by rw [h]; exact hn)]
  exact ⟨rfl, rfl⟩
set_option maxHeartbeats 16000000 in
theorem plan_any17 : PlanGC 8 := by
  intro g vn vr hs B W lim order block hr hB hfit hbd hblkm
  obtain ⟨An, cn, rfl, hacn, hcmn⟩ := hr.nodes.form
  obtain ⟨Ar, cr, rfl, hacr, hcmr⟩ := hr.roots.form
  obtain ⟨W1, hW1, o1, b1⟩ : ∃ X, W.alloc (.cells #[.slice An g.nd.length cn, .slice Ar g.rt.length cr] 25) = X ∧ Only nob W X ∧ Blk X W.heap.size 25 #[.slice An g.nd.length cn, .slice Ar g.rt.length cr] := ⟨_, rfl, (Only.refl nob W).alloc _, Blk.new _ _ _⟩
  have HW1 := Lib.hid hW1
  have O1 := Lib.hid o1
  have B1 := Lib.hid b1
  have HG := Lib.hid hr
  have HBW := Lib.hid hB
  have HBD := Lib.hid hbd
  have HRT := Lib.hid (fun (W' : World) (o : Only nob W W') => right_any16 g _ _ hs B W' (hr.only o hB) (Nat.le_trans hB o.size) hfit)
  have c0 : W1.cell? ⟨W.heap.size, 0, none⟩ = some (.slice An g.nd.length cn) := b1.cell 0
  have c1 : W1.cell? ⟨W.heap.size, 1, none⟩ = some (.slice Ar g.rt.length cr) := b1.cell 1
  obtain ⟨E, hE⟩ : ∃ E, E = planE g lim order block := ⟨_, rfl⟩
  have HE := Lib.hid hE
  rw [← hE]
  obtain ⟨gk, hgk⟩ : ∃ k, k = grOk g := ⟨_, rfl⟩
  have HGK := Lib.hid hgk
  rw [← hgk] at HRT
  unfold maxLen at hcmn
  clear hW1 o1 b1 hr hB hfit hbd hE hgk
  have go : ∀ (E' : Int), E = E' → E' ≠ 0 → ∀ w', Only nob W w' → ∃ v1 v2, Ending.returned (.tuple #[.slice none 0 0, .slice none 0 0, .int .i64 E']) = .returned (.tuple #[v1, v2, .int .i64 E]) ∧
      OwR w' W.heap.size 3 v1 (planSm g lim order block).length (i64s (planSm g lim order block)) ∧ OwR w' W.heap.size 3 v2 (planLg g lim order block).length (i64s (planLg g lim order block)) ∧ Only nob W w' := fun E' h1 h2 w' o => by
    obtain ⟨p1, p2⟩ := plan_err (HE.out.symm.trans h1) h2
    refine ⟨_, _, by rw [h1], ?_, ?_, o⟩
    · rw [p1]; exact OwR.nil_
    · rw [p2]; exact OwR.nil_
  have GO := Lib.hid go
  clear go
  go_enter Try.func8, Try.ntmps8
  go_upto_region 1 with fail
  rw [HW1.out]
  go_wp2_with fail
  go_at_call 20
  refine (HRT.out W1 O1.out).mono ?_
  rintro e w2 ⟨rfl, o2⟩
  have O2 := Lib.hid (O1.out.trans o2)
  have B2 := Lib.hid (B1.out.keep o2 id)
  have d0 := o2.keeps c0
  have d1 := o2.keeps c1
  clear c0 c1 o2
  cases gk with
  | false =>
    have HF := Lib.hid (show E = 4 by rw [HE.out]; unfold planE; rw [if_neg (by rw [← HGK.out]; simp)])
    clear d0 d1
    go_wp2
    go_ret3
    exact GO.out 4 HF.out (by decide) _ O2.out
  | true =>
    by_cases hlb : lim < 1 ∨ block < 1
    · have HF := Lib.hid (show E = 1 by
        rw [HE.out]; unfold planE; rw [if_pos HGK.out.symm, if_pos (by rcases hlb with h | h; exact .inl h; exact .inr (.inl h))])
      clear d0 d1
      by_cases hl1 : lim < 1
      · clear hlb
        go_wp2
        go_ret3
        exact GO.out 1 HF.out (by decide) _ O2.out
      · have hb1 : block < 1 := hlb.resolve_left hl1
        clear hlb
        go_wp2
        go_ret3
        exact GO.out 1 HF.out (by decide) _ O2.out
    · have hl1 : ¬ lim < 1 := fun h => hlb (.inl h)
      have hb1 : ¬ block < 1 := fun h => hlb (.inr h)
      have HLB := Lib.hid hlb
      clear hlb
      go_upto_region 5 with fail
      refine region_heldX (stop := 8) (S := fun w' : World => w'.cell? ⟨W.heap.size, 0, none⟩ = some (.slice An g.nd.length cn) ∧ w'.cell? ⟨W.heap.size, 1, none⟩ = some (.slice Ar g.rt.length cr)) (by kernel_rfl) ⟨d0, d1⟩ (fun hHeld => ?_)
      clear d0 d1
      obtain ⟨WD, hWD, oD⟩ : ∃ X, w2.drew = X ∧ Only nob w2 X := ⟨_, rfl, (Only.refl nob w2).drewN 1⟩
      rw [hWD] at hHeld ⊢
      have OD := Lib.hid (O2.out.trans oD)
      clear hWD oD
      refine anyX_take (i := 0) (v := ?_) rfl (by kernel_rfl) (by kernel_rfl) (by kernel_rfl) (by kernel_rfl) (fun _ _ _ h => h) (Or.inl ⟨by rfl, ?_⟩) hHeld ?_
      rotate_left
      · intro w hSw; (try dsimp only at hSw); go_simp; first | done | with_reducible rfl
      try simp only [Act.put, List.setIfInBounds_toArray, List.set_cons_zero, List.set_cons_succ, List.getElem_toArray, List.getElem_cons_succ, List.getElem_cons_zero]
      refine anyX_take (i := 1) (v := ?_) rfl (by kernel_rfl) (by kernel_rfl) (by kernel_rfl) (by kernel_rfl) (fun _ _ _ h => h) (Or.inl ⟨by rfl, ?_⟩) hHeld ?_
      rotate_left
      · intro w hSw; (try dsimp only at hSw); go_simp; first | done | with_reducible rfl
      try simp only [Act.put, List.setIfInBounds_toArray, List.set_cons_zero, List.set_cons_succ, List.getElem_toArray, List.getElem_cons_succ, List.getElem_cons_zero]
      refine anyX_take (i := 2) (v := ?_) rfl (by kernel_rfl) (by kernel_rfl) (by kernel_rfl) (by kernel_rfl) (fun _ _ _ h => h) (Or.inl ⟨by rfl, ?_⟩) hHeld ?_
      rotate_left
      · intro w hSw; (try dsimp only at hSw); go_simp; first | done | with_reducible rfl
      try simp only [Act.put, List.setIfInBounds_toArray, List.set_cons_zero, List.set_cons_succ, List.getElem_toArray, List.getElem_cons_succ, List.getElem_cons_zero]
      refine anyX_take (i := 3) (v := ?_) rfl (by kernel_rfl) (by kernel_rfl) (by kernel_rfl) (by kernel_rfl) (fun _ _ _ h => h) (Or.inl ⟨by rfl, ?_⟩) hHeld ?_
      rotate_left
      · intro w hSw; (try dsimp only at hSw); go_simp; first | done | with_reducible rfl
      try simp only [Act.put, List.setIfInBounds_toArray, List.set_cons_zero, List.set_cons_succ, List.getElem_toArray, List.getElem_cons_succ, List.getElem_cons_zero]
      refine anyX_take (i := 4) (v := ?_) rfl (by kernel_rfl) (by kernel_rfl) (by kernel_rfl) (by kernel_rfl) (fun _ _ _ h => h) (Or.inl ⟨by rfl, ?_⟩) hHeld ?_
      rotate_left
      · intro w hSw; (try dsimp only at hSw); go_simp; first | done | with_reducible rfl
      try simp only [Act.put, List.setIfInBounds_toArray, List.set_cons_zero, List.set_cons_succ, List.getElem_toArray, List.getElem_cons_succ, List.getElem_cons_zero]
      obtain ⟨X2, hX2, oX2, bX2, sX2⟩ : ∃ X, WD.alloc (.cells (flQ g.nd.length []) 4) = X ∧ Only nob WD X ∧ Blk X WD.heap.size 4 (flQ g.nd.length []) ∧ X.heap.size = WD.heap.size + 1 := ⟨_, rfl, (Only.refl nob WD).alloc _, Blk.new _ _ _, by simp⟩
      have hmk := make_flQ g.nd.length (by have := HBD.out.nd; omega) WD
      rw [hX2] at hmk
      have HOX2 := Lib.hid oX2
      have OX2 := Lib.hid (OD.out.trans oX2)
      have BX2 := Lib.hid bX2
      clear hX2 oX2 bX2 sX2
      refine anyX_ready (rs := [5]) (by kernel_rfl) (by simp) ?_
      refine (AllX.cons rfl (fun K hK => ?_) AllX.nil)
      go_simp
      refine hK.out _ _ (fun _ => ⟨HOX2.out.keeps hHeld.1, HOX2.out.keeps hHeld.2⟩) (fun hHeld2 => ?_)
      clear hK K hHeld
      have hHeld := hHeld2 (by decide)
      clear hHeld2
      try simp only [Act.put, List.setIfInBounds_toArray, List.set_cons_zero, List.set_cons_succ, List.getElem_toArray, List.getElem_cons_succ, List.getElem_cons_zero]
      refine anyX_take (i := 6) (v := ?_) rfl (by kernel_rfl) (by kernel_rfl) (by kernel_rfl) (by kernel_rfl) (fun _ _ _ h => h) (Or.inl ⟨by rfl, ?_⟩) hHeld ?_
      rotate_left
      · intro w hSw; (try dsimp only at hSw); go_simp; first | done | with_reducible rfl
      try simp only [Act.put, List.setIfInBounds_toArray, List.set_cons_zero, List.set_cons_succ, List.getElem_toArray, List.getElem_cons_succ, List.getElem_cons_zero]
      obtain ⟨X3, hX3, oX3, bX3⟩ : ∃ X, X2.alloc (.cells #[.slice An g.nd.length cn, .slice Ar g.rt.length cr, .int .i64 lim, .slice (some ⟨WD.heap.size, 0, none⟩) g.nd.length g.nd.length, .slice none 0 0, .slice none 0 0, .int .i64 0, .slice none 0 0, .slice none 0 0] 51) = X ∧ Only nob X2 X ∧ Blk X X2.heap.size 51 #[.slice An g.nd.length cn, .slice Ar g.rt.length cr, .int .i64 lim, .slice (some ⟨WD.heap.size, 0, none⟩) g.nd.length g.nd.length, .slice none 0 0, .slice none 0 0, .int .i64 0, .slice none 0 0, .slice none 0 0] := ⟨_, rfl, (Only.refl nob X2).alloc _, Blk.new _ _ _⟩
      have HX3 := Lib.hid hX3
      have HOX3 := Lib.hid oX3
      have OX3 := Lib.hid (OX2.out.trans oX3)
      have HQ := Lib.hid (qp_start (W0 := W) (base := W.heap.size) bX3 (BX2.out.keep oX3 id) OX2.out.size OD.out.size)
      have HG3 := Lib.hid (HG.out.only OX3.out HBW.out)
      clear hX3 oX3 bX3 hmk
      refine anyX_ready (rs := [7]) (by kernel_rfl) (by simp) ?_
      refine (AllX.cons rfl (fun K hK => ?_) AllX.nil)
      go_simp
      with_reducible rw [HX3.out]
      refine hK.out _ _ (fun _ => ⟨HOX3.out.keeps hHeld.1, HOX3.out.keeps hHeld.2⟩) (fun hHeld2 => ?_)
      clear hK K hHeld
      have hHeld := hHeld2 (by decide)
      clear hHeld2
      try simp only [Act.put, List.setIfInBounds_toArray, List.set_cons_zero, List.set_cons_succ, List.getElem_toArray, List.getElem_cons_succ, List.getElem_cons_zero]
      refine anyX_ready (rs := [8]) (by kernel_rfl) (by simp) ?_
      refine (AllX.cons rfl (fun K hK => ?_) AllX.nil)
      go_simp
      refine hK.out _ _ (fun h => absurd rfl h) (fun hHeld2 => ?_)
      clear hK K hHeld hHeld2
      try simp only [Act.put, List.setIfInBounds_toArray, List.set_cons_zero, List.set_cons_succ, List.getElem_toArray, List.getElem_cons_succ, List.getElem_cons_zero]
      refine anyX_done (by kernel_rfl) ?_ _
      obtain ⟨bp, hbp⟩ : ∃ b, b = X2.heap.size := ⟨_, rfl⟩
      obtain ⟨mb, hmb⟩ : ∃ b, b = WD.heap.size := ⟨_, rfl⟩
      rw [← hbp, ← hmb] at HQ
      rw [← hbp, ← hmb]
      clear hbp hmb BX2 HX3 HOX3 HOX2 OX2 OD
      have HRB := Lib.hid (show RB bp mb W.heap.size B g _ _ hs lim X3 q0 from ⟨HG3.out, _, HQ.out⟩)
      have hgk : grOk g = true := HGK.out.symm
      have HGO := Lib.hid hgk
      have hN1 := HBD.out.nd
      have hR1 := HBD.out.rt
      by_cases ho0 : order = 0
      · subst ho0
        have HF := Lib.hid (show E = 0 by
          rw [HE.out]; unfold planE; rw [if_pos HGO.out, if_neg (by rintro (h | h | h); omega; omega; exact h.1 rfl)])
        obtain ⟨m, ee, hrun, hee⟩ := run_breadth (g := g) lim block hgk
        have HEE := Lib.hid hee
        have HC := Lib.hid (run17 bp W.heap.size B g _ _ hs 22 ⟨bp, 0, none⟩ _ _ _ (runC_first (mb := mb) (hs := hs) HBW.out (by omega)) HBW.out X3 q0 ee m HRB.out HG3.out OX3.out.size hrun (by show g.rt.length + 0 ≤ _; omega))
        clear hrun hee hN1 hR1 hgk
        go_wp2_with fail
        go_at_call 21
        refine HC.out.mono ?_
        rintro e w5 ⟨rfl, hRE, oE⟩
        obtain ⟨-, V, HQE0⟩ := hRE
        have HQE := Lib.hid HQE0
        have HO := Lib.hid (show Only nob W w5 from OX3.out.andThen oE fun i hi e => by unfold geB at e; omega)
        obtain ⟨A4, k4, hv4, -, -⟩ := (HQE0.rows.own (-1)).form
        obtain ⟨A5, k5, hv5, -, -⟩ := (HQE0.rows.own (-2)).form
        have c4 : w5.cell? ⟨bp, 4, none⟩ = some (V (-1)) := HQE0.cell at_sm
        have c5 : w5.cell? ⟨bp, 5, none⟩ = some (V (-2)) := HQE0.cell at_lg
        have h4 := HQE0.rows.own (-1)
        have h5 := HQE0.rows.own (-2)
        rw [hv4] at c4 h4
        rw [hv5] at c5 h5
        have hr4 : rowsQ ee (-1) = planSm g lim 0 block := by unfold planSm; rw [if_pos (HE.out.symm.trans HF.out)]; show ee.s.small = _; rw [HEE.out]
        have hr5 : rowsQ ee (-2) = planLg g lim 0 block := by unfold planLg; rw [if_pos (HE.out.symm.trans HF.out)]; show ee.s.large = _; rw [HEE.out]
        rw [hr4] at h4 c4
        rw [hr5] at h5 c5
        have H4 := Lib.hid h4
        have H5 := Lib.hid h5
        clear hv4 hv5 hr4 hr5 h4 h5 HQE0 oE
        go_wp2
        go_quiet (fail)
        go_wp2
        go_ret3
        refine ⟨_, _, by rw [HF.out]; rfl, H4.out.only ((Only.refl nob w5).drewN _) fun _ _ h => h, H5.out.only ((Only.refl nob w5).drewN _) fun _ _ h => h, HO.out.trans ((Only.refl nob w5).drewN _)⟩
      · have hq0 : (order == 0) = false := by simpa using ho0
        by_cases ho1 : order = 1
        · subst ho1
          have HF := Lib.hid (show E = 0 by
            rw [HE.out]; unfold planE; rw [if_pos HGO.out, if_neg (by rintro (h | h | h); omega; omega; exact h.2.1 rfl)])
          obtain ⟨m, ee, hrun, hee⟩ := run_depth (g := g) lim block hgk (by omega) (by omega)
          have HEE := Lib.hid hee
          have HC := Lib.hid (run17 bp W.heap.size B g _ _ hs 23 ⟨bp, 0, none⟩ _ _ _ (runC_fresh (mb := mb) (hs := hs) HBW.out (by omega)) HBW.out X3 q0 ee m HRB.out HG3.out OX3.out.size hrun (by show g.rt.length + 0 ≤ _; omega))
          clear hrun hee hN1 hR1 hgk
          go_wp2_with fail
          go_at_call 21
          refine HC.out.mono ?_
          rintro e w5 ⟨rfl, hRE, oE⟩
          obtain ⟨-, V, HQE0⟩ := hRE
          have HQE := Lib.hid HQE0
          have HO := Lib.hid (show Only nob W w5 from OX3.out.andThen oE fun i hi e => by unfold geB at e; omega)
          obtain ⟨A4, k4, hv4, -, -⟩ := (HQE0.rows.own (-1)).form
          obtain ⟨A5, k5, hv5, -, -⟩ := (HQE0.rows.own (-2)).form
          have c4 : w5.cell? ⟨bp, 4, none⟩ = some (V (-1)) := HQE0.cell at_sm
          have c5 : w5.cell? ⟨bp, 5, none⟩ = some (V (-2)) := HQE0.cell at_lg
          have h4 := HQE0.rows.own (-1)
          have h5 := HQE0.rows.own (-2)
          rw [hv4] at c4 h4
          rw [hv5] at c5 h5
          have hr4 : rowsQ ee (-1) = planSm g lim 1 block := by unfold planSm; rw [if_pos (HE.out.symm.trans HF.out)]; show ee.s.small = _; rw [HEE.out]
          have hr5 : rowsQ ee (-2) = planLg g lim 1 block := by unfold planLg; rw [if_pos (HE.out.symm.trans HF.out)]; show ee.s.large = _; rw [HEE.out]
          rw [hr4] at h4 c4
          rw [hr5] at h5 c5
          have H4 := Lib.hid h4
          have H5 := Lib.hid h5
          clear hv4 hv5 hr4 hr5 h4 h5 HQE0 oE
          go_wp2
          go_quiet (fail)
          go_wp2
          go_ret3
          refine ⟨_, _, by rw [HF.out]; rfl, H4.out.only ((Only.refl nob w5).drewN _) fun _ _ h => h, H5.out.only ((Only.refl nob w5).drewN _) fun _ _ h => h, HO.out.trans ((Only.refl nob w5).drewN _)⟩
        · have hq1 : (order == 1) = false := by simpa using ho1
          by_cases ho2 : order = 2
          · subst ho2
            have HF := Lib.hid (show E = 0 by
              rw [HE.out]; unfold planE; rw [if_pos HGO.out, if_neg (by rintro (h | h | h); omega; omega; exact h.2.2 rfl)])
            obtain ⟨m, ee, hrun, hee⟩ := run_tiers (g := g) lim (blk := block) (by omega) hgk (by omega)
            have HEE := Lib.hid hee
            obtain ⟨X4, hX4, oX4, mX4, sX4⟩ : ∃ X, X3.alloc (.map #[] 0) = X ∧ Only nob X3 X ∧ VMap X X3.heap.size 0 (fun _ => nilV) ∧ X.heap.size = X3.heap.size + 1 := ⟨_, rfl, (Only.refl nob X3).alloc _, VMap.new _ fun _ _ => rfl, by simp⟩
            obtain ⟨X5, hX5, oX5, bX5, sX5⟩ : ∃ X, X4.alloc (.cells #[.pointer (some ⟨bp, 0, none⟩), .int .i64 block, .map (some X3.heap.size), .slice none 0 0, .int .i64 0, .int .i64 0] 57) = X ∧ Only nob X4 X ∧ Blk X X4.heap.size 57 #[.pointer (some ⟨bp, 0, none⟩), .int .i64 block, .map (some X3.heap.size), .slice none 0 0, .int .i64 0, .int .i64 0] ∧ X.heap.size = X4.heap.size + 1 := ⟨_, rfl, (Only.refl nob X4).alloc _, Blk.new _ _ _, by simp⟩
            have HX4 := Lib.hid hX4
            have HX5 := Lib.hid hX5
            have o35 := oX4.trans oX5
            have OX5 := Lib.hid (OX3.out.trans o35)
            have HT := Lib.hid (show Tq X5 X4.heap.size X3.heap.size W.heap.size bp block (fun _ => nilV) q0 from ⟨bX5, mX4.keep oX5 id, by have := OX3.out.size; omega, OX3.out.size⟩)
            have HRT5 := Lib.hid (show RT bp mb X4.heap.size X3.heap.size W.heap.size B g _ _ hs lim block X5 q0 from ⟨HG3.out.only o35 (Nat.le_trans HBW.out OX3.out.size), _, HQ.out.kept o35, HT.out⟩)
            have HC := Lib.hid (run17 bp W.heap.size B g _ _ hs 24 ⟨X4.heap.size, 0, none⟩ _ _ _ (runC_near (mb := mb) (mp := X3.heap.size) (hs := hs) HBW.out (by omega) hgk ⟨by omega, hblkm⟩) HBW.out X5 q0 ee m HRT5.out (HG3.out.only o35 (Nat.le_trans HBW.out OX3.out.size)) OX5.out.size hrun (by show g.rt.length + 0 ≤ _; omega))
            clear hrun hee hN1 hR1 hgk hX4 oX4 mX4 sX4 hX5 oX5 bX5 sX5 o35
            have hmm := @run_makeMap Try.prog
            go_wp2_with (first | (with_reducible rw [HX4.out]) | (with_reducible rw [HX5.out]))
            go_at_call 21
            refine HC.out.mono ?_
            rintro e w5 ⟨rfl, hRE, oE⟩
            have hRE : RB bp mb W.heap.size B g _ _ hs lim w5 ee := ⟨hRE.1, hRE.2.choose, hRE.2.choose_spec.1⟩
            have oE := show Only (geB W.heap.size) X5 w5 from oE
            obtain ⟨-, V, HQE0⟩ := hRE
            have HQE := Lib.hid HQE0
            have HO := Lib.hid (show Only nob W w5 from OX5.out.andThen oE fun i hi e => by unfold geB at e; omega)
            obtain ⟨A4, k4, hv4, -, -⟩ := (HQE0.rows.own (-1)).form
            obtain ⟨A5, k5, hv5, -, -⟩ := (HQE0.rows.own (-2)).form
            have c4 : w5.cell? ⟨bp, 4, none⟩ = some (V (-1)) := HQE0.cell at_sm
            have c5 : w5.cell? ⟨bp, 5, none⟩ = some (V (-2)) := HQE0.cell at_lg
            have h4 := HQE0.rows.own (-1)
            have h5 := HQE0.rows.own (-2)
            rw [hv4] at c4 h4
            rw [hv5] at c5 h5
            have hr4 : rowsQ ee (-1) = planSm g lim 2 block := by unfold planSm; rw [if_pos (HE.out.symm.trans HF.out)]; show ee.s.small = _; rw [HEE.out]
            have hr5 : rowsQ ee (-2) = planLg g lim 2 block := by unfold planLg; rw [if_pos (HE.out.symm.trans HF.out)]; show ee.s.large = _; rw [HEE.out]
            rw [hr4] at h4 c4
            rw [hr5] at h5 c5
            have H4 := Lib.hid h4
            have H5 := Lib.hid h5
            clear hv4 hv5 hr4 hr5 h4 h5 HQE0 oE
            go_wp2
            go_quiet (fail)
            go_wp2
            go_ret3
            refine ⟨_, _, by rw [HF.out]; rfl, H4.out.only ((Only.refl nob w5).drewN _) fun _ _ h => h, H5.out.only ((Only.refl nob w5).drewN _) fun _ _ h => h, HO.out.trans ((Only.refl nob w5).drewN _)⟩
          · have hq2 : (order == 2) = false := by simpa using ho2
            have HF := Lib.hid (show E = 1 by
              rw [HE.out]; unfold planE; rw [if_pos HGO.out, if_pos (.inr (.inr ⟨ho0, ho1, ho2⟩))])
            clear hN1 hR1 hgk
            go_wp2
            go_ret3
            exact GO.out 1 HF.out (by decide) _ OX3.out
end Go.Proofs.Ytkjdnccnfnhkoaa
