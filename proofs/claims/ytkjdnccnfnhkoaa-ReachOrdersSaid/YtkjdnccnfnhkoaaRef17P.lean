/- The document's own Plan. -/
import Derived.Test.YtkjdnccnfnhkoaaRef17R
import Derived.Test.YtkjdnccnfnhkoaaRePlanC
namespace Go.Proofs.Ytkjdnccnfnhkoaa
open Go.RowKit Go.Lib
set_option maxRecDepth 100000
set_option linter.unusedSimpArgs false
set_option linter.unusedVariables false

theorem planErr17 {g : Gr} {lim order block : Int} {n : Int} (h : planE g lim order block = n) (hn : n ≠ 0) : planSm g lim order block = [] ∧ planLg g lim order block = [] := by
  unfold planSm planLg
  rw [if_neg (by rw [h]; exact hn), if_neg (by rw [h]; exact hn)]
  exact ⟨rfl, rfl⟩
set_option maxHeartbeats 16000000 in
theorem rPlan17 : PlanGC 9 := by
  intro g vn vr hs B W lim order block hr hB hfit hbd hblkm
  obtain ⟨An, cn, rfl, hacn, hcmn⟩ := hr.nodes.form
  obtain ⟨Ar, cr, rfl, hacr, hcmr⟩ := hr.roots.form
  obtain ⟨W1, hW1, o1, b1⟩ : ∃ X, W.alloc (.cells #[.slice An g.nd.length cn, .slice Ar g.rt.length cr] 25) = X ∧ Only nob W X ∧ Blk X W.heap.size 25 #[.slice An g.nd.length cn, .slice Ar g.rt.length cr] := ⟨_, rfl, (Only.refl nob W).alloc _, Blk.new _ _ _⟩
  have HW1 := Lib.hid hW1
  have O1 := Lib.hid o1
  have HG := Lib.hid hr
  have HBW := Lib.hid hB
  have HBD := Lib.hid hbd
  have HRT := Lib.hid (fun (W' : World) (o : Only nob W W') => rRight16 g _ _ hs B W' (hr.only o hB) (Nat.le_trans hB o.size) hfit)
  have c0 : W1.cell? ⟨W.heap.size, 0, none⟩ = some (.slice An g.nd.length cn) := b1.cell 0
  have c1 : W1.cell? ⟨W.heap.size, 1, none⟩ = some (.slice Ar g.rt.length cr) := b1.cell 1
  obtain ⟨E, hE⟩ : ∃ E, E = planE g lim order block := ⟨_, rfl⟩
  have HE := Lib.hid hE
  rw [← hE]
  obtain ⟨gk, hgk⟩ : ∃ k, k = grOk g := ⟨_, rfl⟩
  have HGK := Lib.hid hgk
  rw [← hgk] at HRT
  unfold maxLen at hcmn
  clear hW1 o1 b1 hr hB hfit hbd hE hgk
  have go : ∀ (E' : Int), E = E' → E' ≠ 0 → ∀ w', Only nob W w' → ∃ v1 v2, Ending.returned (.tuple #[.slice none 0 0, .slice none 0 0, .int .i64 E']) = .returned (.tuple #[v1, v2, .int .i64 E]) ∧
      OwR w' W.heap.size 3 v1 (planSm g lim order block).length (i64s (planSm g lim order block)) ∧ OwR w' W.heap.size 3 v2 (planLg g lim order block).length (i64s (planLg g lim order block)) ∧ Only nob W w' := fun E' h1 h2 w' o => by
    obtain ⟨p1, p2⟩ := planErr17 (HE.out.symm.trans h1) h2
    refine ⟨_, _, by rw [h1], ?_, ?_, o⟩
    · rw [p1]; exact OwR.nil_
    · rw [p2]; exact OwR.nil_
  have GO := Lib.hid go
  clear go
  go_enter Try.func9, Try.ntmps9
  go_upto_region 1 with fail
  rw [HW1.out]
  go_wp2_with fail
  go_at_call 25
  refine (HRT.out W1 O1.out).mono ?_
  rintro e w2 ⟨rfl, o2⟩
  have O2 := Lib.hid (O1.out.trans o2)
  have d0 := o2.keeps c0
  have d1 := o2.keeps c1
  clear c0 c1 o2
  cases gk with
  | false =>
    have HF := Lib.hid (show E = 4 by rw [HE.out]; unfold planE; rw [if_neg (by rw [← HGK.out]; simp)])
    clear d0 d1
    go_wp2
    go_ret3
    exact GO.out 4 HF.out (by decide) _ O2.out
  | true =>
    have hgk : grOk g = true := HGK.out.symm
    by_cases hl1 : lim < 1
    · have HF := Lib.hid (show E = 1 by rw [HE.out]; unfold planE; rw [if_pos hgk, if_pos (.inl hl1)])
      clear d0 d1 hgk
      go_wp2
      go_ret3
      exact GO.out 1 HF.out (by decide) _ O2.out
    by_cases hb1 : block < 1
    · have HF := Lib.hid (show E = 1 by rw [HE.out]; unfold planE; rw [if_pos hgk, if_pos (.inr (.inl hb1))])
      clear d0 d1 hgk
      go_wp2
      go_ret3
      exact GO.out 1 HF.out (by decide) _ O2.out
    by_cases ho1 : order < 0
    · have HF := Lib.hid (show E = 1 by rw [HE.out]; unfold planE; rw [if_pos hgk, if_pos (.inr (.inr (by omega)))])
      clear d0 d1 hgk
      go_wp2
      go_ret3
      exact GO.out 1 HF.out (by decide) _ O2.out
    by_cases ho2 : 2 < order
    · have HF := Lib.hid (show E = 1 by rw [HE.out]; unfold planE; rw [if_pos hgk, if_pos (.inr (.inr (by omega)))])
      clear d0 d1 hgk
      go_wp2
      go_ret3
      exact GO.out 1 HF.out (by decide) _ O2.out
    have HF := Lib.hid (show E = 0 by rw [HE.out]; unfold planE; rw [if_pos hgk, if_neg (by omega)])
    have HC := Lib.hid (rRun17 g _ _ hs B w2 lim order block (HG.out.only O2.out HBW.out) (Nat.le_trans HBW.out O2.out.size) hgk HBD.out.nd (by omega) hblkm)
    clear hgk
    go_wp2_with fail
    go_at_call 26
    refine HC.out.mono ?_
    rintro e w3 ⟨b, base, v, rfl, P3, hb3, o3⟩
    have HP3 := Lib.hid P3
    have HO3 := Lib.hid (O2.out.trans o3)
    obtain ⟨vs, vb, vl, vg, vp⟩ := v
    obtain ⟨A4, k4, e4, -, -, -⟩ := Pm.sl P3.sm
    obtain ⟨A7, k7, e7, -, -, -⟩ := Pm.sl P3.lg
    simp only at e4 e7
    subst e4 e7
    have hr4 : (planS g lim order block).small = planSm g lim order block := by unfold planSm; rw [if_pos (HE.out.symm.trans HF.out)]
    have hr7 : (planS g lim order block).large = planLg g lim order block := by unfold planLg; rw [if_pos (HE.out.symm.trans HF.out)]
    have c4 : w3.cell? ⟨b, 4, none⟩ = some (.slice A4 (planSm g lim order block).length k4) := by rw [← hr4]; exact P3.box.cell 4
    have c7 : w3.cell? ⟨b, 7, none⟩ = some (.slice A7 (planLg g lim order block).length k7) := by rw [← hr7]; exact P3.box.cell 7
    have h4 := own_more P3.sm (base' := W.heap.size) fun k hk => Nat.le_trans (Nat.le_trans O2.out.size hb3) (own_lt P3.sm hk).1
    have h7 := own_more P3.lg (base' := W.heap.size) fun k hk => Nat.le_trans (Nat.le_trans O2.out.size hb3) (own_lt P3.lg hk).1
    rw [hr4] at h4
    rw [hr7] at h7
    have H4 := Lib.hid (OwR.of_own h4)
    have H7 := Lib.hid (OwR.of_own h7)
    clear h4 h7 hr4 hr7 P3 o3 hb3 d0 d1
    go_wp2
    go_quiet (fail)
    go_wp2
    go_ret3
    refine ⟨_, _, by rw [HF.out]; rfl, H4.out.only ((Only.refl nob w3).drewN _) fun _ _ h => h, H7.out.only ((Only.refl nob w3).drewN _) fun _ _ h => h, HO3.out.trans ((Only.refl nob w3).drewN _)⟩
end Go.Proofs.Ytkjdnccnfnhkoaa
