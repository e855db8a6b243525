/- Package reach: Live, and the document's own. -/
import Derived.Test.YtkjdnccnfnhkoaaReFlat
namespace Go.Proofs.Ytkjdnccnfnhkoaa
open Go.RowKit Go.Lib
set_option maxRecDepth 100000
set_option linter.unusedSimpArgs false
set_option linter.unusedVariables false

theorem plan_wf17 {g : Gr} (hg : grOk g = true) (lim order block : Int) : Wf g (planS g lim order block) := by
  obtain ⟨h1, h2⟩ := start_wf lim order hg
  exact (run_wf (block := block) hg (g.nd.length + 1) _ h1 h2 (by omega)).1
theorem plan_len17 (g : Gr) (lim order block : Int) : (planSm g lim order block).length ≤ g.nd.length ∧ (planLg g lim order block).length ≤ g.nd.length := by
  unfold planSm planLg
  by_cases h : planE g lim order block = 0
  · rw [if_pos h, if_pos h]
    have hg : grOk g = true := by
      unfold planE at h
      by_cases hg : grOk g = true
      · exact hg
      · rw [if_neg hg] at h; cases h
    have := (plan_wf17 hg lim order block).room
    rw [met_len] at this
    omega
  · rw [if_neg h, if_neg h]; simp
def LiveGC (f : FuncId) : Prop := ∀ (g : Gr) (vn vr : Value) (hs : List (Value × Value)) (B : Nat) (W : World) (lim : Int), RdG W B g vn vr hs → B ≤ W.heap.size → GrFit g → GrBd g → g.nd.length ≤ 60 →
  Calls Try.prog f #[.agg #[vn, vr], .int .i64 lim] W fun e w' => e = .returned (.tuple #[.int .i64 (sumW g (planSm g lim 0 1)), .int .i64 (sumW g (planLg g lim 0 1)), .int .i64 (wrap64 (sumF g (planSm g lim 0 1) + sumF g (planLg g lim 0 1))), .int .i64 (planE g lim 0 1)]) ∧ Only nob W w'
set_option maxHeartbeats 8000000 in
theorem rLive17 : LiveGC 17 := by
  intro g vn vr hs B W lim hr hB hfit hbd hN
  obtain ⟨An, cn, rfl, hacn, hcmn⟩ := hr.nodes.form
  obtain ⟨Ar, cr, rfl, hacr, hcmr⟩ := hr.roots.form
  obtain ⟨W1, hW1, o1, b1⟩ := flat_box W An Ar g.nd.length cn g.rt.length cr
  have HW1 := Lib.hid hW1
  have O1 := Lib.hid o1
  have HG := Lib.hid hr
  have HBW := Lib.hid hB
  have HC := Lib.hid (rPlan17 g _ _ hs B W1 lim 0 1 (hr.only o1 hB) (Nat.le_trans hB o1.size) hfit hbd (by decide))
  obtain ⟨E, hE⟩ : ∃ E, E = planE g lim 0 1 := ⟨_, rfl⟩
  obtain ⟨S, hS⟩ : ∃ S, S = planSm g lim 0 1 := ⟨_, rfl⟩
  obtain ⟨L, hL⟩ : ∃ L, L = planLg g lim 0 1 := ⟨_, rfl⟩
  rw [← hE, ← hS, ← hL] at HC ⊢
  have c0 : W1.cell? ⟨W.heap.size, 0, none⟩ = some (.slice An g.nd.length cn) := b1.cell 0
  have c1 : W1.cell? ⟨W.heap.size, 1, none⟩ = some (.slice Ar g.rt.length cr) := b1.cell 1
  obtain ⟨ws, hws⟩ : ∃ z, z = sumW g S := ⟨_, rfl⟩
  obtain ⟨wl, hwl⟩ : ∃ z, z = sumW g L := ⟨_, rfl⟩
  obtain ⟨fs, hfs⟩ : ∃ z, z = sumF g S := ⟨_, rfl⟩
  obtain ⟨fl, hfl⟩ : ∃ z, z = sumF g L := ⟨_, rfl⟩
  have HS1 := Lib.hid (fun (v : Value) (W' : World) (o : Only nob W W') (h : Sl W' W'.heap.size 1 v S.length (i64s S)) => rSums16 g S _ _ v hs W'.heap.size W' ((hr.only o hB).more (Nat.le_trans hB o.size)) h (Nat.le_refl _))
  have HS2 := Lib.hid (fun (v : Value) (W' : World) (o : Only nob W W') (h : Sl W' W'.heap.size 1 v L.length (i64s L)) => rSums16 g L _ _ v hs W'.heap.size W' ((hr.only o hB).more (Nat.le_trans hB o.size)) h (Nat.le_refl _))
  rw [← hws, ← hfs] at HS1
  rw [← hwl, ← hfl] at HS2
  rw [← hws, ← hwl, ← hfs, ← hfl]
  clear hW1 o1 b1 hr hB hfit hbd hE hS hL hws hwl hfs hfl hN
  go_enter Try.func17, Try.ntmps17
  go_upto_region 1 with fail
  rw [HW1.out]
  go_wp2_with fail
  go_at_call 9
  refine HC.out.mono ?_
  rintro e w2 ⟨v1, v2, rfl, h1, h2, o2⟩
  have HA := Lib.hid h1
  have HB := Lib.hid h2
  have O2 := Lib.hid (O1.out.trans o2)
  have d0 := o2.keeps c0
  have d1 := o2.keeps c1
  obtain ⟨A2, k2, rfl, -, -⟩ := h1.form
  obtain ⟨A3, k3, rfl, -, -⟩ := h2.form
  clear h1 h2 o2 c0 c1
  go_wp2_with fail
  go_at_call 31
  refine (HS1.out _ w2 O2.out HA.out.sl).mono ?_
  rintro e w3 ⟨rfl, o3⟩
  have O3 := Lib.hid (O2.out.trans o3)
  have HB3 := Lib.hid (HB.out.only o3 fun _ _ h => h)
  have e0 := o3.keeps d0
  have e1 := o3.keeps d1
  clear d0 d1 o3
  go_wp2_with fail
  go_at_call 31
  refine (HS2.out _ w3 O3.out HB3.out.sl).mono ?_
  rintro e w4 ⟨rfl, o4⟩
  have O4 := Lib.hid (O3.out.trans o4)
  clear e0 e1 o4
  go_wp2
  exact bodyPost_ret (v := .tuple #[.int .i64 ws, .int .i64 wl, .int .i64 (wrap64 (fs + fl)), .int .i64 E]) (by simp [results, Try.results17, go_sem, wrapP17]) rfl ⟨rfl, O4.out⟩
set_option maxHeartbeats 8000000 in
theorem live17 : LiveGC 16 := by
  intro g vn vr hs B W lim hr hB hfit hbd hN
  obtain ⟨An, cn, rfl, hacn, hcmn⟩ := hr.nodes.form
  obtain ⟨Ar, cr, rfl, hacr, hcmr⟩ := hr.roots.form
  obtain ⟨W1, hW1, o1, b1⟩ := flat_box W An Ar g.nd.length cn g.rt.length cr
  have HW1 := Lib.hid hW1
  have O1 := Lib.hid o1
  have HC := Lib.hid (plan_any17 g _ _ hs B W1 lim 0 1 (hr.only o1 hB) (Nat.le_trans hB o1.size) hfit hbd (by decide))
  obtain ⟨hl1, hl2⟩ := plan_len17 g lim 0 1
  obtain ⟨E, hE⟩ : ∃ E, E = planE g lim 0 1 := ⟨_, rfl⟩
  obtain ⟨S, hS⟩ : ∃ S, S = planSm g lim 0 1 := ⟨_, rfl⟩
  obtain ⟨L, hL⟩ : ∃ L, L = planLg g lim 0 1 := ⟨_, rfl⟩
  rw [← hS] at hl1
  rw [← hL] at hl2
  rw [← hE, ← hS, ← hL] at HC ⊢
  have c0 : W1.cell? ⟨W.heap.size, 0, none⟩ = some (.slice An g.nd.length cn) := b1.cell 0
  have c1 : W1.cell? ⟨W.heap.size, 1, none⟩ = some (.slice Ar g.rt.length cr) := b1.cell 1
  obtain ⟨ws, hws⟩ : ∃ z, z = sumW g S := ⟨_, rfl⟩
  obtain ⟨wl, hwl⟩ : ∃ z, z = sumW g L := ⟨_, rfl⟩
  obtain ⟨fs, hfs⟩ : ∃ z, z = sumF g S := ⟨_, rfl⟩
  obtain ⟨fl, hfl⟩ : ∃ z, z = sumF g L := ⟨_, rfl⟩
  have HF1 := Lib.hid (fun (v : Value) (W' : World) (o : Only nob W W') (h : Sl W' W'.heap.size 1 v S.length (i64s S)) => fields_any16 g S _ _ v hs W'.heap.size W' ((hr.only o hB).more (Nat.le_trans hB o.size)) h (Nat.le_refl _) hfit (by omega))
  have HF2 := Lib.hid (fun (v : Value) (W' : World) (o : Only nob W W') (h : Sl W' W'.heap.size 1 v L.length (i64s L)) => fields_any16 g L _ _ v hs W'.heap.size W' ((hr.only o hB).more (Nat.le_trans hB o.size)) h (Nat.le_refl _) hfit (by omega))
  have HX1 := Lib.hid (fun (v : Value) (W' : World) (o : Only nob W W') (h : Sl W' W'.heap.size 1 v S.length (i64s S)) => words_any16 g S _ _ v hs W'.heap.size W' ((hr.only o hB).more (Nat.le_trans hB o.size)) h (Nat.le_refl _) hfit (by omega))
  have HX2 := Lib.hid (fun (v : Value) (W' : World) (o : Only nob W W') (h : Sl W' W'.heap.size 1 v L.length (i64s L)) => words_any16 g L _ _ v hs W'.heap.size W' ((hr.only o hB).more (Nat.le_trans hB o.size)) h (Nat.le_refl _) hfit (by omega))
  rw [← hws] at HX1
  rw [← hwl] at HX2
  rw [← hfs] at HF1
  rw [← hfl] at HF2
  rw [← hws, ← hwl, ← hfs, ← hfl]
  clear hW1 o1 b1 hr hB hfit hbd hE hS hL hws hwl hfs hfl hN hl1 hl2
  go_enter Try.func16, Try.ntmps16
  go_upto_region 1 with fail
  rw [HW1.out]
  go_wp2_with fail
  go_at_call 8
  refine HC.out.mono ?_
  rintro e w2 ⟨v1, v2, rfl, h1, h2, o2⟩
  have HA := Lib.hid h1
  have HB := Lib.hid h2
  have O2 := Lib.hid (O1.out.trans o2)
  have d0 := o2.keeps c0
  have d1 := o2.keeps c1
  obtain ⟨A2, k2, rfl, -, -⟩ := h1.form
  obtain ⟨A3, k3, rfl, -, -⟩ := h2.form
  have HSL := Lib.hid (fun (W' : World) (o : Only nob w2 W') => (HA.out.only o fun _ _ h => h).sl)
  have HSR := Lib.hid (fun (W' : World) (o : Only nob w2 W') => (HB.out.only o fun _ _ h => h).sl)
  clear h1 h2 o2 c0 c1
  have mixed := mixedP17
  go_upto_region 2 with fail
  have OC := Lib.hid (show Only nob w2 w2.drew from (Only.refl nob w2).drewN 1)
  go_region_held3 (fun w' => w'.cell? ⟨W.heap.size, 0, none⟩ = some (.slice An g.nd.length cn) ∧ w'.cell? ⟨W.heap.size, 1, none⟩ = some (.slice Ar g.rt.length cr)) (first | (with_reducible exact And.intro (OC.out.keeps d0) (OC.out.keeps d1)) | go_keep)
    (first
      | (go_at_call 29
         with_reducible refine (HF1.out _ _ (O2.out.trans OC.out) (HSL.out _ OC.out)).mono ?_
         rintro e wt ⟨rfl, o⟩
         have OC := Lib.hid (OC.out.trans o)
         clear o)
      | (go_at_call 29
         with_reducible refine (HF2.out _ _ (O2.out.trans OC.out) (HSR.out _ OC.out)).mono ?_
         rintro e wt ⟨rfl, o⟩
         have OC := Lib.hid (OC.out.trans o)
         clear o))
  all_goals
    have mixed := mixedP17
    go_upto_region 3 with fail
    have OC := Lib.hid (show Only nob w2 (World.drew _) from OC.out.drewN 1)
    go_region_held3 (fun w' => w'.cell? ⟨W.heap.size, 0, none⟩ = some (.slice An g.nd.length cn) ∧ w'.cell? ⟨W.heap.size, 1, none⟩ = some (.slice Ar g.rt.length cr)) (first | (with_reducible exact And.intro (OC.out.keeps d0) (OC.out.keeps d1)) | go_keep)
      (first
        | (go_at_call 30
           with_reducible refine (HX1.out _ _ (O2.out.trans OC.out) (HSL.out _ OC.out)).mono ?_
           rintro e wt ⟨rfl, o⟩
           have OC := Lib.hid (OC.out.trans o)
           clear o)
        | (go_at_call 30
           with_reducible refine (HX2.out _ _ (O2.out.trans OC.out) (HSR.out _ OC.out)).mono ?_
           rintro e wt ⟨rfl, o⟩
           have OC := Lib.hid (OC.out.trans o)
           clear o))
  all_goals
    have OE := Lib.hid (O2.out.trans OC.out)
    go_wp2
    exact bodyPost_ret (v := .tuple #[.int .i64 ws, .int .i64 wl, .int .i64 (wrap64 (fs + fl)), .int .i64 E]) (by simp [results, Try.results16, go_sem, wrapP17]) rfl ⟨rfl, OE.out⟩
end Go.Proofs.Ytkjdnccnfnhkoaa
