/- Package graph: Copy. -/
import Derived.Test.YtdlaigghejahdaaGrOwn
import Derived.Deep.RegionHeld3
namespace Go.Proofs.Ytdlaigghejahdaa
open Go.RowKit Go.Lib
set_option maxRecDepth 100000
set_option linter.unusedSimpArgs false
set_option linter.unusedVariables false

theorem boxes_graph (w : World) (vn vr : Value) : ∃ V, ((w.alloc (.cells #[vn, vr] 25)).alloc (.cells #[.slice none 0 0, .slice none 0 0] 25)) = V ∧ Hid (Only nob w V ∧ Blk V w.heap.size 25 #[vn, vr] ∧ Blk V (w.heap.size + 1) 25 #[.slice none 0 0, .slice none 0 0]) :=
  ⟨_, rfl, Lib.hid ⟨((Only.refl nob w).alloc _).alloc _, (Blk.new w _ _).alloc _, Blk.newAt _ _ _ _ (by simp)⟩⟩
set_option maxHeartbeats 8000000 in
theorem copy_any16 (g : Gr) (vn vr : Value) (hs : List (Value × Value)) (B : Nat) (w : World) (h : RdG w B g vn vr hs) (hB : B ≤ w.heap.size) (hn : g.nd.length ≤ 1000) (hd : ∀ d ∈ g.nd, d.fs.length * 16 ≤ 140737488355328 ∧ d.rs.length * 8 ≤ 140737488355328) (hr : g.rt.length ≤ 100000) :
    Calls Try.prog 23 #[.agg #[vn, vr]] w fun e w' => ∃ un ur js, e = .returned (.agg #[un, ur]) ∧ OwG w' w.heap.size g un ur js ∧ Only nob w w' := by
  obtain ⟨i0, hi0, hz0, hz1, hz2⟩ := info_parts info_node16
  have HR := Lib.hid h
  have HDB := Lib.hid hd
  obtain ⟨A, c, rfl, hac, hcm⟩ := h.nodes.form
  obtain ⟨Ar, cr, rfl, harc, hcrm⟩ := h.roots.form
  unfold maxLen at hcm hcrm
  obtain ⟨V, hV, HV⟩ := boxes_graph w (.slice A g.nd.length c) (.slice Ar g.rt.length cr)
  have HVE := Lib.hid hV
  obtain ⟨cs, hcs, hmk⟩ := make0_16 g.nd.length (by omega)
  have HCR := Lib.hid (fun (w' : World) (o : Only nob w w') => clone_vals16 (.slice Ar g.rt.length cr) g.rt B w' (HR.out.roots.below (o.below hB fun _ h => h.elim)) (Nat.le_trans hB o.size) (by omega))
  have v0 : V.cell? ⟨w.heap.size, 0, none⟩ = some (.slice A g.nd.length c) := HV.out.2.1.cell 0
  have v1 : V.cell? ⟨w.heap.size, 1, none⟩ = some (.slice Ar g.rt.length cr) := HV.out.2.1.cell 1
  obtain ⟨V2, hV2, oV2, HM0⟩ : ∃ V2, V.alloc (.cells cs 34) = V2 ∧ Only nob V V2 ∧ V2.ownsRow w.heap.size 34 3 (.slice (some ⟨V.heap.size, 0, none⟩) 0 g.nd.length) 0 [] :=
    ⟨_, rfl, (Only.refl nob V).alloc _, World.ownsRow_made V cs g.nd.length HV.out.1.size (by unfold maxLen; omega) hcs⟩
  have HV2 := Lib.hid hV2
  have OV2 := Lib.hid (HV.out.1.trans oV2)
  have HM := Lib.hid HM0
  have u0 := oV2.keeps v0
  have u1 := oV2.keeps v1
  have HRB := Lib.hid (HV.out.2.2.keep oV2 id)
  have HGB := Lib.hid (HV.out.2.1.keep oV2 id)
  clear hV hV2 oV2 HM0 h hd
  go_enter Try.func23, Try.ntmps23
  go_upto_region 1 with fail
  rw [HVE.out]
  go_upto_region 2 with fail
  rw [HV2.out]
  clear v0 v1 hmk
  go_wp2_with fail
  clear u0 u1
  go_loopw [3, 5, 13] (fun out _ i wr => ∃ (k : Nat) (js : List (Value × Value)), k ≤ g.nd.length ∧ i = .int .i64 k ∧ Hid (js.length = (g.nd.take k).length) ∧ Hid (wr.ownsRow w.heap.size 34 3 out k (ndc (g.nd.take k) js)) ∧ Hid (RwO wr w.heap.size (g.nd.take k) js) ∧ Hid (ApH js) ∧ Hid (Only nob w wr) ∧ Hid (Blk wr w.heap.size 25 #[.slice A g.nd.length c, .slice Ar g.rt.length cr]) ∧ Hid (Blk wr (w.heap.size + 1) 25 #[.slice none 0 0, .slice none 0 0])) (fun _ _ i _ => g.nd.length - (intOf i).toNat)
  case atStart => exact ⟨0, [], Nat.zero_le _, rfl, Lib.hid rfl, HM, Lib.hid (fun i d h hd _ => by cases hd), Lib.hid ApH.nil, OV2, HGB, HRB⟩
  case round =>
    clear HRB HGB
    obtain ⟨k, js, hk, rfl, HJ, HRW, HRO, HAP, OW, HGB, HRB⟩ := hrel
    obtain ⟨Ax, cx, rfl, hcx, hmx⟩ := own_len HRW.out
    unfold maxLen at hmx
    by_cases hlt : k < g.nd.length
    · obtain ⟨d, hd⟩ : ∃ x, g.nd[k]? = some x := ⟨_, List.getElem?_eq_getElem hlt⟩
      obtain ⟨bb, o, fv, rv, rfl, hbb, hh, g0, g1, g2, hnd⟩ := HR.out.at_ (OW.out.below hB fun _ h => h.elim) hd
      obtain ⟨Af, cf, hfv, -⟩ := hnd.fields.form
      obtain ⟨Ar2, cr2, hrv, -⟩ := hnd.raws.form
      simp only at hfv hrv
      subst hfv hrv
      have HND := Lib.hid hnd
      have hbd := HDB.out d (List.mem_of_getElem? hd)
      have HTK := Lib.hid (show g.nd.take (k + 1) = g.nd.take k ++ [d] by rw [List.take_add_one, hd]; rfl)
      obtain ⟨W2, hW2, HB2⟩ := box_node wr d.kd (.slice Af d.fs.length cf) (.slice Ar2 d.rs.length cr2)
      have HW2 := Lib.hid hW2
      have hBr : B ≤ wr.heap.size := Nat.le_trans hB OW.out.size
      have HCV := Lib.hid (fun (w' : World) (o : Only nob W2 w') => clone_vals16 (.slice Af d.fs.length cf) d.fs B w' (HND.out.fields.below ((HB2.out.1.trans o).below hBr fun _ h => h.elim)) (Nat.le_trans hBr (HB2.out.1.trans o).size) hbd.1)
      have HCW := Lib.hid (fun (w' : World) (o : Only nob W2 w') => clone_words16 (.slice Ar2 d.rs.length cr2) d.rs B w' (HND.out.raws.below ((HB2.out.1.trans o).below hBr fun _ h => h.elim)) (Nat.le_trans hBr (HB2.out.1.trans o).size) hbd.2)
      obtain ⟨kd, hkd⟩ : ∃ kd, kd = d.kd := ⟨_, rfl⟩
      have HKD := Lib.hid hkd
      rw [← hkd] at g0 HW2 HB2
      obtain ⟨-, -, d0, d1, d2⟩ := HB2.out
      have hwr : w.heap.size ≤ wr.heap.size := OW.out.size
      have HQ2 := Lib.hid (own_only HRW.out HB2.out.1 fun _ _ => id)
      have hp : wr.heap.size < W2.heap.size := HB2.out.2.1.lt
      obtain ⟨p, hpp⟩ : ∃ p, p = wr.heap.size := ⟨_, rfl⟩
      have HPP := Lib.hid hpp
      rw [← hpp] at d0 d1 d2 hp
      have HFO := Lib.hid (show ∀ j, (Value.slice Ax k cx).ownBlock = some j → j ≠ p from fun j e => by have := (own_lt HRW.out e).2; omega)
      have hw2 : w.heap.size ≤ W2.heap.size := Nat.le_trans hwr HB2.out.1.size
      clear hd hh hnd hkd hW2 hbd hpp
      go_upto_region 5 with fail
      rw [HW2.out, ← HPP.out]
      clear g0 g1 g2
      have HS0 := Lib.hid (And.intro d0 (And.intro d1 d2))
      go_region_held3 (fun w' => w'.cell? ⟨p, 0, none⟩ = some (.int .i64 kd) ∧ w'.cell? ⟨p, 1, none⟩ = some (.slice Af d.fs.length cf) ∧ w'.cell? ⟨p, 2, none⟩ = some (.slice Ar2 d.rs.length cr2))
        (first | (with_reducible exact C3.out) | (with_reducible exact C4.out) | (with_reducible exact C5.out) | (with_reducible exact C6.out) | go_keep)
        (first
          | (go_at_call 41; refine (HCV.out W2.drew (show Only nob W2 W2.drew from (Only.refl nob W2).drewN 1)).mono ?_; rintro e w3 ⟨v1, rfl, own1, o3⟩; obtain ⟨A1, c1, rfl, -⟩ := own_len own1; have F1 := Lib.hid own1; have O3 := Lib.hid (Only.drewL o3); have C3 := Lib.hid (And.intro (O3.out.keeps d0) (And.intro (O3.out.keeps d1) (O3.out.keeps d2))); clear own1 o3)
          | (go_at_call 42; refine (HCW.out w3 O3.out).mono ?_; rintro e w4 ⟨v2, rfl, own2, o4⟩; obtain ⟨A2, c2, rfl, -⟩ := own_len own2; have F2 := Lib.hid own2; have O4 := Lib.hid o4; have C4 := Lib.hid (And.intro (o4.keeps C3.out.1) (And.intro (o4.keeps C3.out.2.1) (o4.keeps C3.out.2.2))); have C5 := Lib.hid (And.intro (((Only.refl nob w4).alloc (.cells #[.int .i64 kd, .slice A1 d.fs.length c1, .slice A2 d.rs.length c2] 34)).keeps C4.out.1) (And.intro (((Only.refl nob w4).alloc (.cells #[.int .i64 kd, .slice A1 d.fs.length c1, .slice A2 d.rs.length c2] 34)).keeps C4.out.2.1) (((Only.refl nob w4).alloc (.cells #[.int .i64 kd, .slice A1 d.fs.length c1, .slice A2 d.rs.length c2] 34)).keeps C4.out.2.2))); clear own2 o4)
          | (refine step_append_sl _ (by rfl) _ _ _ (by rfl) w.heap.size 34 i0 _ 3 56 Try.underlying22 hi0 hz0 hz1 hz2 (by rfl) (by decide) (.slice Ax k cx) k (ndc (g.nd.take k) js) (by rfl) ((own_only (own_only (own_only HQ2.out O3.out fun _ _ => id) O4.out fun _ _ => id) ((Only.refl nob w4).alloc (.cells #[.int .i64 kd, .slice A1 d.fs.length c1, .slice A2 d.rs.length c2] 34)) fun _ _ => id)) (w4.heap.size + 1) (.slice (some ⟨w4.heap.size, 0, none⟩) 1 1) 1 [.int .i64 kd, .slice A1 d.fs.length c1, .slice A2 d.rs.length c2] (by rfl) (Sl.of_blk (size := 3) (n := 1) (c := 1) (Blk.new w4 34 #[.int .i64 kd, .slice A1 d.fs.length c1, .slice A2 d.rs.length c2]) rfl (Nat.le_refl _) (by decide) |>.more (by simp)) (by intro v hv; simp at hv; rcases hv with rfl | rfl | rfl <;> rfl) (by unfold maxLen; omega) (by omega) (by have := O3.out.size; have := O4.out.size; simp; omega) ?_; intro v5 w5 H5 q5 _; have C6 := Lib.hid (And.intro ((q5.cell (p := ⟨p, 0, none⟩) (by have := O3.out.size; have := O4.out.size; show p < _; simp; omega) (fun e => HFO.out _ e rfl)).trans C5.out.1) (And.intro ((q5.cell (p := ⟨p, 1, none⟩) (by have := O3.out.size; have := O4.out.size; show p < _; simp; omega) (fun e => HFO.out _ e rfl)).trans C5.out.2.1) ((q5.cell (p := ⟨p, 2, none⟩) (by have := O3.out.size; have := O4.out.size; show p < _; simp; omega) (fun e => HFO.out _ e rfl)).trans C5.out.2.2)))))
      have HN5 := Lib.hid (show NdO w4 w.heap.size d (.slice A1 d.fs.length c1, .slice A2 d.rs.length c2) from ⟨own_more (own_only F1.out O4.out fun _ _ => id) (fun j e => Nat.le_trans hw2 (own_lt F1.out e).1), own_more F2.out (fun j e => Nat.le_trans (Nat.le_trans hw2 O3.out.size) (own_lt F2.out e).1)⟩)
      have HB4 := Lib.hid (show (∀ j, (Value.slice A1 d.fs.length c1).ownBlock = some j → wr.heap.size ≤ j) ∧ ∀ j, (Value.slice A2 d.rs.length c2).ownBlock = some j → wr.heap.size ≤ j from ⟨fun j e => by have h1 : W2.heap.size ≤ j := (own_lt F1.out e).1; have := HPP.out; omega, fun j e => by have h1 : w3.heap.size ≤ j := (own_lt F2.out e).1; have := HPP.out; have := O3.out.size; omega⟩)
      have OR4 := Lib.hid (HB2.out.1.trans (O3.out.trans O4.out))
      have oA := (Only.refl nob w4).alloc (.cells #[.int .i64 kd, .slice A1 d.fs.length c1, .slice A2 d.rs.length c2] 34)
      have hox := own_only (own_only HRW.out OR4.out fun _ _ => id) oA fun _ _ => id
      have HRW5 := Lib.hid (show w5.ownsRow w.heap.size 34 3 v5 (k + 1) (ndc (g.nd.take (k + 1)) (js ++ [(.slice A1 d.fs.length c1, .slice A2 d.rs.length c2)])) by
        rw [HTK.out, ndc_snoc _ _ _ _ HJ.out, ← HKD.out]; exact H5.out)
      have HRO5 := Lib.hid (show RwO w5 w.heap.size (g.nd.take (k + 1)) (js ++ [(.slice A1 d.fs.length c1, .slice A2 d.rs.length c2)]) by
        rw [HTK.out]
        have h4 := ((HRO.out.nob OR4.out).snoc HJ.out HN5.out).nob oA
        intro i d' h' hd' hh'
        have h6 := h4 i d' h' hd' hh'
        exact h6.only q5 (own_apart16 h6.fs hox (by decide)) (own_apart16 h6.rs hox (by decide)))
      have HAP5 := Lib.hid (HAP.out.snoc (h := (.slice A1 d.fs.length c1, .slice A2 d.rs.length c2)) (N := wr.heap.size) (fun i q hq => by
        obtain ⟨d', hd'⟩ : ∃ d', (g.nd.take k)[i]? = some d' := ⟨_, List.getElem?_eq_getElem (by have := (List.getElem?_eq_some_iff.1 hq).1; rw [HJ.out] at this; exact this)⟩
        have h6 := HRO.out i d' q hd' hq
        exact ⟨fun b e => (own_lt h6.fs e).2, fun b e => (own_lt h6.rs e).2⟩) HB4.out)
      have HJ5 := Lib.hid (show (js ++ [(Value.slice A1 d.fs.length c1, Value.slice A2 d.rs.length c2)]).length = (g.nd.take (k + 1)).length by rw [HTK.out, List.length_append, List.length_append, HJ.out]; rfl)
      have HO5 := Lib.hid (own_nob (OW.out.trans (OR4.out.trans oA)) hox q5 (Nat.le_refl _))
      have HGB5 := Lib.hid ((HGB.out.keep (OR4.out.trans oA) id).keep q5 (blk_own_ne16 (HGB.out.keep (OR4.out.trans oA) id) hox (by decide)))
      have HRB5 := Lib.hid ((HRB.out.keep (OR4.out.trans oA) id).keep q5 (blk_own_ne16 (HRB.out.keep (OR4.out.trans oA) id) hox (by decide)))
      clear H5 q5 oA hox d0 d1 d2
      go_wp2
      go_roundw
      case rel => exact ⟨k + 1, _, by omega, by go_num, HJ5, HRW5, HRO5, HAP5, HO5, HGB5, HRB5⟩
      case measure => simp [intOf]; omega
    · obtain rfl : k = g.nd.length := by omega
      have HE := Lib.hid (show g.nd.take g.nd.length = g.nd from List.take_length)
      have u0 : wr.cell? ⟨w.heap.size, 0, none⟩ = some (.slice A g.nd.length c) := HGB.out.cell 0
      have u1 : wr.cell? ⟨w.heap.size, 1, none⟩ = some (.slice Ar g.rt.length cr) := HGB.out.cell 1
      go_wp2_with fail
      go_at_call 41
      refine (HCR.out wr OW.out).mono ?_
      rintro e w3 ⟨v3, rfl, own3, o3⟩
      obtain ⟨A3, c3, rfl, -⟩ := own_len own3
      have F3 := Lib.hid own3
      have O3 := Lib.hid o3
      have B3 := HRB.out.keep o3 id
      have b0 : w3.cell? ⟨w.heap.size + 1, 0, none⟩ = some (.slice none 0 0) := B3.cell 0
      have b1 : w3.cell? ⟨w.heap.size + 1, 1, none⟩ = some (.slice none 0 0) := B3.cell 1
      have f0 := B3.free 0
      have f1 := B3.free 1
      obtain ⟨U, hU, oU, bU⟩ : ∃ U, ((w3.setCell ⟨w.heap.size + 1, 0, none⟩ (.slice Ax g.nd.length cx)).setCell ⟨w.heap.size + 1, 1, none⟩ (.slice A3 g.rt.length c3)) = U ∧ Only (isb (w.heap.size + 1)) w3 U ∧ Blk U (w.heap.size + 1) 25 #[.slice Ax g.nd.length cx, .slice A3 g.rt.length c3] :=
        ⟨_, rfl, (only_set _ _ _ _).trans (only_set _ _ _ _), by simpa using (B3.put 0 (.slice Ax g.nd.length cx)).put 1 (.slice A3 g.rt.length c3)⟩
      have HU := Lib.hid hU
      have OU := Lib.hid oU
      have BU := Lib.hid bU
      have HB3 := Lib.hid B3
      clear own3 o3 B3 hU oU bU u0 u1
      go_wp2
      rw [HU.out]
      have r0 : U.cell? ⟨w.heap.size + 1, 0, none⟩ = some (.slice Ax g.nd.length cx) := BU.out.cell 0
      have r1 : U.cell? ⟨w.heap.size + 1, 1, none⟩ = some (.slice A3 g.rt.length c3) := BU.out.cell 1
      refine bodyPost_ret (v := .agg #[.slice Ax g.nd.length cx, .slice A3 g.rt.length c3]) (by simp [results, Try.results23, go_sem, r0, r1]) rfl ?_
      have hrw := HRW.out
      have hro := HRO.out
      have hj := HJ.out
      rw [HE.out] at hrw hro hj
      have hne : ∀ {b E s n v x}, w3.ownsRow b E s v n x → E ≠ 25 → ∀ k, v.ownBlock = some k → ¬ isb (w.heap.size + 1) k := fun hw hE k e e2 => by
        unfold isb at e2
        subst e2
        exact blk_own_ne16 HB3.out hw (fun e => hE e.symm) e
      have hw3 := own_only hrw O3.out fun _ _ => id
      have hr3 := hro.nob O3.out
      refine ⟨_, _, js, rfl, ⟨hj, own_only hw3 OU.out (hne hw3 (by decide)), fun i d x hd hx => (hr3 i d x hd hx).only OU.out (hne (hr3 i d x hd hx).fs (by decide)) (hne (hr3 i d x hd hx).rs (by decide)), HAP.out, own_more (own_only F3.out OU.out (hne F3.out (by decide))) (fun j e => Nat.le_trans OW.out.size (own_lt F3.out e).1), fun i x hx b e1 e2 => ?_⟩, ?_⟩
      · obtain ⟨d, hd⟩ : ∃ d, g.nd[i]? = some d := ⟨_, List.getElem?_eq_getElem (by have := (List.getElem?_eq_some_iff.1 hx).1; rw [hj] at this; exact this)⟩
        have h1 := (own_lt (hro i d x hd hx).fs e1).2
        have h2 := (own_lt F3.out e2).1
        omega
      · exact (OW.out.trans O3.out).andThen OU.out fun i hi e => by unfold isb at e; omega
end Go.Proofs.Ytdlaigghejahdaa
