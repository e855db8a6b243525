/- The document's own answer for graphs: a copy. (Printed by wip/tools/gen_copy16.py.) -/
import Derived.Test.YtdlaigghejahdaaRef16H
import Derived.Test.YtdlaigghejahdaaHeldX
namespace Go.Proofs.Ytdlaigghejahdaa
open Go.RowKit Go.Lib
set_option maxRecDepth 100000
set_option linter.unusedSimpArgs false
set_option linter.unusedVariables false

theorem lit16 (w : World) (T : TypeId) (sz : Nat) : ∃ X, w.alloc (.cells #[] T) = X ∧ Only nob w X ∧ X.ownsRow w.heap.size T sz (.slice (some ⟨w.heap.size, 0, none⟩) 0 0) 0 [] := ⟨_, rfl, (Only.refl nob w).alloc _, lit_own w T sz⟩
/-- What the loop of Copy holds when k nodes are copied. -/
def CpI (w : World) (g : Gr) (vn vr ur : Value) (xb : Nat) (wx : World) (k : Nat) : Prop := ∃ Ax cx js, js.length = (g.nd.take k).length ∧ wx.ownsRow w.heap.size 34 3 (.slice Ax k cx) k (ndc (g.nd.take k) js) ∧ RwO wx w.heap.size (g.nd.take k) js ∧ wx.ownsRow w.heap.size 46 2 ur g.rt.length (spc g.rt) ∧
  Blk wx xb 25 #[.slice Ax k cx, ur] ∧ Blk wx w.heap.size 25 #[vn, vr] ∧ Blk wx (w.heap.size + 1) 25 #[.slice none 0 0, .slice none 0 0] ∧ Only nob w wx
set_option maxHeartbeats 16000000 in
theorem rCopy16 (g : Gr) (vn vr : Value) (hs : List (Value × Value)) (B : Nat) (w : World) (h : RdG w B g vn vr hs) (hB : B ≤ w.heap.size) (hn : g.nd.length ≤ 1000) (hd : ∀ d ∈ g.nd, d.fs.length * 16 ≤ 140737488355328 ∧ d.rs.length * 8 ≤ 140737488355328) (hr : g.rt.length ≤ 100000) :
    Calls Try.prog 22 #[.agg #[vn, vr]] w fun e w' => ∃ un ur js, e = .returned (.agg #[un, ur]) ∧ RdG w' w'.heap.size g un ur js ∧ Only nob w w' := by
  obtain ⟨i0, hi0, hz0, hz1, hz2⟩ := info_parts info_node16
  obtain ⟨j0, hj0, hjz0, hjz1, hjz2⟩ := info_parts info_val16
  obtain ⟨l0, hl0, hlz0, hlz1, hlz2⟩ := info_parts info_u6416
  have HR := Lib.hid h
  have HDB := Lib.hid hd
  obtain ⟨A, c, rfl, hac, hcm⟩ := h.nodes.form
  obtain ⟨Ar, cr, rfl, harc, hcrm⟩ := h.roots.form
  unfold maxLen at hcm hcrm
  obtain ⟨V, hV, HV⟩ := two_boxes16 w (.slice A g.nd.length c) (.slice Ar g.rt.length cr)
  have HVE := Lib.hid hV
  have v1 : V.cell? ⟨w.heap.size, 1, none⟩ = some (.slice Ar g.rt.length cr) := HV.out.2.1.cell 1
  have hwV : w.heap.size ≤ V.heap.size := HV.out.1.size
  have hBV : B ≤ V.heap.size := Nat.le_trans hB hwV
  have hbl := (HV.out.2.2).lt
  clear hV h hd
  go_enter Try.func22, Try.ntmps22
  go_upto_region 1 with fail
  rw [HVE.out]
  obtain ⟨Y1, hY1, oY1, lY1⟩ := lit16 V 46 2
  have HY1 := Lib.hid hY1
  have LY1 := Lib.hid lY1
  have OY1 := Lib.hid oY1
  have v1' := oY1.keeps v1
  have hVY : V.heap.size ≤ Y1.heap.size := oY1.size
  clear hY1 oY1 lY1 v1
  go_wp2_with (first | (with_reducible rw [HY1.out]) | (with_reducible refine wpList_append_sl (o := ⟨some 9, _, _, _, _, _⟩) _ rfl (.tmp 6) (.tmp 8) _ rfl V.heap.size 46 j0 _ 2 16 Try.underlying23 hj0 hjz0 hjz1 hjz2 rfl (by decide) (.slice (some ⟨V.heap.size, 0, none⟩) 0 0) 0 [] rfl LY1.out B (.slice Ar g.rt.length cr) g.rt.length (spc g.rt) rfl ?c6 (spc_one16 _) ?c2 ?c3 ?c4 ?c5))
  case c6 => exact HR.out.roots.below ((HV.out.1.trans OY1.out).below hB fun _ h => h.elim)
  case c2 => unfold maxLen; omega
  case c3 => omega
  case c4 => omega
  case c5 =>
    intro v3 w3 H3 o3 _
    obtain ⟨AT, cT, rfl, -⟩ := own_len H3.out
    have O3 := Lib.hid (own_nob (HV.out.1.trans OY1.out) LY1.out o3 hwV)
    have G3 := Lib.hid ((HV.out.2.1.keep OY1.out id).keep o3 (blk_own_ne16 (HV.out.2.1.keep OY1.out id) LY1.out (by decide)))
    have R3 := Lib.hid ((HV.out.2.2.keep OY1.out id).keep o3 (blk_own_ne16 (HV.out.2.2.keep OY1.out id) LY1.out (by decide)))
    have T3 := Lib.hid (own_more (base' := w.heap.size) H3.out (fun j e => Nat.le_trans hwV (own_lt H3.out e).1))
    have h3s : Y1.heap.size ≤ w3.heap.size := o3.size
    obtain ⟨W4, hW4, o4, b4⟩ : ∃ W4, w3.alloc (.cells #[.slice none 0 0, .slice AT g.rt.length cT] 25) = W4 ∧ Only nob w3 W4 ∧ Blk W4 w3.heap.size 25 #[.slice none 0 0, .slice AT g.rt.length cT] := ⟨_, rfl, (Only.refl nob w3).alloc _, Blk.new w3 _ _⟩
    have HW4 := Lib.hid hW4
    obtain ⟨xb, hxb⟩ : ∃ xb, xb = w3.heap.size := ⟨_, rfl⟩
    have HXB := Lib.hid hxb
    rw [← hxb] at b4
    have hxb2 : w.heap.size + 1 < xb := by omega
    have HC4 := Lib.hid (show CpI w g (.slice A g.nd.length c) (.slice Ar g.rt.length cr) (.slice AT g.rt.length cT) xb W4 0 from ⟨none, 0, [], rfl, World.ownsRow_nil _ _ _ _, (fun i d h hd _ => by simp at hd), own_only T3.out o4 (fun _ _ => id), b4, G3.out.keep o4 id, R3.out.keep o4 id, O3.out.trans o4⟩)
    clear H3 o3 hW4 o4 b4 hxb v1'
    go_upto_region 2 with fail
    rw [HW4.out, ← HXB.out]
    clear HXB
    go_wp2_with fail
    go_loopw [4, 5] (fun i _ wr => ∃ k : Nat, k ≤ g.nd.length ∧ i = .int .i64 k ∧ Hid (CpI w g (.slice A g.nd.length c) (.slice Ar g.rt.length cr) (.slice AT g.rt.length cT) xb wr k)) (fun i _ _ => g.nd.length - (intOf i).toNat)
    case atStart => exact ⟨0, Nat.zero_le _, rfl, HC4⟩
    case round =>
      obtain ⟨k, hk, rfl, HCP⟩ := hrel
      obtain ⟨Ax, cx, js, hj, hrw, hro, hrt, hx, hgb, hrs, how⟩ := HCP.out
      have HJ := Lib.hid hj
      have HRW := Lib.hid hrw
      have HRO := Lib.hid hro
      have HRT := Lib.hid hrt
      have HX := Lib.hid hx
      have HG := Lib.hid hgb
      have HRS := Lib.hid hrs
      have HOW := Lib.hid how
      have g0 : wr.cell? ⟨w.heap.size, 0, none⟩ = some (.slice A g.nd.length c) := hgb.cell 0
      have x0 : wr.cell? ⟨xb, 0, none⟩ = some (.slice Ax k cx) := hx.cell 0
      clear hj hrw hro hrt hx hgb hrs how
      by_cases hlt : k < g.nd.length
      · obtain ⟨d, hd⟩ : ∃ x, g.nd[k]? = some x := ⟨_, List.getElem?_eq_getElem hlt⟩
        obtain ⟨bb, oo, fv, rv, rfl, hbb, hh, q0, q1, q2, hnd⟩ := HR.out.at_ (HOW.out.below hB fun _ h => h.elim) hd
        obtain ⟨Af, cf, hfv, -⟩ := hnd.fields.form
        obtain ⟨Ar2, cr2, hrv, -⟩ := hnd.raws.form
        simp only at hfv hrv
        subst hfv hrv
        have HNR := Lib.hid hnd
        obtain ⟨hbd1, hbd2⟩ := HDB.out d (List.mem_of_getElem? hd)
        have HTK := Lib.hid (show g.nd.take (k + 1) = g.nd.take k ++ [d] by rw [List.take_add_one, hd]; rfl)
        obtain ⟨kd, hkd⟩ : ∃ kd, kd = d.kd := ⟨_, rfl⟩
        have HKD := Lib.hid hkd
        rw [← hkd] at q0
        obtain ⟨WS, hWS, HB5⟩ := box_node wr kd (.slice Af d.fs.length cf) (.slice Ar2 d.rs.length cr2)
        have HWS := Lib.hid hWS
        have hBw : B ≤ wr.heap.size := Nat.le_trans hB HOW.out.size
        have hww : w.heap.size ≤ wr.heap.size := HOW.out.size
        have hrS : wr.heap.size ≤ WS.heap.size := HB5.out.1.size
        obtain ⟨-, hbp, d0, d1, d2⟩ := HB5.out
        obtain ⟨p, hp⟩ : ∃ p, p = wr.heap.size := ⟨_, rfl⟩
        have HPP := Lib.hid hp
        rw [← hp] at hbp d0 d1 d2
        have HBP0 := Lib.hid hbp
        have s0 := HB5.out.1.keeps x0
        have s1 := d0
        have s2 := d1
        have s3 := d2
        have hpx : p ≠ xb := by have := HX.out.lt; omega
        clear hd hh hnd hkd hWS hbp hp
        go_upto_region 6 with fail
        rw [HWS.out, ← HPP.out]
        refine region_heldX (stop := 16) (S := fun w' : World => w'.cell? ⟨xb, 0, none⟩ = some (.slice Ax k cx) ∧ w'.cell? ⟨p, 0, none⟩ = some (.int .i64 kd) ∧ w'.cell? ⟨p, 1, none⟩ = some (.slice Af d.fs.length cf) ∧ w'.cell? ⟨p, 2, none⟩ = some (.slice Ar2 d.rs.length cr2)) (by kernel_rfl) ?_ (fun hHeld => ?_)
        · exact ⟨s0, d0, d1, d2⟩
        clear g0 x0 q0 q1 q2
        have OD := Lib.hid (show Only nob WS WS.drew from (Only.refl nob WS).drewN 1)
        generalize WS.drew = WD at hHeld OD ⊢
        have O0 := OD
        have z0 : WS.heap.size ≤ WD.heap.size := OD.out.size
        have HBP := Lib.hid (HBP0.out.keep (F := nob) (Only.refl nob WS) id)
        refine anyX_take (i := 0) (v := ?_) rfl (by kernel_rfl) (by kernel_rfl) (by kernel_rfl) (by kernel_rfl) (fun _ _ _ h => h) (Or.inl ⟨by rfl, ?_⟩) hHeld ?_
        rotate_left
        · intro w hSw; (try dsimp only at hSw); go_simp; first | done | with_reducible rfl
        try simp only [Act.put, List.setIfInBounds_toArray, List.set_cons_zero, List.set_cons_succ, List.getElem_toArray, List.getElem_cons_succ, List.getElem_cons_zero]
        refine anyX_take (i := 1) (v := ?_) rfl (by kernel_rfl) (by kernel_rfl) (by kernel_rfl) (by kernel_rfl) (fun _ _ _ h => h) (Or.inl ⟨by rfl, ?_⟩) hHeld ?_
        rotate_left
        · intro w hSw; (try dsimp only at hSw); go_simp; first | done | with_reducible rfl
        try simp only [Act.put, List.setIfInBounds_toArray, List.set_cons_zero, List.set_cons_succ, List.getElem_toArray, List.getElem_cons_succ, List.getElem_cons_zero]
        refine anyX_take (i := 2) (v := ?_) rfl (by kernel_rfl) (by kernel_rfl) (by kernel_rfl) (by kernel_rfl) (fun _ _ _ h => h) (Or.inl ⟨by rfl, ?_⟩) hHeld ?_
        rotate_left
        · intro w hSw; (try dsimp only at hSw); go_simp; first | done | with_reducible rfl
        try simp only [Act.put, List.setIfInBounds_toArray, List.set_cons_zero, List.set_cons_succ, List.getElem_toArray, List.getElem_cons_succ, List.getElem_cons_zero]
        refine anyX_take (i := 3) (v := ?_) rfl (by kernel_rfl) (by kernel_rfl) (by kernel_rfl) (by kernel_rfl) (fun _ _ _ h => h) (Or.inl ⟨by rfl, ?_⟩) hHeld ?_
        rotate_left
        · intro w hSw; (try dsimp only at hSw); go_simp; first | done | with_reducible rfl
        try simp only [Act.put, List.setIfInBounds_toArray, List.set_cons_zero, List.set_cons_succ, List.getElem_toArray, List.getElem_cons_succ, List.getElem_cons_zero]
        refine anyX_take (i := 5) (v := ?_) rfl (by kernel_rfl) (by kernel_rfl) (by kernel_rfl) (by kernel_rfl) (fun _ _ _ h => h) (Or.inl ⟨by rfl, ?_⟩) hHeld ?_
        rotate_left
        · intro w hSw; (try dsimp only at hSw); go_simp; first | done | with_reducible rfl
        try simp only [Act.put, List.setIfInBounds_toArray, List.set_cons_zero, List.set_cons_succ, List.getElem_toArray, List.getElem_cons_succ, List.getElem_cons_zero]
        refine anyX_take (i := 6) (v := ?_) rfl (by kernel_rfl) (by kernel_rfl) (by kernel_rfl) (by kernel_rfl) (fun _ _ _ h => h) (Or.inl ⟨by rfl, ?_⟩) hHeld ?_
        rotate_left
        · intro w hSw; (try dsimp only at hSw); go_simp; first | done | with_reducible rfl
        try simp only [Act.put, List.setIfInBounds_toArray, List.set_cons_zero, List.set_cons_succ, List.getElem_toArray, List.getElem_cons_succ, List.getElem_cons_zero]
        refine anyX_take (i := 9) (v := ?_) rfl (by kernel_rfl) (by kernel_rfl) (by kernel_rfl) (by kernel_rfl) (fun _ _ _ h => h) (Or.inl ⟨by rfl, ?_⟩) hHeld ?_
        rotate_left
        · intro w hSw; (try dsimp only at hSw); go_simp; first | done | with_reducible rfl
        try simp only [Act.put, List.setIfInBounds_toArray, List.set_cons_zero, List.set_cons_succ, List.getElem_toArray, List.getElem_cons_succ, List.getElem_cons_zero]
        refine anyX_take (i := 10) (v := ?_) rfl (by kernel_rfl) (by kernel_rfl) (by kernel_rfl) (by kernel_rfl) (fun _ _ _ h => h) (Or.inl ⟨by rfl, ?_⟩) hHeld ?_
        rotate_left
        · intro w hSw; (try dsimp only at hSw); go_simp; first | done | with_reducible rfl
        try simp only [Act.put, List.setIfInBounds_toArray, List.set_cons_zero, List.set_cons_succ, List.getElem_toArray, List.getElem_cons_succ, List.getElem_cons_zero]
        refine anyX_ready (rs := [4, 8]) (by kernel_rfl) (by simp) ?_
        refine (AllX.cons rfl (fun K hK => ?_) (AllX.cons rfl (fun K hK => ?_) AllX.nil))
        · skip
          obtain ⟨X1, hX, oX, lX⟩ := lit16 WD 46 2
          have HWE := Lib.hid hX
          have LV := Lib.hid lX
          have O1 := Lib.hid (O0.out.trans oX)
          have z1 : WD.heap.size ≤ X1.heap.size := oX.size
          clear hX oX lX
          go_simp
          with_reducible rw [HWE.out]
          clear HWE
          refine hK.out _ _ (fun _ => ⟨O1.out.keeps s0, O1.out.keeps s1, O1.out.keeps s2, O1.out.keeps s3⟩) (fun hHeld2 => ?_)
          clear hK K hHeld
          have hHeld := hHeld2 (by decide)
          clear hHeld2
          try simp only [Act.put, List.setIfInBounds_toArray, List.set_cons_zero, List.set_cons_succ, List.getElem_toArray, List.getElem_cons_succ, List.getElem_cons_zero]
          refine anyX_ready (rs := [7, 8]) (by kernel_rfl) (by simp) ?_
          refine (AllX.cons rfl (fun K hK => ?_) (AllX.cons rfl (fun K hK => ?_) AllX.nil))
          · skip
            refine step_append_sl _ (by rfl) _ _ _ (by rfl) WD.heap.size 46 j0 _ 2 16 Try.underlying23 hj0 hjz0 hjz1 hjz2 (by rfl) (by decide) (.slice (some ⟨WD.heap.size, 0, none⟩) 0 0) 0 [] (by rfl) LV.out B (.slice Af d.fs.length cf) d.fs.length (spc d.fs) (by rfl) (HNR.out.fields.below ((HB5.out.1.trans O1.out).below hBw fun _ h => h.elim)) (spc_one16 _) (by unfold maxLen; omega) (by omega) (by omega) ?_
            intro v2 X2 H2 o2 _
            rw [Nat.zero_add, List.nil_append] at H2
            obtain ⟨A2, c2, rfl, -⟩ := own_len H2.out
            have z2 : X1.heap.size ≤ X2.heap.size := o2.size
            have O2 := Lib.hid (own_nob O1.out LV.out o2 (by omega))
            have RV := Lib.hid H2.out
            clear H2 o2
            refine hK.out _ _ (fun _ => ⟨O2.out.keeps s0, O2.out.keeps s1, O2.out.keeps s2, O2.out.keeps s3⟩) (fun hHeld2 => ?_)
            clear hK K hHeld
            have hHeld := hHeld2 (by decide)
            clear hHeld2
            try simp only [Act.put, List.setIfInBounds_toArray, List.set_cons_zero, List.set_cons_succ, List.getElem_toArray, List.getElem_cons_succ, List.getElem_cons_zero]
            refine anyX_ready (rs := [8]) (by kernel_rfl) (by simp) ?_
            refine (AllX.cons rfl (fun K hK => ?_) AllX.nil)
            obtain ⟨X3, hX, oX, lX⟩ := lit16 X2 47 1
            have HWE := Lib.hid hX
            have RV := Lib.hid (own_only RV.out oX fun _ _ => id)
            have LW := Lib.hid lX
            have O3 := Lib.hid (O2.out.trans oX)
            have z3 : X2.heap.size ≤ X3.heap.size := oX.size
            clear hX oX lX
            go_simp
            with_reducible rw [HWE.out]
            clear HWE
            refine hK.out _ _ (fun _ => ⟨O3.out.keeps s0, O3.out.keeps s1, O3.out.keeps s2, O3.out.keeps s3⟩) (fun hHeld2 => ?_)
            clear hK K hHeld
            have hHeld := hHeld2 (by decide)
            clear hHeld2
            try simp only [Act.put, List.setIfInBounds_toArray, List.set_cons_zero, List.set_cons_succ, List.getElem_toArray, List.getElem_cons_succ, List.getElem_cons_zero]
            refine anyX_ready (rs := [11]) (by kernel_rfl) (by simp) ?_
            refine (AllX.cons rfl (fun K hK => ?_) AllX.nil)
            refine step_append_sl _ (by rfl) _ _ _ (by rfl) X2.heap.size 47 l0 _ 1 8 Try.underlying32 hl0 hlz0 hlz1 hlz2 (by rfl) (by decide) (.slice (some ⟨X2.heap.size, 0, none⟩) 0 0) 0 [] (by rfl) LW.out B (.slice Ar2 d.rs.length cr2) d.rs.length (u64s d.rs) (by rfl) (HNR.out.raws.below ((HB5.out.1.trans O3.out).below hBw fun _ h => h.elim)) (u64s_one _) (by unfold maxLen; omega) (by omega) (by omega) ?_
            intro v4 X4 H4 o4 _
            rw [Nat.zero_add, List.nil_append] at H4
            obtain ⟨A4, c4, rfl, -⟩ := own_len H4.out
            have z4 : X3.heap.size ≤ X4.heap.size := o4.size
            have RV := Lib.hid (own_only RV.out o4 (own_apart16 RV.out LW.out (by decide)))
            have O4 := Lib.hid (own_nob O3.out LW.out o4 (by omega))
            have RWs := Lib.hid H4.out
            clear H4 o4
            refine hK.out _ _ (fun _ => ⟨O4.out.keeps s0, O4.out.keeps s1, O4.out.keeps s2, O4.out.keeps s3⟩) (fun hHeld2 => ?_)
            clear hK K hHeld
            have hHeld := hHeld2 (by decide)
            clear hHeld2
            try simp only [Act.put, List.setIfInBounds_toArray, List.set_cons_zero, List.set_cons_succ, List.getElem_toArray, List.getElem_cons_succ, List.getElem_cons_zero]
            refine anyX_take (i := 12) (v := ?_) rfl (by kernel_rfl) (by kernel_rfl) (by kernel_rfl) (by kernel_rfl) (fun _ _ _ h => h) (Or.inl ⟨by rfl, ?_⟩) hHeld ?_
            rotate_left
            · intro w hSw; (try dsimp only at hSw); go_simp; first | done | with_reducible rfl
            try simp only [Act.put, List.setIfInBounds_toArray, List.set_cons_zero, List.set_cons_succ, List.getElem_toArray, List.getElem_cons_succ, List.getElem_cons_zero]
            refine anyX_ready (rs := [13]) (by kernel_rfl) (by simp) ?_
            refine (AllX.cons rfl (fun K hK => ?_) AllX.nil)
            obtain ⟨X5, hX, oX, bX⟩ : ∃ X, X4.alloc (.cells #[.int .i64 kd, .slice A2 d.fs.length c2, .slice A4 d.rs.length c4] 34) = X ∧ Only nob X4 X ∧ Blk X X4.heap.size 34 #[.int .i64 kd, .slice A2 d.fs.length c2, .slice A4 d.rs.length c4] := ⟨_, rfl, (Only.refl nob X4).alloc _, Blk.new X4 _ _⟩
            have HWE := Lib.hid hX
            have RV := Lib.hid (own_only RV.out oX fun _ _ => id)
            have RWs := Lib.hid (own_only RWs.out oX fun _ _ => id)
            have BNW := Lib.hid bX
            have O5 := Lib.hid (O4.out.trans oX)
            have z5 : X4.heap.size ≤ X5.heap.size := oX.size
            clear hX oX bX
            go_simp
            with_reducible rw [HWE.out]
            clear HWE
            refine hK.out _ _ (fun _ => ⟨O5.out.keeps s0, O5.out.keeps s1, O5.out.keeps s2, O5.out.keeps s3⟩) (fun hHeld2 => ?_)
            clear hK K hHeld
            have hHeld := hHeld2 (by decide)
            clear hHeld2
            try simp only [Act.put, List.setIfInBounds_toArray, List.set_cons_zero, List.set_cons_succ, List.getElem_toArray, List.getElem_cons_succ, List.getElem_cons_zero]
            refine anyX_ready (rs := [14]) (by kernel_rfl) (by simp) ?_
            refine (AllX.cons rfl (fun K hK => ?_) AllX.nil)
            have OT := Lib.hid (HB5.out.1.trans O5.out)
            have HRX := Lib.hid (own_only HRW.out OT.out fun _ _ => id)
            refine step_append_sl _ (by rfl) _ _ _ (by rfl) w.heap.size 34 i0 _ 3 56 Try.underlying22 hi0 hz0 hz1 hz2 (by rfl) (by decide) (.slice Ax k cx) k (ndc (g.nd.take k) js) (by rfl) HRX.out X5.heap.size (.slice (some ⟨X4.heap.size, 0, none⟩) 1 1) 1 [.int .i64 kd, .slice A2 d.fs.length c2, .slice A4 d.rs.length c4] (by rfl) (Sl.of_blk (size := 3) (n := 1) (c := 1) BNW.out rfl (Nat.le_refl _) (by decide)) (one_node16 _ _ _ _ _ _ _) (by unfold maxLen; omega) (by omega) (by omega) ?_
            intro v6 X6 H6 o6 _
            obtain ⟨A6, c6, rfl, -⟩ := own_len H6.out
            have z6 : X5.heap.size ≤ X6.heap.size := o6.size
            have HNW := Lib.hid (show X6.ownsRow w.heap.size 34 3 (.slice A6 (k + 1) c6) (k + 1) (ndc (g.nd.take (k + 1)) (js ++ [(.slice A2 d.fs.length c2, .slice A4 d.rs.length c4)])) by rw [HTK.out, ndc_snoc _ _ _ _ HJ.out, ← HKD.out]; exact H6.out)
            have RV := Lib.hid (own_only RV.out o6 (own_apart16 RV.out HRX.out (by decide)))
            have RWs := Lib.hid (own_only RWs.out o6 (own_apart16 RWs.out HRX.out (by decide)))
            have HRO9 := Lib.hid (show RwO X6 w.heap.size (g.nd.take k) js from fun i d' h' hd' hh' => (HRO.out.nob OT.out i d' h' hd' hh').only o6 (own_apart16 (HRO.out.nob OT.out i d' h' hd' hh').fs HRX.out (by decide)) (own_apart16 (HRO.out.nob OT.out i d' h' hd' hh').rs HRX.out (by decide)))
            have HRT9 := Lib.hid (own_only (own_only HRT.out OT.out fun _ _ => id) o6 (own_apart16 (own_only HRT.out OT.out fun _ _ => id) HRX.out (by decide)))
            have HX9 := Lib.hid ((HX.out.keep OT.out id).keep o6 (blk_own_ne16 (HX.out.keep OT.out id) HRX.out (by decide)))
            have HG9 := Lib.hid ((HG.out.keep OT.out id).keep o6 (blk_own_ne16 (HG.out.keep OT.out id) HRX.out (by decide)))
            have HS9 := Lib.hid ((HRS.out.keep OT.out id).keep o6 (blk_own_ne16 (HRS.out.keep OT.out id) HRX.out (by decide)))
            have HP9 := Lib.hid ((HBP.out.keep O5.out id).keep o6 (fun e => by have h1 := (own_lt HRW.out e).2; have := HPP.out; omega))
            have O6 := Lib.hid (own_nob (HOW.out.trans OT.out) HRX.out o6 (Nat.le_refl _))
            clear H6 o6
            refine hK.out _ _ (fun _ => ⟨HX9.out.cell 0, HP9.out.cell 0, HP9.out.cell 1, HP9.out.cell 2⟩) (fun hHeld2 => ?_)
            clear hK K hHeld
            have hHeld := hHeld2 (by decide)
            clear hHeld2
            try simp only [Act.put, List.setIfInBounds_toArray, List.set_cons_zero, List.set_cons_succ, List.getElem_toArray, List.getElem_cons_succ, List.getElem_cons_zero]
            refine anyX_take (i := 15) (v := ?_) rfl (by kernel_rfl) (by kernel_rfl) (by kernel_rfl) (by kernel_rfl) (fun _ _ _ h => h) (Or.inl ⟨by rfl, ?_⟩) hHeld ?_
            rotate_left
            · intro w hSw; (try dsimp only at hSw); go_simp; first | done | with_reducible rfl
            try simp only [Act.put, List.setIfInBounds_toArray, List.set_cons_zero, List.set_cons_succ, List.getElem_toArray, List.getElem_cons_succ, List.getElem_cons_zero]
            refine anyX_ready (rs := [16]) (by kernel_rfl) (by simp) ?_
            refine (AllX.cons rfl (fun K hK => ?_) AllX.nil)
            have y0 : X6.cell? ⟨xb, 0, none⟩ = some (.slice Ax k cx) := HX9.out.cell 0
            have fy0 := HX9.out.free 0
            obtain ⟨X7, hX, oX, bX⟩ : ∃ X, X6.setCell ⟨xb, 0, none⟩ (.slice A6 (k + 1) c6) = X ∧ Only (isb xb) X6 X ∧ Blk X xb 25 #[.slice A6 (k + 1) c6, .slice AT g.rt.length cT] := ⟨_, rfl, only_set _ _ _ _, by simpa using HX9.out.put 0 (.slice A6 (k + 1) c6)⟩
            have HWE := Lib.hid hX
            have hne : ∀ {b E s n v x}, X6.ownsRow b E s v n x → E ≠ 25 → ∀ j, v.ownBlock = some j → ¬ isb xb j := fun hw hE j e e2 => by unfold isb at e2; subst e2; exact blk_own_ne16 HX9.out hw (fun e => hE e.symm) e
            have HFIN := Lib.hid (show CpI w g (.slice (some ⟨bb, oo, none⟩) g.nd.length c) (.slice Ar g.rt.length cr) (.slice AT g.rt.length cT) xb X7 (k + 1) from ⟨A6, c6, _, by rw [HTK.out, List.length_append, List.length_append, HJ.out]; rfl, own_only HNW.out oX (hne HNW.out (by decide)), by
              rw [HTK.out]
              exact RwO.snoc (fun i d' h' hd' hh' => (HRO9.out i d' h' hd' hh').only oX (hne (HRO9.out i d' h' hd' hh').fs (by decide)) (hne (HRO9.out i d' h' hd' hh').rs (by decide))) HJ.out ⟨own_more (own_only RV.out oX (hne RV.out (by decide))) (fun j e => by have h1 : WD.heap.size ≤ j := (own_lt RV.out e).1; omega), own_more (own_only RWs.out oX (hne RWs.out (by decide))) (fun j e => by have h1 : X2.heap.size ≤ j := (own_lt RWs.out e).1; omega)⟩,
              own_only HRT9.out oX (hne HRT9.out (by decide)), bX, HG9.out.keep oX (by unfold isb; omega), HS9.out.keep oX (by unfold isb; omega), O6.out.andThen oX fun i hi e => by unfold isb at e; omega⟩)
            have HP10 := Lib.hid (HP9.out.keep oX (by unfold isb; omega))
            have HXX := Lib.hid bX
            clear hX
            go_simp
            with_reducible rw [HWE.out]
            clear oX bX hne y0 fy0 HWE hHeld
            refine hK.out _ _ (fun h => absurd rfl h) (fun hHeld2 => ?_)
            clear hK K
            try simp only [Act.put, List.setIfInBounds_toArray, List.set_cons_zero, List.set_cons_succ, List.getElem_toArray, List.getElem_cons_succ, List.getElem_cons_zero]
            refine anyX_done (by kernel_rfl) ?_ _
            go_wp2
            go_roundw
            case rel => exact ⟨k + 1, by omega, by go_num, HFIN⟩
            case measure => simp [intOf]; omega
          · skip
            obtain ⟨X2, hX, oX, lX⟩ := lit16 X1 47 1
            have HWE := Lib.hid hX
            have LV := Lib.hid (own_only LV.out oX fun _ _ => id)
            have LW := Lib.hid lX
            have O2 := Lib.hid (O1.out.trans oX)
            have z2 : X1.heap.size ≤ X2.heap.size := oX.size
            clear hX oX lX
            go_simp
            with_reducible rw [HWE.out]
            clear HWE
            refine hK.out _ _ (fun _ => ⟨O2.out.keeps s0, O2.out.keeps s1, O2.out.keeps s2, O2.out.keeps s3⟩) (fun hHeld2 => ?_)
            clear hK K hHeld
            have hHeld := hHeld2 (by decide)
            clear hHeld2
            try simp only [Act.put, List.setIfInBounds_toArray, List.set_cons_zero, List.set_cons_succ, List.getElem_toArray, List.getElem_cons_succ, List.getElem_cons_zero]
            refine anyX_ready (rs := [7]) (by kernel_rfl) (by simp) ?_
            refine (AllX.cons rfl (fun K hK => ?_) AllX.nil)
            refine step_append_sl _ (by rfl) _ _ _ (by rfl) WD.heap.size 46 j0 _ 2 16 Try.underlying23 hj0 hjz0 hjz1 hjz2 (by rfl) (by decide) (.slice (some ⟨WD.heap.size, 0, none⟩) 0 0) 0 [] (by rfl) LV.out B (.slice Af d.fs.length cf) d.fs.length (spc d.fs) (by rfl) (HNR.out.fields.below ((HB5.out.1.trans O2.out).below hBw fun _ h => h.elim)) (spc_one16 _) (by unfold maxLen; omega) (by omega) (by omega) ?_
            intro v3 X3 H3 o3 _
            rw [Nat.zero_add, List.nil_append] at H3
            obtain ⟨A3, c3, rfl, -⟩ := own_len H3.out
            have z3 : X2.heap.size ≤ X3.heap.size := o3.size
            have LW := Lib.hid (own_only LW.out o3 (own_apart16 LW.out LV.out (by decide)))
            have O3 := Lib.hid (own_nob O2.out LV.out o3 (by omega))
            have RV := Lib.hid H3.out
            clear H3 o3
            refine hK.out _ _ (fun _ => ⟨O3.out.keeps s0, O3.out.keeps s1, O3.out.keeps s2, O3.out.keeps s3⟩) (fun hHeld2 => ?_)
            clear hK K hHeld
            have hHeld := hHeld2 (by decide)
            clear hHeld2
            try simp only [Act.put, List.setIfInBounds_toArray, List.set_cons_zero, List.set_cons_succ, List.getElem_toArray, List.getElem_cons_succ, List.getElem_cons_zero]
            refine anyX_ready (rs := [11]) (by kernel_rfl) (by simp) ?_
            refine (AllX.cons rfl (fun K hK => ?_) AllX.nil)
            refine step_append_sl _ (by rfl) _ _ _ (by rfl) X1.heap.size 47 l0 _ 1 8 Try.underlying32 hl0 hlz0 hlz1 hlz2 (by rfl) (by decide) (.slice (some ⟨X1.heap.size, 0, none⟩) 0 0) 0 [] (by rfl) LW.out B (.slice Ar2 d.rs.length cr2) d.rs.length (u64s d.rs) (by rfl) (HNR.out.raws.below ((HB5.out.1.trans O3.out).below hBw fun _ h => h.elim)) (u64s_one _) (by unfold maxLen; omega) (by omega) (by omega) ?_
            intro v4 X4 H4 o4 _
            rw [Nat.zero_add, List.nil_append] at H4
            obtain ⟨A4, c4, rfl, -⟩ := own_len H4.out
            have z4 : X3.heap.size ≤ X4.heap.size := o4.size
            have RV := Lib.hid (own_only RV.out o4 (own_apart16 RV.out LW.out (by decide)))
            have O4 := Lib.hid (own_nob O3.out LW.out o4 (by omega))
            have RWs := Lib.hid H4.out
            clear H4 o4
            refine hK.out _ _ (fun _ => ⟨O4.out.keeps s0, O4.out.keeps s1, O4.out.keeps s2, O4.out.keeps s3⟩) (fun hHeld2 => ?_)
            clear hK K hHeld
            have hHeld := hHeld2 (by decide)
            clear hHeld2
            try simp only [Act.put, List.setIfInBounds_toArray, List.set_cons_zero, List.set_cons_succ, List.getElem_toArray, List.getElem_cons_succ, List.getElem_cons_zero]
            refine anyX_take (i := 12) (v := ?_) rfl (by kernel_rfl) (by kernel_rfl) (by kernel_rfl) (by kernel_rfl) (fun _ _ _ h => h) (Or.inl ⟨by rfl, ?_⟩) hHeld ?_
            rotate_left
            · intro w hSw; (try dsimp only at hSw); go_simp; first | done | with_reducible rfl
            try simp only [Act.put, List.setIfInBounds_toArray, List.set_cons_zero, List.set_cons_succ, List.getElem_toArray, List.getElem_cons_succ, List.getElem_cons_zero]
            refine anyX_ready (rs := [13]) (by kernel_rfl) (by simp) ?_
            refine (AllX.cons rfl (fun K hK => ?_) AllX.nil)
            obtain ⟨X5, hX, oX, bX⟩ : ∃ X, X4.alloc (.cells #[.int .i64 kd, .slice A3 d.fs.length c3, .slice A4 d.rs.length c4] 34) = X ∧ Only nob X4 X ∧ Blk X X4.heap.size 34 #[.int .i64 kd, .slice A3 d.fs.length c3, .slice A4 d.rs.length c4] := ⟨_, rfl, (Only.refl nob X4).alloc _, Blk.new X4 _ _⟩
            have HWE := Lib.hid hX
            have RV := Lib.hid (own_only RV.out oX fun _ _ => id)
            have RWs := Lib.hid (own_only RWs.out oX fun _ _ => id)
            have BNW := Lib.hid bX
            have O5 := Lib.hid (O4.out.trans oX)
            have z5 : X4.heap.size ≤ X5.heap.size := oX.size
            clear hX oX bX
            go_simp
            with_reducible rw [HWE.out]
            clear HWE
            refine hK.out _ _ (fun _ => ⟨O5.out.keeps s0, O5.out.keeps s1, O5.out.keeps s2, O5.out.keeps s3⟩) (fun hHeld2 => ?_)
            clear hK K hHeld
            have hHeld := hHeld2 (by decide)
            clear hHeld2
            try simp only [Act.put, List.setIfInBounds_toArray, List.set_cons_zero, List.set_cons_succ, List.getElem_toArray, List.getElem_cons_succ, List.getElem_cons_zero]
            refine anyX_ready (rs := [14]) (by kernel_rfl) (by simp) ?_
            refine (AllX.cons rfl (fun K hK => ?_) AllX.nil)
            have OT := Lib.hid (HB5.out.1.trans O5.out)
            have HRX := Lib.hid (own_only HRW.out OT.out fun _ _ => id)
            refine step_append_sl _ (by rfl) _ _ _ (by rfl) w.heap.size 34 i0 _ 3 56 Try.underlying22 hi0 hz0 hz1 hz2 (by rfl) (by decide) (.slice Ax k cx) k (ndc (g.nd.take k) js) (by rfl) HRX.out X5.heap.size (.slice (some ⟨X4.heap.size, 0, none⟩) 1 1) 1 [.int .i64 kd, .slice A3 d.fs.length c3, .slice A4 d.rs.length c4] (by rfl) (Sl.of_blk (size := 3) (n := 1) (c := 1) BNW.out rfl (Nat.le_refl _) (by decide)) (one_node16 _ _ _ _ _ _ _) (by unfold maxLen; omega) (by omega) (by omega) ?_
            intro v6 X6 H6 o6 _
            obtain ⟨A6, c6, rfl, -⟩ := own_len H6.out
            have z6 : X5.heap.size ≤ X6.heap.size := o6.size
            have HNW := Lib.hid (show X6.ownsRow w.heap.size 34 3 (.slice A6 (k + 1) c6) (k + 1) (ndc (g.nd.take (k + 1)) (js ++ [(.slice A3 d.fs.length c3, .slice A4 d.rs.length c4)])) by rw [HTK.out, ndc_snoc _ _ _ _ HJ.out, ← HKD.out]; exact H6.out)
            have RV := Lib.hid (own_only RV.out o6 (own_apart16 RV.out HRX.out (by decide)))
            have RWs := Lib.hid (own_only RWs.out o6 (own_apart16 RWs.out HRX.out (by decide)))
            have HRO9 := Lib.hid (show RwO X6 w.heap.size (g.nd.take k) js from fun i d' h' hd' hh' => (HRO.out.nob OT.out i d' h' hd' hh').only o6 (own_apart16 (HRO.out.nob OT.out i d' h' hd' hh').fs HRX.out (by decide)) (own_apart16 (HRO.out.nob OT.out i d' h' hd' hh').rs HRX.out (by decide)))
            have HRT9 := Lib.hid (own_only (own_only HRT.out OT.out fun _ _ => id) o6 (own_apart16 (own_only HRT.out OT.out fun _ _ => id) HRX.out (by decide)))
            have HX9 := Lib.hid ((HX.out.keep OT.out id).keep o6 (blk_own_ne16 (HX.out.keep OT.out id) HRX.out (by decide)))
            have HG9 := Lib.hid ((HG.out.keep OT.out id).keep o6 (blk_own_ne16 (HG.out.keep OT.out id) HRX.out (by decide)))
            have HS9 := Lib.hid ((HRS.out.keep OT.out id).keep o6 (blk_own_ne16 (HRS.out.keep OT.out id) HRX.out (by decide)))
            have HP9 := Lib.hid ((HBP.out.keep O5.out id).keep o6 (fun e => by have h1 := (own_lt HRW.out e).2; have := HPP.out; omega))
            have O6 := Lib.hid (own_nob (HOW.out.trans OT.out) HRX.out o6 (Nat.le_refl _))
            clear H6 o6
            refine hK.out _ _ (fun _ => ⟨HX9.out.cell 0, HP9.out.cell 0, HP9.out.cell 1, HP9.out.cell 2⟩) (fun hHeld2 => ?_)
            clear hK K hHeld
            have hHeld := hHeld2 (by decide)
            clear hHeld2
            try simp only [Act.put, List.setIfInBounds_toArray, List.set_cons_zero, List.set_cons_succ, List.getElem_toArray, List.getElem_cons_succ, List.getElem_cons_zero]
            refine anyX_take (i := 15) (v := ?_) rfl (by kernel_rfl) (by kernel_rfl) (by kernel_rfl) (by kernel_rfl) (fun _ _ _ h => h) (Or.inl ⟨by rfl, ?_⟩) hHeld ?_
            rotate_left
            · intro w hSw; (try dsimp only at hSw); go_simp; first | done | with_reducible rfl
            try simp only [Act.put, List.setIfInBounds_toArray, List.set_cons_zero, List.set_cons_succ, List.getElem_toArray, List.getElem_cons_succ, List.getElem_cons_zero]
            refine anyX_ready (rs := [16]) (by kernel_rfl) (by simp) ?_
            refine (AllX.cons rfl (fun K hK => ?_) AllX.nil)
            have y0 : X6.cell? ⟨xb, 0, none⟩ = some (.slice Ax k cx) := HX9.out.cell 0
            have fy0 := HX9.out.free 0
            obtain ⟨X7, hX, oX, bX⟩ : ∃ X, X6.setCell ⟨xb, 0, none⟩ (.slice A6 (k + 1) c6) = X ∧ Only (isb xb) X6 X ∧ Blk X xb 25 #[.slice A6 (k + 1) c6, .slice AT g.rt.length cT] := ⟨_, rfl, only_set _ _ _ _, by simpa using HX9.out.put 0 (.slice A6 (k + 1) c6)⟩
            have HWE := Lib.hid hX
            have hne : ∀ {b E s n v x}, X6.ownsRow b E s v n x → E ≠ 25 → ∀ j, v.ownBlock = some j → ¬ isb xb j := fun hw hE j e e2 => by unfold isb at e2; subst e2; exact blk_own_ne16 HX9.out hw (fun e => hE e.symm) e
            have HFIN := Lib.hid (show CpI w g (.slice (some ⟨bb, oo, none⟩) g.nd.length c) (.slice Ar g.rt.length cr) (.slice AT g.rt.length cT) xb X7 (k + 1) from ⟨A6, c6, _, by rw [HTK.out, List.length_append, List.length_append, HJ.out]; rfl, own_only HNW.out oX (hne HNW.out (by decide)), by
              rw [HTK.out]
              exact RwO.snoc (fun i d' h' hd' hh' => (HRO9.out i d' h' hd' hh').only oX (hne (HRO9.out i d' h' hd' hh').fs (by decide)) (hne (HRO9.out i d' h' hd' hh').rs (by decide))) HJ.out ⟨own_more (own_only RV.out oX (hne RV.out (by decide))) (fun j e => by have h1 : WD.heap.size ≤ j := (own_lt RV.out e).1; omega), own_more (own_only RWs.out oX (hne RWs.out (by decide))) (fun j e => by have h1 : X1.heap.size ≤ j := (own_lt RWs.out e).1; omega)⟩,
              own_only HRT9.out oX (hne HRT9.out (by decide)), bX, HG9.out.keep oX (by unfold isb; omega), HS9.out.keep oX (by unfold isb; omega), O6.out.andThen oX fun i hi e => by unfold isb at e; omega⟩)
            have HP10 := Lib.hid (HP9.out.keep oX (by unfold isb; omega))
            have HXX := Lib.hid bX
            clear hX
            go_simp
            with_reducible rw [HWE.out]
            clear oX bX hne y0 fy0 HWE hHeld
            refine hK.out _ _ (fun h => absurd rfl h) (fun hHeld2 => ?_)
            clear hK K
            try simp only [Act.put, List.setIfInBounds_toArray, List.set_cons_zero, List.set_cons_succ, List.getElem_toArray, List.getElem_cons_succ, List.getElem_cons_zero]
            refine anyX_done (by kernel_rfl) ?_ _
            go_wp2
            go_roundw
            case rel => exact ⟨k + 1, by omega, by go_num, HFIN⟩
            case measure => simp [intOf]; omega
        · skip
          obtain ⟨X1, hX, oX, lX⟩ := lit16 WD 47 1
          have HWE := Lib.hid hX
          have LW := Lib.hid lX
          have O1 := Lib.hid (O0.out.trans oX)
          have z1 : WD.heap.size ≤ X1.heap.size := oX.size
          clear hX oX lX
          go_simp
          with_reducible rw [HWE.out]
          clear HWE
          refine hK.out _ _ (fun _ => ⟨O1.out.keeps s0, O1.out.keeps s1, O1.out.keeps s2, O1.out.keeps s3⟩) (fun hHeld2 => ?_)
          clear hK K hHeld
          have hHeld := hHeld2 (by decide)
          clear hHeld2
          try simp only [Act.put, List.setIfInBounds_toArray, List.set_cons_zero, List.set_cons_succ, List.getElem_toArray, List.getElem_cons_succ, List.getElem_cons_zero]
          refine anyX_ready (rs := [4]) (by kernel_rfl) (by simp) ?_
          refine (AllX.cons rfl (fun K hK => ?_) AllX.nil)
          obtain ⟨X2, hX, oX, lX⟩ := lit16 X1 46 2
          have HWE := Lib.hid hX
          have LW := Lib.hid (own_only LW.out oX fun _ _ => id)
          have LV := Lib.hid lX
          have O2 := Lib.hid (O1.out.trans oX)
          have z2 : X1.heap.size ≤ X2.heap.size := oX.size
          clear hX oX lX
          go_simp
          with_reducible rw [HWE.out]
          clear HWE
          refine hK.out _ _ (fun _ => ⟨O2.out.keeps s0, O2.out.keeps s1, O2.out.keeps s2, O2.out.keeps s3⟩) (fun hHeld2 => ?_)
          clear hK K hHeld
          have hHeld := hHeld2 (by decide)
          clear hHeld2
          try simp only [Act.put, List.setIfInBounds_toArray, List.set_cons_zero, List.set_cons_succ, List.getElem_toArray, List.getElem_cons_succ, List.getElem_cons_zero]
          refine anyX_ready (rs := [7]) (by kernel_rfl) (by simp) ?_
          refine (AllX.cons rfl (fun K hK => ?_) AllX.nil)
          refine step_append_sl _ (by rfl) _ _ _ (by rfl) X1.heap.size 46 j0 _ 2 16 Try.underlying23 hj0 hjz0 hjz1 hjz2 (by rfl) (by decide) (.slice (some ⟨X1.heap.size, 0, none⟩) 0 0) 0 [] (by rfl) LV.out B (.slice Af d.fs.length cf) d.fs.length (spc d.fs) (by rfl) (HNR.out.fields.below ((HB5.out.1.trans O2.out).below hBw fun _ h => h.elim)) (spc_one16 _) (by unfold maxLen; omega) (by omega) (by omega) ?_
          intro v3 X3 H3 o3 _
          rw [Nat.zero_add, List.nil_append] at H3
          obtain ⟨A3, c3, rfl, -⟩ := own_len H3.out
          have z3 : X2.heap.size ≤ X3.heap.size := o3.size
          have LW := Lib.hid (own_only LW.out o3 (own_apart16 LW.out LV.out (by decide)))
          have O3 := Lib.hid (own_nob O2.out LV.out o3 (by omega))
          have RV := Lib.hid H3.out
          clear H3 o3
          refine hK.out _ _ (fun _ => ⟨O3.out.keeps s0, O3.out.keeps s1, O3.out.keeps s2, O3.out.keeps s3⟩) (fun hHeld2 => ?_)
          clear hK K hHeld
          have hHeld := hHeld2 (by decide)
          clear hHeld2
          try simp only [Act.put, List.setIfInBounds_toArray, List.set_cons_zero, List.set_cons_succ, List.getElem_toArray, List.getElem_cons_succ, List.getElem_cons_zero]
          refine anyX_ready (rs := [11]) (by kernel_rfl) (by simp) ?_
          refine (AllX.cons rfl (fun K hK => ?_) AllX.nil)
          refine step_append_sl _ (by rfl) _ _ _ (by rfl) WD.heap.size 47 l0 _ 1 8 Try.underlying32 hl0 hlz0 hlz1 hlz2 (by rfl) (by decide) (.slice (some ⟨WD.heap.size, 0, none⟩) 0 0) 0 [] (by rfl) LW.out B (.slice Ar2 d.rs.length cr2) d.rs.length (u64s d.rs) (by rfl) (HNR.out.raws.below ((HB5.out.1.trans O3.out).below hBw fun _ h => h.elim)) (u64s_one _) (by unfold maxLen; omega) (by omega) (by omega) ?_
          intro v4 X4 H4 o4 _
          rw [Nat.zero_add, List.nil_append] at H4
          obtain ⟨A4, c4, rfl, -⟩ := own_len H4.out
          have z4 : X3.heap.size ≤ X4.heap.size := o4.size
          have RV := Lib.hid (own_only RV.out o4 (own_apart16 RV.out LW.out (by decide)))
          have O4 := Lib.hid (own_nob O3.out LW.out o4 (by omega))
          have RWs := Lib.hid H4.out
          clear H4 o4
          refine hK.out _ _ (fun _ => ⟨O4.out.keeps s0, O4.out.keeps s1, O4.out.keeps s2, O4.out.keeps s3⟩) (fun hHeld2 => ?_)
          clear hK K hHeld
          have hHeld := hHeld2 (by decide)
          clear hHeld2
          try simp only [Act.put, List.setIfInBounds_toArray, List.set_cons_zero, List.set_cons_succ, List.getElem_toArray, List.getElem_cons_succ, List.getElem_cons_zero]
          refine anyX_take (i := 12) (v := ?_) rfl (by kernel_rfl) (by kernel_rfl) (by kernel_rfl) (by kernel_rfl) (fun _ _ _ h => h) (Or.inl ⟨by rfl, ?_⟩) hHeld ?_
          rotate_left
          · intro w hSw; (try dsimp only at hSw); go_simp; first | done | with_reducible rfl
          try simp only [Act.put, List.setIfInBounds_toArray, List.set_cons_zero, List.set_cons_succ, List.getElem_toArray, List.getElem_cons_succ, List.getElem_cons_zero]
          refine anyX_ready (rs := [13]) (by kernel_rfl) (by simp) ?_
          refine (AllX.cons rfl (fun K hK => ?_) AllX.nil)
          obtain ⟨X5, hX, oX, bX⟩ : ∃ X, X4.alloc (.cells #[.int .i64 kd, .slice A3 d.fs.length c3, .slice A4 d.rs.length c4] 34) = X ∧ Only nob X4 X ∧ Blk X X4.heap.size 34 #[.int .i64 kd, .slice A3 d.fs.length c3, .slice A4 d.rs.length c4] := ⟨_, rfl, (Only.refl nob X4).alloc _, Blk.new X4 _ _⟩
          have HWE := Lib.hid hX
          have RV := Lib.hid (own_only RV.out oX fun _ _ => id)
          have RWs := Lib.hid (own_only RWs.out oX fun _ _ => id)
          have BNW := Lib.hid bX
          have O5 := Lib.hid (O4.out.trans oX)
          have z5 : X4.heap.size ≤ X5.heap.size := oX.size
          clear hX oX bX
          go_simp
          with_reducible rw [HWE.out]
          clear HWE
          refine hK.out _ _ (fun _ => ⟨O5.out.keeps s0, O5.out.keeps s1, O5.out.keeps s2, O5.out.keeps s3⟩) (fun hHeld2 => ?_)
          clear hK K hHeld
          have hHeld := hHeld2 (by decide)
          clear hHeld2
          try simp only [Act.put, List.setIfInBounds_toArray, List.set_cons_zero, List.set_cons_succ, List.getElem_toArray, List.getElem_cons_succ, List.getElem_cons_zero]
          refine anyX_ready (rs := [14]) (by kernel_rfl) (by simp) ?_
          refine (AllX.cons rfl (fun K hK => ?_) AllX.nil)
          have OT := Lib.hid (HB5.out.1.trans O5.out)
          have HRX := Lib.hid (own_only HRW.out OT.out fun _ _ => id)
          refine step_append_sl _ (by rfl) _ _ _ (by rfl) w.heap.size 34 i0 _ 3 56 Try.underlying22 hi0 hz0 hz1 hz2 (by rfl) (by decide) (.slice Ax k cx) k (ndc (g.nd.take k) js) (by rfl) HRX.out X5.heap.size (.slice (some ⟨X4.heap.size, 0, none⟩) 1 1) 1 [.int .i64 kd, .slice A3 d.fs.length c3, .slice A4 d.rs.length c4] (by rfl) (Sl.of_blk (size := 3) (n := 1) (c := 1) BNW.out rfl (Nat.le_refl _) (by decide)) (one_node16 _ _ _ _ _ _ _) (by unfold maxLen; omega) (by omega) (by omega) ?_
          intro v6 X6 H6 o6 _
          obtain ⟨A6, c6, rfl, -⟩ := own_len H6.out
          have z6 : X5.heap.size ≤ X6.heap.size := o6.size
          have HNW := Lib.hid (show X6.ownsRow w.heap.size 34 3 (.slice A6 (k + 1) c6) (k + 1) (ndc (g.nd.take (k + 1)) (js ++ [(.slice A3 d.fs.length c3, .slice A4 d.rs.length c4)])) by rw [HTK.out, ndc_snoc _ _ _ _ HJ.out, ← HKD.out]; exact H6.out)
          have RV := Lib.hid (own_only RV.out o6 (own_apart16 RV.out HRX.out (by decide)))
          have RWs := Lib.hid (own_only RWs.out o6 (own_apart16 RWs.out HRX.out (by decide)))
          have HRO9 := Lib.hid (show RwO X6 w.heap.size (g.nd.take k) js from fun i d' h' hd' hh' => (HRO.out.nob OT.out i d' h' hd' hh').only o6 (own_apart16 (HRO.out.nob OT.out i d' h' hd' hh').fs HRX.out (by decide)) (own_apart16 (HRO.out.nob OT.out i d' h' hd' hh').rs HRX.out (by decide)))
          have HRT9 := Lib.hid (own_only (own_only HRT.out OT.out fun _ _ => id) o6 (own_apart16 (own_only HRT.out OT.out fun _ _ => id) HRX.out (by decide)))
          have HX9 := Lib.hid ((HX.out.keep OT.out id).keep o6 (blk_own_ne16 (HX.out.keep OT.out id) HRX.out (by decide)))
          have HG9 := Lib.hid ((HG.out.keep OT.out id).keep o6 (blk_own_ne16 (HG.out.keep OT.out id) HRX.out (by decide)))
          have HS9 := Lib.hid ((HRS.out.keep OT.out id).keep o6 (blk_own_ne16 (HRS.out.keep OT.out id) HRX.out (by decide)))
          have HP9 := Lib.hid ((HBP.out.keep O5.out id).keep o6 (fun e => by have h1 := (own_lt HRW.out e).2; have := HPP.out; omega))
          have O6 := Lib.hid (own_nob (HOW.out.trans OT.out) HRX.out o6 (Nat.le_refl _))
          clear H6 o6
          refine hK.out _ _ (fun _ => ⟨HX9.out.cell 0, HP9.out.cell 0, HP9.out.cell 1, HP9.out.cell 2⟩) (fun hHeld2 => ?_)
          clear hK K hHeld
          have hHeld := hHeld2 (by decide)
          clear hHeld2
          try simp only [Act.put, List.setIfInBounds_toArray, List.set_cons_zero, List.set_cons_succ, List.getElem_toArray, List.getElem_cons_succ, List.getElem_cons_zero]
          refine anyX_take (i := 15) (v := ?_) rfl (by kernel_rfl) (by kernel_rfl) (by kernel_rfl) (by kernel_rfl) (fun _ _ _ h => h) (Or.inl ⟨by rfl, ?_⟩) hHeld ?_
          rotate_left
          · intro w hSw; (try dsimp only at hSw); go_simp; first | done | with_reducible rfl
          try simp only [Act.put, List.setIfInBounds_toArray, List.set_cons_zero, List.set_cons_succ, List.getElem_toArray, List.getElem_cons_succ, List.getElem_cons_zero]
          refine anyX_ready (rs := [16]) (by kernel_rfl) (by simp) ?_
          refine (AllX.cons rfl (fun K hK => ?_) AllX.nil)
          have y0 : X6.cell? ⟨xb, 0, none⟩ = some (.slice Ax k cx) := HX9.out.cell 0
          have fy0 := HX9.out.free 0
          obtain ⟨X7, hX, oX, bX⟩ : ∃ X, X6.setCell ⟨xb, 0, none⟩ (.slice A6 (k + 1) c6) = X ∧ Only (isb xb) X6 X ∧ Blk X xb 25 #[.slice A6 (k + 1) c6, .slice AT g.rt.length cT] := ⟨_, rfl, only_set _ _ _ _, by simpa using HX9.out.put 0 (.slice A6 (k + 1) c6)⟩
          have HWE := Lib.hid hX
          have hne : ∀ {b E s n v x}, X6.ownsRow b E s v n x → E ≠ 25 → ∀ j, v.ownBlock = some j → ¬ isb xb j := fun hw hE j e e2 => by unfold isb at e2; subst e2; exact blk_own_ne16 HX9.out hw (fun e => hE e.symm) e
          have HFIN := Lib.hid (show CpI w g (.slice (some ⟨bb, oo, none⟩) g.nd.length c) (.slice Ar g.rt.length cr) (.slice AT g.rt.length cT) xb X7 (k + 1) from ⟨A6, c6, _, by rw [HTK.out, List.length_append, List.length_append, HJ.out]; rfl, own_only HNW.out oX (hne HNW.out (by decide)), by
            rw [HTK.out]
            exact RwO.snoc (fun i d' h' hd' hh' => (HRO9.out i d' h' hd' hh').only oX (hne (HRO9.out i d' h' hd' hh').fs (by decide)) (hne (HRO9.out i d' h' hd' hh').rs (by decide))) HJ.out ⟨own_more (own_only RV.out oX (hne RV.out (by decide))) (fun j e => by have h1 : X1.heap.size ≤ j := (own_lt RV.out e).1; omega), own_more (own_only RWs.out oX (hne RWs.out (by decide))) (fun j e => by have h1 : WD.heap.size ≤ j := (own_lt RWs.out e).1; omega)⟩,
            own_only HRT9.out oX (hne HRT9.out (by decide)), bX, HG9.out.keep oX (by unfold isb; omega), HS9.out.keep oX (by unfold isb; omega), O6.out.andThen oX fun i hi e => by unfold isb at e; omega⟩)
          have HP10 := Lib.hid (HP9.out.keep oX (by unfold isb; omega))
          have HXX := Lib.hid bX
          clear hX
          go_simp
          with_reducible rw [HWE.out]
          clear oX bX hne y0 fy0 HWE hHeld
          refine hK.out _ _ (fun h => absurd rfl h) (fun hHeld2 => ?_)
          clear hK K
          try simp only [Act.put, List.setIfInBounds_toArray, List.set_cons_zero, List.set_cons_succ, List.getElem_toArray, List.getElem_cons_succ, List.getElem_cons_zero]
          refine anyX_done (by kernel_rfl) ?_ _
          go_wp2
          go_roundw
          case rel => exact ⟨k + 1, by omega, by go_num, HFIN⟩
          case measure => simp [intOf]; omega
      · obtain rfl : k = g.nd.length := by omega
        have HE := Lib.hid (show g.nd.take g.nd.length = g.nd from List.take_length)
        have x1 : wr.cell? ⟨xb, 1, none⟩ = some (.slice AT g.rt.length cT) := HX.out.cell 1
        have b0 : wr.cell? ⟨w.heap.size + 1, 0, none⟩ = some (.slice none 0 0) := HRS.out.cell 0
        have b1 : wr.cell? ⟨w.heap.size + 1, 1, none⟩ = some (.slice none 0 0) := HRS.out.cell 1
        have fb0 := HRS.out.free 0
        have fb1 := HRS.out.free 1
        obtain ⟨U, hU, oU, U1⟩ := put_graph16 HRS.out (.slice Ax g.nd.length cx) (.slice AT g.rt.length cT)
        have HU := Lib.hid hU
        have OU := Lib.hid (HOW.out.andThen oU fun i hi e => by unfold isb at e; omega)
        have hne : ∀ {b E s n v x}, wr.ownsRow b E s v n x → E ≠ 25 → ∀ j, v.ownBlock = some j → ¬ isb (w.heap.size + 1) j := fun hw hE j e e2 => by
          unfold isb at e2
          subst e2
          exact blk_own_ne16 HRS.out hw (fun e => hE e.symm) e
        have hrw := HRW.out
        have hro := HRO.out
        have hj := HJ.out
        rw [HE.out] at hrw hro hj
        have hU1 := own_only hrw oU (hne hrw (by decide))
        have hU2 := own_only HRT.out oU (hne HRT.out (by decide))
        have HRD := Lib.hid (show RdG U U.heap.size g (.slice Ax g.nd.length cx) (.slice AT g.rt.length cT) js from ⟨hj, Sl.of_own hU1 hU1.1, fun i d x hd hx => ((hro i d x hd hx).only oU (hne (hro i d x hd hx).fs (by decide)) (hne (hro i d x hd hx).rs (by decide))).rd, Sl.of_own hU2 hU2.1⟩)
        clear hU oU hne hrw hro hj hU1 hU2
        go_wp2
        rw [HU.out]
        have r0 : U.cell? ⟨w.heap.size + 1, 0, none⟩ = some (.slice Ax g.nd.length cx) := U1.cell 0
        have r1 : U.cell? ⟨w.heap.size + 1, 1, none⟩ = some (.slice AT g.rt.length cT) := U1.cell 1
        refine bodyPost_ret (v := .agg #[.slice Ax g.nd.length cx, .slice AT g.rt.length cT]) (by simp [results, Try.results22, go_sem, r0, r1]) rfl ?_
        exact ⟨_, _, js, rfl, HRD.out, OU.out⟩
end Go.Proofs.Ytdlaigghejahdaa
