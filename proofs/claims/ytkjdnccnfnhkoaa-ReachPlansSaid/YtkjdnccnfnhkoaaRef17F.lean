/- The document's own plans: a small node is met. (Printed by wip/tools/gen_meet17.py.) -/
import Derived.Test.YtkjdnccnfnhkoaaRef17E
import Derived.Test.YtkjdnccnfnhkoaaHeldX
namespace Go.Proofs.Ytkjdnccnfnhkoaa
open Go.RowKit Go.Lib
set_option maxRecDepth 100000
set_option linter.unusedSimpArgs false
set_option linter.unusedVariables false

theorem wrap_is17 (z : Int) : IntKind.i64.wrap z = wrap64 z := by rw [IntKind.wrap_i64]; unfold wrap64; omega
theorem pm_top {W : World} {b base : Nat} {vn vr : Value} {lim blk : Int} {v : PV} {s : PSt} (h : Pm W b base vn vr lim blk v s) (y : Int) : Pm (W.setCell ⟨b, 9, none⟩ (.int .i64 y)) b base vn vr lim blk v { s with top := y } := by
  have ho := only_set W b 9 (.int .i64 y)
  have ne : ∀ {E : TypeId} {n : Nat} {u : Value} {xs : List Value}, W.ownsRow base E 1 u n xs → 61 ≠ E → ∀ k, u.ownBlock = some k → ¬ isb b k := fun hw hE k e e2 => by
    unfold isb at e2
    subst e2
    exact blk_ne17 h.box hw hE e
  exact ⟨(by simpa using h.box.put 9 (.int .i64 y)), h.new, own_only h.sm ho (ne h.sm (by decide)), own_only h.bg ho (ne h.bg (by decide)), own_only h.lk ho (ne h.lk (by decide)), own_only h.lg ho (ne h.lg (by decide)), own_only h.pl ho (ne h.pl (by decide)), h.sb, h.sg, h.sp, h.bgx, h.bp, h.gp⟩
theorem info_bool17 : (Try.prog.info? 4).map (fun i => (i.zero, i.size, i.bytes)) = some (some (.bool false), 1, 1) := by kernel_rfl
theorem one_bool17 (w : World) (x : Bool) : Sl (w.alloc (.cells #[.bool x] 4)) (w.heap.size + 1) 1 (.slice (some ⟨w.heap.size, 0, none⟩) 1 1) 1 (boos [x]) := by
  have := Sl.of_blk (size := 1) (n := 1) (c := 1) (Blk.new w 4 #[.bool x]) (by simp) (Nat.le_refl _) (by decide)
  simpa [boos] using this
theorem boos_one (l : List Bool) : ∀ v ∈ boos l, v.oneCell' = true := by
  intro v hv
  unfold boos at hv
  simp only [List.mem_map] at hv
  obtain ⟨x, -, rfl⟩ := hv
  rfl
theorem meet_small17 {g : Gr} {lim : Int} {v : Sp} {s : PSt} (h : newS v s = true) (hb : ¬ lim < ndSz (ndAt g v.2)) : meetS g lim v s = { s with small := s.small ++ [v.2], begins := s.begins ++ [s.top], looked := s.looked ++ [false], top := wrap64 (s.top + ndSz (ndAt g v.2)) } ∧ meetB g lim v s = true := by
  unfold meetS meetB
  rw [if_pos h, if_neg hb, h]
  exact ⟨rfl, by simp [hb]⟩
set_option maxHeartbeats 8000000 in
theorem rMeetSmall17 (W : World) (b base B : Nat) (g : Gr) (vn vr : Value) (hs : List (Value × Value)) (lim blk : Int) (v : PV) (s : PSt) (x : Sp) (h : Pm W b base vn vr lim blk v s) (hr : RdG W B g vn vr hs) (hB : B ≤ W.heap.size) (hbase : base ≤ W.heap.size) (hn : newS x s = true)
    (hx : 0 ≤ x.2 ∧ x.2 < (g.nd.length : Int)) (hbig : ¬ lim < ndSz (ndAt g x.2)) (hsl : s.small.length ≤ 1000) (hbl : s.begins.length ≤ 1000) (hll : s.looked.length ≤ 1000) (ht : -9223372036854775808 ≤ s.top ∧ s.top ≤ 9223372036854775807) :
    Calls Try.prog 57 #[.pointer (some ⟨b, 0, none⟩), .agg #[.int .i64 x.1, .int .i64 x.2]] W fun e w' => e = .returned (.bool true) ∧ ∃ v', Pm w' b base vn vr lim blk v' (meetS g lim x s) ∧ Only (nb17 base) W w' := by
  obtain ⟨j0, hj0, hy0, hy1, hy2⟩ := info_parts info_int
  rw [(meet_small17 hn hbig).1]
  obtain ⟨hx1, hm, hl⟩ := new_yes17 hn
  obtain ⟨vs, vb, vl, vg, vp⟩ := v
  obtain ⟨A1, k1, e1, hc1, hm1, -⟩ := Pm.sl h.sm
  obtain ⟨A4, k4, e4, hc4, hm4, -⟩ := Pm.sl h.lg
  obtain ⟨A2, k2, e2, hc2, hm2, -⟩ := Pm.sl h.bg
  obtain ⟨A3, k3, e3, hc3, hm3, -⟩ := Pm.sl h.lk
  simp only at e1 e2 e3 e4
  subst e1 e2 e3 e4
  obtain ⟨x1, x2⟩ := x
  simp only at hx1 hm hl hx hbig ⊢
  subst hx1
  obtain ⟨n, rfl⟩ : ∃ n : Nat, x2 = n := ⟨x2.toNat, by omega⟩
  have hlt : n < g.nd.length := by omega
  obtain ⟨A, c, rfl, hac, hcm⟩ := hr.nodes.form
  unfold maxLen at hcm
  obtain ⟨d, hd⟩ : ∃ x, g.nd[n]? = some x := ⟨_, List.getElem?_eq_getElem hlt⟩
  obtain ⟨bb, oo, fv, rv, hA, hbb, hh', g0, g1, g2, hnd⟩ := hr.at_ (Below.refl _ _) hd
  obtain ⟨Af, cf, hfv, hafc, hcfm⟩ := hnd.fields.form
  obtain ⟨Arw, crw, hrv, harw, hcrw⟩ := hnd.raws.form
  simp only at hfv hrv
  subst hfv hrv
  obtain ⟨rfl, -⟩ : A = some ⟨bb, oo, none⟩ ∧ True := by simpa using hA
  rw [ndAt_in hd] at hbig
  have HSZ := Lib.hid (fun (W' : World) (o : Only nob W W') => rSize16 d _ _ W' (hnd.below (o.below hB fun _ h => h.elim)))
  obtain ⟨kd, hkd⟩ : ∃ kd, kd = d.kd := ⟨_, rfl⟩
  obtain ⟨sz, hsz⟩ : ∃ z, z = ndSz d := ⟨_, rfl⟩
  rw [← hsz] at HSZ hbig
  rw [← hkd] at HSZ g0
  have HTOP := Lib.hid (show ndSz (ndAt g (n : Int)) = sz by rw [ndAt_in hd, hsz])
  obtain ⟨W1, hW1, HB1⟩ := box_val16 W 2 (n : Int)
  have HW1 := Lib.hid hW1
  have HP := Lib.hid h
  have BX := Lib.hid (h.box.keep HB1.out.1 id)
  have HI1 := Lib.hid (fun (W' : World) (o : Only nob W W') => rIn17 (.slice A1 s.small.length k1) s.small (n : Int) W.heap.size W' ((Pm.sl h.sm).below (o.below (Nat.le_refl _) fun _ h => h.elim)))
  have HI4 := Lib.hid (fun (W' : World) (o : Only nob W W') => rIn17 (.slice A4 s.large.length k4) s.large (n : Int) W.heap.size W' ((Pm.sl h.lg).below (o.below (Nat.le_refl _) fun _ h => h.elim)))
  rw [decide_eq_false hm] at HI1
  rw [decide_eq_false hl] at HI4
  have d0 : W1.cell? ⟨W.heap.size, 0, none⟩ = some (.int .i64 2) := HB1.out.2.cell 0
  have d1 : W1.cell? ⟨W.heap.size, 1, none⟩ = some (.int .i64 n) := HB1.out.2.cell 1
  have c4 : W1.cell? ⟨b, 4, none⟩ = some (.slice A1 s.small.length k1) := BX.out.cell 4
  have c7 : W1.cell? ⟨b, 7, none⟩ = some (.slice A4 s.large.length k4) := BX.out.cell 7
  have O1 := Lib.hid HB1.out.1
  have HX := Lib.hid (And.intro h.new hbase)
  clear hW1 h hn hm hl hd hh' hnd hr hsz hkd hA
  go_enter Try.func57, Try.ntmps57
  go_upto_region 1 with fail
  rw [HW1.out]
  go_wp2_with fail
  go_at_call 28
  refine (HI1.out W1 O1.out).mono ?_
  rintro e w3 ⟨rfl, o⟩
  have O3 := Lib.hid (O1.out.trans o)
  have e7 := o.keeps c7
  clear o d0 d1 c4 c7
  go_wp2_with fail
  go_at_call 28
  refine (HI4.out w3 O3.out).mono ?_
  rintro e w5 ⟨rfl, o⟩
  have O5 := Lib.hid (O3.out.trans o)
  have B5 := Lib.hid (HP.out.box.keep O5.out id)
  have c0 : w5.cell? ⟨b, 0, none⟩ = some (.slice (some ⟨bb, oo, none⟩) g.nd.length c) := B5.out.cell 0
  have f0 := O5.out.keeps g0
  have f1 := O5.out.keeps g1
  have f2 := O5.out.keeps g2
  clear o e7 g0 g1 g2
  go_wp2_with fail
  go_at_call 50
  refine (HSZ.out w5 O5.out).mono ?_
  rintro e w6 ⟨rfl, o⟩
  have O6 := Lib.hid (O5.out.trans o)
  have B6 := Lib.hid (HP.out.box.keep O6.out id)
  have P6 := Lib.hid (HP.out.nob O6.out)
  have c2 : w6.cell? ⟨b, 2, none⟩ = some (.int .i64 lim) := B6.out.cell 2
  have c4 : w6.cell? ⟨b, 4, none⟩ = some (.slice A1 s.small.length k1) := B6.out.cell 4
  have hb6 := Lib.hid (show base ≤ w6.heap.size from Nat.le_trans HX.out.2 O6.out.size)
  clear o c0 f0 f1 f2
  obtain ⟨ns, hns⟩ : ∃ m, m = s.small.length := ⟨_, rfl⟩
  have HNS := Lib.hid hns
  rw [← hns] at c4 hsl
  have hR := P6.out.sm
  simp only at hR
  rw [← hns] at hR
  have HR1 := Lib.hid hR
  clear hns hR
  go_wp2_with (with_reducible refine wpList_append_sl (o := ⟨some 68, _, _, _, _, _⟩) _ rfl (.tmp 65) (.tmp 67) _ rfl base 3 j0 _ 1 8 Try.underlying28 hj0 hy0 hy1 hy2 rfl (by decide) (.slice A1 ns k1) ns (i64s s.small) rfl ?c1 (w6.heap.size + 1) (.slice (some ⟨w6.heap.size, 0, none⟩) 1 1) 1 (i64s [(n : Int)]) rfl ?c6 (i64s_one _) ?c2 ?c3 ?c4 ?c5)
  case c1 => exact own_only HR1.out ((Only.refl nob w6).alloc _) (fun _ _ h => h)
  case c6 => exact one_int16 w6 _
  case c2 => unfold maxLen; omega
  case c3 => omega
  case c4 => have := hb6.out; simp; omega
  case c5 =>
    intro v7 w7 H7 o7 hv7
    obtain ⟨A7, k7, rfl, -, -⟩ := own_len H7.out
    have H7' := H7.out
    rw [HNS.out] at H7' o7 hv7
    have oa : Only nob w6 (w6.alloc (.cells #[.int .i64 (n : Int)] 3)) := (Only.refl nob w6).alloc _
    have PA := P6.out.nob oa
    have B7 := PA.box.keep o7 (blk_ne17 PA.box PA.sm (by decide))
    have c4 : w7.cell? ⟨b, 4, none⟩ = some (.slice A1 ns k1) := by rw [HNS.out]; exact B7.cell 4
    have f7 := B7.free 4
    have hP7 := pm_app_s P6.out oa (n : Int) H7' o7 (by simpa using hv7)
    simp only at hP7
    rw [← HNS.out] at hP7
    obtain ⟨X7, hX7, P7⟩ : ∃ X, w7.setCell ⟨b, 4, none⟩ (.slice A7 (ns + 1) k7) = X ∧ Hid (Pm X b base _ _ _ _ _ _) := ⟨_, rfl, Lib.hid hP7⟩
    clear hP7
    have HX7 := Lib.hid hX7
    have OX7 := Lib.hid (show Only (nb17 base) W X7 from hX7 ▸ ((nb_nob (O6.out.trans oa)).trans (nb_own PA.sm o7)).trans (nb_set w7 HX.out.1))
    clear hX7 PA B7 H7' H7 o7 hv7 oa c2
    go_upto_region 12 with fail
    rw [HX7.out]
    clear c4 f7
    obtain ⟨nb, hnb⟩ : ∃ m, m = s.begins.length := ⟨_, rfl⟩
    have HNB := Lib.hid hnb
    have c5 : X7.cell? ⟨b, 5, none⟩ = some (.slice A2 nb k2) := by rw [hnb]; exact P7.out.box.cell 5
    have c9 : X7.cell? ⟨b, 9, none⟩ = some (.int .i64 s.top) := P7.out.box.cell 9
    obtain ⟨tp, htp⟩ : ∃ t, t = s.top := ⟨_, rfl⟩
    have HTP := Lib.hid htp
    rw [← htp] at c9 ht
    rw [← hnb] at hbl
    clear hnb htp
    refine region_heldX (stop := 13) (S := fun w' : World => w'.cell? ⟨b, 5, none⟩ = some (.slice A2 nb k2) ∧ w'.cell? ⟨b, 9, none⟩ = some (.int .i64 tp)) (by kernel_rfl) ?_ (fun hHeld => ?_)
    · exact ⟨c5, c9⟩
    clear c5 c9
    have OD := Lib.hid (show Only nob X7 X7.drew from (Only.refl nob X7).drewN 1)
    generalize X7.drew = WD at hHeld OD ⊢
    refine anyX_take (i := 0) (v := ?_) rfl (by kernel_rfl) (by kernel_rfl) (by kernel_rfl) (by kernel_rfl) (fun _ _ _ h => h) (Or.inl ⟨by rfl, ?_⟩) hHeld ?_
    rotate_left
    · intro w hSw; (try dsimp only at hSw); go_simp; first | done | with_reducible rfl
    try simp only [Act.put, List.setIfInBounds_toArray, List.set_cons_zero, List.set_cons_succ, List.getElem_toArray, List.getElem_cons_succ, List.getElem_cons_zero]
    refine anyX_take (i := 1) (v := ?_) rfl (by kernel_rfl) (by kernel_rfl) (by kernel_rfl) (by kernel_rfl) (fun _ _ _ h => h) (Or.inl ⟨by rfl, ?_⟩) hHeld ?_
    rotate_left
    · intro w hSw; (try dsimp only at hSw); go_simp; first | done | with_reducible rfl
    try simp only [Act.put, List.setIfInBounds_toArray, List.set_cons_zero, List.set_cons_succ, List.getElem_toArray, List.getElem_cons_succ, List.getElem_cons_zero]
    refine anyX_take (i := 2) (v := ?_) rfl (by kernel_rfl) (by kernel_rfl) (by kernel_rfl) (by kernel_rfl) (fun _ _ _ h => h) (Or.inl ⟨by rfl, ?_⟩) hHeld ?_
    rotate_left
    · intro w hSw; (try dsimp only at hSw); go_simp; first | done | with_reducible rfl
    try simp only [Act.put, List.setIfInBounds_toArray, List.set_cons_zero, List.set_cons_succ, List.getElem_toArray, List.getElem_cons_succ, List.getElem_cons_zero]
    refine anyX_take (i := 3) (v := ?_) rfl (by kernel_rfl) (by kernel_rfl) (by kernel_rfl) (by kernel_rfl) (fun _ _ _ h => h) (Or.inl ⟨by rfl, ?_⟩) hHeld ?_
    rotate_left
    · intro w hSw; (try dsimp only at hSw); go_simp; first | done | with_reducible rfl
    try simp only [Act.put, List.setIfInBounds_toArray, List.set_cons_zero, List.set_cons_succ, List.getElem_toArray, List.getElem_cons_succ, List.getElem_cons_zero]
    refine anyX_take (i := 4) (v := ?_) rfl (by kernel_rfl) (by kernel_rfl) (by kernel_rfl) (by kernel_rfl) (fun _ _ _ h => h) (Or.inl ⟨by rfl, ?_⟩) hHeld ?_
    rotate_left
    · intro w hSw; (try dsimp only at hSw); go_simp; first | done | with_reducible rfl
    try simp only [Act.put, List.setIfInBounds_toArray, List.set_cons_zero, List.set_cons_succ, List.getElem_toArray, List.getElem_cons_succ, List.getElem_cons_zero]
    refine anyX_take (i := 5) (v := ?_) rfl (by kernel_rfl) (by kernel_rfl) (by kernel_rfl) (by kernel_rfl) (fun _ _ _ h => h) (Or.inl ⟨by rfl, ?_⟩) hHeld ?_
    rotate_left
    · intro w hSw; (try dsimp only at hSw); go_simp; first | done | with_reducible rfl
    try simp only [Act.put, List.setIfInBounds_toArray, List.set_cons_zero, List.set_cons_succ, List.getElem_toArray, List.getElem_cons_succ, List.getElem_cons_zero]
    refine anyX_take (i := 6) (v := ?_) rfl (by kernel_rfl) (by kernel_rfl) (by kernel_rfl) (by kernel_rfl) (fun _ _ _ h => h) (Or.inl ⟨by rfl, ?_⟩) hHeld ?_
    rotate_left
    · intro w hSw; (try dsimp only at hSw); go_simp; first | done | with_reducible rfl
    try simp only [Act.put, List.setIfInBounds_toArray, List.set_cons_zero, List.set_cons_succ, List.getElem_toArray, List.getElem_cons_succ, List.getElem_cons_zero]
    refine anyX_take (i := 7) (v := ?_) rfl (by kernel_rfl) (by kernel_rfl) (by kernel_rfl) (by kernel_rfl) (fun _ _ _ h => h) (Or.inl ⟨by rfl, ?_⟩) hHeld ?_
    rotate_left
    · intro w hSw; (try dsimp only at hSw); go_simp; first | done | with_reducible rfl
    try simp only [Act.put, List.setIfInBounds_toArray, List.set_cons_zero, List.set_cons_succ, List.getElem_toArray, List.getElem_cons_succ, List.getElem_cons_zero]
    refine anyX_take (i := 8) (v := ?_) rfl (by kernel_rfl) (by kernel_rfl) (by kernel_rfl) (by kernel_rfl) (fun _ _ _ h => h) (Or.inl ⟨by rfl, ?_⟩) hHeld ?_
    rotate_left
    · intro w hSw; (try dsimp only at hSw); go_simp; first | done | with_reducible rfl
    try simp only [Act.put, List.setIfInBounds_toArray, List.set_cons_zero, List.set_cons_succ, List.getElem_toArray, List.getElem_cons_succ, List.getElem_cons_zero]
    have PD := Lib.hid (P7.out.nob OD.out)
    obtain ⟨XL, hX, oX, sX⟩ : ∃ X, WD.alloc (.cells #[.int .i64 tp] 3) = X ∧ Only nob WD X ∧ Sl X (WD.heap.size + 1) 1 (.slice (some ⟨WD.heap.size, 0, none⟩) 1 1) 1 (i64s [tp]) := ⟨_, rfl, (Only.refl nob WD).alloc _, one_int16 WD tp⟩
    have HWE := Lib.hid hX
    have OL := Lib.hid oX
    have SL := Lib.hid sX
    have hszL := Lib.hid (show XL.heap.size = WD.heap.size + 1 by rw [← hX]; simp)
    clear hX oX sX
    refine anyX_ready (rs := [9]) (by kernel_rfl) (by simp) ?_
    refine (AllX.cons rfl (fun K hK => ?_) AllX.nil)
    go_simp
    with_reducible rw [HWE.out]
    refine hK.out _ _ (fun _ => ⟨OL.out.keeps hHeld.1, OL.out.keeps hHeld.2⟩) (fun hHeld2 => ?_)
    clear hK K hHeld
    have hHeld := hHeld2 (by decide)
    clear hHeld2
    try simp only [Act.put, List.setIfInBounds_toArray, List.set_cons_zero, List.set_cons_succ, List.getElem_toArray, List.getElem_cons_succ, List.getElem_cons_zero]
    have PL := Lib.hid (PD.out.nob OL.out)
    have hR := PL.out.bg
    simp only at hR
    rw [← HNB.out] at hR
    refine anyX_ready (rs := [10]) (by kernel_rfl) (by simp) ?_
    refine (AllX.cons rfl (fun K hK => ?_) AllX.nil)
    refine step_append_sl _ (by rfl) _ _ _ (by rfl) base 3 j0 _ 1 8 Try.underlying28 hj0 hy0 hy1 hy2 (by rfl) (by decide) (.slice A2 nb k2) nb (i64s s.begins) (by rfl) hR (WD.heap.size + 1) (.slice (some ⟨WD.heap.size, 0, none⟩) 1 1) 1 (i64s [tp]) (by rfl) SL.out (i64s_one _) (by unfold maxLen; omega) (by omega) (by have h1 := HX.out.2; have h2 := OX7.out.size; have h3 := OD.out.size; have h4 := OL.out.size; omega) ?_
    intro v8 w8 H8 o8 hv8
    obtain ⟨A8, k8, rfl, -, -⟩ := own_len H8.out
    have H8' := H8.out
    rw [HNB.out] at H8' o8 hv8
    have B8 := PL.out.box.keep o8 (blk_ne17 PL.out.box PL.out.bg (by decide))
    have c5 : w8.cell? ⟨b, 5, none⟩ = some (.slice A2 nb k2) := by rw [HNB.out]; exact B8.cell 5
    have c9 : w8.cell? ⟨b, 9, none⟩ = some (.int .i64 tp) := by rw [HTP.out]; exact B8.cell 9
    have f8 := B8.free 5
    rw [HTP.out] at H8'
    have hP8 := pm_app_b PD.out OL.out s.top H8' o8 hv8
    simp only at hP8
    rw [← HNB.out] at hP8
    obtain ⟨X8, hX8, P8⟩ : ∃ X, w8.setCell ⟨b, 5, none⟩ (.slice A8 (nb + 1) k8) = X ∧ Hid (Pm X b base _ _ _ _ _ _) := ⟨_, rfl, Lib.hid hP8⟩
    clear hP8
    have HX8 := Lib.hid hX8
    have OX8 := Lib.hid (show Only (nb17 base) W X8 from hX8 ▸ ((OX7.out.trans (nb_nob (OD.out.trans OL.out))).trans (nb_own PL.out.bg o8)).trans (nb_set w8 HX.out.1))
    clear hX8 B8 H8' H8 o8 hv8 hR
    refine hK.out _ _ (fun _ => ⟨c5, c9⟩) (fun hHeld2 => ?_)
    clear hK K hHeld
    have hHeld := hHeld2 (by decide)
    clear hHeld2
    try simp only [Act.put, List.setIfInBounds_toArray, List.set_cons_zero, List.set_cons_succ, List.getElem_toArray, List.getElem_cons_succ, List.getElem_cons_zero]
    refine anyX_ready (rs := [11]) (by kernel_rfl) (by simp) ?_
    refine (AllX.cons rfl (fun K hK => ?_) AllX.nil)
    go_simp
    refine hK.out _ _ (fun _ => hHeld) (fun hHeld2 => ?_)
    clear hK K hHeld
    have hHeld := hHeld2 (by decide)
    clear hHeld2
    try simp only [Act.put, List.setIfInBounds_toArray, List.set_cons_zero, List.set_cons_succ, List.getElem_toArray, List.getElem_cons_succ, List.getElem_cons_zero]
    refine anyX_ready (rs := [12]) (by kernel_rfl) (by simp) ?_
    refine (AllX.cons rfl (fun K hK => ?_) AllX.nil)
    go_simp
    refine hK.out _ _ (fun _ => hHeld) (fun hHeld2 => ?_)
    clear hK K hHeld
    have hHeld := hHeld2 (by decide)
    clear hHeld2
    try simp only [Act.put, List.setIfInBounds_toArray, List.set_cons_zero, List.set_cons_succ, List.getElem_toArray, List.getElem_cons_succ, List.getElem_cons_zero]
    refine anyX_ready (rs := [13]) (by kernel_rfl) (by simp) ?_
    refine (AllX.cons rfl (fun K hK => ?_) AllX.nil)
    go_simp
    with_reducible rw [HX8.out]
    refine hK.out _ _ (fun h => absurd rfl h) (fun hHeld2 => ?_)
    clear hK K hHeld hHeld2 c5 c9 f8
    try simp only [Act.put, List.setIfInBounds_toArray, List.set_cons_zero, List.set_cons_succ, List.getElem_toArray, List.getElem_cons_succ, List.getElem_cons_zero]
    refine anyX_done (by kernel_rfl) ?_ _
    obtain ⟨nq, hnq⟩ : ∃ m, m = s.looked.length := ⟨_, rfl⟩
    have HNQ := Lib.hid hnq
    have c6 : X8.cell? ⟨b, 6, none⟩ = some (.slice A3 nq k3) := by rw [hnq]; exact P8.out.box.cell 6
    rw [← hnq] at hll
    have hR := P8.out.lk
    simp only at hR
    rw [← hnq] at hR
    have HR3 := Lib.hid hR
    have h8 := Lib.hid (show base ≤ X8.heap.size from Nat.le_trans HX.out.2 OX8.out.size)
    obtain ⟨u0, hu0, hu1, hu2, hu3⟩ := info_parts info_bool17
    clear hnq hR
    go_wp2_with (with_reducible refine wpList_append_sl (o := ⟨some 90, _, _, _, _, _⟩) _ rfl (.tmp 88) (.tmp 89) _ rfl base 4 u0 _ 1 1 Try.underlying49 hu0 hu1 hu2 hu3 rfl (by decide) (.slice A3 nq k3) nq (boos s.looked) rfl ?e1 (X8.heap.size + 1) (.slice (some ⟨X8.heap.size, 0, none⟩) 1 1) 1 (boos [false]) rfl ?e6 (boos_one _) ?e2 ?e3 ?e4 ?e5)
    case e1 => exact own_only HR3.out ((Only.refl nob X8).alloc _) (fun _ _ h => h)
    case e6 => exact one_bool17 X8 _
    case e2 => unfold maxLen; omega
    case e3 => omega
    case e4 => have := h8.out; simp; omega
    case e5 =>
      intro v9 w9 H9 o9 hv9
      obtain ⟨A9, k9, rfl, -, -⟩ := own_len H9.out
      have H9' := H9.out
      rw [HNQ.out] at H9' o9 hv9
      have oa : Only nob X8 (X8.alloc (.cells #[.bool false] 4)) := (Only.refl nob X8).alloc _
      have PA := P8.out.nob oa
      have B9 := PA.box.keep o9 (blk_ne17 PA.box PA.lk (by decide))
      have c6 : w9.cell? ⟨b, 6, none⟩ = some (.slice A3 nq k3) := by rw [HNQ.out]; exact B9.cell 6
      have f9 := B9.free 6
      have hP9 := pm_app_l P8.out oa false H9' o9 (by simpa using hv9)
      simp only at hP9
      rw [← HNQ.out] at hP9
      obtain ⟨X9, hX9, P9⟩ : ∃ X, w9.setCell ⟨b, 6, none⟩ (.slice A9 (nq + 1) k9) = X ∧ Hid (Pm X b base _ _ _ _ _ _) := ⟨_, rfl, Lib.hid hP9⟩
      clear hP9
      have HX9 := Lib.hid hX9
      have OX9 := Lib.hid (show Only (nb17 base) W X9 from hX9 ▸ ((OX8.out.trans (nb_nob oa)).trans (nb_own PA.lk o9)).trans (nb_set w9 HX.out.1))
      clear hX9 PA B9 H9' H9 o9 hv9 oa
      go_upto_region 14 with fail
      rw [HX9.out]
      clear c6 f9
      have c9 : X9.cell? ⟨b, 9, none⟩ = some (.int .i64 tp) := by rw [HTP.out]; exact P9.out.box.cell 9
      have f10 := P9.out.box.free 9
      have hww : IntKind.i64.wrap (tp + sz) = wrap64 (tp + sz) := wrap_is17 _
      have P10 := Lib.hid (pm_top P9.out (wrap64 (tp + sz)))
      have OX10 := Lib.hid (OX9.out.trans (nb_set (i := 9) (u := .int .i64 (wrap64 (tp + sz))) X9 HX.out.1))
      go_wp2
      go_ret
      rw [HTOP.out, show wrap64 (s.top + sz) = wrap64 (tp + sz) by rw [HTP.out]]
      first | exact ⟨rfl, _, P10.out, OX10.out⟩ | exact ⟨rfl, ⟨_, P10.out⟩, OX10.out⟩ | exact ⟨_, P10.out, OX10.out⟩
end Go.Proofs.Ytkjdnccnfnhkoaa
