/- The document's own plans: a large node is met. -/
import Derived.Test.YtkjdnccnfnhkoaaRef17D
namespace Go.Proofs.Ytkjdnccnfnhkoaa
open Go.RowKit Go.Lib
set_option maxRecDepth 100000
set_option linter.unusedSimpArgs false
set_option linter.unusedVariables false

theorem new_yes17 {v : Sp} {s : PSt} (h : newS v s = true) : v.1 = 2 ∧ v.2 ∉ s.small ∧ v.2 ∉ s.large := by
  unfold newS at h
  simpa using h
theorem meet_big17 {g : Gr} {lim : Int} {v : Sp} {s : PSt} (h : newS v s = true) (hb : lim < ndSz (ndAt g v.2)) : meetS g lim v s = { s with large := s.large ++ [v.2], pile := s.pile ++ [v.2] } ∧ meetB g lim v s = false := by
  unfold meetS meetB
  rw [if_pos h, if_pos hb, h]
  exact ⟨rfl, by simp [hb]⟩
def nb17 (base : Nat) (k : Nat) : Prop := base ≤ k
theorem nb_nob {base : Nat} {W W' : World} (h : Only nob W W') : Only (nb17 base) W W' := h.mono fun _ _ e => e.elim
theorem nb_own {base : Nat} {E : TypeId} {size n : Nat} {v : Value} {xs : List Value} {W W' : World} (h : W.ownsRow base E size v n xs) (o : Only (fun k => v.ownBlock = some k) W W') : Only (nb17 base) W W' := o.mono fun k _ e => (own_lt h e).1
theorem nb_set {base b i : Nat} {u : Value} (W : World) (h : base ≤ b) : Only (nb17 base) W (W.setCell ⟨b, i, none⟩ u) := (only_set W b i u).mono fun k _ e => by unfold isb at e; subst e; exact h
theorem ndAt_in {g : Gr} {n : Nat} {d : Nd} (h : g.nd[n]? = some d) : ndAt g (n : Int) = d := by
  unfold ndAt
  rw [Int.toNat_natCast, List.getD_eq_getElem?_getD, h]; rfl
set_option maxHeartbeats 8000000 in
theorem rMeetBig17 (W : World) (b base B : Nat) (g : Gr) (vn vr : Value) (hs : List (Value × Value)) (lim blk : Int) (v : PV) (s : PSt) (x : Sp) (h : Pm W b base vn vr lim blk v s) (hr : RdG W B g vn vr hs) (hB : B ≤ W.heap.size) (hbase : base ≤ W.heap.size) (hn : newS x s = true)
    (hx : 0 ≤ x.2 ∧ x.2 < (g.nd.length : Int)) (hbig : lim < ndSz (ndAt g x.2)) (hlg : s.large.length ≤ 1000) (hpl : s.pile.length ≤ 1000) :
    Calls Try.prog 57 #[.pointer (some ⟨b, 0, none⟩), .agg #[.int .i64 x.1, .int .i64 x.2]] W fun e w' => e = .returned (.bool false) ∧ ∃ v', Pm w' b base vn vr lim blk v' (meetS g lim x s) ∧ Only (nb17 base) W w' := by
  obtain ⟨j0, hj0, hy0, hy1, hy2⟩ := info_parts info_int
  rw [(meet_big17 hn hbig).1]
  obtain ⟨hx1, hm, hl⟩ := new_yes17 hn
  obtain ⟨vs, vb, vl, vg, vp⟩ := v
  obtain ⟨A1, k1, e1, hc1, hm1, -⟩ := Pm.sl h.sm
  obtain ⟨A4, k4, e4, hc4, hm4, -⟩ := Pm.sl h.lg
  obtain ⟨A5, k5, e5, hc5, hm5, -⟩ := Pm.sl h.pl
  simp only at e1 e4 e5
  subst e1 e4 e5
  obtain ⟨x1, x2⟩ := x
  simp only at hx1 hm hl hx hbig ⊢
  subst hx1
  obtain ⟨n, rfl⟩ : ∃ n : Nat, x2 = n := ⟨x2.toNat, by omega⟩
  have hlt : n < g.nd.length := by omega
  obtain ⟨A, c, rfl, hac, hcm⟩ := hr.nodes.form
  unfold maxLen at hcm
  obtain ⟨d, hd⟩ : ∃ x, g.nd[n]? = some x := ⟨_, List.getElem?_eq_getElem hlt⟩
  obtain ⟨bb, oo, fv, rv, hA, hbb, hh', g0, g1, g2, hnd⟩ := hr.at_ (Below.refl _ _) hd
  obtain ⟨Af, cf, hfv, hafc, hcfm⟩ := hnd.fields.form
  obtain ⟨Arw, crw, hrv, harw, hcrw⟩ := hnd.raws.form
  simp only at hfv hrv
  subst hfv hrv
  obtain ⟨rfl, -⟩ : A = some ⟨bb, oo, none⟩ ∧ True := by simpa using hA
  rw [ndAt_in hd] at hbig
  have HSZ := Lib.hid (fun (W' : World) (o : Only nob W W') => rSize16 d _ _ W' (hnd.below (o.below hB fun _ h => h.elim)))
  obtain ⟨kd, hkd⟩ : ∃ kd, kd = d.kd := ⟨_, rfl⟩
  obtain ⟨sz, hsz⟩ : ∃ z, z = ndSz d := ⟨_, rfl⟩
  rw [← hsz] at HSZ hbig
  rw [← hkd] at HSZ g0
  obtain ⟨W1, hW1, HB1⟩ := box_val16 W 2 (n : Int)
  have HW1 := Lib.hid hW1
  have HP := Lib.hid h
  have BX := Lib.hid (h.box.keep HB1.out.1 id)
  have HI1 := Lib.hid (fun (W' : World) (o : Only nob W W') => rIn17 (.slice A1 s.small.length k1) s.small (n : Int) W.heap.size W' ((Pm.sl h.sm).below (o.below (Nat.le_refl _) fun _ h => h.elim)))
  have HI4 := Lib.hid (fun (W' : World) (o : Only nob W W') => rIn17 (.slice A4 s.large.length k4) s.large (n : Int) W.heap.size W' ((Pm.sl h.lg).below (o.below (Nat.le_refl _) fun _ h => h.elim)))
  rw [decide_eq_false hm] at HI1
  rw [decide_eq_false hl] at HI4
  have d0 : W1.cell? ⟨W.heap.size, 0, none⟩ = some (.int .i64 2) := HB1.out.2.cell 0
  have d1 : W1.cell? ⟨W.heap.size, 1, none⟩ = some (.int .i64 n) := HB1.out.2.cell 1
  have c4 : W1.cell? ⟨b, 4, none⟩ = some (.slice A1 s.small.length k1) := BX.out.cell 4
  have c7 : W1.cell? ⟨b, 7, none⟩ = some (.slice A4 s.large.length k4) := BX.out.cell 7
  have O1 := Lib.hid HB1.out.1
  have HX := Lib.hid (And.intro h.new hbase)
  clear hW1 h hn hm hl hd hh' hnd hr hsz hkd hA
  go_enter Try.func57, Try.ntmps57
  go_upto_region 1 with fail
  rw [HW1.out]
  go_wp2_with fail
  go_at_call 28
  refine (HI1.out W1 O1.out).mono ?_
  rintro e w3 ⟨rfl, o⟩
  have O3 := Lib.hid (O1.out.trans o)
  have e7 := o.keeps c7
  clear o d0 d1 c4 c7
  go_wp2_with fail
  go_at_call 28
  refine (HI4.out w3 O3.out).mono ?_
  rintro e w5 ⟨rfl, o⟩
  have O5 := Lib.hid (O3.out.trans o)
  have B5 := Lib.hid (HP.out.box.keep O5.out id)
  have c0 : w5.cell? ⟨b, 0, none⟩ = some (.slice (some ⟨bb, oo, none⟩) g.nd.length c) := B5.out.cell 0
  have f0 := O5.out.keeps g0
  have f1 := O5.out.keeps g1
  have f2 := O5.out.keeps g2
  clear o e7 g0 g1 g2
  go_wp2_with fail
  go_at_call 50
  refine (HSZ.out w5 O5.out).mono ?_
  rintro e w6 ⟨rfl, o⟩
  have O6 := Lib.hid (O5.out.trans o)
  have B6 := Lib.hid (HP.out.box.keep O6.out id)
  have P6 := Lib.hid (HP.out.nob O6.out)
  have c2 : w6.cell? ⟨b, 2, none⟩ = some (.int .i64 lim) := B6.out.cell 2
  have c7 : w6.cell? ⟨b, 7, none⟩ = some (.slice A4 s.large.length k4) := B6.out.cell 7
  obtain ⟨nl, hnl⟩ : ∃ m, m = s.large.length := ⟨_, rfl⟩
  have HNL := Lib.hid hnl
  rw [← hnl] at c7 hlg
  have hR := P6.out.lg
  simp only at hR
  rw [← hnl] at hR
  have HR4 := Lib.hid hR
  have h6 := Lib.hid (show base ≤ w6.heap.size from Nat.le_trans HX.out.2 O6.out.size)
  clear o c0 f0 f1 f2 hnl hR
  go_wp2_with (with_reducible refine wpList_append_sl (o := ⟨some 48, _, _, _, _, _⟩) _ rfl (.tmp 45) (.tmp 47) _ rfl base 3 j0 _ 1 8 Try.underlying28 hj0 hy0 hy1 hy2 rfl (by decide) (.slice A4 nl k4) nl (i64s s.large) rfl ?c1 (w6.heap.size + 1) (.slice (some ⟨w6.heap.size, 0, none⟩) 1 1) 1 (i64s [(n : Int)]) rfl ?c6 (i64s_one _) ?c2 ?c3 ?c4 ?c5)
  case c1 => exact own_only HR4.out ((Only.refl nob w6).alloc _) (fun _ _ h => h)
  case c6 => exact one_int16 w6 _
  case c2 => unfold maxLen; omega
  case c3 => omega
  case c4 => have := h6.out; simp; omega
  case c5 =>
    intro v7 w7 H7 o7 hv7
    obtain ⟨A7, k7, rfl, -, -⟩ := own_len H7.out
    have H7' := H7.out
    rw [HNL.out] at H7' o7 hv7
    have oa : Only nob w6 (w6.alloc (.cells #[.int .i64 (n : Int)] 3)) := (Only.refl nob w6).alloc _
    have PA := P6.out.nob oa
    have B7 := PA.box.keep o7 (blk_ne17 PA.box PA.lg (by decide))
    have c7 : w7.cell? ⟨b, 7, none⟩ = some (.slice A4 nl k4) := by rw [HNL.out]; exact B7.cell 7
    have f7 := B7.free 7
    have hP7 := pm_app_g P6.out oa (n : Int) H7' o7 (by simpa using hv7)
    rw [← HNL.out] at hP7
    obtain ⟨X7, hX7, P7⟩ : ∃ X, w7.setCell ⟨b, 7, none⟩ (.slice A7 (nl + 1) k7) = X ∧ Hid (Pm X b base _ _ _ _ _ _) := ⟨_, rfl, Lib.hid hP7⟩
    clear hP7
    have HX7 := Lib.hid hX7
    have OX7 := Lib.hid (show Only (nb17 base) W X7 from hX7 ▸ ((nb_nob (O6.out.trans oa)).trans (nb_own PA.lg o7)).trans (nb_set w7 HX.out.1))
    clear hX7 PA B7 H7' H7 o7 hv7 oa c2
    go_upto_region 9 with fail
    rw [HX7.out]
    clear c7 f7
    have c8 : X7.cell? ⟨b, 8, none⟩ = some (.slice A5 s.pile.length k5) := P7.out.box.cell 8
    obtain ⟨np, hnp⟩ : ∃ m, m = s.pile.length := ⟨_, rfl⟩
    have HNP := Lib.hid hnp
    rw [← hnp] at c8 hpl
    have hR := P7.out.pl
    simp only at hR
    rw [← hnp] at hR
    have HR5 := Lib.hid hR
    have h7 := Lib.hid (show base ≤ X7.heap.size from Nat.le_trans HX.out.2 OX7.out.size)
    clear hnp hR
    go_wp2_with (with_reducible refine wpList_append_sl (o := ⟨some 58, _, _, _, _, _⟩) _ rfl (.tmp 55) (.tmp 57) _ rfl base 3 j0 _ 1 8 Try.underlying28 hj0 hy0 hy1 hy2 rfl (by decide) (.slice A5 np k5) np (i64s s.pile) rfl ?e1 (X7.heap.size + 1) (.slice (some ⟨X7.heap.size, 0, none⟩) 1 1) 1 (i64s [(n : Int)]) rfl ?e6 (i64s_one _) ?e2 ?e3 ?e4 ?e5)
    case e1 => exact own_only HR5.out ((Only.refl nob X7).alloc _) (fun _ _ h => h)
    case e6 => exact one_int16 X7 _
    case e2 => unfold maxLen; omega
    case e3 => omega
    case e4 => have := h7.out; simp; omega
    case e5 =>
      intro v8 w8 H8 o8 hv8
      obtain ⟨A8, k8, rfl, -, -⟩ := own_len H8.out
      have H8' := H8.out
      rw [HNP.out] at H8' o8 hv8
      have oa : Only nob X7 (X7.alloc (.cells #[.int .i64 (n : Int)] 3)) := (Only.refl nob X7).alloc _
      have PA := P7.out.nob oa
      have B8 := PA.box.keep o8 (blk_ne17 PA.box PA.pl (by decide))
      have c8 : w8.cell? ⟨b, 8, none⟩ = some (.slice A5 np k5) := by rw [HNP.out]; exact B8.cell 8
      have f8 := B8.free 8
      have hP8 := pm_app_p P7.out oa (n : Int) H8' o8 (by simpa using hv8)
      simp only at hP8
      rw [← HNP.out] at hP8
      obtain ⟨X8, hX8, P8⟩ : ∃ X, w8.setCell ⟨b, 8, none⟩ (.slice A8 (np + 1) k8) = X ∧ Hid (Pm X b base _ _ _ _ _ _) := ⟨_, rfl, Lib.hid hP8⟩
      clear hP8
      have HX8 := Lib.hid hX8
      have OX8 := Lib.hid (show Only (nb17 base) W X8 from hX8 ▸ ((OX7.out.trans (nb_nob oa)).trans (nb_own PA.pl o8)).trans (nb_set w8 HX.out.1))
      clear hX8 PA B8 H8' H8 o8 hv8 oa
      go_upto_region 10 with fail
      rw [HX8.out]
      clear c8 f8
      go_wp2
      go_ret
      first | exact ⟨rfl, _, P8.out, OX8.out⟩ | exact ⟨_, P8.out, OX8.out⟩
end Go.Proofs.Ytkjdnccnfnhkoaa
