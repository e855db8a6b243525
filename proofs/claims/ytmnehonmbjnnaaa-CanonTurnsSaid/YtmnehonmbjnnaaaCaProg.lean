/- Package canon: Canon, as Breadth and Renumber. Alike, by two of these. -/
import Derived.Test.YtmnehonmbjnnaaaCaLaw
namespace Go.Proofs.Ytmnehonmbjnnaaa
open Go.RowKit Go.Lib
set_option maxRecDepth 100000
set_option linter.unusedSimpArgs false
set_option linter.unusedVariables false

set_option maxHeartbeats 4000000 in
theorem canon_any18 : CanGC 10 := by
  intro g vn vr hs B W hr hB hfit hn hrt
  obtain ⟨A, c, rfl, hac, hcm⟩ := hr.nodes.form
  obtain ⟨Ar, cr, rfl, hacr, hcmr⟩ := hr.roots.form
  obtain ⟨V, hV, HVB⟩ := two_boxes16 W (.slice A g.nd.length c) (.slice Ar g.rt.length cr)
  have HVE := Lib.hid hV
  have HG := Lib.hid (fun (W' : World) (o : Only nob W W') => hr.only o hB)
  have HBW := Lib.hid hB
  have HC := Lib.hid (breadth17 g _ _ hs B V (HG.out V HVB.out.1) (Nat.le_trans hB HVB.out.1.size) hfit ⟨by omega, by omega⟩)
  have HP := Lib.hid (fun (v : Value) (W' : World) (o : Only nob W W') (h : Sl W' W'.heap.size 1 v (flatL g 0).length (i64s (flatL g 0))) => renumber_any16 g (flatL g 0) _ _ v hs W'.heap.size W' ((HG.out W' o).more (Nat.le_trans hB o.size)) h (Nat.le_refl _) hfit hn hrt (by have := flat_n60 g; omega) (flat_b64 g hn))
  obtain ⟨E, hE⟩ : ∃ E, E = flatE g := ⟨_, rfl⟩
  obtain ⟨L, hL⟩ : ∃ L, L = flatL g 0 := ⟨_, rfl⟩
  obtain ⟨K, hK⟩ : ∃ K, K = canG g := ⟨_, rfl⟩
  have HN := Lib.hid (show E ≠ 0 → K = ⟨[], []⟩ from fun h => by rw [hK]; exact can_none (by rw [← hE]; exact h))
  rw [can_e, show rnG g (flatL g 0) = canG g from rfl, ← hE, ← hL, ← hK] at HP
  rw [← hE, ← hL] at HC
  rw [← hE, ← hK]
  have c0 : V.cell? ⟨W.heap.size, 0, none⟩ = some (.slice A g.nd.length c) := HVB.out.2.1.cell 0
  have c1 : V.cell? ⟨W.heap.size, 1, none⟩ = some (.slice Ar g.rt.length cr) := HVB.out.2.1.cell 1
  clear hV hr hB hfit hn hrt hE hL hK
  go_enter Try.func10, Try.ntmps10
  go_upto_region 1 with fail
  rw [HVE.out]
  go_wp2_with fail
  go_at_call 19
  refine HC.out.mono ?_
  rintro e w2 ⟨v1, rfl, h1, o2⟩
  have H1 := Lib.hid h1.sl
  have O2 := Lib.hid (HVB.out.1.trans o2)
  have B2 := Lib.hid (HVB.out.2.2.keep o2 id)
  obtain ⟨A2, k2, rfl, -, -⟩ := h1.form
  have d0 := o2.keeps c0
  have d1 := o2.keeps c1
  clear h1 o2 c0 c1
  by_cases h0 : E = 0
  · subst h0
    go_wp2_with fail
    go_at_call 15
    refine (HP.out _ w2 O2.out H1.out).mono ?_
    rintro e w3 ⟨un, ur, js, rfl, rd, o3⟩
    have RD := Lib.hid rd
    obtain ⟨An, cn, rfl, -⟩ := rd.nodes.form
    obtain ⟨Br, dr, rfl, -⟩ := rd.roots.form
    have O3 := Lib.hid (O2.out.trans o3)
    have B3 := B2.out.keep o3 id
    have b0 : w3.cell? ⟨W.heap.size + 1, 0, none⟩ = some (.slice none 0 0) := B3.cell 0
    have b1 : w3.cell? ⟨W.heap.size + 1, 1, none⟩ = some (.slice none 0 0) := B3.cell 1
    have fb0 := B3.free 0
    have fb1 := B3.free 1
    obtain ⟨U, hU, oU, U1⟩ := put_graph16 B3 (.slice An K.nd.length cn) (.slice Br K.rt.length dr)
    have HU := Lib.hid hU
    have OU := Lib.hid (O3.out.andThen oU fun i hi e => by unfold isb at e; omega)
    have HRD := Lib.hid (show RdG U U.heap.size K (.slice An K.nd.length cn) (.slice Br K.rt.length dr) js from rd.off18 B3 oU)
    clear rd o3 B3 hU oU d0 d1
    go_wp2
    rw [HU.out]
    have r0 : U.cell? ⟨W.heap.size + 1, 0, none⟩ = some (.slice An K.nd.length cn) := U1.cell 0
    have r1 : U.cell? ⟨W.heap.size + 1, 1, none⟩ = some (.slice Br K.rt.length dr) := U1.cell 1
    refine bodyPost_ret (v := .tuple #[.agg #[.slice An K.nd.length cn, .slice Br K.rt.length dr], .int .i64 0]) (by simp [results, Try.results10, go_sem, r0, r1]) rfl ?_
    exact ⟨_, _, js, rfl, HRD.out, OU.out⟩
  · have hnb : (E != 0) = true := by simpa using h0
    have HK := Lib.hid (HN.out h0)
    have b0 : w2.cell? ⟨W.heap.size + 1, 0, none⟩ = some (.slice none 0 0) := B2.out.cell 0
    have b1 : w2.cell? ⟨W.heap.size + 1, 1, none⟩ = some (.slice none 0 0) := B2.out.cell 1
    have fb0 := B2.out.free 0
    have fb1 := B2.out.free 1
    obtain ⟨U, hU, oU, U1⟩ := put_graph16 B2.out (.slice none 0 0) (.slice none 0 0)
    have HU := Lib.hid hU
    have OU := Lib.hid (O2.out.andThen oU fun i hi e => by unfold isb at e; omega)
    clear hU oU d0 d1
    go_wp2
    rw [HU.out]
    have r0 : U.cell? ⟨W.heap.size + 1, 0, none⟩ = some (.slice none 0 0) := U1.cell 0
    have r1 : U.cell? ⟨W.heap.size + 1, 1, none⟩ = some (.slice none 0 0) := U1.cell 1
    refine bodyPost_ret (v := .tuple #[.agg #[.slice none 0 0, .slice none 0 0], .int .i64 E]) (by simp [results, Try.results10, go_sem, r0, r1]) rfl ?_
    exact ⟨_, _, [], rfl, by rw [HK.out]; exact rd_none _, OU.out⟩
/-! ### Alike, by two Canons -/
theorem flatE_ok {g : Gr} : flatE g = 0 ↔ grOk g = true := by
  unfold flatE
  cases grOk g <;> simp
theorem alike_e {a b : Gr} (ha : flatE a = 0) (hb : flatE b = 0) : alikeB a b = sameG (canG a) (canG b) := by
  unfold alikeB
  rw [flatE_ok.1 ha, flatE_ok.1 hb]
  simp
theorem alike_ne {a b : Gr} (h : flatE a ≠ 0 ∨ flatE b ≠ 0) : alikeB a b = false := by
  apply Bool.eq_false_iff.2
  intro e
  obtain ⟨h1, h2, -⟩ := alike_iff.1 e
  rcases h with h | h
  · exact h (flatE_ok.2 h1)
  · exact h (flatE_ok.2 h2)
set_option maxHeartbeats 8000000 in
theorem alike_any18 : AlkGC 13 := by
  intro a b an ar bn br hs js B W hra hrb hB hfa hfb hna hta hnb htb
  obtain ⟨A, ca, rfl, hac, hcm⟩ := hra.nodes.form
  obtain ⟨A', cb, rfl, hbc, hcm'⟩ := hrb.nodes.form
  obtain ⟨Ar, cra, rfl, hrac, hrcm⟩ := hra.roots.form
  obtain ⟨Br, crb, rfl, hrbc, hrcm'⟩ := hrb.roots.form
  obtain ⟨V, hV, HVB⟩ := boxes18 W (.slice A a.nd.length ca) (.slice Ar a.rt.length cra) (.slice A' b.nd.length cb) (.slice Br b.rt.length crb)
  have HVE := Lib.hid hV
  have HC1 := Lib.hid (canon_any18 a _ _ hs B V (hra.only HVB.out.1 hB) (Nat.le_trans hB HVB.out.1.size) hfa hna hta)
  have HC2 := Lib.hid (fun (W' : World) (o : Only nob W W') => canon_any18 b _ _ js B W' (hrb.only o hB) (Nat.le_trans hB o.size) hfb hnb htb)
  have HK := Lib.hid (And.intro (canG_fit hfa hna) (canG_fit hfb hnb))
  have HE := Lib.hid (And.intro (alike_e (a := a) (b := b)) (alike_ne (a := a) (b := b)))
  obtain ⟨q, hq⟩ : ∃ q, q = alikeB a b := ⟨_, rfl⟩
  obtain ⟨E, hE⟩ : ∃ z, z = flatE a := ⟨_, rfl⟩
  obtain ⟨F, hF⟩ : ∃ z, z = flatE b := ⟨_, rfl⟩
  obtain ⟨K, hK⟩ : ∃ z, z = canG a := ⟨_, rfl⟩
  obtain ⟨L, hL⟩ : ∃ z, z = canG b := ⟨_, rfl⟩
  rw [← hq, ← hE, ← hF, ← hK, ← hL] at HE
  rw [← hE, ← hK] at HC1
  rw [← hF, ← hL] at HC2
  rw [← hK, ← hL] at HK
  rw [← hq]
  have c0 : V.cell? ⟨W.heap.size, 0, none⟩ = some (.slice A a.nd.length ca) := HVB.out.2.1.cell 0
  have c1 : V.cell? ⟨W.heap.size, 1, none⟩ = some (.slice Ar a.rt.length cra) := HVB.out.2.1.cell 1
  clear hV hra hrb hB hfa hfb hna hta hnb htb hq hE hF hK hL
  go_enter Try.func13, Try.ntmps13
  go_upto_region 1 with fail
  rw [HVE.out]
  go_wp2_with fail
  go_at_call 10
  refine HC1.out.mono ?_
  rintro e w2 ⟨un, ur, ks, rfl, rd, o2⟩
  have RD1 := Lib.hid rd
  obtain ⟨An, cn, rfl, -⟩ := rd.nodes.form
  obtain ⟨Ar2, cr2, rfl, -⟩ := rd.roots.form
  obtain ⟨X, hX, HBX⟩ := box_graph2 w2 (.slice An K.nd.length cn) (.slice Ar2 K.rt.length cr2)
  have HX := Lib.hid hX
  have O2 := Lib.hid (HVB.out.1.trans (o2.trans HBX.out.1))
  have e0 : X.cell? ⟨W.heap.size + 1, 0, none⟩ = some (.slice A' b.nd.length cb) := (HVB.out.2.2.keep (o2.trans HBX.out.1) id).cell 0
  have e1 : X.cell? ⟨W.heap.size + 1, 1, none⟩ = some (.slice Br b.rt.length crb) := (HVB.out.2.2.keep (o2.trans HBX.out.1) id).cell 1
  clear rd o2 hX c0 c1
  go_upto_region 2 with fail
  rw [HX.out]
  go_wp2_with fail
  go_at_call 10
  refine (HC2.out X O2.out).mono ?_
  rintro e w3 ⟨vn, vr, ls, rfl, rd, o3⟩
  have RD2 := Lib.hid rd
  obtain ⟨Bn, dn, rfl, -⟩ := rd.nodes.form
  obtain ⟨Br2, dr2, rfl, -⟩ := rd.roots.form
  obtain ⟨Y, hY, HBY⟩ := box_graph2 w3 (.slice Bn L.nd.length dn) (.slice Br2 L.rt.length dr2)
  have HY := Lib.hid hY
  have O3 := Lib.hid (O2.out.trans (o3.trans HBY.out.1))
  have R1 := Lib.hid (RD1.out.only (HBX.out.1.trans (o3.trans HBY.out.1)) (Nat.le_refl _))
  have R2 := Lib.hid (RD2.out.only HBY.out.1 (Nat.le_refl _))
  have S1 := Lib.hid (HBX.out.1.trans (o3.trans HBY.out.1)).size
  have S2 := Lib.hid HBY.out.1.size
  have c0 : Y.cell? ⟨w2.heap.size, 0, none⟩ = some (.slice An K.nd.length cn) := (HBX.out.2.keep (o3.trans HBY.out.1) id).cell 0
  have c1 : Y.cell? ⟨w2.heap.size, 1, none⟩ = some (.slice Ar2 K.rt.length cr2) := (HBX.out.2.keep (o3.trans HBY.out.1) id).cell 1
  have d0 : Y.cell? ⟨w3.heap.size, 0, none⟩ = some (.slice Bn L.nd.length dn) := HBY.out.2.cell 0
  have d1 : Y.cell? ⟨w3.heap.size, 1, none⟩ = some (.slice Br2 L.rt.length dr2) := HBY.out.2.cell 1
  clear rd o3 hY e0 e1
  go_upto_region 3 with fail
  rw [HY.out]
  by_cases hE : E = 0
  · subst hE
    by_cases hF : F = 0
    · subst hF
      have HQ := Lib.hid (HE.out.1 rfl rfl)
      go_wp2_with fail
      go_at_call 26
      refine (same_any16 K L _ _ _ _ _ _ _ _ Y R1.out R2.out S1.out S2.out HK.out.1 HK.out.2).mono ?_
      rintro e w9 ⟨rfl, o9⟩
      have O9 := Lib.hid (O3.out.trans o9)
      clear o9 c0 c1 d0 d1
      rw [← HQ.out]
      go_wp2
      go_ret
      exact ⟨rfl, O9.out⟩
    · have hb : (F == 0) = false := by simpa using hF
      have HQ := Lib.hid (HE.out.2 (.inr hF))
      clear c0 c1 d0 d1 hF
      go_wp2
      go_ret
      exact ⟨ret_bool (by rw [HQ.out]), O3.out⟩
  · have hb : (E == 0) = false := by simpa using hE
    have HQ := Lib.hid (HE.out.2 (.inl hE))
    clear c0 c1 d0 d1 hE
    go_wp2
    go_ret
    exact ⟨ret_bool (by rw [HQ.out]), O3.out⟩
end Go.Proofs.Ytmnehonmbjnnaaa
