/- The document's own answers for graphs: whether a graph may be; two graphs held against one another. -/
import Derived.Test.YtdlaigghejahdaaRef16B
namespace Go.Proofs.Ytdlaigghejahdaa
open Go.RowKit
set_option maxRecDepth 100000
set_option linter.unusedSimpArgs false
set_option linter.unusedVariables false

theorem ndOk_cases (n : Nat) (d : Nd) : (d.kd < 0 ∧ ndOk n d = false) ∨ (0 ≤ d.kd ∧ 31 < d.kd ∧ ndOk n d = false) ∨ (0 ≤ d.kd ∧ d.kd ≤ 31 ∧ 4096 < (d.fs.length : Int) ∧ ndOk n d = false) ∨ (0 ≤ d.kd ∧ d.kd ≤ 31 ∧ (d.fs.length : Int) ≤ 4096 ∧ 4096 < (d.rs.length : Int) ∧ ndOk n d = false) ∨ (0 ≤ d.kd ∧ d.kd ≤ 31 ∧ (d.fs.length : Int) ≤ 4096 ∧ (d.rs.length : Int) ≤ 4096 ∧ ndOk n d = d.fs.all (vOk n)) := by
  unfold ndOk
  by_cases h1 : d.kd < 0
  · exact .inl ⟨h1, by rw [decide_eq_false (by omega)]; rfl⟩
  by_cases h2 : 31 < d.kd
  · exact .inr (.inl ⟨by omega, h2, by rw [decide_eq_false (by omega)]; rfl⟩)
  by_cases h3 : 4096 < (d.fs.length : Int)
  · exact .inr (.inr (.inl ⟨by omega, by omega, h3, by rw [decide_eq_false (p := d.fs.length ≤ 4096) (by omega)]; simp⟩))
  by_cases h4 : 4096 < (d.rs.length : Int)
  · exact .inr (.inr (.inr (.inl ⟨by omega, by omega, by omega, h4, by rw [decide_eq_false (p := d.rs.length ≤ 4096) (by omega)]; simp⟩)))
  · exact .inr (.inr (.inr (.inr ⟨by omega, by omega, by omega, by omega, by rw [decide_eq_true (p := 0 ≤ d.kd ∧ d.kd ≤ 31) (by omega), decide_eq_true (p := d.fs.length ≤ 4096) (by omega), decide_eq_true (p := d.rs.length ≤ 4096) (by omega)]; simp⟩)))
set_option maxHeartbeats 2000000 in
theorem rRight16 : RightGC 12 := by
  intro g vn vr hs B w h hB hfit
  have HR := Lib.hid h
  obtain ⟨A, c, rfl, hac, hcm⟩ := h.nodes.form
  obtain ⟨Ar, cr, rfl, harc, hcrm⟩ := h.roots.form
  unfold maxLen at hcm hcrm
  obtain ⟨W, hW, HB⟩ := box_graph w (.slice A g.nd.length c) (.slice Ar g.rt.length cr)
  have HW := Lib.hid hW
  have hnl : g.nd.length ≤ 9223372036854775807 := by omega
  have HSD := Lib.hid (fun (v : Value) (l : List Sp) (w' : World) (B' : Nat) (h : Sl w' B' 2 v l.length (spc l)) (hB : B' ≤ w'.heap.size) => rSound16 A g.nd.length c (.slice Ar g.rt.length cr) v l B' w' hnl h hB)
  obtain ⟨q, hq⟩ : ∃ q, q = grOk g := ⟨_, rfl⟩
  have HQ := Lib.hid (hq.trans (show grOk g = (g.nd.all (ndOk g.nd.length) && g.rt.all (vOk g.nd.length)) from rfl))
  rw [← hq]
  obtain ⟨p, hp⟩ : ∃ p, p = w.heap.size := ⟨_, rfl⟩
  have HP := Lib.hid hp
  rw [← hp] at HB
  clear hW hq hp h hfit
  have c0 := HB.out.2.2.1
  go_enter Try.func12, Try.ntmps12
  go_upto_region 1 with fail
  rw [HW.out, ← HP.out]
  go_wp2_with fail
  go_loopw [3, 4] (fun i _ wr => ∃ k : Nat, k ≤ g.nd.length ∧ i = .int .i64 k ∧ Hid (∀ (j : Nat) y, j < k → g.nd[j]? = some y → ndOk g.nd.length y = true) ∧ Hid (Only nob W wr)) (fun i _ _ => g.nd.length - (intOf i).toNat)
  case atStart => exact ⟨0, Nat.zero_le _, rfl, fun j _ hj _ => absurd hj (Nat.not_lt_zero j), Lib.hid (Only.refl _ _)⟩
  case round =>
    obtain ⟨k, hk, rfl, hno, HO⟩ := hrel
    clear c0
    have c0 := HO.out.keeps HB.out.2.2.1
    have c1 := HO.out.keeps HB.out.2.2.2
    by_cases hlt : k < g.nd.length
    · obtain ⟨d, hd⟩ : ∃ x, g.nd[k]? = some x := ⟨_, List.getElem?_eq_getElem hlt⟩
      obtain ⟨bb, o, fv, rv, rfl, hbb, -, g0, g1, g2, hnd⟩ := HR.out.at_ ((HB.out.1.trans HO.out).below hB fun _ h => h.elim) hd
      obtain ⟨Af, cf, hfv, hafc, hcfm⟩ := hnd.fields.form
      obtain ⟨Arw, crw, hrv, harw, hcrw⟩ := hnd.raws.form
      simp only at hfv hrv
      subst hfv hrv
      unfold maxLen at hcfm hcrw
      have HD := Lib.hid hd
      have HND := Lib.hid hnd
      obtain ⟨W2, hW2, HB2⟩ := box_node wr d.kd (.slice Af d.fs.length cf) (.slice Arw d.rs.length crw)
      have HW2 := Lib.hid hW2
      have O2 := Lib.hid (HO.out.trans HB2.out.1)
      have e0 := HB2.out.1.keeps c0
      have e1 := HB2.out.1.keeps c1
      have hcs := ndOk_cases g.nd.length d
      obtain ⟨kd, hkd⟩ : ∃ kd, kd = d.kd := ⟨_, rfl⟩
      rw [← hkd] at g0 HB2 HW2 hcs
      clear hd hnd hW2 hkd
      go_upto_region 5 with fail
      rw [HW2.out]
      obtain ⟨-, -, d0, d1, d2⟩ := HB2.out
      clear g0 g1 g2 c0 c1
      rcases hcs with ⟨h1, hf⟩ | ⟨h1, h2, hf⟩ | ⟨h1, h2, h3, hf⟩ | ⟨h1, h2, h3, h4, hf⟩ | ⟨h1, h2, h3, h4, hf⟩
      · have HN := Lib.hid (show q = false by rw [HQ.out, all_no16 HD.out hf]; rfl)
        clear hf
        go_wp2
        go_ret
        exact ⟨ret_bool (by rw [HN.out]), HB.out.1.trans O2.out⟩
      · have HN := Lib.hid (show q = false by rw [HQ.out, all_no16 HD.out hf]; rfl)
        clear hf
        go_wp2
        go_ret
        exact ⟨ret_bool (by rw [HN.out]), HB.out.1.trans O2.out⟩
      · have HN := Lib.hid (show q = false by rw [HQ.out, all_no16 HD.out hf]; rfl)
        clear hf
        go_wp2
        go_ret
        exact ⟨ret_bool (by rw [HN.out]), HB.out.1.trans O2.out⟩
      · have HN := Lib.hid (show q = false by rw [HQ.out, all_no16 HD.out hf]; rfl)
        clear hf
        go_wp2
        go_ret
        exact ⟨ret_bool (by rw [HN.out]), HB.out.1.trans O2.out⟩
      · have HF := Lib.hid hf
        have HSC := Lib.hid (HSD.out (.slice Af d.fs.length cf) d.fs W2 B (HND.out.fields.below (HB2.out.1.below (Nat.le_trans hB (HB.out.1.trans HO.out).size) fun _ h => h.elim)) (Nat.le_trans hB (HB.out.1.trans O2.out).size))
        obtain ⟨sd, hsd⟩ : ∃ sd, sd = d.fs.all (vOk g.nd.length) := ⟨_, rfl⟩
        rw [← hsd] at HF HSC
        clear hf hsd
        go_wp2_with fail
        go_at_call 28
        refine HSC.out.mono ?_
        rintro e w3 ⟨rfl, o3⟩
        have O3 := Lib.hid (O2.out.trans o3)
        clear o3 d0 d1 d2 e0 e1
        cases sd with
        | false =>
          have HN := Lib.hid (show q = false by rw [HQ.out, all_no16 HD.out HF.out]; rfl)
          go_wp2
          go_ret
          exact ⟨ret_bool (by rw [HN.out]), HB.out.1.trans O3.out⟩
        | true =>
          have HN := Lib.hid (all_next16 hno.out HD.out HF.out)
          go_wp2
          go_roundw
          case rel => exact ⟨k + 1, by omega, by go_num, HN, O3⟩
          case measure => simp [intOf]; omega
    · obtain rfl : k = g.nd.length := by omega
      have HN := Lib.hid (show q = g.rt.all (vOk g.nd.length) by rw [HQ.out, all_yes16 fun j y hj hy => hno.out j y hj hy]; simp)
      have HSC := Lib.hid (HSD.out (.slice Ar g.rt.length cr) g.rt wr B (HR.out.roots.below ((HB.out.1.trans HO.out).below hB fun _ h => h.elim)) (Nat.le_trans hB (HB.out.1.trans HO.out).size))
      obtain ⟨sd, hsd⟩ : ∃ sd, sd = g.rt.all (vOk g.nd.length) := ⟨_, rfl⟩
      rw [← hsd] at HN HSC
      clear hsd
      go_wp2_with fail
      go_at_call 28
      refine HSC.out.mono ?_
      rintro e w3 ⟨rfl, o3⟩
      have O3 := Lib.hid (HO.out.trans o3)
      clear o3 c0 c1
      go_wp2
      go_ret
      exact ⟨ret_bool (by rw [HN.out]), HB.out.1.trans O3.out⟩
end Go.Proofs.Ytdlaigghejahdaa
