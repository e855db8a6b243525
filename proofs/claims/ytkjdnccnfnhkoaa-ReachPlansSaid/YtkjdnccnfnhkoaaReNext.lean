/- Package reach: all references are followed; the first one that was not looked at; the pile. -/
import Derived.Test.YtkjdnccnfnhkoaaReFresh
namespace Go.Proofs.Ytkjdnccnfnhkoaa
open Go.RowKit Go.Lib
set_option maxRecDepth 100000
set_option linter.unusedSimpArgs false
set_option linter.unusedVariables false

def refL (l : List Int) : List Sp := l.map fun x => (2, x)
def allS (g : Gr) (lim : Int) (q : QSt) : PSt := lookW g lim (refL q.ah) q.s
def allQ (g : Gr) (lim : Int) (q : QSt) : QSt := { q with ah := [], s := allS g lim q }
theorem fresh_look {g : Gr} {lim : Int} : ∀ (a : List Int) (s : PSt), lookW g lim (refL a) s = lookW g lim (refL (freshQ g lim a s).2.1) (freshQ g lim a s).2.2
  | [], s => rfl
  | x :: a, s => by
    rw [freshQ]
    split
    · rfl
    · exact fresh_look a _
theorem fresh_end {g : Gr} {lim : Int} : ∀ (a : List Int) (s : PSt), (freshQ g lim a s).1 = none → (freshQ g lim a s).2.1 = []
  | [], s, _ => rfl
  | x :: a, s, h => by
    rw [freshQ] at h ⊢
    split
    · rename_i hb
      rw [if_pos hb] at h
      cases h
    · rename_i hb
      rw [if_neg hb] at h
      exact fresh_end a _ h
theorem fresh_less {g : Gr} {lim : Int} : ∀ (a : List Int) (s : PSt), (freshQ g lim a s).1 ≠ none → (freshQ g lim a s).2.1.length < a.length
  | [], s, h => absurd rfl h
  | x :: a, s, h => by
    rw [freshQ] at h ⊢
    split
    · simp
    · rename_i hb
      rw [if_neg hb] at h
      have := fresh_less a _ h
      simp only [List.length_cons]
      omega
theorem look_ok {g : Gr} {lim : Int} {q : QSt} (h : Okq g q) : Wf g (allS g lim q) ∧ Ext q.s (allS g lim q) := by
  obtain ⟨h1, h2, -⟩ := lookW_wf (lim := lim) (refL q.ah) q.s h.wf fun v hv h2 => by
    unfold refL at hv
    obtain ⟨x, hx, rfl⟩ := List.mem_map.1 hv
    exact h.ah x hx
  exact ⟨h1, h2⟩
theorem all_ok {g : Gr} {lim : Int} {q : QSt} (h : Okq g q) : Okq g (allQ g lim q) := ⟨(look_ok h).1, fun x hx => by cases hx⟩
def okN (v : Value) : Nat := match v with | .bool true => 1 | _ => 0
set_option maxHeartbeats 8000000 in
theorem meetAll17 (W : World) (b mb base B : Nat) (g : Gr) (vn vr : Value) (hs : List (Value × Value)) (lim : Int) (V : Int → Value) (q : QSt) (h : Qp W b mb base vn vr lim g.nd.length V q.s.met q) (hr : RdG W B g vn vr hs) (hB : B ≤ base) (hbase : base ≤ W.heap.size) (ok : Okq g q) (hn : g.nd.length ≤ 1000000) :
    Calls Try.prog 38 #[.pointer (some ⟨b, 0, none⟩)] W fun e w' => ∃ V' A c, e = .returned (cutv A q.s.small.length (allS g lim q).small.length c 1) ∧ V' (-1) = .slice A (allS g lim q).small.length c ∧
      Qp w' b mb base vn vr lim g.nd.length V' (allS g lim q).met (allQ g lim q) ∧ Stp b mb V V' W w' := by
  obtain ⟨j0, hj0, hy0, hy1, hy2⟩ := info_parts info_int
  have HC := Lib.hid (fun (W' : World) (V' : Int → Value) (a : List Int) (s : PSt) (h' : Qp W' b mb base vn vr lim g.nd.length V' s.met { q with ah := a, s := s }) (st : Stp b mb V V' W W') (ok' : Okq g { q with ah := a, s := s }) =>
    fresh17 W' b mb base B g vn vr hs lim V' { q with ah := a, s := s } h' (hr.below ((h.below st hbase).mono hB)) hB (Nat.le_trans hbase st.only.size) ok' hn)
  obtain ⟨A1, k1, hv1, hk1, hm1⟩ := (h.rows.own (-1)).form
  have c1 := h.cell at_sm
  rw [hv1] at c1
  obtain ⟨n1, hn1⟩ : ∃ n, n = q.s.small.length := ⟨_, rfl⟩
  have hl1 : (rowsQ q (-1)).length = n1 := by rw [hn1]; rfl
  have HX := Lib.hid (look_ok (lim := lim) ok)
  have HNL := Lib.hid (show q.s.small.length ≤ (allS g lim q).small.length from HX.out.2.sm.length_le)
  have HNR := Lib.hid (show (allS g lim q).small.length ≤ 1000000 by have := HX.out.1.room; rw [met_len] at this; omega)
  obtain ⟨T, hT⟩ : ∃ T, T = allS g lim q := ⟨_, rfl⟩
  have HT := Lib.hid hT
  have HTQ := Lib.hid (show allQ g lim q = { q with ah := [], s := T } by rw [hT]; rfl)
  rw [← hT] at HNL HNR ⊢
  rw [HTQ.out]
  rw [← hn1] at HNL ⊢
  have HQ := Lib.hid h
  have HK := Lib.hid ok
  rw [hl1] at c1 hk1
  clear hT hn1 hl1 hv1 h hr ok hB hbase hk1 hm1 hn
  go_enter Try.func38, Try.ntmps38
  go_wp2
  go_loopw [4] (fun u wr => ∃ (V' : Int → Value) (a : List Int) (s : PSt) (k : Bool), u = .bool k ∧ Hid (Qp wr b mb base vn vr lim g.nd.length V' s.met { q with ah := a, s := s }) ∧ Hid (Stp b mb V V' W wr) ∧ Hid (Okq g { q with ah := a, s := s }) ∧ Hid (T = lookW g lim (refL a) s) ∧ Hid (k = false → a = [])) (fun u wr => mLen b 8 wr + okN u)
  case atStart => exact ⟨V, q.ah, q.s, true, rfl, HQ, Lib.hid (Stp.refl _ _ _ _), HK, HT, Lib.hid fun h => by cases h⟩
  case round =>
    obtain ⟨V', a, s, k, rfl, HQ', HS, HO, HL, HE⟩ := hrel
    cases k with
    | false =>
      have ha := HE.out rfl
      subst ha
      have HTs := Lib.hid (show T = s from HL.out)
      obtain ⟨A2, k2, hv2, hk2, hm2⟩ := (HQ'.out.rows.own (-1)).form
      have c2 := HQ'.out.cell at_sm
      rw [hv2] at c2
      obtain ⟨n2, hn2⟩ : ∃ n, n = T.small.length := ⟨_, rfl⟩
      have hl2 : (rowsQ { q with ah := [], s := s } (-1)).length = n2 := by rw [hn2, HTs.out]; rfl
      rw [hl2] at c2 hk2 hv2
      have HN2 := Lib.hid hn2
      rw [← hn2] at HNL HNR
      have hnl := HNL.out
      have hnr := HNR.out
      have HV2 := Lib.hid hv2
      have hcut := run_cut_l (P := Try.prog) Try.underlying28 hj0 A2 n2 k2 n1 hnl
      rw [hy1] at hcut
      unfold maxLen at hm2
      obtain ⟨u, hu⟩ : ∃ u, cutv A2 n1 n2 k2 1 = u := ⟨_, rfl⟩
      have HU := Lib.hid hu
      rw [hu] at hcut
      clear hu hv2 hn2 hl2 c1
      go_wp2
      go_ret
      refine ⟨V', A2, k2, ?_, ?_, ?_, HS.out⟩
      · rw [← HN2.out, HU.out]; rfl
      · rw [← HN2.out]; exact HV2.out
      · rw [HTs.out]; exact HQ'.out
    | true =>
      have HR := Lib.hid (HC.out _ _ _ _ HQ'.out HS.out HO.out)
      obtain ⟨A8, k8, hv8, hk8, hm8⟩ := (HQ'.out.rows.own (-4)).form
      have c8 := HQ'.out.cell at_ah
      rw [hv8] at c8
      have HML := Lib.hid (show mLen b 8 wr = a.length by rw [mLen_of c8]; simp [rowsQ])
      clear c8 hv8 hk8 hm8 c1
      go_wp2_with fail
      go_at_call 23
      refine HR.out.mono ?_
      rintro e w2 ⟨V2, rfl, Q2, S2⟩
      have HQ2 := Lib.hid Q2
      have HS2 := Lib.hid (HS.out.trans S2)
      obtain ⟨A9, k9, hv9, -, -⟩ := (Q2.rows.own (-4)).form
      have c9 := Q2.cell at_ah
      rw [hv9] at c9
      have HM2 := Lib.hid (show mLen b 8 w2 = (freshQ g lim a s).2.1.length by rw [mLen_of c9]; simp [rowsQ, QSt.put])
      obtain ⟨kb, hkb⟩ : ∃ kb, kb = (freshQ g lim a s).1.isSome := ⟨_, rfl⟩
      have HKB := Lib.hid hkb
      simp only
      rw [← hkb]
      have HLT := Lib.hid (show (freshQ g lim a s).2.1.length + okN (.bool kb) < a.length + 1 by
        rw [hkb]
        cases hh : (freshQ g lim a s).1 with
        | none => rw [fresh_end a s hh]; simp [okN]
        | some y =>
          have := fresh_less a s (by rw [hh]; simp)
          simp [okN]; omega)
      have HE2 := Lib.hid (show kb = false → (freshQ g lim a s).2.1 = [] by
        intro h
        rw [hkb] at h
        exact fresh_end a s (by cases hh : (freshQ g lim a s).1 with | none => rfl | some y => rw [hh] at h; cases h))
      clear Q2 S2 hv9 c9 hkb
      go_wp2
      go_roundw
      case rel => exact ⟨V2, _, _, kb, rfl, HQ2, HS2, Lib.hid (fresh_ok _ _ HO.out), Lib.hid (HL.out.trans (fresh_look a s)), HE2⟩
      case measure =>
        rw [HM2.out, HML.out]
        exact HLT.out

/-- How many were looked at is one more. -/
theorem Qp.bump {W : World} {b mb base : Nat} {vn vr : Value} {lim : Int} {n : Nat} {V : Int → Value} {M : List Int} {q : QSt} (h : Qp W b mb base vn vr lim n V M q) :
    Qp (W.setCell ⟨b, 6, none⟩ (.int .i64 ((q.k + 1 : Nat) : Int))) b mb base vn vr lim n V M { q with k := q.k + 1 } ∧ Stp b mb V V W (W.setCell ⟨b, 6, none⟩ (.int .i64 ((q.k + 1 : Nat) : Int))) := by
  refine ⟨⟨?_, h.fl.other (fun e => h.bm e) _, h.rows.set h.box (by decide), h.nb, h.nm⟩, ⟨(only_set W b 6 _).mono fun k _ e => .inl e, fun k hk _ => .inr (.inr hk), fun _ _ => rfl⟩⟩
  have := h.box.put 6 (.int .i64 ((q.k + 1 : Nat) : Int))
  simpa using this
def firstQ (g : Gr) (lim : Int) (q : QSt) : Option Int × QSt :=
  if q.k = (allS g lim q).small.length then (none, allQ g lim q) else (some ((allS g lim q).small.getD q.k 0), { allQ g lim q with k := q.k + 1 })
set_option maxHeartbeats 8000000 in
theorem first17 (W : World) (b mb base B : Nat) (g : Gr) (vn vr : Value) (hs : List (Value × Value)) (lim : Int) (V : Int → Value) (q : QSt) (h : Qp W b mb base vn vr lim g.nd.length V q.s.met q) (hr : RdG W B g vn vr hs) (hB : B ≤ base) (hbase : base ≤ W.heap.size) (ok : Okq g q) (hn : g.nd.length ≤ 1000000) (hk : q.k ≤ q.s.small.length) :
    Calls Try.prog 22 #[.pointer (some ⟨b, 0, none⟩)] W fun e w' => ∃ V', e = .returned (.tuple #[.int .i64 ((firstQ g lim q).1.getD 0), .bool (firstQ g lim q).1.isSome]) ∧
      Qp w' b mb base vn vr lim g.nd.length V' (firstQ g lim q).2.s.met (firstQ g lim q).2 ∧ Stp b mb V V' W w' := by
  have HM := Lib.hid (meetAll17 W b mb base B g vn vr hs lim V q h hr hB hbase ok hn)
  obtain ⟨HX1, HX2⟩ := look_ok (lim := lim) ok
  have HNL := Lib.hid (show q.k ≤ (allS g lim q).small.length from Nat.le_trans hk HX2.sm.length_le)
  have HNR := Lib.hid (show (allS g lim q).small.length ≤ 1000000 by have := HX1.room; rw [met_len] at this; omega)
  obtain ⟨R, hR⟩ : ∃ R, R = firstQ g lim q := ⟨_, rfl⟩
  have HR := Lib.hid hR
  rw [← hR]
  clear hR HX1 HX2 h hr hB hbase ok hn hk
  go_enter Try.func22, Try.ntmps22
  go_wp2_with fail
  go_at_call 38
  refine HM.out.mono ?_
  rintro e w1 ⟨V1, A1, k1, rfl, hv1, Q1, S1⟩
  have HQ1 := Lib.hid Q1
  have HS1 := Lib.hid S1
  obtain ⟨n1, hn1⟩ : ∃ n, n = (allS g lim q).small.length := ⟨_, rfl⟩
  have HN1 := Lib.hid hn1
  rw [← hn1] at hv1 HNL HNR
  obtain ⟨kk, hkk⟩ : ∃ n, n = q.k := ⟨_, rfl⟩
  have HKK := Lib.hid hkk
  have c4 := Q1.cell at_sm
  rw [hv1] at c4
  have c6 : w1.cell? ⟨b, 6, none⟩ = some (.int .i64 (kk : Int)) := by rw [hkk]; exact Q1.box.cell 6
  have how := Q1.rows.own (-1)
  rw [hv1] at how
  have hrow : rowsQ (allQ g lim q) (-1) = (allS g lim q).small := rfl
  rw [hrow, ← hn1] at how
  obtain ⟨-, -, -, hk1, hm1⟩ := how.form
  rw [← hkk] at HNL
  have hnl := HNL.out
  have hnr := HNR.out
  have HOW := Lib.hid how
  clear Q1 S1 hn1 hkk hrow how HNL HNR hv1
  by_cases hkn : kk = n1
  · subst hkn
    have HF := Lib.hid (HR.out.trans (show firstQ g lim q = (none, allQ g lim q) by unfold firstQ; rw [if_pos (HKK.out.symm.trans HN1.out)]))
    go_wp2
    go_quiet (fail)
    go_wp2
    go_ret2
    refine ⟨V1, ?_, ?_, HS1.out.more ((Only.refl nob _).drewN _)⟩
    · rw [HF.out]; rfl
    · rw [HF.out]; exact HQ1.out.kept ((Only.refl nob _).drewN _)
  · have hkq : ((kk : Int) == (n1 : Int)) = false := by
      have : ¬ ((kk : Int) = n1) := by omega
      simpa using this
    have hlt : kk < n1 := by omega
    obtain ⟨z, hz⟩ : ∃ z, (allS g lim q).small[kk]? = some z := ⟨_, List.getElem?_eq_getElem (by rw [← HN1.out]; exact hlt)⟩
    have HF := Lib.hid (HR.out.trans (show firstQ g lim q = (some z, { allQ g lim q with k := q.k + 1 }) by
      unfold firstQ
      rw [if_neg (by rw [← HKK.out, ← HN1.out]; exact hkn), ← HKK.out, List.getD_eq_getElem?_getD, hz]; rfl))
    obtain ⟨g4, o4, cur4, rfl, -, -, hc4⟩ := HOW.out.at_ (by omega)
    have hz4 : w1.cell? ⟨g4, o4 + kk, none⟩ = some (.int .i64 z) := hc4 kk _ (i64s_at hz)
    have hws : IntKind.i64.wrap ((kk : Int) + 1) = ((kk + 1 : Nat) : Int) := by rw [IntWalk.i64_in _ (by omega)]; omega
    clear hc4 hz hkn
    go_wp2
    go_quiet (fail)
    have O2 := Lib.hid ((Only.refl nob w1).drewN nq)
    generalize w1.drewN nq = w2 at O2 ⊢
    have HQ2 := Lib.hid (HQ1.out.kept O2.out)
    have HS2 := Lib.hid (HS1.out.more O2.out)
    have d4 := O2.out.keeps c4
    have d6 := O2.out.keeps c6
    have f6 := HQ2.out.box.free 6
    have hz5 := O2.out.keeps hz4
    obtain ⟨Q3, S3⟩ := HQ2.out.bump
    rw [show (allQ g lim q).k + 1 = kk + 1 from by rw [HKK.out]; rfl] at Q3 S3
    obtain ⟨m, hm⟩ : ∃ m, m = kk + 1 := ⟨_, rfl⟩
    have hmk : kk < m := by omega
    have hmn : m ≤ n1 := by omega
    have hws2 : IntKind.i64.wrap ((m : Int) - 1) = (kk : Int) := by rw [IntWalk.i64_in _ (by omega)]; omega
    rw [← hm] at Q3 S3 hws
    obtain ⟨W3, hW3⟩ : ∃ X, w2.setCell ⟨b, 6, none⟩ (.int .i64 (m : Int)) = X := ⟨_, rfl⟩
    rw [hW3] at Q3 S3
    have HW3 := Lib.hid hW3
    have HQ3 := Lib.hid Q3
    have HS3 := Lib.hid (HS2.out.trans S3)
    have HM := Lib.hid (hm.trans (congrArg (· + 1) HKK.out))
    have e4 : W3.cell? ⟨b, 4, none⟩ = some (.slice (some ⟨g4, o4, none⟩) n1 k1) := by
      have h1 := Q3.cell at_sm
      have h2 := HQ2.out.cell at_sm
      rw [d4] at h2
      rw [h1, ← h2]
    have e6 : W3.cell? ⟨b, 6, none⟩ = some (.int .i64 (m : Int)) := by
      rw [← hW3]; exact (HQ2.out.box.put 6 (.int .i64 (m : Int))).cell 6
    have hz6 : W3.cell? ⟨g4, o4 + kk, none⟩ = some (.int .i64 z) := by
      rw [← hW3]
      have hne : g4 ≠ b := fun e => by
        have := HOW.out.ne HQ1.out.box (by decide)
        rw [e] at this
        exact this rfl
      rw [(only_set w2 b 6 _).cell (World.block_lt_of_cell? w2 _ hz5) hne]
      exact hz5
    clear hW3 Q3 S3 hm c4 c6 hz4
    go_upto_region 5 with fail
    with_reducible rw [HW3.out]
    clear d4 d6 f6 hz5
    go_quiet (fail)
    go_wp2
    go_ret2
    refine ⟨V1, ?_, ?_, HS3.out.more ((Only.refl nob _).drewN _)⟩
    · rw [HF.out]; rfl
    · rw [HF.out]; exact (HQ3.out.kept ((Only.refl nob _).drewN _)).says rfl HM.out.symm
set_option maxHeartbeats 4000000 in
/-- The large node on top of the pile is taken off it. -/
theorem offPile17 (W : World) (b mb base : Nat) (n : Nat) (vn vr : Value) (lim : Int) (V : Int → Value) (q : QSt) (h : Qp W b mb base vn vr lim n V q.s.met q) :
    Calls Try.prog 37 #[.pointer (some ⟨b, 0, none⟩)] W fun e w' => ∃ V', e = .returned (.tuple #[.int .i64 (q.s.pile.getLast?.getD 0), .bool q.s.pile.getLast?.isSome]) ∧
      Qp w' b mb base vn vr lim n V' q.s.met { q with s := { q.s with pile := q.s.pile.dropLast } } ∧ Stp b mb V V' W w' := by
  obtain ⟨A1, k1, hv1, hk1, hm1⟩ := (h.rows.own (-3)).form
  have c7 := h.cell at_pl
  rw [hv1] at c7
  have hr : rowsQ q (-3) = q.s.pile := rfl
  rw [hr] at c7 hk1 hv1
  rcases List.eq_nil_or_concat q.s.pile with hp | ⟨P, x, hp⟩
  · have HQ := Lib.hid h
    have HP := Lib.hid hp
    rw [hp] at c7
    simp only [List.length_nil] at c7
    clear hv1 hk1 hm1 h hp hr
    go_enter Try.func37, Try.ntmps37
    go_wp2
    go_ret2
    refine ⟨V, by rw [HP.out]; rfl, ?_, Stp.refl _ _ _ _⟩
    have : q.s.pile.dropLast = q.s.pile := by rw [HP.out]; rfl
    rw [this]; exact HQ.out
  · rw [List.concat_eq_append] at hp
    obtain ⟨n1, hn1⟩ : ∃ m, m = P.length := ⟨_, rfl⟩
    have how := h.rows.own (-3)
    rw [hv1, hr, hp, i64s_append] at how
    rw [hp] at c7 hk1 hv1
    simp only [List.length_append, List.length_cons, List.length_nil, Nat.zero_add] at how c7 hk1 hv1
    rw [← hn1] at how c7 hk1 hv1
    obtain ⟨g8, o8, cur8, rfl, -, -, hc8⟩ := how.at_ (by omega)
    have hx8 : W.cell? ⟨g8, o8 + n1, none⟩ = some (.int .i64 x) := hc8 n1 _ (by rw [List.getElem?_append_right (by simp [i64s_len, hn1])]; simp [i64s, hn1])
    obtain ⟨hi1, hi2⟩ := how.init
    have HT := Lib.hid (takeLast17 W b 7 _ _ g8 o8 n1 k1 x h.box (by rw [hv1]; rfl) (by omega) hm1 hx8)
    obtain ⟨Q1, S1⟩ := h.cut (q' := { q with s := { q.s with pile := P } }) at_pl (l := P) (by rw [← hn1]; exact hi1) (fun k e => by rw [hv1]; exact hi2 k e) (rows_pl q P) rfl
    have HQ1 := Lib.hid Q1
    have HS1 := Lib.hid S1
    have HP := Lib.hid hp
    clear hc8 hx8 hi1 hi2 how hv1 hk1 hm1 hr Q1 S1 h hp hn1
    go_enter Try.func37, Try.ntmps37
    go_wp2_with fail
    go_at_call 39
    refine HT.out.mono ?_
    rintro e w1 ⟨rfl, hw1⟩
    with_reducible rw [hw1]
    clear c7
    go_wp2
    go_ret2
    refine ⟨_, by rw [HP.out]; simp, ?_, HS1.out⟩
    rw [HP.out, List.dropLast_concat]
    exact HQ1.out
end Go.Proofs.Ytkjdnccnfnhkoaa
