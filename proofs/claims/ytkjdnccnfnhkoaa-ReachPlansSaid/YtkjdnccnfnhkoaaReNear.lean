/- Package reach's tiers: what is looked at next. -/
import Derived.Test.YtkjdnccnfnhkoaaReWait
namespace Go.Proofs.Ytkjdnccnfnhkoaa
open Go.RowKit Go.Maps Go.ChangeMaps Go.Lib
set_option maxRecDepth 100000
set_option linter.unusedSimpArgs false
set_option linter.unusedVariables false

/-- Bounds: c have come to wait, d were taken. -/
structure TB (c d : Nat) (q : QSt) : Prop where
  tp : 0 ≤ q.tp ∧ q.tp ≤ 8193 * (c : Int)
  pt : q.pt ≤ c + d
  bg : q.bg.length ≤ c
  wt : ∀ z, (q.wt z).length ≤ c
  lt : I64b q.last
  bs : ∀ z ∈ q.bg, I64b z
theorem sz_ok17 {g : Gr} (hg : grOk g = true) {x : Int} (hx : 0 ≤ x ∧ x < (g.nd.length : Int)) : 1 ≤ ndSz (ndAt g x) ∧ ndSz (ndAt g x) ≤ 8193 := by
  have hlt : x.toNat < g.nd.length := by omega
  have hm : ndAt g x ∈ g.nd := by
    unfold ndAt
    rw [List.getD_eq_getElem?_getD, List.getElem?_eq_getElem hlt]
    exact List.getElem_mem hlt
  obtain ⟨-, h2, h3, -⟩ := ndOk_iff.1 ((grOk_iff.1 hg).1 _ hm)
  unfold ndSz ndRaw
  rw [wrap64_id _ (by omega) (by omega)]
  omega
theorem blk_ok17 {blk : Int} {q : QSt} {c d : Nat} (hb : 1 ≤ blk) (h : TB c d q) (hc : c ≤ 1000000) : I64b (blkOf blk q) := by
  unfold blkOf I64b
  have := h.tp
  rw [Int.tdiv_eq_ediv_of_nonneg this.1]
  exact ⟨Int.ediv_nonneg this.1 (by omega), Int.le_trans (Int.ediv_le_self _ this.1) (by omega)⟩
theorem TB.wait {g : Gr} (hg : grOk g = true) {blk : Int} {q : QSt} {c d : Nat} {x : Int} (hb : 1 ≤ blk) (h : TB c d q) (hc : c ≤ 1000000) (hx : 0 ≤ x ∧ x < (g.nd.length : Int)) : TB (c + 1) d (waitQ g blk q x) := by
  have hz := blk_ok17 hb h hc
  have hs := sz_ok17 hg hx
  have ht := h.tp
  have hp := h.pt
  have hl := h.bg
  refine ⟨?_, ?_, ?_, ?_, hz, ?_⟩
  · show 0 ≤ wrap64 (q.tp + ndSz (ndAt g x)) ∧ wrap64 (q.tp + ndSz (ndAt g x)) ≤ 8193 * ((c + 1 : Nat) : Int)
    rw [wrap64_id _ (by omega) (by omega)]
    omega
  · show q.pt + 1 ≤ _
    omega
  · show (if q.wt (blkOf blk q) = [] then q.bg ++ [blkOf blk q] else q.bg).length ≤ _
    split
    · simp; omega
    · omega
  · intro z
    show (upd q.wt (blkOf blk q) (q.wt (blkOf blk q) ++ [x]) z).length ≤ _
    have h1 := h.wt z
    have h2 := h.wt (blkOf blk q)
    unfold upd
    split
    · simp; omega
    · omega
  · intro z hm
    have hm : z ∈ (if q.wt (blkOf blk q) = [] then q.bg ++ [blkOf blk q] else q.bg) := hm
    split at hm
    · rcases List.mem_append.1 hm with h1 | h1
      · exact h.bs z h1
      · rw [List.mem_singleton.1 h1]; exact hz
    · exact h.bs z hm
theorem wait_s (g : Gr) (blk : Int) : ∀ (l : List Int) (q : QSt), (l.foldl (waitQ g blk) q).s = q.s ∧ (l.foldl (waitQ g blk) q).ah = q.ah ∧ (l.foldl (waitQ g blk) q).k = q.k
  | [], q => ⟨rfl, rfl, rfl⟩
  | x :: l, q => by
    obtain ⟨h1, h2, h3⟩ := wait_s g blk l (waitQ g blk q x)
    exact ⟨h1, h2, h3⟩
theorem TB.waits {g : Gr} (hg : grOk g = true) {blk : Int} (hb : 1 ≤ blk) {d : Nat} : ∀ (l : List Int) (c : Nat) (q : QSt), TB c d q → c + l.length ≤ 1000000 → (∀ x ∈ l, 0 ≤ x ∧ x < (g.nd.length : Int)) → TB (c + l.length) d (l.foldl (waitQ g blk) q)
  | [], c, q, h, _, _ => h
  | x :: l, c, q, h, hc, hx => by
    simp only [List.length_cons] at hc ⊢
    have := TB.waits hg hb l (c + 1) (waitQ g blk q x) (h.wait hg hb (by omega) (hx x (List.mem_cons_self ..))) (by omega) fun y hy => hx y (List.mem_cons_of_mem _ hy)
    rw [show c + (l.length + 1) = c + 1 + l.length by omega]
    exact this
theorem foldl_take17 {g : Gr} {blk : Int} {l : List Int} {q : QSt} {j : Nat} {x : Int} (h : l[j]? = some x) : (l.take (j + 1)).foldl (waitQ g blk) q = waitQ g blk ((l.take j).foldl (waitQ g blk) q) x := by
  rw [List.take_add_one, h, List.foldl_append]
  rfl
set_option maxHeartbeats 16000000 in
theorem near17 (W : World) (b mb tb mp base B : Nat) (g : Gr) (vn vr : Value) (hs : List (Value × Value)) (lim blk : Int) (V : Int → Value) (q : QSt) (d : Nat) (hg : grOk g = true) (h : Qp W b mb base vn vr lim g.nd.length V q.s.met q) (t : Tq W tb mp base b blk V q) (hr : RdG W B g vn vr hs) (hB : B ≤ base) (hbase : base ≤ W.heap.size) (ok : Okq g q) (hn : g.nd.length ≤ 1000000)
    (hblk : 1 ≤ blk ∧ blk ≤ 9223372036854775807) (tb0 : TB q.s.small.length d q) (hd : d ≤ 1000000000) :
    Calls Try.prog 24 #[.pointer (some ⟨tb, 0, none⟩)] W fun e w' => ∃ V', e = .returned (.tuple #[.int .i64 ((nearQ g lim blk q).1.getD 0), .bool (nearQ g lim blk q).1.isSome]) ∧
      Qp w' b mb base vn vr lim g.nd.length V' (nearQ g lim blk q).2.s.met (nearQ g lim blk q).2 ∧ Tq w' tb mp base b blk V' (nearQ g lim blk q).2 ∧ Only (geB base) W w' := by
  obtain ⟨j0, hj0, hy0, hy1, hy2⟩ := info_parts info_int
  have HM := Lib.hid (meetAll17 W b mb base B g vn vr hs lim V q h hr hB hbase ok hn)
  obtain ⟨HX1, HX2⟩ := look_ok (lim := lim) ok
  have HNR := Lib.hid (show (allS g lim q).small.length ≤ 1000000 by have := HX1.room; rw [met_len] at this; omega)
  have HNL := Lib.hid HX2.sm.length_le
  have HIN := Lib.hid (show ∀ x ∈ (allS g lim q).small.drop q.s.small.length, 0 ≤ x ∧ x < (g.nd.length : Int) from fun x hx => HX1.rng x (List.mem_append.2 (.inl (List.mem_of_mem_drop hx))))
  obtain ⟨S0, hS0⟩ : ∃ s, s = (allS g lim q).small := ⟨_, rfl⟩
  obtain ⟨L, hL⟩ : ∃ l, l = S0.drop q.s.small.length := ⟨_, rfl⟩
  have HL := Lib.hid hL
  obtain ⟨qa, hqa⟩ : ∃ q', q' = allQ g lim q := ⟨_, rfl⟩
  have HQA := Lib.hid hqa
  obtain ⟨qe, hqe⟩ : ∃ q', q' = L.foldl (waitQ g blk) qa := ⟨_, rfl⟩
  have HQE := Lib.hid hqe
  obtain ⟨R, hR⟩ : ∃ R, R = nearQ g lim blk q := ⟨_, rfl⟩
  have HR := Lib.hid (show R = nearT blk qe by rw [hR, hqe, hL, hS0, hqa]; rfl)
  rw [← hR]
  have HTB := Lib.hid (show TB q.s.small.length d qa by rw [hqa]; exact ⟨tb0.tp, tb0.pt, tb0.bg, tb0.wt, tb0.lt, tb0.bs⟩)
  have HSA := Lib.hid (show qa.s.small = S0 by rw [hqa, hS0]; rfl)
  rw [← hS0] at HM HNR HNL HIN
  rw [← hL] at HIN
  rw [← hqa] at HM
  have HAM := Lib.hid (show (allS g lim q).met = qa.s.met by rw [hqa]; rfl)
  rw [HAM.out] at HM
  have HQ := Lib.hid h
  have HT := Lib.hid t
  have HG := Lib.hid hr
  have HBB := Lib.hid (And.intro hB hbase)
  have HE := Lib.hid (show qe.s.met = qa.s.met by rw [hqe, (wait_s g blk L qa).1])
  have HTE := Lib.hid (show TB (q.s.small.length + L.length) d qe by
    rw [hqe]
    refine TB.waits hg hblk.1 L _ _ HTB.out ?_ HIN.out
    rw [hL, List.length_drop]
    have := HNR.out; have := HNL.out
    omega)
  have HLL := Lib.hid (show q.s.small.length + L.length ≤ 1000000 by
    rw [hL, List.length_drop]
    have := HNR.out; have := HNL.out
    omega)
  have HQT := Lib.hid (show qa.last = q.last ∧ qa.tp = q.tp ∧ qa.pt = q.pt by rw [hqa]; exact ⟨rfl, rfl, rfl⟩)
  have HGG := Lib.hid hg
  have c0 : W.cell? ⟨tb, 0, none⟩ = some (.pointer (some ⟨b, 0, none⟩)) := t.box.cell 0
  clear hR hqe hqa hL hS0 HX1 HX2 h t hr hB hbase ok hn tb0 hg
  go_enter Try.func24, Try.ntmps24
  go_wp2_with fail
  go_at_call 38
  refine HM.out.mono ?_
  rintro e w1 ⟨V1, A1, k1, rfl, hv1, Q1, S1⟩
  have HQ1 := Lib.hid Q1
  have HT1 := Lib.hid (HT.out.plan HQ.out S1 HQT.out.1 HQT.out.2.1 HQT.out.2.2)
  have HO1 := Lib.hid (show Only (geB base) W w1 from S1.only.mono fun k _ hk => HQ.out.ge hk)
  have HV1 := Lib.hid hv1
  have hLe : (((i64s S0).drop (q.s.small.length * 1)).take ((S0.length - q.s.small.length) * 1)) = i64s L := by
    rw [HL.out, Nat.mul_one, Nat.mul_one]
    unfold i64s
    rw [← List.map_drop, ← List.map_take, List.take_of_length_le (by simp)]
  obtain ⟨nl, hnl⟩ : ∃ m, m = S0.length - q.s.small.length := ⟨_, rfl⟩
  have HNLL := Lib.hid (show nl = L.length by rw [hnl, HL.out, List.length_drop])
  have HSL := Lib.hid (show ∀ (w : World) (V' : Int → Value) (qj : QSt), Qp w b mb base vn vr lim g.nd.length V' qa.s.met qj → V' (-1) = V1 (-1) → qj.s = qa.s → Sl w w.heap.size 1 (cutv A1 q.s.small.length S0.length k1 1) nl (i64s L) from fun w V' qj hq hV hs => by
    have how := hq.rows.own (-1)
    rw [hV, hv1, show rowsQ qj (-1) = S0 by rw [← HSA.out, ← hs]; rfl] at how
    have := how.sl.cut (l := q.s.small.length) (k := S0.length) HNL.out (Nat.le_refl _)
    rw [hLe, ← hnl] at this
    exact this)
  have hsl := HSL.out w1 V1 qa Q1 rfl rfl
  obtain ⟨A2, k2, hu, hk2, hm2⟩ := hsl.form
  have HU := Lib.hid hu
  rw [hu] at HSL ⊢
  unfold maxLen at hm2
  have hnl9 : nl ≤ 1000000 := by rw [HNLL.out]; have := HLL.out; omega
  clear hnl hsl hLe Q1 S1 hv1 c0 hu
  go_wp2_with fail
  go_loopw [5, 16] (fun _ i wr => ∃ (j : Nat) (V' : Int → Value) (qj : QSt), j ≤ nl ∧ i = .int .i64 j ∧ Hid (qj = (L.take j).foldl (waitQ g blk) qa) ∧ Hid (Qp wr b mb base vn vr lim g.nd.length V' qa.s.met qj) ∧ Hid (Tq wr tb mp base b blk V' qj) ∧ Hid (V' (-1) = V1 (-1)) ∧ Hid (Only (geB base) W wr)) (fun _ i _ => nl - (intOf i).toNat)
  case atStart => exact ⟨0, V1, qa, Nat.zero_le _, rfl, Lib.hid rfl, HQ1, HT1, Lib.hid rfl, HO1⟩
  case round =>
    obtain ⟨j, V', qj, hj, rfl, HJ, HQJ, HTJ, HVJ, HOJ⟩ := hrel
    by_cases hlt : j < nl
    · obtain ⟨x, hx⟩ : ∃ x, L[j]? = some x := ⟨_, List.getElem?_eq_getElem (by rw [← HNLL.out]; exact hlt)⟩
      have hxr := HIN.out x (List.mem_of_getElem? hx)
      obtain ⟨bs, os, c2, es, _, _, hbs, hcs⟩ := (HSL.out wr V' qj HQJ.out HVJ.out (by rw [HJ.out, (wait_s g blk _ qa).1])).at_ (by omega)
      obtain ⟨rfl, rfl⟩ : A2 = some ⟨bs, os, none⟩ ∧ k2 = c2 := by simpa using es
      have hxc : wr.cell? ⟨bs, os + j, none⟩ = some (.int .i64 x) := hcs j _ (i64s_at hx)
      have htb : TB (q.s.small.length + (L.take j).length) d qj := by
        rw [HJ.out]
        exact TB.waits HGG.out hblk.1 (L.take j) _ _ HTB.out (by have := HLL.out; rw [List.length_take]; omega) fun y hy => HIN.out y (List.mem_of_mem_take hy)
      have hcb : q.s.small.length + (L.take j).length ≤ 1000000 := by have := HLL.out; rw [List.length_take]; omega
      have htp := htb.tp
      have hpt := htb.pt
      have hbg := htb.bg
      have hwt := htb.wt (blkOf blk qj)
      have HCW := Lib.hid (wait17 wr b mb tb mp base B g vn vr hs lim blk V' qa.s.met qj x HQJ.out HTJ.out (HG.out.below (HOJ.out.below (Nat.le_trans HBB.out.1 HBB.out.2) fun _ hk => Nat.le_trans HBB.out.1 hk)) HBB.out.1 (Nat.le_trans HBB.out.2 HOJ.out.size) hxr hblk ⟨htp.1, by omega⟩ (by omega) (by omega) (by omega))
      have HJ2 := Lib.hid (show waitQ g blk qj x = (L.take (j + 1)).foldl (waitQ g blk) qa by rw [HJ.out]; exact (foldl_take17 hx).symm)
      clear hx hxr es hcs htb hcb htp hpt hbg hwt
      go_wp2_with fail
      go_at_call 41
      refine HCW.out.mono ?_
      rintro e w2 ⟨V2, rfl, Q2, T2, S2⟩
      have HQ2 := Lib.hid Q2
      have HT2 := Lib.hid T2
      have HV2 := Lib.hid ((S2.same (-1) (by decide) (by decide)).trans HVJ.out)
      have HO2 := Lib.hid (show Only (geB base) W w2 from HOJ.out.trans (S2.only.mono fun k _ hk => by
        rcases hk with rfl | rfl | hk
        · exact HTJ.out.nt
        · exact HTJ.out.np
        · exact (HQJ.out.rows.lt hk).1))
      clear Q2 T2 S2 hxc
      go_wp2
      go_roundw
      case rel => exact ⟨j + 1, V2, _, by omega, by go_num, HJ2, HQ2, HT2, HV2, HO2⟩
      case measure => simp [intOf]; omega
    · obtain rfl : j = nl := by omega
      have HJE := Lib.hid (show qj = qe by rw [HJ.out, HQE.out, List.take_of_length_le (by rw [← HNLL.out]; exact Nat.le_refl _)])
      rw [HJE.out] at HQJ HTJ
      have hte := HTE.out
      have hlt1 := hte.lt
      have hpt := hte.pt
      have c4 : wr.cell? ⟨tb, 4, none⟩ = some (.int .i64 qe.last) := HTJ.out.box.cell 4
      have HLT := Lib.hid hlt1
      have HLT2 := HLL.out
      have HCF := Lib.hid (firstIn17 wr b mb tb mp base g.nd.length vn vr lim blk V' qa.s.met qe qe.last HQJ.out HTJ.out hlt1 (by omega))
      obtain ⟨ql, hql⟩ : ∃ z, z = qe.last := ⟨_, rfl⟩
      have HQL := Lib.hid hql
      rw [← hql] at c4 HCF
      clear hql hte hlt1 hpt HLT2 hlt
      go_wp2_with fail
      go_at_call 42
      refine HCF.out.mono ?_
      rintro e w2 ⟨V2, rfl, Q2, T2, S2⟩
      have HO2 := Lib.hid (show Only (geB base) W w2 from HOJ.out.trans (S2.only.mono fun k _ hk => by
        rcases hk with rfl | rfl | hk
        · exact HTJ.out.nt
        · exact HTJ.out.np
        · exact (HQJ.out.rows.lt hk).1))
      cases hwz : qe.wt ql with
      | cons x l =>
        have hfi : firstInQ ql qe = (some x, { qe with wt := upd qe.wt ql l, pt := qe.pt + 1 }) := by unfold firstInQ; rw [hwz]
        have HF := Lib.hid (show R = (some x, { qe with wt := upd qe.wt ql l, pt := qe.pt + 1 }) by
          have e1 : firstInQ qe.last qe = _ := HQL.out ▸ hfi
          rw [HR.out]; unfold nearT; rw [e1] <;> rw [HQL.out])
        rw [hfi] at Q2 T2 ⊢
        simp only [Option.getD_some, Option.isSome_some]
        have HQ2 := Lib.hid Q2
        have HT2 := Lib.hid T2
        clear Q2 T2 S2 hfi hwz c4
        go_wp2
        go_ret2
        first | refine ⟨?_, V2, ?_, ?_, HO2.out⟩ | refine ⟨V2, ?_, ?_, ?_, HO2.out⟩
        · rw [HF.out]; rfl
        · rw [HF.out]; exact HE.out.symm ▸ HQ2.out
        · rw [HF.out]; exact HT2.out
      | nil =>
        have hfi : firstInQ ql qe = (none, qe) := by unfold firstInQ; rw [hwz]
        have HF := Lib.hid (show R = scanQ qe.bg qe by
          have e1 : firstInQ qe.last qe = _ := HQL.out ▸ hfi
          rw [HR.out]; unfold nearT; rw [e1] <;> rw [HQL.out])
        rw [hfi] at Q2 T2 ⊢
        simp only [Option.getD_none, Option.isSome_none]
        have HQ2 := Lib.hid Q2
        have HT2 := Lib.hid T2
        clear Q2 T2 S2 hfi hwz c4
        go_wp2_with fail
        go_loopw [8, 9] (fun _ _ wr => ∃ (V' : Int → Value) (r : List Int), Hid (Qp wr b mb base vn vr lim g.nd.length V' qa.s.met { qe with bg := r }) ∧ Hid (Tq wr tb mp base b blk V' { qe with bg := r }) ∧ Hid (R = scanQ r qe) ∧ Hid (∀ z ∈ r, I64b z) ∧ Hid (Only (geB base) W wr)) (fun _ _ wr => mLen tb 3 wr)
        case atStart => exact ⟨V2, qe.bg, HQ2, HT2, HF, Lib.hid HTE.out.bs, HO2⟩
        case round =>
          obtain ⟨V', r, HQr, HTr, HFr, HBr, HOr⟩ := hrel
          obtain ⟨A3, k3, hv3, hk3, hm3⟩ := (HQr.out.rows.own (-5)).form
          have c3 : wr.cell? ⟨tb, 3, none⟩ = some (V' (-5)) := HTr.out.box.cell 3
          rw [hv3] at c3
          have hr3 : rowsQ ({ qe with bg := r } : QSt) (-5) = r := rfl
          rw [hr3] at c3 hk3 hv3
          have hms := mLen_of c3
          have HMS := Lib.hid hms
          cases r with
          | nil =>
            have HF2 := Lib.hid (show R = (none, { qe with bg := [] }) from HFr.out)
            simp only [List.length_nil] at c3 hk3
            clear hv3 hr3 hm3 hms
            go_wp2
            go_ret2
            first | refine ⟨?_, V', ?_, ?_, HOr.out⟩ | refine ⟨V', ?_, ?_, ?_, HOr.out⟩
            · rw [HF2.out]; rfl
            · rw [HF2.out]; exact HE.out.symm ▸ HQr.out
            · rw [HF2.out]; exact HTr.out
          | cons z r =>
            have hzb := HBr.out z (List.mem_cons_self ..)
            have hpt := HTE.out.pt
            have HLT2 := HLL.out
            have HCZ := Lib.hid (firstIn17 wr b mb tb mp base g.nd.length vn vr lim blk V' qa.s.met { qe with bg := z :: r } z HQr.out HTr.out hzb (by simp only; omega))
            have how := HQr.out.rows.own (-5)
            rw [hv3, hr3] at how
            obtain ⟨g5, o5, cur5, rfl, -, -, hc5⟩ := how.at_ (by simp)
            have hz5 : wr.cell? ⟨g5, o5, none⟩ = some (.int .i64 z) := by simpa using hc5 0 _ rfl
            obtain ⟨n5, hn5⟩ : ∃ m, m = r.length + 1 := ⟨_, rfl⟩
            have HN5 := Lib.hid hn5
            simp only [List.length_cons] at c3 hk3 hv3 HMS
            rw [← hn5] at c3 hk3 hv3 HMS
            have hn5p : 0 < n5 := by omega
            unfold maxLen at hm3
            clear hn5 hms hpt HLT2 hzb hc5 how hr3 hv3
            go_wp2_with fail
            go_at_call 42
            refine HCZ.out.mono ?_
            rintro e w3 ⟨V3, rfl, Q3, T3, S3⟩
            have HO3 := Lib.hid (show Only (geB base) W w3 from HOr.out.trans (S3.only.mono fun k _ hk => by
              rcases hk with rfl | rfl | hk
              · exact HTr.out.nt
              · exact HTr.out.np
              · exact (HQr.out.rows.lt hk).1))
            cases hwz : qe.wt z with
            | cons x l =>
              have hfi : firstInQ z ({ qe with bg := z :: r } : QSt) = (some x, { qe with bg := z :: r, wt := upd qe.wt z l, pt := qe.pt + 1 }) := by unfold firstInQ; simp only [hwz]
              have HF2 := Lib.hid (show R = (some x, { qe with bg := z :: r, wt := upd qe.wt z l, pt := qe.pt + 1 }) by rw [HFr.out, scanQ, hwz])
              rw [hfi] at Q3 T3 ⊢
              simp only [Option.getD_some, Option.isSome_some]
              have HQ3 := Lib.hid Q3
              have HT3 := Lib.hid T3
              clear Q3 T3 S3 hfi hwz c3 hz5
              go_wp2
              go_ret2
              first | refine ⟨?_, V3, ?_, ?_, HO3.out⟩ | refine ⟨V3, ?_, ?_, ?_, HO3.out⟩
              · rw [HF2.out]; rfl
              · rw [HF2.out]; exact HE.out.symm ▸ HQ3.out
              · rw [HF2.out]; exact HT3.out
            | nil =>
              have hfi : firstInQ z ({ qe with bg := z :: r } : QSt) = (none, { qe with bg := z :: r }) := by unfold firstInQ; simp only [hwz]
              have HF2 := Lib.hid (show R = scanQ r qe by rw [HFr.out, scanQ, hwz])
              rw [hfi] at Q3 T3 ⊢
              simp only [Option.getD_none, Option.isSome_none]
              have how := Q3.rows.own (-5)
              obtain ⟨A6, k6, hv6, hk6, hm6⟩ := how.form
              rw [hv6, show rowsQ ({ qe with bg := z :: r } : QSt) (-5) = z :: r from rfl, show i64s (z :: r) = .int .i64 z :: i64s r from rfl, List.length_cons] at how
              obtain ⟨ht1, ht2⟩ := how.tail
              have d3 : w3.cell? ⟨tb, 3, none⟩ = some (.slice A6 n5 k6) := by rw [T3.box.cell, HN5.out]; exact congrArg some hv6
              have f3 := T3.box.free 3
              have hk6' : n5 ≤ k6 := by rw [HN5.out]; exact hk6
              have hcut := run_cut_l (P := Try.prog) Try.underlying28 hj0 A6 n5 k6 1 (by omega)
              rw [hy1] at hcut
              obtain ⟨u, hu⟩ : ∃ u, cutv A6 1 n5 k6 1 = u := ⟨_, rfl⟩
              have hcut : ∀ w, (Instr.sliceAt 28 (.slice A6 n5 k6) (some (.int .i64 1)) none none).run Try.prog w = .ok u w := by rw [← hu]; exact hcut
              rw [← HN5.out, hu] at ht1 ht2
              obtain ⟨Q4, T4, S4⟩ := Tq.begunCut Q3 T3 (l := r) ht1 (fun k e => by rw [hv6]; have := ht2 k e; rw [HN5.out] at this; exact this)
              obtain ⟨A7, k7, hu7, -, -⟩ := ht1.form
              subst hu7
              obtain ⟨W4, hW4⟩ : ∃ X, w3.setCell ⟨tb, 3, none⟩ (.slice A7 r.length k7) = X := ⟨_, rfl⟩
              rw [hW4] at Q4 T4 S4
              have HW4 := Lib.hid hW4
              have HQ4 := Lib.hid Q4
              have HT4 := Lib.hid T4
              have HO4 := Lib.hid (show Only (geB base) W W4 from HO3.out.trans (S4.only.mono fun k _ hk => by
                rcases hk with rfl | rfl | hk
                · exact T3.nt
                · exact T3.np
                · exact (Q3.rows.lt hk).1))
              have HM4 := Lib.hid (show mLen tb 3 W4 < mLen tb 3 wr by
                rw [HMS.out, HN5.out]
                have e4 := T4.box.cell 3
                have e5 : W4.cell? ⟨tb, 3, none⟩ = some (.slice A7 r.length k7) := by
                  rw [e4]
                  show some (upd V3 (-5) (.slice A7 r.length k7) (-5)) = _
                  rw [upd_same]
                rw [mLen_of e5]
                omega)
              have HB4 := Lib.hid (show ∀ y ∈ r, I64b y from fun y hy => HBr.out y (List.mem_cons_of_mem _ hy))
              unfold maxLen at hm6
              clear Q3 T3 S3 hfi hwz c3 hz5 how hk6 ht1 ht2 hu Q4 T4 S4 hW4 hv6
              go_wp2
              with_reducible rw [HW4.out]
              go_roundw
              case rel => exact ⟨_, r, HQ4, HT4, HF2, HB4, HO4⟩
              case measure => exact HM4.out
end Go.Proofs.Ytkjdnccnfnhkoaa
