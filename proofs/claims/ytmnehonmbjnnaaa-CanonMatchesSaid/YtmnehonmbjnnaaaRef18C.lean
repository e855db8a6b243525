/- The document's own answer for layer 18: two nodes paired. (Written ahead of stage 18's code.) -/
import Derived.Test.YtmnehonmbjnnaaaRef18B
import Derived.BigRegion
namespace Go.Proofs.Ytmnehonmbjnnaaa
open Go.RowKit Go.Lib
set_option maxRecDepth 100000
set_option linter.unusedSimpArgs false
set_option linter.unusedVariables false

section
variable {W w' : World} {p tb fb base na nb : Nat} {an ar bn br : Value} {s : MSt}
theorem MPm.put (h : MPm W p tb fb base an ar bn br na nb s) {x y : Nat} (hx : x < na) (hy : y < nb) : MPm ((W.setCell ⟨tb, x, none⟩ (.int .i64 (y : Int))).setCell ⟨fb, y, none⟩ (.int .i64 (x : Int))) p tb fb base an ar bn br na nb (s.put x y) := by
  obtain ⟨c1, b1⟩ := own_blk16 h.pa (k := tb) rfl
  obtain ⟨c2, b2⟩ := own_blk16 h.pb (k := fb) rfl
  have n1 : p ≠ tb := h.box.ne b1 (by decide)
  have n2 : p ≠ fb := h.box.ne b2 (by decide)
  have q1 := own_set16 h.pa x (by omega) (.int .i64 (y : Int))
  rw [i64s_set16] at q1
  have q2 := own_only q1 (only_set _ fb y (.int .i64 (x : Int))) (fun k hk e => h.ne (by
    have e1 : tb = k := Option.some.inj hk
    have e2 : k = fb := e
    omega))
  have q3 := own_only h.pb (only_set W tb x (.int .i64 (y : Int))) (fun k hk e => h.ne (by
    have e1 : fb = k := Option.some.inj hk
    have e2 : k = tb := e
    omega))
  have q4 := own_set16 q3 y (by omega) (.int .i64 (x : Int))
  rw [i64s_set16] at q4
  exact ⟨((h.box.other (p := ⟨tb, x, none⟩) (fun e => n1 e.symm) _).other (p := ⟨fb, y, none⟩) (fun e => n2 e.symm) _), q2, q4, h.ne, h.hp, h.ht, h.hf⟩
end
theorem ndAt_is18 {g : Gr} {n : Nat} {d : Nd} (h : g.nd[n]? = some d) : ndAt g (n : Int) = d := by
  unfold ndAt
  rw [Int.toNat_natCast, List.getD_eq_getElem?_getD, h]; rfl
set_option maxHeartbeats 16000000 in
theorem pair18 {p tb fb base B : Nat} {a b : Gr} {an ar bn br : Value} {hs js : List (Value × Value)} (hB : B ≤ base) (ha : grOk a = true) (hb : grOk b = true) (n : Nat) (HVn : ValsP p tb fb base B a b an ar bn br hs js n) : PairP p tb fb base B a b an ar bn br hs js (n + 1) := by
  intro W s i k hM hra hrb hW hI hc hi hk hbad
  obtain ⟨x, rfl⟩ : ∃ x : Nat, i = x := ⟨i.toNat, by omega⟩
  obtain ⟨y, rfl⟩ : ∃ y : Nat, k = y := ⟨k.toNat, by omega⟩
  have hx : x < a.nd.length := by omega
  have hy : y < b.nd.length := by omega
  obtain ⟨A, ca, rfl, hac, hcm⟩ := hra.nodes.form
  obtain ⟨A', cb, rfl, hbc, hcm'⟩ := hrb.nodes.form
  unfold maxLen at hcm hcm'
  have HM := Lib.hid hM
  have HPM := Lib.hid (show pairM a b (n + 1) x y s = _ from pairM.eq_2 a b x y s n)
  obtain ⟨t, ht⟩ : ∃ t, s.pa[x]? = some t := ⟨_, List.getElem?_eq_getElem (by rw [hI.tl]; exact hx)⟩
  obtain ⟨u, hu⟩ : ∃ u, s.pb[y]? = some u := ⟨_, List.getElem?_eq_getElem (by rw [hI.fl]; exact hy)⟩
  have et : s.pa.getD x (-1) = t := by rw [List.getD_eq_getElem?_getD, ht]; rfl
  have eu : s.pb.getD y (-1) = u := by rw [List.getD_eq_getElem?_getD, hu]; rfl
  have c4 : W.cell? ⟨p, 4, none⟩ = some (.slice (some ⟨tb, 0, none⟩) a.nd.length a.nd.length) := hM.box.cell 4
  have c5 : W.cell? ⟨p, 5, none⟩ = some (.slice (some ⟨fb, 0, none⟩) b.nd.length b.nd.length) := hM.box.cell 5
  have f6 : W.frozen? ⟨p, 6, none⟩ = false := hM.box.free 6
  have c6 : W.cell? ⟨p, 6, none⟩ = some (.bool s.bad) := hM.box.cell 6
  have gt : W.cell? ⟨tb, x, none⟩ = some (.int .i64 t) := (hM.pa.cellAt x (by omega)).trans (i64s_at ht)
  have gu : W.cell? ⟨fb, y, none⟩ = some (.int .i64 u) := (hM.pb.cellAt y (by omega)).trans (i64s_at hu)
  have HN := Lib.hid hM.no
  have ON := Lib.hid (show Only (nb17 base) W (W.setCell ⟨p, 6, none⟩ (.bool true)) from Only.setCell (F := nb17 base) (p := ⟨p, 6, none⟩) (Only.refl _ W) (fun _ => (show base ≤ p from hM.hp)) _)
  have hways := hI.ways hx hy
  rw [et, eu] at hways
  rw [show ((x : Int)).toNat = x from rfl, show ((y : Int)).toNat = y from rfl, et, eu] at HPM
  rw [HPM.out]
  have TM := Lib.hid (fun (h : s.pa[x]? = some (-1)) => Option.some.inj (ht.symm.trans h))
  have UM := Lib.hid (fun (h : s.pb[y]? = some (-1)) => Option.some.inj (hu.symm.trans h))
  clear HPM et eu ht hu hM
  rcases hways with ⟨e1, e2, -⟩ | ⟨e1, e2, -⟩ | ⟨e1, e2, e3, e4⟩
  · subst e1 e2
    rw [if_pos ⟨rfl, rfl⟩]
    go_enter Try.func40, Try.ntmps40
    go_wp2
    refine bodyPost_ret (results_none rfl _ _ _) rfl ?_
    exact ⟨rfl, HM.out, Only.refl _ _⟩
  · rw [if_neg e1, if_pos e2]
    by_cases h1 : t = (y : Int)
    · subst h1
      have hbq : (u == (x : Int)) = false := by simpa using fun e => e1 ⟨rfl, e⟩
      clear e1 e2
      go_enter Try.func40, Try.ntmps40
      go_wp2
      refine bodyPost_ret (results_none rfl _ _ _) rfl ?_
      exact ⟨rfl, HN.out, ON.out⟩
    · have hbq : (t == (y : Int)) = false := by simpa using h1
      clear e1
      by_cases h2 : 0 ≤ t
      · go_enter Try.func40, Try.ntmps40
        go_wp2
        refine bodyPost_ret (results_none rfl _ _ _) rfl ?_
        exact ⟨rfl, HN.out, ON.out⟩
      · have h3 : 0 ≤ u := by omega
        go_enter Try.func40, Try.ntmps40
        go_wp2
        refine bodyPost_ret (results_none rfl _ _ _) rfl ?_
        exact ⟨rfl, HN.out, ON.out⟩
  · rw [if_neg e1, if_neg e2]
    obtain rfl : t = -1 := TM.out e3
    obtain rfl : u = -1 := UM.out e4
    have hbq : ((-1 : Int) == (y : Int)) = false := by simp
    have HPI := Lib.hid (hI.put e3 e4).1
    have HCN := Lib.hid (show (s.put x y).pa.count (-1) < n by have := count_set (x := x) (y := (y : Int)) e3 (by omega); have e : (s.put x y).pa = s.pa.set x (y : Int) := rfl; rw [e]; omega)
    have HPUT := Lib.hid (HM.out.put hx hy)
    have OPUT := Lib.hid (show Only (nb17 base) W _ from Only.setCell (F := nb17 base) (p := ⟨fb, y, none⟩) (Only.setCell (F := nb17 base) (p := ⟨tb, x, none⟩) (Only.refl _ W) (fun _ => (show base ≤ tb from HM.out.ht)) (.int .i64 (y : Int))) (fun _ => (show base ≤ fb from HM.out.hf)) (.int .i64 (x : Int)))
    obtain ⟨c1, b1⟩ := own_blk16 HM.out.pa (k := tb) rfl
    obtain ⟨c2, b2⟩ := own_blk16 HM.out.pb (k := fb) rfl
    have ft := b1.free x
    obtain ⟨W4, hW4⟩ : ∃ W4, W.setCell ⟨tb, x, none⟩ (.int .i64 (y : Int)) = W4 := ⟨_, rfl⟩
    have O4 : Only (isb tb) W W4 := hW4 ▸ only_set W tb x _
    have n1 : p ≠ tb := HM.out.box.ne b1 (by decide)
    have d5 : W4.cell? ⟨p, 5, none⟩ = some (.slice (some ⟨fb, 0, none⟩) b.nd.length b.nd.length) := (O4.cell (p := ⟨p, 5, none⟩) HM.out.box.lt (fun e => n1 e)).trans c5
    have b4 : Blk W4 fb 3 c2 := b2.keep O4 (fun e => HM.out.ne (by have e' : fb = tb := e; omega))
    have gu4 : W4.cell? ⟨fb, y, none⟩ = some (.int .i64 (-1)) := (O4.cell (p := ⟨fb, y, none⟩) b2.lt (fun e => HM.out.ne (by have e' : fb = tb := e; omega))).trans gu
    have fu4 := b4.free y
    have HW4 := Lib.hid hW4
    rw [hW4] at HPUT OPUT
    obtain ⟨W5, hW5⟩ : ∃ W5, W4.setCell ⟨fb, y, none⟩ (.int .i64 (x : Int)) = W5 := ⟨_, rfl⟩
    have HW5 := Lib.hid hW5
    rw [hW5] at HPUT OPUT
    clear hW4 hW5 O4 b1 b2 b4 n1 e1 e2 e3 e4 f6 c6
    obtain ⟨d, hd⟩ : ∃ z, a.nd[x]? = some z := ⟨_, List.getElem?_eq_getElem hx⟩
    obtain ⟨e, he⟩ : ∃ z, b.nd[y]? = some z := ⟨_, List.getElem?_eq_getElem hy⟩
    rw [ndAt_is18 hd, ndAt_is18 he]
    obtain ⟨F, hF⟩ : ∃ F, F = (if d.kd ≠ e.kd ∨ d.rs ≠ e.rs then (s.put x y).no else valsM (pairM a b n) d.fs e.fs (s.put x y)) := ⟨_, rfl⟩
    rw [← hF]
    have HF := Lib.hid hF
    clear hF
    have HLD := Lib.hid (And.intro (ndAt_is18 hd ▸ leads_nd ha hi) (ndAt_is18 he ▸ leads_nd hb hk))
    have HRA := Lib.hid (hra.below (OPUT.out.below (Nat.le_trans hB hW) fun _ h => Nat.le_trans hB h))
    have HRB := Lib.hid (hrb.below (OPUT.out.below (Nat.le_trans hB hW) fun _ h => Nat.le_trans hB h))
    have q0 : W5.cell? ⟨p, 0, none⟩ = some (.slice A a.nd.length ca) := HPUT.out.box.cell 0
    have q2 : W5.cell? ⟨p, 2, none⟩ = some (.slice A' b.nd.length cb) := HPUT.out.box.cell 2
    obtain ⟨ba, oa, fva, rva, rfl, hba, hha, g0, g1, g2, NA⟩ := HRA.out.at_ (Below.refl _ _) hd
    obtain ⟨bb, ob, fvb, rvb, rfl, hbb, hhb, h0, h1, h2, NB⟩ := HRB.out.at_ (Below.refl _ _) he
    obtain ⟨Fa, fca, e1, -, m1⟩ := NA.fields.form
    obtain ⟨Fb, fcb, e2, -, m2⟩ := NB.fields.form
    obtain ⟨Ra, rca, e3, -, m3⟩ := NA.raws.form
    obtain ⟨Rb, rcb, e4, -, m4⟩ := NB.raws.form
    simp only at e1 e2 e3 e4
    subst e1 e2 e3 e4
    have HNA := Lib.hid NA
    have HNB := Lib.hid NB
    clear NA NB hha hhb hra hrb m1 m2 m3 m4 hba hbb
    go_enter Try.func40, Try.ntmps40
    go_upto_region 4 with fail
    rw [HW4.out]
    clear c4 c5 gt gu ft hbq
    go_upto_region 5 with fail
    rw [HW5.out]
    clear d5 gu4 fu4
    have HS0 := Lib.hid (show ∀ W' : World, Only nob W5 W' → (fun w' : World => w'.cell? ⟨p, 0, none⟩ = some (.slice (some ⟨ba, oa, none⟩) a.nd.length ca) ∧ w'.cell? ⟨p, 2, none⟩ = some (.slice (some ⟨bb, ob, none⟩) b.nd.length cb) ∧ w'.cell? ⟨ba, oa + x * 3, none⟩ = some (.int .i64 d.kd) ∧ w'.cell? ⟨ba, oa + x * 3 + 1, none⟩ = some (.slice Fa d.fs.length fca) ∧ w'.cell? ⟨ba, oa + x * 3 + 2, none⟩ = some (.slice Ra d.rs.length rca) ∧ w'.cell? ⟨bb, ob + y * 3, none⟩ = some (.int .i64 e.kd) ∧ w'.cell? ⟨bb, ob + y * 3 + 1, none⟩ = some (.slice Fb e.fs.length fcb) ∧ w'.cell? ⟨bb, ob + y * 3 + 2, none⟩ = some (.slice Rb e.rs.length rcb)) W' from fun W' o => ⟨o.keeps q0, o.keeps q2, o.keeps g0, o.keeps g1, o.keeps g2, o.keeps h0, o.keeps h1, o.keeps h2⟩)
    go_cut [6, 7] (fun s6 s7 wx => ∃ b6 b7 : Nat, s6 = .pointer (some ⟨b6, 0, none⟩) ∧ s7 = .pointer (some ⟨b7, 0, none⟩) ∧ Hid (Blk wx b6 41 #[.int .i64 d.kd, .slice Fa d.fs.length fca, .slice Ra d.rs.length rca] ∧ Blk wx b7 41 #[.int .i64 e.kd, .slice Fb e.fs.length fcb, .slice Rb e.rs.length rcb] ∧ Only nob W5 wx))
    case first =>
      have mixed := mixed16
      go_region_held3 (fun w' : World => w'.cell? ⟨p, 0, none⟩ = some (.slice (some ⟨ba, oa, none⟩) a.nd.length ca) ∧ w'.cell? ⟨p, 2, none⟩ = some (.slice (some ⟨bb, ob, none⟩) b.nd.length cb) ∧ w'.cell? ⟨ba, oa + x * 3, none⟩ = some (.int .i64 d.kd) ∧ w'.cell? ⟨ba, oa + x * 3 + 1, none⟩ = some (.slice Fa d.fs.length fca) ∧ w'.cell? ⟨ba, oa + x * 3 + 2, none⟩ = some (.slice Ra d.rs.length rca) ∧ w'.cell? ⟨bb, ob + y * 3, none⟩ = some (.int .i64 e.kd) ∧ w'.cell? ⟨bb, ob + y * 3 + 1, none⟩ = some (.slice Fb e.fs.length fcb) ∧ w'.cell? ⟨bb, ob + y * 3 + 2, none⟩ = some (.slice Rb e.rs.length rcb)) (first | (with_reducible exact HS0.out _ ((Only.refl nob W5).drewN 1)) | ((with_reducible refine HS0.out _ ?_); (repeat' (first | exact Only.refl _ _ | refine Only.alloc ?_ _ | refine Only.drewN ?_ 1 | refine Only.setCell ?_ (fun h => absurd h (by simp)) _)); done) | go_keep) (fail)
      all_goals (go_wp2; go_meet; refine ⟨_, _, rfl, rfl, Lib.hid ⟨?_, ?_, ?_⟩⟩)
      all_goals first
        | exact (((Only.refl nob W5).alloc _).alloc _).drewN 1
        | exact (Blk.new W5 _ _).alloc _
        | exact Blk.newAt _ _ _ _ (by simp)
    case rest =>
    obtain ⟨b6, b7, rfl, rfl, HC⟩ := hcut
    clear q0 q2 g0 g1 g2 h0 h1 h2 HS0
    have HX := Lib.hid (fun (W' : World) (o : Only nob W5 W') => HPUT.out.only o)
    have k0 : wc.cell? ⟨b6, 0, none⟩ = some (.int .i64 d.kd) := HC.out.1.cell 0
    have k1 : wc.cell? ⟨b6, 1, none⟩ = some (.slice Fa d.fs.length fca) := HC.out.1.cell 1
    have k2 : wc.cell? ⟨b6, 2, none⟩ = some (.slice Ra d.rs.length rca) := HC.out.1.cell 2
    have l0 : wc.cell? ⟨b7, 0, none⟩ = some (.int .i64 e.kd) := HC.out.2.1.cell 0
    have l1 : wc.cell? ⟨b7, 1, none⟩ = some (.slice Fb e.fs.length fcb) := HC.out.2.1.cell 1
    have l2 : wc.cell? ⟨b7, 2, none⟩ = some (.slice Rb e.rs.length rcb) := HC.out.2.1.cell 2
    have c6 : wc.cell? ⟨p, 6, none⟩ = some (.bool (s.put x y).bad) := (HX.out wc HC.out.2.2).box.cell 6
    have f6 : wc.frozen? ⟨p, 6, none⟩ = false := (HX.out wc HC.out.2.2).box.free 6
    by_cases hkd : d.kd = e.kd
    · have hnb : (d.kd != e.kd) = false := by simpa using hkd
      have hW5 : base ≤ W5.heap.size := Nat.le_trans hW OPUT.out.size
      have HSM := Lib.hid (rWords16 _ _ d.rs e.rs B B wc (HNA.out.raws.below (HC.out.2.2.below (Nat.le_trans hB hW5) fun _ h => h.elim)) (HNB.out.raws.below (HC.out.2.2.below (Nat.le_trans hB hW5) fun _ h => h.elim)))
      by_cases hrs : d.rs = e.rs
      · have HE := Lib.hid (HF.out.trans (if_neg (fun h => Or.elim h (fun h => h hkd) (fun h => h hrs))))
        rw [decide_eq_true hrs] at HSM
        clear hrs hkd
        go_wp2_with fail
        go_at_call 28
        refine HSM.out.mono ?_
        rintro e' w7 ⟨rfl, o7⟩
        have O7 := Lib.hid (HC.out.2.2.trans o7)
        have k1' := o7.keeps k1
        have l1' := o7.keeps l1
        clear o7 k0 k1 k2 l0 l1 l2 c6 f6 hnb
        have HV := Lib.hid (HVn w7 (s.put x y) d.fs e.fs (.slice Fa d.fs.length fca) (.slice Fb e.fs.length fcb) (HX.out w7 O7.out) (HRA.out.below (O7.out.below (Nat.le_trans hB hW5) fun _ h => h.elim)) (HRB.out.below (O7.out.below (Nat.le_trans hB hW5) fun _ h => h.elim)) (HNA.out.fields.below (O7.out.below (Nat.le_trans hB hW5) fun _ h => h.elim)) (HNB.out.fields.below (O7.out.below (Nat.le_trans hB hW5) fun _ h => h.elim)) (Nat.le_trans hW5 O7.out.size) HPI.out HCN.out HLD.out.1 HLD.out.2 hbad)
        go_wp2_with fail
        go_at_call 23
        refine HV.out.mono ?_
        rintro e' w8 ⟨rfl, hmp, o8⟩
        have HMP8 := Lib.hid hmp
        have O8 := Lib.hid ((OPUT.out.trans (only_wide18 O7.out)).trans o8)
        clear hmp o8 k1' l1'
        go_wp2
        go_end0
        exact ⟨rfl, by rw [HE.out]; exact HMP8.out, O8.out⟩
      · have HE := Lib.hid (HF.out.trans (if_pos (.inr hrs)))
        rw [decide_eq_false hrs] at HSM
        clear hrs hkd
        go_wp2_with fail
        go_at_call 28
        refine HSM.out.mono ?_
        rintro e' w7 ⟨rfl, o7⟩
        have O7 := Lib.hid (HC.out.2.2.trans o7)
        have c6 : w7.cell? ⟨p, 6, none⟩ = some (.bool (s.put x y).bad) := (HX.out w7 O7.out).box.cell 6
        have f6 : w7.frozen? ⟨p, 6, none⟩ = false := (HX.out w7 O7.out).box.free 6
        have HN7 := Lib.hid (HX.out w7 O7.out).no
        have ON7 := Lib.hid (show Only (nb17 base) W (w7.setCell ⟨p, 6, none⟩ (.bool true)) from Only.setCell (F := nb17 base) (p := ⟨p, 6, none⟩) (OPUT.out.trans (only_wide18 O7.out)) (fun _ => (show base ≤ p from HM.out.hp)) _)
        clear o7 k0 k1 k2 l0 l1 l2 hnb
        go_wp2
        refine bodyPost_ret (results_none rfl _ _ _) rfl ?_
        exact ⟨rfl, by rw [HE.out]; exact HN7.out, ON7.out⟩
    · have hnb : (d.kd != e.kd) = true := by simpa using hkd
      have HE := Lib.hid (HF.out.trans (if_pos (.inl hkd)))
      have HN7 := Lib.hid (HX.out wc HC.out.2.2).no
      have ON7 := Lib.hid (show Only (nb17 base) W (wc.setCell ⟨p, 6, none⟩ (.bool true)) from Only.setCell (F := nb17 base) (p := ⟨p, 6, none⟩) (OPUT.out.trans (only_wide18 HC.out.2.2)) (fun _ => (show base ≤ p from HM.out.hp)) _)
      clear hkd
      go_wp2
      refine bodyPost_ret (results_none rfl _ _ _) rfl ?_
      exact ⟨rfl, by rw [HE.out]; exact HN7.out, ON7.out⟩
end Go.Proofs.Ytmnehonmbjnnaaa
