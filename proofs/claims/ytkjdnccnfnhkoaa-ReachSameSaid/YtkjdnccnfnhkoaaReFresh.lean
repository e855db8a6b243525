/- Package reach: references are followed up to one that meets a small node. -/
import Derived.Test.YtkjdnccnfnhkoaaRePlan
namespace Go.Proofs.Ytkjdnccnfnhkoaa
open Go.RowKit Go.Lib
set_option maxRecDepth 100000
set_option linter.unusedSimpArgs false
set_option linter.unusedVariables false

theorem mixedP17 : Try.prog.follows .mixedOrders = true := by kernel_rfl
structure Okq (g : Gr) (q : QSt) : Prop where
  wf : Wf g q.s
  ah : ∀ x ∈ q.ah, (0 ≤ x ∧ x < (g.nd.length : Int)) ∧ Rch g x
theorem fresh_old {g : Gr} {lim x : Int} {r : List Int} {s : PSt} (h : x ∈ s.met) : freshQ g lim (x :: r) s = freshQ g lim r s := by
  have hn : newS (2, x) s = false := by
    unfold PSt.met at h
    unfold newS
    rcases List.mem_append.1 h with h | h <;> simp [h]
  have hB : meetB g lim (2, x) s = false := by unfold meetB; rw [hn]; rfl
  have hS : meetS g lim (2, x) s = s := by unfold meetS; rw [hn]; exact if_neg (by simp)
  rw [freshQ, hB, hS]; rfl
theorem new_is {x : Int} {s : PSt} (h : x ∉ s.met) : newS (2, x) s = true := by
  unfold PSt.met at h
  unfold newS
  simp at h
  simp [h]
def bigS (x : Int) (s : PSt) : PSt := { s with large := s.large ++ [x], pile := s.pile ++ [x] }
def smallS (g : Gr) (x : Int) (s : PSt) : PSt := { s with small := s.small ++ [x], begins := s.begins ++ [s.top], looked := s.looked ++ [false], top := wrap64 (s.top + ndSz (ndAt g x)) }
theorem fresh_big {g : Gr} {lim x : Int} {r : List Int} {s : PSt} (h : x ∉ s.met) (hb : lim < ndSz (ndAt g x)) : freshQ g lim (x :: r) s = freshQ g lim r (bigS x s) ∧ meetS g lim (2, x) s = bigS x s := by
  have hS : meetS g lim (2, x) s = bigS x s := by unfold meetS; rw [if_pos (new_is h), if_pos hb]; rfl
  have hB : meetB g lim (2, x) s = false := by unfold meetB; simp [hb]
  rw [freshQ, hB, hS]; exact ⟨rfl, rfl⟩
theorem fresh_small {g : Gr} {lim x : Int} {r : List Int} {s : PSt} (h : x ∉ s.met) (hb : ¬ lim < ndSz (ndAt g x)) : freshQ g lim (x :: r) s = (some x, r, smallS g x s) ∧ meetS g lim (2, x) s = smallS g x s := by
  have hS : meetS g lim (2, x) s = smallS g x s := by unfold meetS; rw [if_pos (new_is h), if_neg hb]; rfl
  have hB : meetB g lim (2, x) s = true := by unfold meetB; rw [new_is h]; simp [hb]
  rw [freshQ, hB, hS]; exact ⟨rfl, rfl⟩
theorem Okq.meet {g : Gr} {lim x : Int} {r : List Int} {q : QSt} {s : PSt} (h : Okq g { q with ah := x :: r, s := s }) : Okq g { q with ah := r, s := meetS g lim (2, x) s } :=
  ⟨(meet_wf h.wf fun _ => h.ah x (List.mem_cons_self ..)).1, fun y hy => h.ah y (List.mem_cons_of_mem _ hy)⟩
theorem Okq.pop {g : Gr} {x : Int} {r : List Int} {q : QSt} {s : PSt} (h : Okq g { q with ah := x :: r, s := s }) : Okq g { q with ah := r, s := s } := ⟨h.wf, fun y hy => h.ah y (List.mem_cons_of_mem _ hy)⟩
theorem fresh_ok {g : Gr} {lim : Int} {q : QSt} : ∀ (a : List Int) (s : PSt), Okq g { q with ah := a, s := s } → Okq g (q.put (freshQ g lim a s))
  | [], s, h => h
  | x :: r, s, h => by
    rw [freshQ]
    split
    · exact h.meet
    · exact fresh_ok r _ h.meet
/-- How long a row in a box is. -/
def mLen (b j : Nat) (w : World) : Nat := match w.cell? ⟨b, j, none⟩ with | some (.slice _ n _) => n | _ => 0
theorem mLen_of {b j : Nat} {w : World} {A : Option Addr} {n c : Nat} (h : w.cell? ⟨b, j, none⟩ = some (.slice A n c)) : mLen b j w = n := by unfold mLen; rw [h]
theorem big_rows {q : QSt} {a : List Int} {s : PSt} {x : Int} : rowsQ { q with ah := a, s := bigS x s } = upd (upd (rowsQ { q with ah := a, s := s }) (-2) (s.large ++ [x])) (-3) (s.pile ++ [x]) := by
  funext i; unfold rowsQ upd bigS
  by_cases h : i = -3
  · subst h; simp
  · by_cases h2 : i = -2
    · subst h2; simp
    · simp [h, h2]
theorem small_rows {g : Gr} {q : QSt} {a : List Int} {s : PSt} {x : Int} : rowsQ { q with ah := a, s := smallS g x s } = upd (rowsQ { q with ah := a, s := s }) (-1) (s.small ++ [x]) := by
  funext i; unfold rowsQ upd smallS; by_cases h : i = -1 <;> simp [h]
theorem ah_rows {q : QSt} {s : PSt} {a a' : List Int} : rowsQ { q with ah := a', s := s } = upd (rowsQ { q with ah := a, s := s }) (-4) a'.reverse := by
  funext i; unfold rowsQ upd; by_cases h : i = -4 <;> simp [h]
theorem big_met {x y : Int} {s : PSt} : y ∈ (bigS x s).met ↔ y ∈ s.met ∨ y = x := by unfold bigS PSt.met; simp [or_assoc]
theorem small_met {g : Gr} {x y : Int} {s : PSt} : y ∈ (smallS g x s).met ↔ y ∈ s.met ∨ y = x := by unfold smallS PSt.met; simp [or_assoc, or_comm, or_left_comm]
theorem one_of16 (w : World) (x : Int) : Sl (w.alloc (.cells #[.int .i64 x] 3)) (w.heap.size + 1) 1 (.slice (some ⟨w.heap.size, 0, none⟩) 1 1) 1 [.int .i64 x] := one_int16 w x
theorem fits17 {n : Nat} (h : n ≤ 17000000000) : n + 1 ≤ maxLen ∧ (n + 1) * 8 ≤ 140737488355328 := by unfold maxLen; omega
set_option maxHeartbeats 8000000 in
theorem fresh17 (W : World) (b mb base B : Nat) (g : Gr) (vn vr : Value) (hs : List (Value × Value)) (lim : Int) (V : Int → Value) (q : QSt) (h : Qp W b mb base vn vr lim g.nd.length V q.s.met q) (hr : RdG W B g vn vr hs) (hB : B ≤ base) (hbase : base ≤ W.heap.size) (ok : Okq g q) (hn : g.nd.length ≤ 1000000) :
    Calls Try.prog 23 #[.pointer (some ⟨b, 0, none⟩)] W fun e w' => ∃ V', e = .returned (.tuple #[.int .i64 ((freshQ g lim q.ah q.s).1.getD 0), .bool (freshQ g lim q.ah q.s).1.isSome]) ∧
      Qp w' b mb base vn vr lim g.nd.length V' (freshQ g lim q.ah q.s).2.2.met (q.put (freshQ g lim q.ah q.s)) ∧ Stp b mb V V' W w' := by
  obtain ⟨j0, hj0, hy0, hy1, hy2⟩ := info_parts info_int
  obtain ⟨An, cn, rfl, hacn, hcmn⟩ := hr.nodes.form
  obtain ⟨N, hN⟩ : ∃ N, N = g.nd.length := ⟨_, rfl⟩
  have HNN := Lib.hid hN
  rw [← hN] at h hn hacn ⊢
  obtain ⟨R, hR⟩ : ∃ R, R = freshQ g lim q.ah q.s := ⟨_, rfl⟩
  have HR := Lib.hid hR
  rw [← hR]
  have HG := Lib.hid hr
  have HQ := Lib.hid h
  have HK := Lib.hid ok
  have HBB := Lib.hid (And.intro hB hbase)
  unfold maxLen at hcmn
  clear hR h hr ok hB hbase hN
  go_enter Try.func23, Try.ntmps23
  go_wp2
  go_loopw [4] (fun i wr => ∃ (V' : Int → Value) (a : List Int) (s : PSt), Hid (Qp wr b mb base (.slice An N cn) vr lim N V' s.met { q with ah := a, s := s }) ∧ Hid (Stp b mb V V' W wr) ∧ Hid (Okq g { q with ah := a, s := s }) ∧ Hid (R = freshQ g lim a s)) (fun _ wr => mLen b 8 wr)
  case atStart => exact ⟨V, q.ah, q.s, HQ, Lib.hid (Stp.refl _ _ _ _), HK, HR⟩
  case round =>
    obtain ⟨V', a, s, HQ', HS, HO, HF⟩ := hrel
    obtain ⟨A8, k8, hv8, hk8, hm8⟩ := (HQ'.out.rows.own (-4)).form
    have c8 := HQ'.out.cell at_ah
    rw [hv8] at c8
    have hlr : (rowsQ { q with ah := a, s := s } (-4)).length = a.length := by simp [rowsQ]
    rw [hlr] at c8 hk8 hv8
    cases a with
    | nil =>
      have hf := HF.out
      rw [freshQ] at hf
      have HF2 := Lib.hid hf
      simp only [List.length_nil] at c8 hk8
      clear hf hlr hv8 hm8
      go_wp2
      go_ret2
      refine ⟨V', ?_, ?_, HS.out⟩
      · rw [HF2.out]; rfl
      · rw [HF2.out]; exact HQ'.out
    | cons x r =>
      obtain ⟨x, rfl⟩ : ∃ y : Nat, x = y := ⟨x.toNat, by have := (HO.out.ah x (List.mem_cons_self ..)).1; omega⟩
      have hxN : x < N := by have := (HO.out.ah (x : Int) (List.mem_cons_self ..)).1; have := HNN.out; omega
      have how := HQ'.out.rows.own (-4)
      rw [hv8] at how
      have hrow : rowsQ { q with ah := (x : Int) :: r, s := s } (-4) = r.reverse ++ [(x : Int)] := by simp [rowsQ]
      rw [hrow, i64s_append] at how
      simp only [List.length_append, List.length_reverse, List.length_cons, List.length_nil] at how c8 hk8 hv8
      obtain ⟨g8, o8, cur8, rfl, -, -, hc8⟩ := how.at_ (by omega)
      have hx8 : wr.cell? ⟨g8, o8 + r.length, none⟩ = some (.int .i64 x) := hc8 r.length _ (by rw [List.getElem?_append_right (by simp [i64s_len])]; simp [i64s])
      obtain ⟨hi1, hi2⟩ := how.init
      have HT := Lib.hid (takeLast17 wr b 8 _ _ g8 o8 r.length k8 x HQ'.out.box (by rw [hv8]; rfl) (by omega) hm8 hx8)
      obtain ⟨Q1, S1⟩ := HQ'.out.cut (q' := { q with ah := r, s := s }) at_ah (l := r.reverse) (by simpa using hi1) (fun k e => by rw [hv8]; exact hi2 k e) ah_rows rfl
      obtain ⟨W1, hW1⟩ : ∃ W1, wr.setCell ⟨b, 8, none⟩ (cutv (some ⟨g8, o8, none⟩) 0 r.length k8 1) = W1 := ⟨_, rfl⟩
      rw [hW1] at HT Q1 S1
      obtain ⟨V1, hV1⟩ : ∃ V1, upd V' (-4) (cutv (some ⟨g8, o8, none⟩) 0 r.length k8 1) = V1 := ⟨_, rfl⟩
      have hV14 : V1 (-4) = .slice (some ⟨g8, o8, none⟩) r.length k8 := by
        rw [← hV1, upd_same]
        unfold cutv
        rw [if_neg (by omega)]
        simp [Addr.add]
      rw [hV1] at Q1 S1
      have HQ1 := Lib.hid Q1
      have HS1 := Lib.hid (HS.out.trans S1)
      have e3 : W1.cell? ⟨b, 3, none⟩ = some (.slice (some ⟨mb, 0, none⟩) N N) := Q1.box.cell 3
      have ef : W1.cell? ⟨mb, x, none⟩ = some (.bool (decide ((x : Int) ∈ s.met))) := by rw [Q1.fl.cell, flQ_at hxN]
      have hms : mLen b 8 wr = r.length + 1 := mLen_of c8
      have HMS := Lib.hid hms
      have HM1 := Lib.hid (show W1.cell? ⟨b, 8, none⟩ = some (.slice (some ⟨g8, o8, none⟩) r.length k8) by rw [Q1.cell at_ah, hV14])
      clear hms hlr hrow hc8 hx8 hi1 hi2 how Q1 S1 hV1 hV14 hW1 hv8 hm8
      go_wp2_with fail
      go_at_call 39
      refine HT.out.mono ?_
      rintro e w1 ⟨rfl, hw1⟩
      with_reducible rw [hw1]
      clear c8 hk8 hw1 w1
      by_cases hmx : (x : Int) ∈ s.met
      · rw [decide_eq_true hmx] at ef
        have HF2 := Lib.hid (HF.out.trans (fresh_old hmx))
        clear hmx
        go_wp2
        go_roundw
        case rel => exact ⟨V1, r, s, HQ1, HS1, Lib.hid HO.out.pop, HF2⟩
        case measure => rw [HMS.out, mLen_of HM1.out]; omega
      · rw [decide_eq_false hmx] at ef
        have HMX := Lib.hid hmx
        have ff : W1.frozen? ⟨mb, x, none⟩ = false := HQ1.out.fl.free x
        obtain ⟨Q2, S2⟩ := HQ1.out.flag x
        obtain ⟨W2, hW2⟩ : ∃ W2, W1.setCell ⟨mb, x, none⟩ (.bool true) = W2 := ⟨_, rfl⟩
        have HW2 := Lib.hid hW2
        rw [hW2] at Q2 S2
        have HQ2 := Lib.hid Q2
        have HS2 := Lib.hid (HS1.out.trans S2)
        have HBl := Lib.hid ((HQ.out.below HS2.out HBB.out.2).mono HBB.out.1)
        obtain ⟨d, hd⟩ : ∃ d, g.nd[x]? = some d := ⟨_, List.getElem?_eq_getElem (by have := HNN.out; omega)⟩
        obtain ⟨bb, oo, fv, rv, hA, hbb, hh', g0, g1, g2, hnd⟩ := HG.out.at_ HBl.out hd
        obtain ⟨Af, cf, hfv, hafc, hcfm⟩ := hnd.fields.form
        obtain ⟨Arw, crw, hrv, harw, hcrw⟩ := hnd.raws.form
        simp only at hfv hrv
        subst hfv hrv
        obtain rfl : An = some ⟨bb, oo, none⟩ := hA
        have hbB : B ≤ W2.heap.size := Nat.le_trans HBB.out.1 (Nat.le_trans HBB.out.2 HS2.out.only.size)
        have HSZ := Lib.hid (fun (W' : World) (o : Only nob W2 W') => size_any16 d _ _ W' (hnd.below (o.below hbB fun _ h => h.elim)))
        have HZ := Lib.hid (show ndSz (ndAt g (x : Int)) = ndSz d by rw [show ndAt g (x : Int) = d by unfold ndAt; rw [Int.toNat_natCast, List.getD_eq_getElem?_getD, hd]; rfl])
        obtain ⟨kd, hkd⟩ : ∃ kd, kd = d.kd := ⟨_, rfl⟩
        obtain ⟨sz, hsz⟩ : ∃ z, z = ndSz d := ⟨_, rfl⟩
        rw [← hsz] at HSZ HZ
        rw [← hkd] at HSZ g0
        have d0 : W2.cell? ⟨b, 0, none⟩ = some (.slice (some ⟨bb, oo, none⟩) N cn) := Q2.box.cell 0
        have d2 : W2.cell? ⟨b, 2, none⟩ = some (.int .i64 lim) := Q2.box.cell 2
        clear hW2 Q2 S2 hmx hd hh' hnd hkd hsz hbB hafc hcfm harw hcrw hbb
        go_upto_region 5 with fail
        rw [HW2.out]
        clear e3 ef ff
        have mixed := mixedP17
        have OC := Lib.hid (show Only nob W2 W2.drew from (Only.refl nob W2).drewN 1)
        go_region_held3 (fun w' => w'.cell? ⟨b, 0, none⟩ = some (.slice (some ⟨bb, oo, none⟩) N cn) ∧ w'.cell? ⟨b, 2, none⟩ = some (.int .i64 lim) ∧ w'.cell? ⟨bb, oo + x * 3, none⟩ = some (.int .i64 kd) ∧ w'.cell? ⟨bb, oo + x * 3 + 1, none⟩ = some (.slice Af d.fs.length cf) ∧ w'.cell? ⟨bb, oo + x * 3 + 2, none⟩ = some (.slice Arw d.rs.length crw))
          (first | (with_reducible exact And.intro (OC.out.keeps d0) (And.intro (OC.out.keeps d2) (And.intro (OC.out.keeps g0) (And.intro (OC.out.keeps g1) (OC.out.keeps g2))))) | go_keep)
          (first
            | (go_at_call 40
               with_reducible refine (HSZ.out _ OC.out).mono ?_
               rintro e wt ⟨rfl, o⟩
               have OC := Lib.hid (OC.out.trans o)
               clear o))
        have HQ3 := Lib.hid (HQ2.out.kept OC.out)
        have HS3 := Lib.hid (HS2.out.more OC.out)
        have hb3 := Lib.hid (Nat.le_trans HBB.out.2 HS3.out.only.size)
        have HRM := Lib.hid (show s.small.length + s.large.length ≤ N by
          have h1 := HO.out.wf.room
          rw [HNN.out.symm, met_len] at h1
          exact h1)
        have HPL := Lib.hid (show s.pile.length ≤ s.large.length from HO.out.wf.pile_le)
        obtain ⟨W3, hW3⟩ : ∃ W3, W3 = wt := ⟨_, rfl⟩
        rw [← hW3] at HQ3 HS3 hb3 ⊢
        clear hW3 d0 d2 g0 g1 g2 OC
        by_cases hbig : lim < sz
        · have hnl : ¬ sz ≤ lim := by omega
          obtain ⟨fb1, fb2⟩ := fresh_big (g := g) (r := r) HMX.out (show lim < ndSz (ndAt g (x : Int)) by rw [HZ.out]; exact hbig)
          have HF2 := Lib.hid (HF.out.trans fb1)
          have HO2 := Lib.hid (fb2 ▸ HO.out.meet (lim := lim))
          clear fb1 fb2 hbig
          obtain ⟨A4, k4, hv4, hk4, hm4⟩ := (HQ3.out.rows.own (-2)).form
          have c4 := HQ3.out.cell at_lg
          rw [hv4] at c4
          have hl4 : (rowsQ { q with ah := r, s := s } (-2)).length = s.large.length := by simp [rowsQ, bigS]
          have hle4 : s.large.length ≤ 17000000000 := by have := HRM.out; have := HPL.out; omega
          obtain ⟨n4, hn4⟩ : ∃ m, m = (rowsQ { q with ah := r, s := s } (-2)).length := ⟨_, rfl⟩
          have how := HQ3.out.rows.own (-2)
          rw [hv4, ← hn4] at how
          have HOW4 := Lib.hid how
          rw [← hn4] at c4
          have HN4 := Lib.hid (hn4.trans hl4)
          have hn4b : n4 ≤ 17000000000 := by rw [HN4.out]; exact hle4
          rw [← hn4] at hv4
          have HV4 := Lib.hid hv4
          clear hn4 hl4 hv4 how hle4 hk4 hm4
          go_wp2_with (with_reducible refine wpList_append_or (o := ⟨some 60, _, _, _, _, _⟩) _ rfl (.tmp 57) (.tmp 59) _ rfl base 3 j0 _ 8 Try.underlying28 hj0 hy0 hy1 hy2 rfl (.slice A4 n4 k4) n4 (i64s (rowsQ { q with ah := r, s := s } (-2))) rfl ?c14 (W3.heap.size + 1) (.slice (some ⟨W3.heap.size, 0, none⟩) 1 1) (.int .i64 (x : Int)) rfl ?c64 rfl ?c24 ?c34 ?c44 ?c54)
          case c14 => exact HOW4.out.only ((Only.refl nob _).alloc _) (fun _ _ h => h)
          case c64 => exact one_of16 _ _
          case c24 => exact (fits17 hn4b).1
          case c34 => exact (fits17 hn4b).2
          case c44 => have := hb3.out; simp; omega
          case c54 =>
          intro v4 w4 H4 o4 ho4
          obtain ⟨B4, m4, rfl, -, -⟩ := H4.out.form
          have oa4 : Only nob W3 (W3.alloc (.cells #[.int .i64 (x : Int)] 3)) := (Only.refl nob W3).alloc _
          rw [← HV4.out] at o4 ho4
          have M4 := HQ3.out.mid oa4 o4
          have c4 : w4.cell? ⟨b, 5, none⟩ = some (.slice A4 n4 k4) := by rw [M4.cell]; exact congrArg some HV4.out
          have f4 := M4.free 5
          have hlen4 : (rowsQ { q with ah := r, s := s } (-2) ++ [(x : Int)]).length = n4 + 1 := by rw [List.length_append, HN4.out]; simp [rowsQ, bigS]
          obtain ⟨QQ, SS⟩ := HQ3.out.turn (q' := { q with ah := r, s := { s with large := s.large ++ [(x : Int)] } }) at_lg (l := rowsQ { q with ah := r, s := s } (-2) ++ [(x : Int)]) oa4 o4 (by rw [hlen4, i64s_append]; exact H4.out) (by simpa using ho4) (by funext i; unfold rowsQ upd; by_cases h : i = -2 <;> simp [h]) rfl
          obtain ⟨X4, hX4⟩ : ∃ X, w4.setCell ⟨b, 5, none⟩ (.slice B4 (n4 + 1) m4) = X := ⟨_, rfl⟩
          rw [hX4] at QQ SS
          have HX4 := Lib.hid hX4
          have HQ4 := Lib.hid QQ
          have HS4 := Lib.hid (HS3.out.trans SS)
          have hb4 := Lib.hid (Nat.le_trans HBB.out.2 HS4.out.only.size)
          clear hX4 QQ SS hlen4 M4 H4 o4 ho4 oa4
          go_upto_region 9 with fail
          rw [HX4.out]
          clear c4 f4
          obtain ⟨A5, k5, hv5, hk5, hm5⟩ := (HQ4.out.rows.own (-3)).form
          have c5 := HQ4.out.cell at_pl
          rw [hv5] at c5
          have hl5 : (rowsQ { q with ah := r, s := { s with large := s.large ++ [(x : Int)] } } (-3)).length = s.pile.length := by simp [rowsQ, bigS]
          have hle5 : s.pile.length ≤ 17000000000 := by have := HRM.out; have := HPL.out; omega
          obtain ⟨n5, hn5⟩ : ∃ m, m = (rowsQ { q with ah := r, s := { s with large := s.large ++ [(x : Int)] } } (-3)).length := ⟨_, rfl⟩
          have how := HQ4.out.rows.own (-3)
          rw [hv5, ← hn5] at how
          have HOW5 := Lib.hid how
          rw [← hn5] at c5
          have HN5 := Lib.hid (hn5.trans hl5)
          have hn5b : n5 ≤ 17000000000 := by rw [HN5.out]; exact hle5
          rw [← hn5] at hv5
          have HV5 := Lib.hid hv5
          clear hn5 hl5 hv5 how hle5 hk5 hm5
          go_wp2_with (with_reducible refine wpList_append_or (o := ⟨some 70, _, _, _, _, _⟩) _ rfl (.tmp 67) (.tmp 69) _ rfl base 3 j0 _ 8 Try.underlying28 hj0 hy0 hy1 hy2 rfl (.slice A5 n5 k5) n5 (i64s (rowsQ { q with ah := r, s := { s with large := s.large ++ [(x : Int)] } } (-3))) rfl ?c15 (X4.heap.size + 1) (.slice (some ⟨X4.heap.size, 0, none⟩) 1 1) (.int .i64 (x : Int)) rfl ?c65 rfl ?c25 ?c35 ?c45 ?c55)
          case c15 => exact HOW5.out.only ((Only.refl nob _).alloc _) (fun _ _ h => h)
          case c65 => exact one_of16 _ _
          case c25 => exact (fits17 hn5b).1
          case c35 => exact (fits17 hn5b).2
          case c45 => have := hb4.out; simp; omega
          case c55 =>
          intro v5 w5 H5 o5 ho5
          obtain ⟨B5, m5, rfl, -, -⟩ := H5.out.form
          have oa5 : Only nob X4 (X4.alloc (.cells #[.int .i64 (x : Int)] 3)) := (Only.refl nob X4).alloc _
          rw [← HV5.out] at o5 ho5
          have M5 := HQ4.out.mid oa5 o5
          have c5 : w5.cell? ⟨b, 7, none⟩ = some (.slice A5 n5 k5) := by rw [M5.cell]; exact congrArg some HV5.out
          have f5 := M5.free 7
          have hlen5 : (rowsQ { q with ah := r, s := { s with large := s.large ++ [(x : Int)] } } (-3) ++ [(x : Int)]).length = n5 + 1 := by rw [List.length_append, HN5.out]; simp [rowsQ, bigS]
          obtain ⟨QQ, SS⟩ := HQ4.out.turn (q' := { q with ah := r, s := bigS (x : Int) s }) at_pl (l := rowsQ { q with ah := r, s := { s with large := s.large ++ [(x : Int)] } } (-3) ++ [(x : Int)]) oa5 o5 (by rw [hlen5, i64s_append]; exact H5.out) (by simpa using ho5) (by funext i; unfold rowsQ upd bigS; by_cases h : i = -3 <;> simp [h]) rfl
          obtain ⟨X5, hX5⟩ : ∃ X, w5.setCell ⟨b, 7, none⟩ (.slice B5 (n5 + 1) m5) = X := ⟨_, rfl⟩
          rw [hX5] at QQ SS
          have HX5 := Lib.hid hX5
          have HQ5 := Lib.hid QQ
          have HS5 := Lib.hid (HS4.out.trans SS)
          have hb5 := Lib.hid (Nat.le_trans HBB.out.2 HS5.out.only.size)
          clear hX5 QQ SS hlen5 M5 H5 o5 ho5 oa5
          have HM5 := Lib.hid (show mLen b 8 X5 = r.length from by
            obtain ⟨Az, kz, hz, -, -⟩ := (HQ5.out.rows.own (-4)).form
            have e8 := HQ5.out.cell at_ah
            rw [hz] at e8
            rw [mLen_of e8]
            simp [rowsQ])
          go_wp2
          with_reducible rw [HX5.out]
          go_roundw
          case rel => exact ⟨_, r, _, Lib.hid (HQ5.out.tells fun y => by rw [big_met]; simp [or_comm]), HS5, HO2, HF2⟩
          case measure => rw [HMS.out, HM5.out]; omega
        · have hnl : sz ≤ lim := by omega
          obtain ⟨fb1, fb2⟩ := fresh_small (g := g) (r := r) HMX.out (show ¬ lim < ndSz (ndAt g (x : Int)) by rw [HZ.out]; exact hbig)
          have HF2 := Lib.hid (HF.out.trans fb1)
          clear fb1 fb2 hbig
          obtain ⟨A6, k6, hv6, hk6, hm6⟩ := (HQ3.out.rows.own (-1)).form
          have c6 := HQ3.out.cell at_sm
          rw [hv6] at c6
          have hl6 : (rowsQ { q with ah := r, s := s } (-1)).length = s.small.length := by simp [rowsQ, bigS]
          have hle6 : s.small.length ≤ 17000000000 := by have := HRM.out; have := HPL.out; omega
          obtain ⟨n6, hn6⟩ : ∃ m, m = (rowsQ { q with ah := r, s := s } (-1)).length := ⟨_, rfl⟩
          have how := HQ3.out.rows.own (-1)
          rw [hv6, ← hn6] at how
          have HOW6 := Lib.hid how
          rw [← hn6] at c6
          have HN6 := Lib.hid (hn6.trans hl6)
          have hn6b : n6 ≤ 17000000000 := by rw [HN6.out]; exact hle6
          rw [← hn6] at hv6
          have HV6 := Lib.hid hv6
          clear hn6 hl6 hv6 how hle6 hk6 hm6
          go_wp2_with (with_reducible refine wpList_append_or (o := ⟨some 49, _, _, _, _, _⟩) _ rfl (.tmp 46) (.tmp 48) _ rfl base 3 j0 _ 8 Try.underlying28 hj0 hy0 hy1 hy2 rfl (.slice A6 n6 k6) n6 (i64s (rowsQ { q with ah := r, s := s } (-1))) rfl ?c16 (W3.heap.size + 1) (.slice (some ⟨W3.heap.size, 0, none⟩) 1 1) (.int .i64 (x : Int)) rfl ?c66 rfl ?c26 ?c36 ?c46 ?c56)
          case c16 => exact HOW6.out.only ((Only.refl nob _).alloc _) (fun _ _ h => h)
          case c66 => exact one_of16 _ _
          case c26 => exact (fits17 hn6b).1
          case c36 => exact (fits17 hn6b).2
          case c46 => have := hb3.out; simp; omega
          case c56 =>
          intro v6 w6 H6 o6 ho6
          obtain ⟨B6, m6, rfl, -, -⟩ := H6.out.form
          have oa6 : Only nob W3 (W3.alloc (.cells #[.int .i64 (x : Int)] 3)) := (Only.refl nob W3).alloc _
          rw [← HV6.out] at o6 ho6
          have M6 := HQ3.out.mid oa6 o6
          have c6 : w6.cell? ⟨b, 4, none⟩ = some (.slice A6 n6 k6) := by rw [M6.cell]; exact congrArg some HV6.out
          have f6 := M6.free 4
          have hlen6 : (rowsQ { q with ah := r, s := s } (-1) ++ [(x : Int)]).length = n6 + 1 := by rw [List.length_append, HN6.out]; simp [rowsQ, bigS]
          obtain ⟨QQ, SS⟩ := HQ3.out.turn (q' := { q with ah := r, s := smallS g (x : Int) s }) at_sm (l := rowsQ { q with ah := r, s := s } (-1) ++ [(x : Int)]) oa6 o6 (by rw [hlen6, i64s_append]; exact H6.out) (by simpa using ho6) (by exact small_rows) rfl
          obtain ⟨X6, hX6⟩ : ∃ X, w6.setCell ⟨b, 4, none⟩ (.slice B6 (n6 + 1) m6) = X := ⟨_, rfl⟩
          rw [hX6] at QQ SS
          have HX6 := Lib.hid hX6
          have HQ6 := Lib.hid QQ
          have HS6 := Lib.hid (HS3.out.trans SS)
          have hb6 := Lib.hid (Nat.le_trans HBB.out.2 HS6.out.only.size)
          clear hX6 QQ SS hlen6 M6 H6 o6 ho6 oa6
          go_upto_region 7 with fail
          rw [HX6.out]
          clear c6 f6
          go_wp2
          go_ret2
          refine ⟨_, ?_, ?_, HS6.out⟩
          · rw [HF2.out]; rfl
          · rw [HF2.out]; exact HQ6.out.tells fun y => by rw [small_met]; simp [or_comm]
end Go.Proofs.Ytkjdnccnfnhkoaa
