/- The walk of ExtentBack. -/
import Derived.Test.YtfcinjnpaphneaaExtLaw2
namespace Go.Proofs.Ytfcinjnpaphneaa
set_option maxRecDepth 100000
open Go.RowKit Go.Lib Go.Sort

theorem cov_take10 {l : List Sp} {k : Nat} {x : Sp} {p : Int} (h : l[k]? = some x) : cov (l.take (k + 1)) p ↔ cov (l.take k) p ∨ x.has p := by rw [take_snoc_get h, cov_append, cov_one]
theorem covB_stay {l : List Sp} {k : Nat} {x : Sp} {p : Int} (h : l[k]? = some x) (hc : decide (cov (l.take k) p) = true) : decide (cov (l.take (k + 1)) p) = true :=
  decide_eq_true ((cov_take10 h).2 (.inl (of_decide_eq_true hc)))
theorem covB_next {l : List Sp} {k : Nat} {x : Sp} {p : Int} (h : l[k]? = some x) (hc : decide (cov (l.take k) p) = false) : decide (cov (l.take (k + 1)) p) = decide (x.has p) := by
  rw [Bool.eq_iff_iff, decide_eq_true_iff, decide_eq_true_iff, cov_take10 h]
  exact ⟨fun e => e.elim (fun e => absurd e (of_decide_eq_false hc)) id, .inr⟩
theorem covB_all (l : List Sp) (p : Int) : decide (cov (l.take l.length) p) = decide (cov l p) := by rw [List.take_length]
theorem covB_start (l : List Sp) (p : Int) : decide (cov (l.take 0) p) = false := decide_eq_false (by rw [List.take_zero]; exact cov_nil p)

set_option maxHeartbeats 400000 in
theorem extentBack_big (x : Sp) (A : Option Addr) (len c : Nat) (n p : Int) (w : World) (hn : 100 < len) :
    Calls Try.prog 4 #[.agg #[.int .i64 x.1, .int .i64 x.2], .slice A len c, .int .i64 n, .int .i64 p] w fun e w' => e = .returned (.bool true) ∧ Below w.heap.size w w' := by
  go_enter Try.func4, Try.ntmps4
  go_wp2_with fail
  go_at_call 5
  refine (awake10_any _).mono ?_
  rintro e w1 ⟨rfl, o⟩
  have O1 := Lib.hid (((Only.refl nob w).alloc _).trans o)
  clear o
  go_wp2
  go_ret
  exact ⟨rfl, O1.out.whole⟩

set_option maxHeartbeats 1000000 in
theorem extentBack_wrong (x : Sp) (v : Value) (l : List Sp) (n p : Int) (w : World) (h : Sl w w.heap.size 2 v l.length (spc l)) (hx : Fit x) (hf : Fits l) (hl : l.length ≤ 100) (hr : ¬ RightP x l) :
    Calls Try.prog 4 #[.agg #[.int .i64 x.1, .int .i64 x.2], v, .int .i64 n, .int .i64 p] w fun e w' => e = .returned (.bool true) ∧ Below w.heap.size w w' := by
  obtain ⟨W, hW, HB⟩ := spanBox_name w x
  have HWE := Lib.hid hW
  have HA := Lib.hid h
  have HF := Lib.hid hf
  have HR := Lib.hid (decide_eq_false hr)
  obtain ⟨A, ca, rfl, -, -⟩ := h.form
  have c0 := HB.out.2.1
  have c1 := HB.out.2.2
  clear hW h hf hr
  go_enter Try.func4, Try.ntmps4
  go_upto_region 1 with fail
  rw [HWE.out]
  go_wp2_with fail
  go_at_call 6
  refine (spRight x _ l _ _ (HA.out.below HB.out.1.whole) HB.out.1.size (by omega) HF.out hx).mono ?_
  rw [HR.out]
  rintro e w1 ⟨rfl, o⟩
  have O1 := Lib.hid (HB.out.1.trans o)
  clear o c0 c1
  go_wp2_with fail
  go_at_call 5
  refine (awake10_any _).mono ?_
  rintro e w2 ⟨rfl, o⟩
  have O2 := Lib.hid (O1.out.trans o)
  clear o
  go_wp2
  go_ret
  exact ⟨rfl, O2.out.whole⟩

set_option maxHeartbeats 2000000 in
theorem extentBack_bad (x : Sp) (v : Value) (l : List Sp) (n p e0 : Int) (w : World) (h : Sl w w.heap.size 2 v l.length (spc l)) (hx : Fit x) (hf : Fits l) (hl : l.length ≤ 100) (hn1 : -9223372036854775808 ≤ n) (hn2 : n ≤ 9223372036854775807) (hr : RightP x l)
    (ht : takeT l n = (l, 0, e0)) (he : e0 = 7 ∨ e0 = 9) (hbad : n < 1 ∨ largest l < n) :
    Calls Try.prog 4 #[.agg #[.int .i64 x.1, .int .i64 x.2], v, .int .i64 n, .int .i64 p] w fun e w' => e = .returned (.bool true) ∧ Below w.heap.size w w' := by
  obtain ⟨W, hW, HB⟩ := spanBox_name w x
  have HWE := Lib.hid hW
  have HA := Lib.hid h
  have HF := Lib.hid hf
  have HR := Lib.hid (decide_eq_true hr)
  have HT := Lib.hid ht
  have HBAD := Lib.hid hbad
  have he1 : e0 ≠ 0 := by omega
  have he2 : (e0 == 0) = false := by simpa using he1
  have HNE := Lib.hid (show (e0 != 0) = true by simpa using he1)
  obtain ⟨A, ca, rfl, -, -⟩ := h.form
  have c0 := HB.out.2.1
  have c1 := HB.out.2.2
  clear hW h hf hr ht hbad he
  go_enter Try.func4, Try.ntmps4
  go_upto_region 1 with fail
  rw [HWE.out]
  go_wp2_with fail
  go_at_call 6
  refine (spRight x _ l _ _ (HA.out.below HB.out.1.whole) HB.out.1.size (by omega) HF.out hx).mono ?_
  rw [HR.out]
  rintro e w1 ⟨rfl, o⟩
  have O1 := Lib.hid (HB.out.1.trans o)
  clear o c0 c1
  go_wp2_with fail
  go_at_call 10
  refine (spTake _ l n _ _ (HA.out.below O1.out.whole) O1.out.size (by omega) HF.out hn1 hn2).mono ?_
  rw [HT.out]
  rintro e w2 ⟨va, rfl, hs, o⟩
  have O2 := Lib.hid (O1.out.trans o)
  have SA := Lib.hid hs
  clear hs o
  by_cases h1 : n < 1
  case' pos =>
    go_wp2_with fail
    go_at_call 11
    refine (refSameS_any _ _ l _ _ _ SA.out (HA.out.below O2.out.whole)).mono ?_
    rintro e w3 ⟨rfl, m, rfl⟩
    have O3 := Lib.hid (O2.out.drewN m)
  case' neg =>
    have HLT := Lib.hid (HBAD.out.resolve_left h1)
    obtain ⟨t, htt⟩ : ∃ t, t = largest l := ⟨_, rfl⟩
    have hlt : t < n := by rw [htt]; exact HLT.out
    have HTT := Lib.hid htt
    clear htt
    go_wp2_with fail
    go_at_call 8
    refine (spLargest _ l _ _ (HA.out.below O2.out.whole) O2.out.size (by omega) HF.out).mono ?_
    rw [← HTT.out]
    rintro e w3 ⟨rfl, o⟩
    have SA3 := Lib.hid (SA.out.below o.whole)
    have O3 := Lib.hid (O2.out.trans o)
    clear o
    go_wp2_with fail
    go_at_call 11
    refine (refSameS_any _ _ l _ _ _ SA3.out (HA.out.below O3.out.whole)).mono ?_
    rintro e w4 ⟨rfl, m, rfl⟩
    have O3 := Lib.hid (O3.out.drewN m)
  all_goals
    go_wp2_with fail
    go_at_call 5
    refine (awake10_any _).mono ?_
    rintro e w5 ⟨rfl, o⟩
    have O5 := Lib.hid (O3.out.trans o)
    clear o
    go_wp2
    go_ret
    exact ⟨ret_bool HNE.out, O5.out.whole⟩

theorem took_gave {all : Sp} {l a O : List Sp} {n s c : Int} (hl : RightP all l) (h : Took all l n a s) (hg : GaveT a (s, n) O c) : O = l ∧ c = 0 := by
  rcases hg with ⟨h1, -⟩ | ⟨-, h1, -⟩ | ⟨-, -, hj, hc, he⟩
  · exact absurd h.ok h1
  · rw [h.free] at h1; cases h1
  · exact ⟨took_back hl h hj hc, he⟩
theorem took_place {all : Sp} {l a : List Sp} {n s p : Int} {q r : Bool} (h : Took all l n a s) (hq : decide (cov l p) = q) (hr : decide (cov a p) = r) :
    (q = false ∧ r = false) ∨ (q = true ∧ r = true ∧ Hid (decide (Sp.has (s, n) p) = false)) ∨ (q = true ∧ r = false ∧ Hid (decide (Sp.has (s, n) p) = true)) := by
  have hc := h.cov p
  subst hq
  subst hr
  by_cases h1 : cov l p
  · by_cases h2 : Sp.has (s, n) p
    · exact .inr (.inr ⟨decide_eq_true h1, decide_eq_false fun e => (hc.1 e).2 h2, decide_eq_true h2⟩)
    · exact .inr (.inl ⟨decide_eq_true h1, decide_eq_true (hc.2 ⟨h1, h2⟩), decide_eq_false h2⟩)
  · exact .inl ⟨decide_eq_false h1, decide_eq_false fun e => h1 (hc.1 e).1⟩

set_option maxHeartbeats 4000000 in
theorem extentBack_ok (x : Sp) (v : Value) (l a : List Sp) (n p s : Int) (w : World) (h : Sl w w.heap.size 2 v l.length (spc l)) (hx : Fit x) (hf : Fits l) (hl : l.length ≤ 100) (hn1 : -9223372036854775808 ≤ n) (hn2 : n ≤ 9223372036854775807) (hp1 : -9223372036854775808 ≤ p) (hp2 : p ≤ 9223372036854775807) (hr : RightP x l)
    (ht : takeT l n = (a, s, 0)) (hT : Took x l n a s) (h1 : ¬ n < 1) (h2 : n ≤ largest l) :
    Calls Try.prog 4 #[.agg #[.int .i64 x.1, .int .i64 x.2], v, .int .i64 n, .int .i64 p] w fun e w' => e = .returned (.bool true) ∧ Below w.heap.size w w' := by
  obtain ⟨W, hW, HB⟩ := spanBox_name w x
  have HWE := Lib.hid hW
  have HA := Lib.hid h
  have HF := Lib.hid hf
  have HRR := Lib.hid hr
  have HR := Lib.hid (decide_eq_true hr)
  have HT := Lib.hid ht
  have HTK := Lib.hid hT
  have hal : a.length ≤ l.length := hT.len
  have HFA := Lib.hid (Fits.joined hT.right.2)
  have HFS := Lib.hid (Fit.of_ok hT.ok)
  obtain ⟨A, ca, rfl, -, hca⟩ := h.form
  unfold maxLen at hca
  have c0 := HB.out.2.1
  have c1 := HB.out.2.2
  obtain ⟨t, htt⟩ : ∃ t, t = largest l := ⟨_, rfl⟩
  rw [← htt] at h2
  have hlt : ¬ t < n := by omega
  have HTT := Lib.hid htt
  have H1 := Lib.hid h1
  have hkk : (n < 1) = False := by simpa using h1
  clear hW h hf hr ht htt hT
  go_enter Try.func4, Try.ntmps4
  go_upto_region 1 with fail
  rw [HWE.out]
  go_wp2_with fail
  go_at_call 6
  refine (spRight x _ l _ _ (HA.out.below HB.out.1.whole) HB.out.1.size (by omega) HF.out hx).mono ?_
  rw [HR.out]
  rintro e w1 ⟨rfl, o⟩
  have O1 := Lib.hid (HB.out.1.trans o)
  have X1 := Lib.hid (And.intro (o.keeps c0) (o.keeps c1))
  clear o c0 c1
  go_wp2_with fail
  go_at_call 10
  refine (spTake _ l n _ _ (HA.out.below O1.out.whole) O1.out.size (by omega) HF.out hn1 hn2).mono ?_
  rw [HT.out]
  rintro e w2 ⟨va, rfl, hs, o⟩
  have O2 := Lib.hid (O1.out.trans o)
  have X2 := Lib.hid (And.intro (o.keeps X1.out.1) (o.keeps X1.out.2))
  have SA := Lib.hid hs
  obtain ⟨Aa, cc, rfl, -, hcc⟩ := hs.form
  unfold maxLen at hcc
  clear hs o
  go_wp2_with fail
  go_at_call 8
  refine (spLargest _ l _ _ (HA.out.below O2.out.whole) O2.out.size (by omega) HF.out).mono ?_
  rw [← HTT.out]
  rintro e w3 ⟨rfl, o⟩
  have SA3 := Lib.hid (SA.out.below o.whole)
  have O3 := Lib.hid (O2.out.trans o)
  have X3 := Lib.hid (And.intro (o.keeps X2.out.1) (o.keeps X2.out.2))
  have hsz3 : w2.heap.size ≤ w3.heap.size := o.size
  clear o
  obtain ⟨W4, hW4, HS⟩ := spanBox_name w3 (s, n)
  have HWE4 := Lib.hid hW4
  clear hW4
  go_upto_region 7 with fail
  rw [HWE4.out]
  have O4 := Lib.hid (O3.out.trans HS.out.1)
  have SA4 := Lib.hid (SA3.out.below (HS.out.1.below hsz3 fun _ h => h.elim))
  have X4 := Lib.hid (And.intro (HS.out.1.keeps X3.out.1) (HS.out.1.keeps X3.out.2))
  have hsz4 : w2.heap.size ≤ W4.heap.size := Nat.le_trans hsz3 HS.out.1.size
  go_wp2_with fail
  go_loopw [13, 15] (fun b i wr => ∃ (k : Nat) (q : Bool), k ≤ l.length ∧ i = .int .i64 k ∧ b = .bool q ∧ Hid (decide (cov (l.take k) p) = q) ∧ Hid (Only nob W4 wr)) (fun _ i _ => l.length - (intOf i).toNat)
  case atStart => exact ⟨0, false, Nat.zero_le _, rfl, rfl, covB_start l p, Only.refl _ _⟩
  case round =>
    obtain ⟨k, q, hk, rfl, rfl, HQ, HX⟩ := hrel
    by_cases hlk : k < l.length
    · obtain ⟨y, hy⟩ : ∃ y, l[k]? = some y := ⟨_, List.getElem?_eq_getElem hlk⟩
      obtain ⟨b, o, rfl, hb, d0, d1⟩ := sl_span HA.out (O4.out.trans HX.out).whole hy
      have HY := Lib.hid hy
      clear hy
      cases q with
      | true =>
        have HE := Lib.hid (covB_stay HY.out HQ.out)
        go_wp2_with fail
        go_roundw
        case rel => exact ⟨k + 1, true, by omega, by go_num, rfl, HE.out, HX.out⟩
        case measure => simp [intOf]; omega
      | false =>
        obtain ⟨q2, hq2⟩ : ∃ q2, q2 = decide (y.has p) := ⟨_, rfl⟩
        have HE := Lib.hid ((covB_next HY.out HQ.out).trans hq2.symm)
        have HQ2 := Lib.hid hq2
        clear hq2
        go_wp2_with fail
        go_at_call 12
        refine (spHas y p _ (HF.out.get HY.out) hp1 hp2).mono ?_
        rw [← HQ2.out]
        rintro e w5 ⟨rfl, o⟩
        have O5 := Lib.hid (HX.out.trans o)
        clear o d0 d1
        go_wp2
        go_roundw
        case rel => exact ⟨k + 1, q2, by omega, by go_num, rfl, HE.out, O5.out⟩
        case measure => simp [intOf]; omega
    · obtain rfl : k = l.length := by omega
      have HQA := Lib.hid ((covB_all l p).symm.trans HQ.out)
      obtain ⟨wo, rfl⟩ : ∃ wo : World, wo = wr := ⟨_, rfl⟩
      have O5 := Lib.hid (O4.out.trans HX.out)
      have SA5 := Lib.hid (SA4.out.below (HX.out.below hsz4 fun _ h => h.elim))
      have X5 := Lib.hid (And.intro (HX.out.keeps X4.out.1) (HX.out.keeps X4.out.2))
      have Y5 := Lib.hid (And.intro (HX.out.keeps HS.out.2.1) (HX.out.keeps HS.out.2.2))
      have hsz5 : w2.heap.size ≤ wo.heap.size := Nat.le_trans hsz4 HX.out.size
      go_wp2_with fail
      go_loopw [14, 16] (fun b i wr => ∃ (k : Nat) (q : Bool), k ≤ a.length ∧ i = .int .i64 k ∧ b = .bool q ∧ Hid (decide (cov (a.take k) p) = q) ∧ Hid (Only nob wo wr)) (fun _ i _ => a.length - (intOf i).toNat)
      case atStart => exact ⟨0, false, Nat.zero_le _, rfl, rfl, covB_start a p, Only.refl _ _⟩
      case round =>
        obtain ⟨k, r, hk, rfl, rfl, HQ3, HX3⟩ := hrel
        by_cases hlk : k < a.length
        · obtain ⟨y, hy⟩ : ∃ y, a[k]? = some y := ⟨_, List.getElem?_eq_getElem hlk⟩
          obtain ⟨b, o, rfl, hb, d0, d1⟩ := sl_span SA5.out (HX3.out.below hsz5 fun _ h => h.elim) hy
          have HY := Lib.hid hy
          clear hy
          cases r with
          | true =>
            have HE := Lib.hid (covB_stay HY.out HQ3.out)
            go_wp2_with fail
            go_roundw
            case rel => exact ⟨k + 1, true, by omega, by go_num, rfl, HE.out, HX3.out⟩
            case measure => simp [intOf]; omega
          | false =>
            obtain ⟨q2, hq2⟩ : ∃ q2, q2 = decide (y.has p) := ⟨_, rfl⟩
            have HE := Lib.hid ((covB_next HY.out HQ3.out).trans hq2.symm)
            have HQ2 := Lib.hid hq2
            clear hq2
            go_wp2_with fail
            go_at_call 12
            refine (spHas y p _ (HFA.out.get HY.out) hp1 hp2).mono ?_
            rw [← HQ2.out]
            rintro e w5 ⟨rfl, o⟩
            have O7 := Lib.hid (HX3.out.trans o)
            clear o d0 d1
            go_wp2
            go_roundw
            case rel => exact ⟨k + 1, q2, by omega, by go_num, rfl, HE.out, O7.out⟩
            case measure => simp [intOf]; omega
        · obtain rfl : k = a.length := by omega
          have HQB := Lib.hid ((covB_all a p).symm.trans HQ3.out)
          obtain ⟨wq, rfl⟩ : ∃ wq : World, wq = wr := ⟨_, rfl⟩
          have O6 := Lib.hid (O5.out.trans HX3.out)
          have SA6 := Lib.hid (SA5.out.below (HX3.out.below hsz5 fun _ h => h.elim))
          have X6 := Lib.hid (And.intro (HX3.out.keeps X5.out.1) (HX3.out.keeps X5.out.2))
          have Y6 := Lib.hid (And.intro (HX3.out.keeps Y5.out.1) (HX3.out.keeps Y5.out.2))
          have hsz6 : w2.heap.size ≤ wq.heap.size := Nat.le_trans hsz5 HX3.out.size
          obtain ⟨y0, y1⟩ := Y6.out
          go_wp2_with fail
          go_at_call 13
          refine (spGive _ a (s, n) _ _ SA6.out hsz6 (by omega) HFA.out HFS.out).mono ?_
          rintro e w7 ⟨vb, Ob, c, rfl, hg, hs, o⟩
          obtain ⟨rfl, rfl⟩ := took_gave HRR.out HTK.out hg
          have O7 := Lib.hid (O6.out.trans o)
          have SB := Lib.hid hs
          have SA7 := Lib.hid (SA6.out.below (o.below hsz6 fun _ h => h.elim))
          obtain ⟨x0, x1⟩ := X6.out
          have X7 := Lib.hid (And.intro (o.keeps x0) (o.keeps x1))
          have Y7 := Lib.hid (And.intro (o.keeps y0) (o.keeps y1))
          have hsz7 : w2.heap.size ≤ w7.heap.size := Nat.le_trans hsz6 o.size
          have ways := took_place (p := p) HTK.out HQA.out HQB.out
          have HRA := Lib.hid (decide_eq_true HTK.out.right)
          clear hg hs o x0 x1 y0 y1
          obtain ⟨x0, x1⟩ := X7.out
          go_wp2_with fail
          go_at_call 6
          refine (spRight x _ a _ _ SA7.out hsz7 (by omega) HFA.out hx).mono ?_
          rw [HRA.out]
          rintro e w8 ⟨rfl, o⟩
          have O8 := Lib.hid (O7.out.trans o)
          have SB8 := Lib.hid (SB.out.below (o.below (Nat.le_refl _) fun _ h => h.elim))
          have y0 := o.keeps Y7.out.1
          have y1 := o.keeps Y7.out.2
          have hsz8 : w7.heap.size ≤ w8.heap.size := o.size
          clear o x0 x1
          rcases ways with ⟨rfl, rfl⟩ | ⟨rfl, rfl, HW⟩ | ⟨rfl, rfl, HW⟩
          case' inl =>
            go_wp2_with fail
            go_at_call 11
            refine (refSameS_any _ _ Ob _ _ _ SB8.out (HA.out.below O8.out.whole)).mono ?_
            rintro e w9 ⟨rfl, m, rfl⟩
            have O9 := Lib.hid (O8.out.drewN m)
          case' inr.inl =>
            go_wp2_with fail
            go_at_call 12
            refine (spHas (s, n) p _ HFS.out hp1 hp2).mono ?_
            rw [HW.out]
            rintro e w9 ⟨rfl, o⟩
            have O9 := Lib.hid (O8.out.trans o)
            have SB9 := Lib.hid (SB8.out.below (o.below hsz8 fun _ h => h.elim))
            clear o y0 y1
            go_wp2_with fail
            go_at_call 11
            refine (refSameS_any _ _ Ob _ _ _ SB9.out (HA.out.below O9.out.whole)).mono ?_
            rintro e w10 ⟨rfl, m, rfl⟩
            have O9 := Lib.hid (O9.out.drewN m)
          case' inr.inr =>
            go_wp2_with fail
            go_at_call 12
            refine (spHas (s, n) p _ HFS.out hp1 hp2).mono ?_
            rw [HW.out]
            rintro e w9 ⟨rfl, o⟩
            have O9 := Lib.hid (O8.out.trans o)
            have SB9 := Lib.hid (SB8.out.below (o.below hsz8 fun _ h => h.elim))
            clear o y0 y1
            go_wp2_with fail
            go_at_call 11
            refine (refSameS_any _ _ Ob _ _ _ SB9.out (HA.out.below O9.out.whole)).mono ?_
            rintro e w10 ⟨rfl, m, rfl⟩
            have O9 := Lib.hid (O9.out.drewN m)
          all_goals
            go_wp2_with fail
            go_at_call 5
            refine (awake10_any _).mono ?_
            rintro e w11 ⟨rfl, o⟩
            have O11 := Lib.hid (O9.out.trans o)
            clear o
            go_wp2
            go_ret
            exact ⟨rfl, O11.out.whole⟩
theorem extentBack_walk (x : Sp) (v : Value) (l : List Sp) (n p : Int) (hn1 : -9223372036854775808 ≤ n) (hn2 : n ≤ 9223372036854775807) (hp1 : -9223372036854775808 ≤ p) (hp2 : p ≤ 9223372036854775807) (w : World) (h : Sl w w.heap.size 2 v l.length (spc l)) (hx : Fit x) (hf : Fits l) :
    Calls Try.prog 4 #[.agg #[.int .i64 x.1, .int .i64 x.2], v, .int .i64 n, .int .i64 p] w fun e w' => e = .returned (.bool true) ∧ Below w.heap.size w w' := by
  by_cases hl : l.length ≤ 100
  · by_cases hr : RightP x l
    · rcases take_right (n := n) hr with ⟨hbad, e0, ht, he⟩ | ⟨h1, h2, a, s, ht, hT⟩
      · exact extentBack_bad x v l n p e0 w h hx hf hl hn1 hn2 hr ht he hbad
      · exact extentBack_ok x v l a n p s w h hx hf hl hn1 hn2 hp1 hp2 hr ht hT h1 h2
    · exact extentBack_wrong x v l n p w h hx hf hl hr
  · obtain ⟨A, c, rfl, -⟩ := h
    exact extentBack_big x A _ c n p w (by omega)
end Go.Proofs.Ytfcinjnpaphneaa
