/- Contracts of the document's own answers for spans: what they have to do with one another. -/
import Derived.Test.YtoeccbbjncgmlaaGreatDoorRows
import Derived.Test.YtoeccbbjncgmlaaGreatDoorMem
import Derived.Test.YtoeccbbjncgmlaaGreatDoorSpanSay
import Derived.Deep.QuietTactic
import Derived.BigQuiet
namespace Go.Proofs.YtoeccbbjncgmlaaGreatDoor

open Go.RowKit

set_option maxHeartbeats 400000 in
theorem refMay03_any (x : Sp) (w : World) :
    Calls Tryz.prog 73 #[.agg #[.int .i64 x.1, .int .i64 x.2]] w fun e w' => e = .returned (.bool (decide x.ok)) ∧ Only nob w w' := by
  by_cases h1 : 0 ≤ x.1
  · by_cases h2 : 1 ≤ x.2
    · by_cases h3 : x.1 ≤ 1099511627776
      · by_cases h4 : x.2 ≤ 1099511627776 - x.1
        case' pos => have HK := Lib.hid (decide_eq_true (p := x.ok) ⟨h1, h2, h3, h4⟩)
        case' neg => have HK := Lib.hid (decide_eq_false (p := x.ok) fun h => h4 h.2.2.2)
        all_goals
          go_enter Tryz.func73, Tryz.ntmps73
          go_wp2
          go_ret
          exact ⟨ret_bool (by rw [HK.out]), (Only.refl nob w).alloc _⟩
      · have HK := Lib.hid (decide_eq_false (p := x.ok) fun h => h3 h.2.2.1)
        go_enter Tryz.func73, Tryz.ntmps73
        go_wp2
        go_ret
        exact ⟨ret_bool (by rw [HK.out]), (Only.refl nob w).alloc _⟩
    · have HK := Lib.hid (decide_eq_false (p := x.ok) fun h => h2 h.2.1)
      go_enter Tryz.func73, Tryz.ntmps73
      go_wp2
      go_ret
      exact ⟨ret_bool (by rw [HK.out]), (Only.refl nob w).alloc _⟩
  · have HK := Lib.hid (decide_eq_false (p := x.ok) fun h => h1 h.1)
    go_enter Tryz.func73, Tryz.ntmps73
    go_wp2
    go_ret
    exact ⟨ret_bool (by rw [HK.out]), (Only.refl nob w).alloc _⟩

set_option maxHeartbeats 400000 in
theorem refHas_any (x : Sp) (p : Int) (w : World) :
    Calls Tryz.prog 74 #[.agg #[.int .i64 x.1, .int .i64 x.2], .int .i64 p] w fun e w' => e = .returned (.bool (decide (x.has p))) ∧ Only nob w w' := by
  by_cases h0 : x.ok
  · have HM := Lib.hid (decide_eq_true h0)
    have h1 : 0 ≤ x.1 ∧ x.1 ≤ 1099511627776 ∧ 1 ≤ x.2 ∧ x.2 ≤ 1099511627776 := by unfold Sp.ok most at h0; omega
    by_cases h2 : x.1 ≤ p
    · by_cases h3 : p < x.1 + x.2
      case' pos => have HK := Lib.hid (decide_eq_true (p := x.has p) ⟨h0, h2, h3⟩)
      case' neg => have HK := Lib.hid (decide_eq_false (p := x.has p) fun h => h3 h.2.2)
      all_goals
        clear h0
        go_enter Tryz.func74, Tryz.ntmps74
        go_wp2_with fail
        go_at_call 73
        refine (refMay03_any x _).mono ?_
        rw [HM.out]
        rintro e w1 ⟨rfl, ho⟩
        have c0 := (ho.cell (p := ⟨w.heap.size, 0, none⟩) (by simp) id)
        have c1 := (ho.cell (p := ⟨w.heap.size, 1, none⟩) (by simp) id)
        simp at c0 c1
        have HO := Lib.hid (((Only.refl nob w).alloc _).trans ho)
        clear ho
        go_wp2
        go_ret
        exact ⟨ret_bool (by rw [HK.out]; simp; omega), HO.out⟩
    · have HK := Lib.hid (decide_eq_false (p := x.has p) fun h => h2 h.2.1)
      clear h0
      go_enter Tryz.func74, Tryz.ntmps74
      go_wp2_with fail
      go_at_call 73
      refine (refMay03_any x _).mono ?_
      rw [HM.out]
      rintro e w1 ⟨rfl, ho⟩
      have c0 := (ho.cell (p := ⟨w.heap.size, 0, none⟩) (by simp) id)
      simp at c0
      have HO := Lib.hid (((Only.refl nob w).alloc _).trans ho)
      clear ho
      go_wp2
      go_ret
      exact ⟨ret_bool (by rw [HK.out]), HO.out⟩
  · have HM := Lib.hid (decide_eq_false h0)
    have HK := Lib.hid (decide_eq_false (p := x.has p) fun h => h0 h.1)
    clear h0
    go_enter Tryz.func74, Tryz.ntmps74
    go_wp2_with fail
    go_at_call 73
    refine (refMay03_any x _).mono ?_
    rw [HM.out]
    rintro e w1 ⟨rfl, ho⟩
    have HO := Lib.hid (((Only.refl nob w).alloc _).trans ho)
    clear ho
    go_wp2
    go_ret
    exact ⟨ret_bool (by rw [HK.out]), HO.out⟩

set_option maxHeartbeats 1000000 in
theorem refMeets_any (x y : Sp) (w : World) :
    Calls Tryz.prog 75 #[.agg #[.int .i64 x.1, .int .i64 x.2], .agg #[.int .i64 y.1, .int .i64 y.2]] w fun e w' => e = .returned (.bool (decide (Sp.meets x y))) ∧ Only nob w w' := by
  rw [meets_and]
  have HX : ∀ w, Calls Tryz.prog 73 #[.agg #[.int .i64 x.1, .int .i64 x.2]] w fun e w' => e = .returned (.bool (decide x.ok)) ∧ Only nob w w' := refMay03_any x
  have HY : ∀ w, Calls Tryz.prog 73 #[.agg #[.int .i64 y.1, .int .i64 y.2]] w fun e w' => e = .returned (.bool (decide y.ok)) ∧ Only nob w w' := refMay03_any y
  have HXY : ∀ w, Calls Tryz.prog 74 #[.agg #[.int .i64 x.1, .int .i64 x.2], .int .i64 y.1] w fun e w' => e = .returned (.bool (decide (x.has y.1))) ∧ Only nob w w' := refHas_any x y.1
  have HYX : ∀ w, Calls Tryz.prog 74 #[.agg #[.int .i64 y.1, .int .i64 y.2], .int .i64 x.1] w fun e w' => e = .returned (.bool (decide (y.has x.1))) ∧ Only nob w w' := refHas_any y x.1
  generalize decide x.ok = bx at *
  generalize decide y.ok = byy at *
  generalize decide (x.has y.1) = bxy at *
  generalize decide (y.has x.1) = byx at *
  replace HX := Lib.hid HX
  replace HY := Lib.hid HY
  replace HXY := Lib.hid HXY
  replace HYX := Lib.hid HYX
  cases bx
  · go_enter Tryz.func75, Tryz.ntmps75
    go_wp2_with fail
    refine (HX.out _).mono ?_
    rintro e w1 ⟨rfl, ho⟩
    have HO := Lib.hid ((((Only.refl nob w).alloc _).alloc _).trans ho)
    clear ho
    go_wp2
    go_ret
    exact ⟨rfl, HO.out⟩
  · cases byy
    · go_enter Tryz.func75, Tryz.ntmps75
      go_wp2_with fail
      refine (HX.out _).mono ?_
      rintro e w1 ⟨rfl, ho⟩
      have HO := Lib.hid ((((Only.refl nob w).alloc _).alloc _).trans ho)
      have hc := ho.old
      clear ho
      go_wp2_with fail
      refine (HY.out _).mono ?_
      rintro e w2 ⟨rfl, ho⟩
      have HO2 := Lib.hid (HO.out.trans ho)
      clear ho hc
      go_wp2
      go_ret
      exact ⟨rfl, HO2.out⟩
    · cases bxy
      all_goals
        go_enter Tryz.func75, Tryz.ntmps75
        go_wp2_with fail
        refine (HX.out _).mono ?_
        rintro e w1 ⟨rfl, ho⟩
        have HO := Lib.hid ((((Only.refl nob w).alloc _).alloc _).trans ho)
        have hc := ho.old
        have hy : w.heap.size < w1.heap.size := by have := ho.size; simp at this; omega
        have hz : w.heap.size + 1 < w1.heap.size := by have := ho.size; simp at this; omega
        clear ho
        go_wp2_with fail
        refine (HY.out _).mono ?_
        rintro e w2 ⟨rfl, ho⟩
        have HO2 := Lib.hid (HO.out.trans ho)
        have hc2 := ho.old
        have hy2 : w.heap.size < w2.heap.size := by have := ho.size; omega
        have hz2 : w.heap.size + 1 < w2.heap.size := by have := ho.size; omega
        clear ho
        go_wp2_with fail
        refine (HXY.out _).mono ?_
        rintro e w3 ⟨rfl, ho⟩
        have HO3 := Lib.hid (HO2.out.trans ho)
        have hc3 := ho.old
        have hy3 : w.heap.size < w3.heap.size := by have := ho.size; omega
        have hz3 : w.heap.size + 1 < w3.heap.size := by have := ho.size; omega
        clear ho
        go_wp2_with (refine (HYX.out _).mono ?_; rintro e w4 ⟨rfl, ho4⟩)
        first
        | (have HO4 := Lib.hid (HO3.out.trans ho4)
           clear ho4 hc hc2 hc3
           go_ret
           exact ⟨rfl, HO4.out⟩)
        | (go_ret
           exact ⟨rfl, HO3.out⟩)

set_option maxHeartbeats 1000000 in
theorem refWithin_any (x y : Sp) (w : World) :
    Calls Tryz.prog 38 #[.agg #[.int .i64 x.1, .int .i64 x.2], .agg #[.int .i64 y.1, .int .i64 y.2]] w fun e w' => e = .returned (.bool (decide (Sp.within x y))) ∧ Only nob w w' := by
  by_cases h1 : x.ok
  · have HX := Lib.hid (decide_eq_true h1)
    have hb : 0 ≤ x.1 ∧ x.1 ≤ 1099511627776 ∧ 1 ≤ x.2 ∧ x.2 ≤ 1099511627776 := by unfold Sp.ok most at h1; omega
    by_cases h2 : y.ok
    · have HY := Lib.hid (decide_eq_true h2)
      by_cases h3 : y.has x.1
      · have H1 := Lib.hid (decide_eq_true h3)
        by_cases h4 : y.has (x.1 + x.2 - 1)
        case' pos =>
          have HK := Lib.hid (decide_eq_true (p := Sp.within x y) ⟨h1, h2, h3, h4⟩)
          have H2 := Lib.hid (decide_eq_true h4)
        case' neg =>
          have HK := Lib.hid (decide_eq_false (p := Sp.within x y) fun h => h4 h.2.2.2)
          have H2 := Lib.hid (decide_eq_false h4)
        all_goals
          clear h1 h2 h3 h4
          go_enter Tryz.func38, Tryz.ntmps38
          go_wp2_with fail
          refine (refMay03_any x _).mono ?_
          rw [HX.out]
          rintro e w1 ⟨rfl, ho⟩
          have HO1 := Lib.hid ((((Only.refl nob w).alloc _).alloc _).trans ho)
          have hc1 := ho.old
          have hy1 : w.heap.size < w1.heap.size := by have := ho.size; simp at this; omega
          have hz1 : w.heap.size + 1 < w1.heap.size := by have := ho.size; simp at this; omega
          clear ho
          go_wp2_with fail
          refine (refMay03_any y _).mono ?_
          rw [HY.out]
          rintro e w2 ⟨rfl, ho⟩
          have HO2 := Lib.hid (HO1.out.trans ho)
          have hc2 := ho.old
          have hy2 : w.heap.size < w2.heap.size := by have := ho.size; omega
          have hz2 : w.heap.size + 1 < w2.heap.size := by have := ho.size; omega
          clear ho
          go_wp2_with fail
          refine (refHas_any y x.1 _).mono ?_
          rw [H1.out]
          rintro e w3 ⟨rfl, ho⟩
          have HO3 := Lib.hid (HO2.out.trans ho)
          have hc3 := ho.old
          have hy3 : w.heap.size < w3.heap.size := by have := ho.size; omega
          have hz3 : w.heap.size + 1 < w3.heap.size := by have := ho.size; omega
          clear ho
          go_wp2_with fail
          refine (refHas_any y (x.1 + x.2 - 1) _).mono ?_
          rw [H2.out]
          rintro e w4 ⟨rfl, ho⟩
          have HO4 := Lib.hid (HO3.out.trans ho)
          have hc4 := ho.old
          have hy4 : w.heap.size < w4.heap.size := by have := ho.size; omega
          have hz4 : w.heap.size + 1 < w4.heap.size := by have := ho.size; omega
          clear ho
          clear hc1 hc2 hc3 hc4
          go_wp2
          go_ret
          exact ⟨ret_bool (by rw [HK.out]), HO4.out⟩
      · have H1 := Lib.hid (decide_eq_false h3)
        have HK := Lib.hid (decide_eq_false (p := Sp.within x y) fun h => h3 h.2.2.1)
        clear h1 h2 h3
        go_enter Tryz.func38, Tryz.ntmps38
        go_wp2_with fail
        refine (refMay03_any x _).mono ?_
        rw [HX.out]
        rintro e w1 ⟨rfl, ho⟩
        have HO1 := Lib.hid ((((Only.refl nob w).alloc _).alloc _).trans ho)
        have hc1 := ho.old
        have hy1 : w.heap.size < w1.heap.size := by have := ho.size; simp at this; omega
        have hz1 : w.heap.size + 1 < w1.heap.size := by have := ho.size; simp at this; omega
        clear ho
        go_wp2_with fail
        refine (refMay03_any y _).mono ?_
        rw [HY.out]
        rintro e w2 ⟨rfl, ho⟩
        have HO2 := Lib.hid (HO1.out.trans ho)
        have hc2 := ho.old
        have hy2 : w.heap.size < w2.heap.size := by have := ho.size; omega
        have hz2 : w.heap.size + 1 < w2.heap.size := by have := ho.size; omega
        clear ho
        go_wp2_with fail
        refine (refHas_any y x.1 _).mono ?_
        rw [H1.out]
        rintro e w3 ⟨rfl, ho⟩
        have HO3 := Lib.hid (HO2.out.trans ho)
        have hc3 := ho.old
        have hy3 : w.heap.size < w3.heap.size := by have := ho.size; omega
        have hz3 : w.heap.size + 1 < w3.heap.size := by have := ho.size; omega
        clear ho
        clear hc1 hc2 hc3
        go_wp2
        go_ret
        exact ⟨ret_bool (by rw [HK.out]), HO3.out⟩
    · have HY := Lib.hid (decide_eq_false h2)
      have HK := Lib.hid (decide_eq_false (p := Sp.within x y) fun h => h2 h.2.1)
      clear h1 h2
      go_enter Tryz.func38, Tryz.ntmps38
      go_wp2_with fail
      refine (refMay03_any x _).mono ?_
      rw [HX.out]
      rintro e w1 ⟨rfl, ho⟩
      have HO1 := Lib.hid ((((Only.refl nob w).alloc _).alloc _).trans ho)
      have hc1 := ho.old
      have hy1 : w.heap.size < w1.heap.size := by have := ho.size; simp at this; omega
      have hz1 : w.heap.size + 1 < w1.heap.size := by have := ho.size; simp at this; omega
      clear ho
      go_wp2_with fail
      refine (refMay03_any y _).mono ?_
      rw [HY.out]
      rintro e w2 ⟨rfl, ho⟩
      have HO2 := Lib.hid (HO1.out.trans ho)
      have hc2 := ho.old
      have hy2 : w.heap.size < w2.heap.size := by have := ho.size; omega
      have hz2 : w.heap.size + 1 < w2.heap.size := by have := ho.size; omega
      clear ho
      clear hc1 hc2
      go_wp2
      go_ret
      exact ⟨ret_bool (by rw [HK.out]), HO2.out⟩
  · have HX := Lib.hid (decide_eq_false h1)
    have HK := Lib.hid (decide_eq_false (p := Sp.within x y) fun h => h1 h.1)
    clear h1
    go_enter Tryz.func38, Tryz.ntmps38
    go_wp2_with fail
    refine (refMay03_any x _).mono ?_
    rw [HX.out]
    rintro e w1 ⟨rfl, ho⟩
    have HO1 := Lib.hid ((((Only.refl nob w).alloc _).alloc _).trans ho)
    have hc1 := ho.old
    have hy1 : w.heap.size < w1.heap.size := by have := ho.size; simp at this; omega
    have hz1 : w.heap.size + 1 < w1.heap.size := by have := ho.size; simp at this; omega
    clear ho
    clear hc1
    go_wp2
    go_ret
    exact ⟨ret_bool (by rw [HK.out]), HO1.out⟩

end Go.Proofs.YtoeccbbjncgmlaaGreatDoor

/- Contracts of the document's own answers for spans: lists of them that are only read. -/
namespace Go.Proofs.YtoeccbbjncgmlaaGreatDoor

open Go.RowKit

set_option maxHeartbeats 1000000 in
theorem refCovered_any (v : Value) (l : List Sp) (p : Int) (B : Nat) (w : World) (h : Sl w B 2 v l.length (spc l)) (hB : B ≤ w.heap.size) :
    Calls Tryz.prog 77 #[v, .int .i64 p] w fun e w' => e = .returned (.bool (decide (cov l p))) ∧ Only nob w w' := by
  have HA := Lib.hid h
  obtain ⟨A, ca, rfl, hac, ham, -⟩ := h
  unfold maxLen at ham
  go_enter Tryz.func77, Tryz.ntmps77
  go_wp2_with fail
  go_loopw [5] (fun i wr => ∃ k : Nat, k ≤ l.length ∧ i = .int .i64 k ∧ Hid (∀ (j : Nat) x, j < k → l[j]? = some x → ¬ Sp.has x p) ∧ Only nob w wr) (fun i _ => l.length - (intOf i).toNat)
  case atStart => exact ⟨0, Nat.zero_le _, rfl, fun j _ hj _ => absurd hj (Nat.not_lt_zero j), Only.refl _ _⟩
  case round =>
    obtain ⟨k, hk, rfl, hno, hO⟩ := hrel
    have HX := Lib.hid hO
    by_cases hlt : k < l.length
    · obtain ⟨x, hx⟩ : ∃ x, l[k]? = some x := ⟨_, List.getElem?_eq_getElem hlt⟩
      obtain ⟨b, o, rfl, hb, c0, c1⟩ := sl_span HA.out (hO.below hB fun _ h => h.elim) hx
      have HXX := Lib.hid hx
      clear hO hx
      by_cases hp : x.has p
      · have HP := Lib.hid (decide_eq_true hp)
        have HK := Lib.hid (decide_eq_true (cov_yes HXX.out hp))
        clear hp
        go_wp2_with fail
        refine (refHas_any x p _).mono ?_
        rw [HP.out]
        rintro e w1 ⟨rfl, ho⟩
        have HO := Lib.hid (HX.out.trans ho)
        clear ho
        go_wp2
        go_ret
        exact ⟨ret_bool (by rw [HK.out]), HO.out⟩
      · have HP := Lib.hid (decide_eq_false hp)
        have HN := Lib.hid hp
        clear hp
        go_wp2_with fail
        refine (refHas_any x p _).mono ?_
        rw [HP.out]
        rintro e w1 ⟨rfl, ho⟩
        have HO := Lib.hid (HX.out.trans ho)
        clear ho
        go_wp2
        go_roundw
        case rel =>
          refine ⟨k + 1, by omega, by go_num, fun j y hj hy => ?_, HO.out⟩
          rcases Nat.lt_or_ge j k with h' | h'
          · exact hno.out j y h' hy
          · obtain rfl : j = k := by omega
            rw [HXX.out] at hy
            obtain rfl := Option.some.inj hy
            exact HN.out
        case measure => simp [intOf]; omega
    · obtain rfl : k = l.length := by omega
      have HK := Lib.hid (decide_eq_false (cov_no (l := l) (p := p) fun j x hj => hno.out j x (List.getElem?_eq_some_iff.1 hj).1 hj))
      clear hO
      go_wp2
      go_ret
      exact ⟨ret_bool (by rw [HK.out]), HX.out⟩

set_option maxHeartbeats 1000000 in
theorem refSameS_any (va vb : Value) (l : List Sp) (B B' : Nat) (w : World) (ha : Sl w B 2 va l.length (spc l)) (hb : Sl w B' 2 vb l.length (spc l)) :
    Calls Tryz.prog 13 #[va, vb] w fun e w' => e = .returned (.bool true) ∧ ∃ m, w' = w.drewN m := by
  have HA := Lib.hid ha
  have HB := Lib.hid hb
  obtain ⟨A, ca, rfl, hac, ham, -⟩ := ha
  obtain ⟨A', cb, rfl, hbc, hbm, -⟩ := hb
  unfold maxLen at ham hbm
  go_enter Tryz.func13, Tryz.ntmps13
  go_wp2
  go_loopw [5] (fun i wr => ∃ k m : Nat, k ≤ l.length ∧ i = .int .i64 k ∧ wr = w.drewN m) (fun i _ => l.length - (intOf i).toNat)
  case atStart => exact ⟨0, 0, Nat.zero_le _, rfl, rfl⟩
  case round =>
    obtain ⟨k, m, hk, rfl, rfl⟩ := hrel
    by_cases hlt : k < l.length
    · obtain ⟨x, hx⟩ : ∃ x, l[k]? = some x := ⟨_, List.getElem?_eq_getElem hlt⟩
      obtain ⟨b1, o1, rfl, -, c0, c1⟩ := sl_span HA.out (Below.refl _ _) hx
      obtain ⟨b2, o2, rfl, -, d0, d1⟩ := sl_span HB.out (Below.refl _ _) hx
      clear hx
      go_wp2
      go_quiet (fail)
      go_wp2
      go_roundw
      case rel => exact ⟨k + 1, _, by omega, by go_num, rfl⟩
      case measure => simp [intOf]; omega
    · obtain rfl : k = l.length := by omega
      go_wp2
      go_ret
      exact ⟨rfl, _, rfl⟩

end Go.Proofs.YtoeccbbjncgmlaaGreatDoor
