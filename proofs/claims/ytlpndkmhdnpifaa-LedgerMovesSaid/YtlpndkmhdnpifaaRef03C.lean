/- Contracts of the document's own answers for spans: all together; whether they lie apart. -/
import Derived.Test.YtlpndkmhdnpifaaRef03B
import Derived.StillTailTactics
namespace Go.Proofs.Ytlpndkmhdnpifaa

open Go.RowKit

set_option maxHeartbeats 2000000 in
theorem refApart_any (v : Value) (l : List Sp) (B : Nat) (w : World) (h : Sl w B 2 v l.length (spc l)) (hB : B ≤ w.heap.size) :
    Calls Try.prog 43 #[v] w fun e w' => e = .returned (.bool (decide (ApartL l))) ∧ Only nob w w' := by
  have HA := Lib.hid h
  obtain ⟨A, ca, rfl, hac, ham, -⟩ := h
  unfold maxLen at ham
  go_enter Try.func43, Try.ntmps43
  go_wp2_with fail
  go_loopw [3] (fun i wr => ∃ k : Nat, k ≤ l.length ∧ i = .int .i64 k ∧ Hid (∀ (i : Nat) x, i < k → l[i]? = some x → x.ok ∧ ∀ (j : Nat) y, j < i → l[j]? = some y → ¬ Sp.meets x y) ∧ Only nob w wr) (fun i _ => l.length - (intOf i).toNat)
  case atStart => exact ⟨0, Nat.zero_le _, rfl, fun j _ hj _ => absurd hj (Nat.not_lt_zero j), Only.refl _ _⟩
  case round =>
    obtain ⟨k, hk, rfl, hall, hO⟩ := hrel
    have HX := Lib.hid hO
    by_cases hlt : k < l.length
    · obtain ⟨x, hx⟩ : ∃ x, l[k]? = some x := ⟨_, List.getElem?_eq_getElem hlt⟩
      obtain ⟨b, o, rfl, hb, c0, c1⟩ := sl_span HA.out (hO.below hB fun _ h => h.elim) hx
      have HXX := Lib.hid hx
      clear hO hx
      by_cases hp : x.ok
      · have HP := Lib.hid (decide_eq_true hp)
        have HPP := Lib.hid hp
        clear hp
        go_wp2_with fail
        refine (refMay03_any x _).mono ?_
        rw [HP.out]
        rintro e w1 ⟨rfl, ho⟩
        have HO := Lib.hid (HX.out.trans ho)
        clear ho c0 c1
        obtain ⟨wo, rfl⟩ : ∃ wo : World, wo = wr := ⟨_, rfl⟩
        go_wp2_with fail
        go_loopw [4] (fun i wr => ∃ j : Nat, j ≤ k ∧ i = .int .i64 j ∧ Hid (∀ (q : Nat) y, q < j → l[q]? = some y → ¬ Sp.meets x y) ∧ Only nob w wr) (fun i _ => k - (intOf i).toNat)
        case atStart => exact ⟨0, Nat.zero_le _, rfl, fun j _ hj _ => absurd hj (Nat.not_lt_zero j), HO.out⟩
        case round =>
          obtain ⟨j, hj, rfl, hin, hO⟩ := hrel
          have HY := Lib.hid hO
          by_cases hjl : j < k
          · obtain ⟨y, hy⟩ : ∃ y, l[j]? = some y := ⟨_, List.getElem?_eq_getElem (by omega)⟩
            obtain ⟨b1, o1, e1, -, c0, c1⟩ := sl_span HA.out (hO.below hB fun _ h => h.elim) HXX.out
            obtain ⟨rfl, rfl⟩ : b1 = b ∧ o1 = o := by simpa using e1.symm
            obtain ⟨b2, o2, e2, -, d0, d1⟩ := sl_span HA.out (hO.below hB fun _ h => h.elim) hy
            obtain ⟨rfl, rfl⟩ : b2 = b1 ∧ o2 = o1 := by simpa using e2.symm
            have HYY := Lib.hid hy
            have hj2 : j < l.length := by omega
            have HY2 := Lib.hid (hO.drewN 1)
            clear hO hy e1 e2
            go_wp2_with fail
            go_still_tail 8, (by kernel_rfl)
            change wpList _ _ _ _ _ wr.drew
            generalize hwd : wr.drew = wd
            have HO3 := Lib.hid (show Only nob w wd by rw [← hwd]; exact HY2.out)
            clear hwd c0 c1 d0 d1
            by_cases hm : Sp.meets x y
            · have HM := Lib.hid (decide_eq_true hm)
              have HK := Lib.hid (decide_eq_false (apart_no2 HXX.out HYY.out hjl hm))
              clear hm
              go_wp2_with fail
              refine (refMeets_any x y _).mono ?_
              rw [HM.out]
              rintro e w2 ⟨rfl, ho⟩
              have HO4 := Lib.hid (HO3.out.trans ho)
              clear ho
              go_wp2
              go_ret
              exact ⟨ret_bool (by rw [HK.out]), HO4.out⟩
            · have HM := Lib.hid (decide_eq_false hm)
              have HN := Lib.hid hm
              clear hm
              go_wp2_with fail
              refine (refMeets_any x y _).mono ?_
              rw [HM.out]
              rintro e w2 ⟨rfl, ho⟩
              have HO4 := Lib.hid (HO3.out.trans ho)
              clear ho
              go_wp2
              go_roundw
              case rel =>
                refine ⟨j + 1, by omega, by go_num, fun q z hq hz => ?_, HO4.out⟩
                rcases Nat.lt_or_ge q j with h' | h'
                · exact hin.out q z h' hz
                · obtain rfl : q = j := by omega
                  rw [HYY.out] at hz
                  obtain rfl := Option.some.inj hz
                  exact HN.out
              case measure => simp [intOf]; omega
          · obtain rfl : j = k := by omega
            clear hO
            go_wp2
            go_roundw
            case rel =>
              refine ⟨j + 1, by omega, by go_num, fun i z hi hz => ?_, HY.out⟩
              rcases Nat.lt_or_ge i j with h' | h'
              · exact hall.out i z h' hz
              · obtain rfl : i = j := by omega
                rw [HXX.out] at hz
                obtain rfl := Option.some.inj hz
                exact ⟨HPP.out, hin.out⟩
            case measure => simp [intOf]; omega
      · have HP := Lib.hid (decide_eq_false hp)
        have HK := Lib.hid (decide_eq_false (apart_no1 HXX.out hp))
        clear hp
        go_wp2_with fail
        refine (refMay03_any x _).mono ?_
        rw [HP.out]
        rintro e w1 ⟨rfl, ho⟩
        have HO := Lib.hid (HX.out.trans ho)
        clear ho
        go_wp2
        go_ret
        exact ⟨ret_bool (by rw [HK.out]), HO.out⟩
    · obtain rfl : k = l.length := by omega
      have HK := Lib.hid (decide_eq_true (apart_yes (l := l) fun i x hi => hall.out i x (List.getElem?_eq_some_iff.1 hi).1 hi))
      clear hO
      go_wp2
      go_ret
      exact ⟨ret_bool (by rw [HK.out]), HX.out⟩

end Go.Proofs.Ytlpndkmhdnpifaa
