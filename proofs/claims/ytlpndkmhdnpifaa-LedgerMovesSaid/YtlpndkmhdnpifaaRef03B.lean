/- Contracts of the document's own answers for spans: lists of them that are only read. -/
import Derived.Test.YtlpndkmhdnpifaaRef03A
namespace Go.Proofs.Ytlpndkmhdnpifaa

open Go.RowKit

set_option maxHeartbeats 1000000 in
theorem refCovered_any (v : Value) (l : List Sp) (p : Int) (B : Nat) (w : World) (h : Sl w B 2 v l.length (spc l)) (hB : B ≤ w.heap.size) :
    Calls Try.prog 58 #[v, .int .i64 p] w fun e w' => e = .returned (.bool (decide (cov l p))) ∧ Only nob w w' := by
  have HA := Lib.hid h
  obtain ⟨A, ca, rfl, hac, ham, -⟩ := h
  unfold maxLen at ham
  go_enter Try.func58, Try.ntmps58
  go_wp2_with fail
  go_loopw [5] (fun i wr => ∃ k : Nat, k ≤ l.length ∧ i = .int .i64 k ∧ Hid (∀ (j : Nat) x, j < k → l[j]? = some x → ¬ Sp.has x p) ∧ Only nob w wr) (fun i _ => l.length - (intOf i).toNat)
  case atStart => exact ⟨0, Nat.zero_le _, rfl, fun j _ hj _ => absurd hj (Nat.not_lt_zero j), Only.refl _ _⟩
  case round =>
    obtain ⟨k, hk, rfl, hno, hO⟩ := hrel
    have HX := Lib.hid hO
    by_cases hlt : k < l.length
    · obtain ⟨x, hx⟩ : ∃ x, l[k]? = some x := ⟨_, List.getElem?_eq_getElem hlt⟩
      obtain ⟨b, o, rfl, hb, c0, c1⟩ := sl_span HA.out (hO.below hB fun _ h => h.elim) hx
      have HXX := Lib.hid hx
      clear hO hx
      by_cases hp : x.has p
      · have HP := Lib.hid (decide_eq_true hp)
        have HK := Lib.hid (decide_eq_true (cov_yes HXX.out hp))
        clear hp
        go_wp2_with fail
        refine (refHas_any x p _).mono ?_
        rw [HP.out]
        rintro e w1 ⟨rfl, ho⟩
        have HO := Lib.hid (HX.out.trans ho)
        clear ho
        go_wp2
        go_ret
        exact ⟨ret_bool (by rw [HK.out]), HO.out⟩
      · have HP := Lib.hid (decide_eq_false hp)
        have HN := Lib.hid hp
        clear hp
        go_wp2_with fail
        refine (refHas_any x p _).mono ?_
        rw [HP.out]
        rintro e w1 ⟨rfl, ho⟩
        have HO := Lib.hid (HX.out.trans ho)
        clear ho
        go_wp2
        go_roundw
        case rel =>
          refine ⟨k + 1, by omega, by go_num, fun j y hj hy => ?_, HO.out⟩
          rcases Nat.lt_or_ge j k with h' | h'
          · exact hno.out j y h' hy
          · obtain rfl : j = k := by omega
            rw [HXX.out] at hy
            obtain rfl := Option.some.inj hy
            exact HN.out
        case measure => simp [intOf]; omega
    · obtain rfl : k = l.length := by omega
      have HK := Lib.hid (decide_eq_false (cov_no (l := l) (p := p) fun j x hj => hno.out j x (List.getElem?_eq_some_iff.1 hj).1 hj))
      clear hO
      go_wp2
      go_ret
      exact ⟨ret_bool (by rw [HK.out]), HX.out⟩

set_option maxHeartbeats 1000000 in
theorem refSameS_any (va vb : Value) (l : List Sp) (B B' : Nat) (w : World) (ha : Sl w B 2 va l.length (spc l)) (hb : Sl w B' 2 vb l.length (spc l)) :
    Calls Try.prog 11 #[va, vb] w fun e w' => e = .returned (.bool true) ∧ ∃ m, w' = w.drewN m := by
  have HA := Lib.hid ha
  have HB := Lib.hid hb
  obtain ⟨A, ca, rfl, hac, ham, -⟩ := ha
  obtain ⟨A', cb, rfl, hbc, hbm, -⟩ := hb
  unfold maxLen at ham hbm
  go_enter Try.func11, Try.ntmps11
  go_wp2
  go_loopw [5] (fun i wr => ∃ k m : Nat, k ≤ l.length ∧ i = .int .i64 k ∧ wr = w.drewN m) (fun i _ => l.length - (intOf i).toNat)
  case atStart => exact ⟨0, 0, Nat.zero_le _, rfl, rfl⟩
  case round =>
    obtain ⟨k, m, hk, rfl, rfl⟩ := hrel
    by_cases hlt : k < l.length
    · obtain ⟨x, hx⟩ : ∃ x, l[k]? = some x := ⟨_, List.getElem?_eq_getElem hlt⟩
      obtain ⟨b1, o1, rfl, -, c0, c1⟩ := sl_span HA.out (Below.refl _ _) hx
      obtain ⟨b2, o2, rfl, -, d0, d1⟩ := sl_span HB.out (Below.refl _ _) hx
      clear hx
      go_wp2
      go_quiet (fail)
      go_wp2
      go_roundw
      case rel => exact ⟨k + 1, _, by omega, by go_num, rfl⟩
      case measure => simp [intOf]; omega
    · obtain rfl : k = l.length := by omega
      go_wp2
      go_ret
      exact ⟨rfl, _, rfl⟩

end Go.Proofs.Ytlpndkmhdnpifaa
