/- Contracts of the document's own answers for spans: all together; whether they lie apart. -/
import Derived.Test.YtkakimbklhmbcaaRef03B
import Derived.StillTailTactics
namespace Go.Proofs.Ytkakimbklhmbcaa
open Go.RowKit

def cap62 : Int := 4611686018427387904
/-- All sizes of those that may be. -/
def tot : List Sp → Int
  | [] => 0
  | x :: l => (if x.ok then x.2 else 0) + tot l
theorem tot_append (l m : List Sp) : tot (l ++ m) = tot l + tot m := by
  induction l with
  | nil => simp [tot]
  | cons x l ih => simp only [List.cons_append, tot, ih]; omega
theorem tot_nonneg (l : List Sp) : 0 ≤ tot l := by
  induction l with
  | nil => simp [tot]
  | cons x l ih =>
    simp only [tot]
    split
    · rename_i h; have := h.2.1; omega
    · omega
/-- What Total tells. -/
def total (l : List Sp) : Int := if tot l ≤ cap62 then tot l else cap62
theorem total_range (l : List Sp) : 0 ≤ total l ∧ total l ≤ 4611686018427387904 := by
  have := tot_nonneg l; unfold total cap62; split <;> omega
theorem take_snoc_get {α : Type} {l : List α} {k : Nat} {x : α} (h : l[k]? = some x) : l.take (k + 1) = l.take k ++ [x] := by
  rw [List.take_add_one, h]; rfl
theorem total_yes {l : List Sp} {k : Nat} {x : Sp} (h : l[k]? = some x) (hx : x.ok) : (total (l.take k) + x.2 ≤ cap62 → total (l.take (k + 1)) = total (l.take k) + x.2) ∧ (cap62 < total (l.take k) + x.2 → total (l.take (k + 1)) = cap62) := by
  have h1 := hx.2.1
  have hc : tot (l.take (k + 1)) = tot (l.take k) + x.2 := by rw [take_snoc_get h, tot_append]; simp [tot, hx]
  unfold total
  rw [hc]
  split <;> split <;> omega
theorem total_none {l : List Sp} {k : Nat} {x : Sp} (h : l[k]? = some x) (hx : ¬ x.ok) : total (l.take (k + 1)) = total (l.take k) := by
  have hc : tot (l.take (k + 1)) = tot (l.take k) := by rw [take_snoc_get h, tot_append]; simp [tot, hx]
  unfold total
  rw [hc]

set_option maxHeartbeats 1000000 in
theorem refTotal_any (v : Value) (l : List Sp) (B : Nat) (w : World) (h : Sl w B 2 v l.length (spc l)) (hB : B ≤ w.heap.size) :
    Calls Try.prog 20 #[v] w fun e w' => e = .returned (.int .i64 (total l)) ∧ Only nob w w' := by
  have HA := Lib.hid h
  obtain ⟨A, ca, rfl, hac, ham, -⟩ := h
  unfold maxLen at ham
  go_enter Try.func20, Try.ntmps20
  go_wp2_with fail
  go_loopw [3, 4] (fun n i wr => ∃ k : Nat, k ≤ l.length ∧ i = .int .i64 k ∧ n = .int .i64 (total (l.take k)) ∧ Only nob w wr) (fun _ i _ => l.length - (intOf i).toNat)
  case atStart => exact ⟨0, Nat.zero_le _, rfl, rfl, Only.refl _ _⟩
  case round =>
    obtain ⟨k, hk, rfl, rfl, hO⟩ := hrel
    have HX := Lib.hid hO
    by_cases hlt : k < l.length
    · obtain ⟨x, hx⟩ : ∃ x, l[k]? = some x := ⟨_, List.getElem?_eq_getElem hlt⟩
      obtain ⟨b, o, rfl, hb, c0, c1⟩ := sl_span HA.out (hO.below hB fun _ h => h.elim) hx
      have HXX := Lib.hid hx
      have hr := total_range (l.take k)
      obtain ⟨T, hT⟩ : ∃ T, T = total (l.take k) := ⟨_, rfl⟩
      rw [← hT] at hr ⊢
      have HT := Lib.hid hT
      clear hO hx hT
      by_cases hp : x.ok
      · have HP := Lib.hid (decide_eq_true hp)
        have hb1 : 1 ≤ x.2 ∧ x.2 ≤ 1099511627776 := by unfold Sp.ok most at hp; omega
        have HS := Lib.hid (total_yes HXX.out hp)
        clear hp
        by_cases hc : 4611686018427387904 < T + x.2
        case' pos => have HE := Lib.hid (HS.out.2 (by rw [← HT.out]; exact hc))
        case' neg => have HE := Lib.hid (HS.out.1 (by rw [← HT.out]; unfold cap62; omega))
        all_goals
          go_wp2_with fail
          refine (refMay_any x _).mono ?_
          rw [HP.out]
          rintro e w1 ⟨rfl, ho⟩
          have HO := Lib.hid (HX.out.trans ho)
          have hcc := ho.old
          have hbw : b < wr.heap.size := Nat.lt_of_lt_of_le hb (Nat.le_trans hB HX.out.size)
          clear ho
          go_wp2
          go_roundw
          case rel => exact ⟨k + 1, by omega, by go_num, by rw [HE.out]; first | rfl | rw [HT.out], HO.out⟩
          case measure => simp [intOf]; omega
      · have HP := Lib.hid (decide_eq_false hp)
        have HE := Lib.hid (total_none HXX.out hp)
        clear hp
        go_wp2_with fail
        refine (refMay_any x _).mono ?_
        rw [HP.out]
        rintro e w1 ⟨rfl, ho⟩
        have HO := Lib.hid (HX.out.trans ho)
        clear ho
        go_wp2
        go_roundw
        case rel => exact ⟨k + 1, by omega, by go_num, by rw [HE.out, HT.out], HO.out⟩
        case measure => simp [intOf]; omega
    · obtain rfl : k = l.length := by omega
      have HE := Lib.hid (show l.take l.length = l from List.take_length)
      clear hO
      go_wp2
      go_ret
      exact ⟨by show Ending.returned (Value.int .i64 (total (l.take l.length))) = _; rw [HE.out], HX.out⟩

/-- Each may be, and no two of them have a word in common. -/
def ApartL (l : List Sp) : Prop := (∀ x ∈ l, Sp.ok x) ∧ l.Pairwise fun x y => ¬ Sp.meets y x
instance (l : List Sp) : Decidable (ApartL l) := by unfold ApartL; infer_instance
theorem apart_no1 {l : List Sp} {i : Nat} {x : Sp} (h : l[i]? = some x) (hx : ¬ x.ok) : ¬ ApartL l := fun ha => hx (ha.1 x (List.mem_of_getElem? h))
theorem apart_no2 {l : List Sp} {i k : Nat} {x y : Sp} (h : l[i]? = some x) (h' : l[k]? = some y) (hk : k < i) (hm : Sp.meets x y) : ¬ ApartL l := by
  intro ha
  obtain ⟨h1, rfl⟩ := List.getElem?_eq_some_iff.1 h
  obtain ⟨h2, rfl⟩ := List.getElem?_eq_some_iff.1 h'
  exact List.pairwise_iff_getElem.1 ha.2 k i h2 h1 hk hm
theorem apart_yes {l : List Sp} (h : ∀ (i : Nat) x, l[i]? = some x → x.ok ∧ ∀ (k : Nat) y, k < i → l[k]? = some y → ¬ Sp.meets x y) : ApartL l := by
  refine ⟨fun x hx => ?_, List.pairwise_iff_getElem.2 fun k i hk hi hlt => (h i _ (List.getElem?_eq_getElem hi)).2 k _ hlt (List.getElem?_eq_getElem hk)⟩
  obtain ⟨j, hj, rfl⟩ := List.getElem_of_mem hx
  exact (h j _ (List.getElem?_eq_getElem hj)).1

set_option maxHeartbeats 2000000 in
theorem refApart_any (v : Value) (l : List Sp) (B : Nat) (w : World) (h : Sl w B 2 v l.length (spc l)) (hB : B ≤ w.heap.size) :
    Calls Try.prog 22 #[v] w fun e w' => e = .returned (.bool (decide (ApartL l))) ∧ Only nob w w' := by
  have HA := Lib.hid h
  obtain ⟨A, ca, rfl, hac, ham, -⟩ := h
  unfold maxLen at ham
  go_enter Try.func22, Try.ntmps22
  go_wp2_with fail
  go_loopw [3] (fun i wr => ∃ k : Nat, k ≤ l.length ∧ i = .int .i64 k ∧ Hid (∀ (i : Nat) x, i < k → l[i]? = some x → x.ok ∧ ∀ (j : Nat) y, j < i → l[j]? = some y → ¬ Sp.meets x y) ∧ Only nob w wr) (fun i _ => l.length - (intOf i).toNat)
  case atStart => exact ⟨0, Nat.zero_le _, rfl, fun j _ hj _ => absurd hj (Nat.not_lt_zero j), Only.refl _ _⟩
  case round =>
    obtain ⟨k, hk, rfl, hall, hO⟩ := hrel
    have HX := Lib.hid hO
    by_cases hlt : k < l.length
    · obtain ⟨x, hx⟩ : ∃ x, l[k]? = some x := ⟨_, List.getElem?_eq_getElem hlt⟩
      obtain ⟨b, o, rfl, hb, c0, c1⟩ := sl_span HA.out (hO.below hB fun _ h => h.elim) hx
      have HXX := Lib.hid hx
      clear hO hx
      by_cases hp : x.ok
      · have HP := Lib.hid (decide_eq_true hp)
        have HPP := Lib.hid hp
        clear hp
        go_wp2_with fail
        refine (refMay_any x _).mono ?_
        rw [HP.out]
        rintro e w1 ⟨rfl, ho⟩
        have HO := Lib.hid (HX.out.trans ho)
        clear ho c0 c1
        obtain ⟨wo, rfl⟩ : ∃ wo : World, wo = wr := ⟨_, rfl⟩
        go_wp2_with fail
        go_loopw [4] (fun i wr => ∃ j : Nat, j ≤ k ∧ i = .int .i64 j ∧ Hid (∀ (q : Nat) y, q < j → l[q]? = some y → ¬ Sp.meets x y) ∧ Only nob w wr) (fun i _ => k - (intOf i).toNat)
        case atStart => exact ⟨0, Nat.zero_le _, rfl, fun j _ hj _ => absurd hj (Nat.not_lt_zero j), HO.out⟩
        case round =>
          obtain ⟨j, hj, rfl, hin, hO⟩ := hrel
          have HY := Lib.hid hO
          by_cases hjl : j < k
          · obtain ⟨y, hy⟩ : ∃ y, l[j]? = some y := ⟨_, List.getElem?_eq_getElem (by omega)⟩
            obtain ⟨b1, o1, e1, -, c0, c1⟩ := sl_span HA.out (hO.below hB fun _ h => h.elim) HXX.out
            obtain ⟨rfl, rfl⟩ : b1 = b ∧ o1 = o := by simpa using e1.symm
            obtain ⟨b2, o2, e2, -, d0, d1⟩ := sl_span HA.out (hO.below hB fun _ h => h.elim) hy
            obtain ⟨rfl, rfl⟩ : b2 = b1 ∧ o2 = o1 := by simpa using e2.symm
            have HYY := Lib.hid hy
            have hj2 : j < l.length := by omega
            have HY2 := Lib.hid (hO.drewN 1)
            clear hO hy e1 e2
            go_wp2_with fail
            go_still_tail 8, (by kernel_rfl)
            change wpList _ _ _ _ _ wr.drew
            generalize hwd : wr.drew = wd
            have HO3 := Lib.hid (show Only nob w wd by rw [← hwd]; exact HY2.out)
            clear hwd c0 c1 d0 d1
            by_cases hm : Sp.meets x y
            · have HM := Lib.hid (decide_eq_true hm)
              have HK := Lib.hid (decide_eq_false (apart_no2 HXX.out HYY.out hjl hm))
              clear hm
              go_wp2_with fail
              refine (refMeets_any x y _).mono ?_
              rw [HM.out]
              rintro e w2 ⟨rfl, ho⟩
              have HO4 := Lib.hid (HO3.out.trans ho)
              clear ho
              go_wp2
              go_ret
              exact ⟨ret_bool (by rw [HK.out]), HO4.out⟩
            · have HM := Lib.hid (decide_eq_false hm)
              have HN := Lib.hid hm
              clear hm
              go_wp2_with fail
              refine (refMeets_any x y _).mono ?_
              rw [HM.out]
              rintro e w2 ⟨rfl, ho⟩
              have HO4 := Lib.hid (HO3.out.trans ho)
              clear ho
              go_wp2
              go_roundw
              case rel =>
                refine ⟨j + 1, by omega, by go_num, fun q z hq hz => ?_, HO4.out⟩
                rcases Nat.lt_or_ge q j with h' | h'
                · exact hin.out q z h' hz
                · obtain rfl : q = j := by omega
                  rw [HYY.out] at hz
                  obtain rfl := Option.some.inj hz
                  exact HN.out
              case measure => simp [intOf]; omega
          · obtain rfl : j = k := by omega
            clear hO
            go_wp2
            go_roundw
            case rel =>
              refine ⟨j + 1, by omega, by go_num, fun i z hi hz => ?_, HY.out⟩
              rcases Nat.lt_or_ge i j with h' | h'
              · exact hall.out i z h' hz
              · obtain rfl : i = j := by omega
                rw [HXX.out] at hz
                obtain rfl := Option.some.inj hz
                exact ⟨HPP.out, hin.out⟩
            case measure => simp [intOf]; omega
      · have HP := Lib.hid (decide_eq_false hp)
        have HK := Lib.hid (decide_eq_false (apart_no1 HXX.out hp))
        clear hp
        go_wp2_with fail
        refine (refMay_any x _).mono ?_
        rw [HP.out]
        rintro e w1 ⟨rfl, ho⟩
        have HO := Lib.hid (HX.out.trans ho)
        clear ho
        go_wp2
        go_ret
        exact ⟨ret_bool (by rw [HK.out]), HO.out⟩
    · obtain rfl : k = l.length := by omega
      have HK := Lib.hid (decide_eq_true (apart_yes (l := l) fun i x hi => hall.out i x (List.getElem?_eq_some_iff.1 hi).1 hi))
      clear hO
      go_wp2
      go_ret
      exact ⟨ret_bool (by rw [HK.out]), HX.out⟩
end Go.Proofs.Ytkakimbklhmbcaa
