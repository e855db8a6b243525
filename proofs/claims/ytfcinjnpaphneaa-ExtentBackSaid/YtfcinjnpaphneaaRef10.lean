/- Contracts of the document's own answers for free words: Right, Largest. -/
import Derived.Test.YtfcinjnpaphneaaRef03B
import Derived.Test.YtfcinjnpaphneaaExtMath
import Derived.Deep.QuietTactic
import Derived.Deep.RegionHeld3
namespace Go.Proofs.Ytfcinjnpaphneaa
set_option maxRecDepth 100000
open Go.RowKit

theorem within_ok {x y : Sp} (h : Sp.within x y) : 0 ≤ x.1 ∧ 1 ≤ x.2 ∧ x.1 + x.2 ≤ 1099511627776 := by
  have := h.1; unfold Sp.ok most at this; omega
set_option maxHeartbeats 4000000 in
theorem rRight (all : Sp) (v : Value) (l : List Sp) (B : Nat) (w : World) (h : Sl w B 2 v l.length (spc l)) (hB : B ≤ w.heap.size) :
    Calls Try.prog 7 #[.agg #[.int .i64 all.1, .int .i64 all.2], v] w fun e w' => e = .returned (.bool (decide (RightP all l))) ∧ Only nob w w' := by
  have HA := Lib.hid h
  obtain ⟨A, ca, rfl, hac, ham, -⟩ := h
  unfold maxLen at ham
  have HB := Lib.hid (Blk.new w 23 #[.int .i64 all.1, .int .i64 all.2])
  have O0 := (Only.refl nob w).alloc (.cells #[.int .i64 all.1, .int .i64 all.2] 23)
  have HO0 := Lib.hid O0
  clear O0
  go_enter Try.func7, Try.ntmps7
  go_wp2_with fail
  go_loopw [5] (fun i wr => ∃ k : Nat, k ≤ l.length ∧ i = .int .i64 k ∧ Hid (UpTo all l k) ∧ Hid (Only nob (w.alloc (.cells #[.int .i64 all.1, .int .i64 all.2] 23)) wr)) (fun i _ => l.length - (intOf i).toNat)
  case atStart => exact ⟨0, Nat.zero_le _, rfl, fun j _ hj _ => absurd hj (Nat.not_lt_zero j), Only.refl _ _⟩
  case round =>
    obtain ⟨k, hk, rfl, hno, HX⟩ := hrel
    have HOW := Lib.hid (HO0.out.trans HX.out)
    by_cases hlt : k < l.length
    · obtain ⟨x, hx⟩ : ∃ x, l[k]? = some x := ⟨_, List.getElem?_eq_getElem hlt⟩
      obtain ⟨b, o, rfl, hb, c0, c1⟩ := sl_span HA.out (HOW.out.below hB fun _ h => h.elim) hx
      have HXX := Lib.hid hx
      have b0 := HX.out.keeps (HB.out.cell 0)
      have b1 := HX.out.keeps (HB.out.cell 1)
      simp at b0 b1
      clear hx
      by_cases hw : Sp.within x all
      · have HW := Lib.hid hw
        have HD := Lib.hid (decide_eq_true hw)
        clear hw
        go_wp2_with fail
        go_region_held3 (fun w' => w'.cell? ⟨b, o + k * 2, none⟩ = some (.int .i64 x.1) ∧ w'.cell? ⟨b, o + k * 2 + 1, none⟩ = some (.int .i64 x.2) ∧ w'.cell? ⟨w.heap.size, 0, none⟩ = some (.int .i64 all.1) ∧ w'.cell? ⟨w.heap.size, 1, none⟩ = some (.int .i64 all.2)) (first | go_keep | exact C1.out)
          ((go_at_call 19; refine (refWithin_any x all _).mono ?_; rw [HD.out]; rintro e w2 ⟨rfl, ho⟩; have O2 := Lib.hid ho.drewL; have C1 := Lib.hid (And.intro (ho.drewL.keeps c0) (And.intro (ho.drewL.keeps c1) (And.intro (ho.drewL.keeps b0) (ho.drewL.keeps b1)))); clear ho))
        have c0' := O2.out.keeps c0
        have c1' := O2.out.keeps c1
        have HX2 := Lib.hid (HX.out.trans O2.out)
        have HOW2 := Lib.hid (HOW.out.trans O2.out)
        clear c0 c1 b0 b1
        rcases Nat.eq_zero_or_pos k with rfl | hk0
        · have HU := Lib.hid (upTo_next hno.out HXX.out HW.out fun h => absurd h (Nat.lt_irrefl 0))
          go_wp2_with fail
          go_quiet (fail)
          go_wp2
          go_roundw
          case rel => exact ⟨1, by omega, by go_num, HU.out, HX2.out.drewN _⟩
          case measure => simp [intOf]; omega
        · obtain ⟨m, rfl⟩ : ∃ m, k = m + 1 := ⟨k - 1, by omega⟩
          obtain ⟨y, hy⟩ : ∃ y, l[m]? = some y := ⟨_, List.getElem?_eq_getElem (by omega)⟩
          obtain ⟨b3, o3, e3, -, d0, d1⟩ := sl_span HA.out (HOW2.out.below hB fun _ h => h.elim) hy
          obtain ⟨rfl, rfl⟩ : b3 = b ∧ o3 = o := by simpa using e3.symm
          have hyb := within_ok (hno.out m y (by omega) hy).1
          have HY := Lib.hid hy
          clear hy e3
          by_cases hlt2 : y.1 + y.2 < x.1
          · have HU := Lib.hid (upTo_next hno.out HXX.out HW.out fun _ z hz => by
              rw [Nat.add_sub_cancel, HY.out] at hz
              obtain rfl := Option.some.inj hz
              exact hlt2)
            go_wp2_with fail
            go_quiet (fail)
            go_wp2
            go_roundw
            case rel => exact ⟨m + 1 + 1, by omega, by go_num, HU.out, HX2.out.drewN _⟩
            case measure => simp [intOf]; omega
          · have HN := Lib.hid (decide_eq_false (right_bad2 (all := all) (k := m + 1) HY.out HXX.out (by omega) hlt2))
            go_wp2_with fail
            go_quiet (fail)
            go_wp2
            go_ret
            exact ⟨ret_bool (by rw [HN.out]), HOW2.out.drewN _⟩
      · have HD := Lib.hid (decide_eq_false hw)
        have HN := Lib.hid (decide_eq_false (right_bad1 HXX.out hw))
        clear hw
        go_wp2_with fail
        go_region_held3 (fun w' => w'.cell? ⟨b, o + k * 2, none⟩ = some (.int .i64 x.1) ∧ w'.cell? ⟨b, o + k * 2 + 1, none⟩ = some (.int .i64 x.2) ∧ w'.cell? ⟨w.heap.size, 0, none⟩ = some (.int .i64 all.1) ∧ w'.cell? ⟨w.heap.size, 1, none⟩ = some (.int .i64 all.2)) (first | go_keep | exact C1.out)
          ((go_at_call 19; refine (refWithin_any x all _).mono ?_; rw [HD.out]; rintro e w2 ⟨rfl, ho⟩; have O2 := Lib.hid ho.drewL; have C1 := Lib.hid (And.intro (ho.drewL.keeps c0) (And.intro (ho.drewL.keeps c1) (And.intro (ho.drewL.keeps b0) (ho.drewL.keeps b1)))); clear ho))
        have HOW2 := Lib.hid (HOW.out.trans O2.out)
        clear c0 c1 b0 b1
        go_wp2
        go_ret
        exact ⟨ret_bool (by rw [HN.out]), HOW2.out⟩
    · obtain rfl : k = l.length := by omega
      have HK := Lib.hid (decide_eq_true (upTo_all hno.out))
      go_wp2
      go_ret
      exact ⟨ret_bool (by rw [HK.out]), HOW.out⟩

set_option maxHeartbeats 4000000 in
theorem rLargest (v : Value) (l : List Sp) (B : Nat) (w : World) (h : Sl w B 2 v l.length (spc l)) (hB : B ≤ w.heap.size) :
    Calls Try.prog 9 #[v] w fun e w' => e = .returned (.int .i64 (largest l)) ∧ Only nob w w' := by
  have HA := Lib.hid h
  obtain ⟨A, ca, rfl, hac, ham, -⟩ := h
  unfold maxLen at ham
  go_enter Try.func9, Try.ntmps9
  go_wp2_with fail
  go_loopw [3, 4] (fun n i wr => ∃ (k : Nat) (t : Int), k ≤ l.length ∧ i = .int .i64 k ∧ n = .int .i64 t ∧ Hid (t = largest (l.take k)) ∧ Hid (Only nob w wr)) (fun _ i _ => l.length - (intOf i).toNat)
  case atStart => exact ⟨0, 0, Nat.zero_le _, rfl, rfl, by rw [List.take_zero]; rfl, Only.refl _ _⟩
  case round =>
    obtain ⟨k, t, hk, rfl, rfl, HT, HX⟩ := hrel
    by_cases hlt : k < l.length
    · obtain ⟨x, hx⟩ : ∃ x, l[k]? = some x := ⟨_, List.getElem?_eq_getElem hlt⟩
      obtain ⟨b, q, rfl, hb, d0, d1⟩ := sl_span HA.out (HX.out.below hB fun _ h => h.elim) hx
      have HXX := Lib.hid hx
      clear hx
      by_cases ho : x.ok
      · have HM := Lib.hid (decide_eq_true ho)
        have HE := Lib.hid (largest_yes HXX.out ho)
        clear ho
        go_wp2_with fail
        go_at_call 21
        refine (refMay03_any x _).mono ?_
        rw [HM.out]
        rintro e w2 ⟨rfl, o⟩
        have O2 := Lib.hid (HX.out.trans o)
        have c0 := o.keeps d0
        have c1 := o.keeps d1
        clear o d0 d1
        by_cases hgt : t < x.2
        · have HG := Lib.hid (show largest (l.take (k + 1)) = x.2 by rw [HE.out, ← HT.out]; omega)
          go_wp2
          go_roundw
          case rel => exact ⟨k + 1, _, by omega, by go_num, rfl, HG.out.symm, O2.out⟩
          case measure => simp [intOf]; omega
        · have HG := Lib.hid (show largest (l.take (k + 1)) = t by rw [HE.out, ← HT.out]; omega)
          go_wp2
          go_roundw
          case rel => exact ⟨k + 1, _, by omega, by go_num, rfl, HG.out.symm, O2.out⟩
          case measure => simp [intOf]; omega
      · have HM := Lib.hid (decide_eq_false ho)
        have HE := Lib.hid (largest_no HXX.out ho)
        clear ho
        go_wp2_with fail
        go_at_call 21
        refine (refMay03_any x _).mono ?_
        rw [HM.out]
        rintro e w2 ⟨rfl, o⟩
        have O2 := Lib.hid (HX.out.trans o)
        clear o d0 d1
        go_wp2
        go_roundw
        case rel => exact ⟨k + 1, _, by omega, by go_num, rfl, by rw [HE.out]; exact HT.out, O2.out⟩
        case measure => simp [intOf]; omega
    · obtain rfl : k = l.length := by omega
      have HK := Lib.hid (show t = largest l by rw [HT.out, List.take_length])
      go_wp2
      go_ret
      exact ⟨ret_i64 HK.out, HX.out⟩
end Go.Proofs.Ytfcinjnpaphneaa
