/- The document's own answer whether the values of a graph may be. -/
import Derived.Test.YtdlaigghejahdaaRef16
namespace Go.Proofs.Ytdlaigghejahdaa
open Go.RowKit
set_option maxRecDepth 100000
set_option linter.unusedSimpArgs false
set_option linter.unusedVariables false

set_option maxHeartbeats 1000000 in
/-- May the values of a graph of n nodes be? -/
theorem rSound16 (A : Option Addr) (n c : Nat) (vr v : Value) (l : List Sp) (B : Nat) (w : World) (hn : n ≤ 9223372036854775807) (h : Sl w B 2 v l.length (spc l)) (hB : B ≤ w.heap.size) :
    Calls Try.prog 28 #[.agg #[.slice A n c, vr], v] w fun e w' => e = .returned (.bool (l.all (vOk n))) ∧ Only nob w w' := by
  have HA := Lib.hid h
  obtain ⟨Al, ca, rfl, hac, ham, -⟩ := h
  unfold maxLen at ham
  obtain ⟨W, hW, HB⟩ := box_graph w (.slice A n c) vr
  have HW := Lib.hid hW
  have HMY := Lib.hid (fun (k x : Int) (w : World) => refMay_any k x w)
  obtain ⟨q, hq⟩ : ∃ q, q = l.all (vOk n) := ⟨_, rfl⟩
  have HQ := Lib.hid hq
  rw [← hq]
  obtain ⟨p, hp⟩ : ∃ p, p = w.heap.size := ⟨_, rfl⟩
  have HP := Lib.hid hp
  rw [← hp] at HB
  clear hW hq hp
  go_enter Try.func28, Try.ntmps28
  go_upto_region 1 with fail
  rw [HW.out, ← HP.out]
  go_wp2_with fail
  go_loopw [5] (fun i wr => ∃ k : Nat, k ≤ l.length ∧ i = .int .i64 k ∧ Hid (∀ (j : Nat) y, j < k → l[j]? = some y → vOk n y = true) ∧ Hid (Only nob W wr)) (fun i _ => l.length - (intOf i).toNat)
  case atStart => exact ⟨0, Nat.zero_le _, rfl, fun j _ hj _ => absurd hj (Nat.not_lt_zero j), Lib.hid (Only.refl _ _)⟩
  case round =>
    obtain ⟨k, hk, rfl, hno, HO⟩ := hrel
    by_cases hlt : k < l.length
    · obtain ⟨⟨x, y⟩, hy⟩ : ∃ x, l[k]? = some x := ⟨_, List.getElem?_eq_getElem hlt⟩
      obtain ⟨b1, o1, rfl, -, c0, c1⟩ := sl_span HA.out ((HB.out.1.trans HO.out).below hB fun _ h => h.elim) hy
      have HY := Lib.hid hy
      have HV := Lib.hid (show vOk n (x, y) = (vmay x y && !(decide (x = 2) && decide ((n : Int) ≤ y))) from rfl)
      have HM := Lib.hid (fun w => HMY.out x y w)
      obtain ⟨m, hm⟩ : ∃ m, m = vmay x y := ⟨_, rfl⟩
      rw [← hm] at HV HM
      have d0 := wat_cell (HO.out.keeps HB.out.2.2.1)
      have e0 := wat_cell c0
      have e1 := wat_cell c1
      clear hy hm c0 c1
      go_upto_region 4 with fail
      refine wp_region_only mixed16 (by kernel_rfl) ?_
      cases m with
      | false =>
        have HN := Lib.hid (HQ.out.trans (all_no16 HY.out (by rw [HV.out]; rfl)))
        repeat (with_reducible refine wpQuiet_step ?_; intro K' hK'; go_simp; first | (with_reducible refine hK' _ ?_; clear hK' K') | (rw [if_neg]; rotate_left; (· simp [undef]); with_reducible refine hK' _ ?_; clear hK' K') | (apply Exists.intro; with_reducible refine ⟨fun _ => ?_, hK' _ ?_⟩; (go_at_call 47; with_reducible refine wat_call (HM.out _)); clear hK' K'))
        refine wpQuiet_nil ?_
        rintro w' ⟨⟨nq, osq⟩, rfl⟩
        obtain ⟨W7, hW7, O7⟩ := wat_name wr nq osq
        rw [hW7]
        clear hW7 d0 e0 e1
        go_wp2
        go_ret
        exact ⟨ret_bool (by rw [HN.out]), HB.out.1.trans (HO.out.trans O7.out)⟩
      | true =>
        by_cases h2 : x = 2
        · subst h2
          by_cases h3 : (n : Int) ≤ y
          · have HN := Lib.hid (HQ.out.trans (all_no16 HY.out (by rw [HV.out]; simp [h3])))
            repeat (with_reducible refine wpQuiet_step ?_; intro K' hK'; go_simp; first | (with_reducible refine hK' _ ?_; clear hK' K') | (rw [if_neg]; rotate_left; (· simp [undef]); with_reducible refine hK' _ ?_; clear hK' K') | (apply Exists.intro; with_reducible refine ⟨fun _ => ?_, hK' _ ?_⟩; (go_at_call 47; with_reducible refine wat_call (HM.out _)); clear hK' K'))
            refine wpQuiet_nil ?_
            rintro w' ⟨⟨nq, osq⟩, rfl⟩
            obtain ⟨W7, hW7, O7⟩ := wat_name wr nq osq
            rw [hW7]
            clear hW7 d0 e0 e1
            go_wp2
            go_ret
            exact ⟨ret_bool (by rw [HN.out]), HB.out.1.trans (HO.out.trans O7.out)⟩
          · have HN := Lib.hid (all_next16 hno.out HY.out (by rw [HV.out]; simp; omega))
            repeat (with_reducible refine wpQuiet_step ?_; intro K' hK'; go_simp; first | (with_reducible refine hK' _ ?_; clear hK' K') | (rw [if_neg]; rotate_left; (· simp [undef]); with_reducible refine hK' _ ?_; clear hK' K') | (apply Exists.intro; with_reducible refine ⟨fun _ => ?_, hK' _ ?_⟩; (go_at_call 47; with_reducible refine wat_call (HM.out _)); clear hK' K'))
            refine wpQuiet_nil ?_
            rintro w' ⟨⟨nq, osq⟩, rfl⟩
            obtain ⟨W7, hW7, O7⟩ := wat_name wr nq osq
            rw [hW7]
            have O8 := Lib.hid (HO.out.trans O7.out)
            clear hW7 d0 e0 e1
            go_wp2
            go_roundw
            case rel => exact ⟨k + 1, by omega, by go_num, HN, O8⟩
            case measure => simp [intOf]; omega
        · have hbq : (x == 2) = false := by simpa using h2
          have HN := Lib.hid (all_next16 hno.out HY.out (by rw [HV.out]; simp [h2]))
          clear h2
          repeat (with_reducible refine wpQuiet_step ?_; intro K' hK'; go_simp; first | (with_reducible refine hK' _ ?_; clear hK' K') | (rw [if_neg]; rotate_left; (· simp [undef]); with_reducible refine hK' _ ?_; clear hK' K') | (apply Exists.intro; with_reducible refine ⟨fun _ => ?_, hK' _ ?_⟩; (go_at_call 47; with_reducible refine wat_call (HM.out _)); clear hK' K'))
          refine wpQuiet_nil ?_
          rintro w' ⟨⟨nq, osq⟩, rfl⟩
          obtain ⟨W7, hW7, O7⟩ := wat_name wr nq osq
          rw [hW7]
          have O8 := Lib.hid (HO.out.trans O7.out)
          clear hW7 d0 e0 e1
          go_wp2
          go_roundw
          case rel => exact ⟨k + 1, by omega, by go_num, HN, O8⟩
          case measure => simp [intOf]; omega
    · obtain rfl : k = l.length := by omega
      have HN := Lib.hid (HQ.out.trans (all_yes16 fun j y hj hy => hno.out j y hj hy))
      go_wp2
      go_ret
      exact ⟨ret_bool (by rw [HN.out]), HB.out.1.trans HO.out⟩
end Go.Proofs.Ytdlaigghejahdaa
