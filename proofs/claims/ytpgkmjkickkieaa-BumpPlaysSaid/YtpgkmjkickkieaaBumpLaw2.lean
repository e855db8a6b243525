/- The walk of BumpPlays. -/
import Derived.Test.YtpgkmjkickkieaaBumpLaw1
import Derived.Test.YtpgkmjkickkieaaRef03F
import Derived.Deep.DeepCutAuto
import Derived.Deep.CutBlock
namespace Go.Proofs.Ytpgkmjkickkieaa
open Go.RowKit Go.Sort

theorem ret_num {a b : Int} (h : a = b) : Value.int .i64 a = .int .i64 b := by rw [h]
theorem BoxAt.old {w w' : World} {b : Nat} {x : Sp} (h : BoxAt w b x) (o : Only nob w w') : BoxAt w' b x := ⟨o.keeps h.1, o.keeps h.2⟩
theorem box_name (w : World) (x : Sp) : ∃ W, (w.alloc (.cells #[.int .i64 x.1, .int .i64 x.2] 23)) = W ∧ Hid (Only nob w W ∧ BoxAt W w.heap.size x) := ⟨_, rfl, (Only.refl nob w).alloc _, BoxAt.new w x⟩
/-- An integer of a list that reads. -/
theorem sl_int {w w' : World} {B : Nat} {A : Option Addr} {c k : Nat} {l : List Int} {z : Int} (h : Sl w B 1 (.slice A l.length c) l.length (i64s l)) (hb : Below B w w') (hz : l[k]? = some z) :
    ∃ b o, A = some ⟨b, o, none⟩ ∧ b < B ∧ w'.cell? ⟨b, o + k, none⟩ = some (.int .i64 z) := by
  have hk : k < l.length := (List.getElem?_eq_some_iff.1 hz).1
  obtain ⟨b, o, c', e, _, _, hlt, hc⟩ := (h.below hb).at_ (by omega)
  obtain ⟨rfl, rfl⟩ : A = some ⟨b, o, none⟩ ∧ c = c' := by simpa using e
  exact ⟨b, o, rfl, hlt, hc _ _ (i64s_at hz)⟩

set_option maxRecDepth 100000 in
set_option maxHeartbeats 1000000 in
theorem bumpPlays_big (x : Sp) (A : Option Addr) (len c : Nat) (w : World) (h : 100 < len) :
    Calls Try.prog 3 #[.agg #[.int .i64 x.1, .int .i64 x.2], .slice A len c] w fun e w' => e = .returned (.bool true) ∧ Below w.heap.size w w' := by
  obtain ⟨W, hW, HB⟩ := box_name w x
  have HWE := Lib.hid hW
  clear hW
  go_enter Try.func3, Try.ntmps3
  go_wp2_with fail
  rw [HWE.out]
  go_wp2_with fail
  go_at_call 6
  refine (awake05_any _).mono ?_
  rintro e w6 ⟨rfl, ho⟩
  have HO2 := Lib.hid (HB.out.1.trans ho)
  clear ho
  go_wp2
  go_ret
  exact ⟨rfl, HO2.out.whole⟩

set_option maxRecDepth 100000 in
set_option maxHeartbeats 1000000 in
theorem bumpPlays_no (x : Sp) (A : Option Addr) (len c : Nat) (w : World) (h : len ≤ 100) (hf : Fit x) (hx : ¬ x.ok) :
    Calls Try.prog 3 #[.agg #[.int .i64 x.1, .int .i64 x.2], .slice A len c] w fun e w' => e = .returned (.bool true) ∧ Below w.heap.size w w' := by
  obtain ⟨W, hW, HB⟩ := box_name w x
  have HWE := Lib.hid hW
  have HX := Lib.hid hx
  have HD := Lib.hid (decide_eq_false hx)
  clear hW hx
  go_enter Try.func3, Try.ntmps3
  go_wp2_with fail
  rw [HWE.out]
  obtain ⟨c0, c1⟩ := HB.out.2
  go_wp2_with fail
  go_at_call 7
  refine (bNew_no x _ hf HX.out).mono ?_
  rintro e w1 ⟨rfl, o⟩
  have O1 := Lib.hid (HB.out.1.trans o)
  have B1 := Lib.hid (HB.out.2.old o)
  clear o c0 c1
  obtain ⟨c0, c1⟩ := B1.out
  go_wp2_with fail
  go_at_call 8
  refine (refMay_any x _).mono ?_
  rw [HD.out]
  rintro e w2 ⟨rfl, o⟩
  have O2 := Lib.hid (O1.out.trans o)
  clear o c0 c1
  go_wp2_with fail
  go_at_call 6
  refine (awake05_any _).mono ?_
  rintro e w6 ⟨rfl, ho⟩
  have O3 := Lib.hid (O2.out.trans ho)
  clear ho
  go_wp2
  go_ret
  exact ⟨rfl, O3.out.whole⟩

set_option maxRecDepth 100000 in
set_option maxHeartbeats 4000000 in
theorem bumpPlays_yes (x : Sp) (v : Value) (l : List Int) (w : World) (hs : Sl w w.heap.size 1 v l.length (i64s l)) (h : l.length ≤ 100) (hx : x.ok) :
    Calls Try.prog 3 #[.agg #[.int .i64 x.1, .int .i64 x.2], v] w fun e w' => e = .returned (.bool true) ∧ Below w.heap.size w w' := by
  obtain ⟨W, hW, HB⟩ := box_name w x
  have HWE := Lib.hid hW
  have HX := Lib.hid hx
  have HD := Lib.hid (decide_eq_true hx)
  have HS := Lib.hid hs
  obtain ⟨A, c, rfl, hac, ham, -⟩ := hs
  unfold maxLen at ham
  clear hW hx
  go_enter Try.func3, Try.ntmps3
  go_wp2_with fail
  rw [HWE.out]
  obtain ⟨c0, c1⟩ := HB.out.2
  go_wp2_with fail
  go_at_call 7
  refine (bNew_yes x _ HX.out).mono ?_
  rintro e w1 ⟨b, rfl, hb, hB, o⟩
  have O1 := Lib.hid o
  have HM1 := Lib.hid hB
  have B1 := Lib.hid (HB.out.2.old o)
  clear o c0 c1 hB
  obtain ⟨c0, c1⟩ := B1.out
  go_wp2_with fail
  go_at_call 8
  refine (refMay_any x _).mono ?_
  rw [HD.out]
  rintro e w2 ⟨rfl, o⟩
  have O2 := Lib.hid (O1.out.trans o)
  have HM2 := Lib.hid (HM1.out.old o)
  clear o c0 c1
  go_wp2_with fail
  go_loopw [7, 8] (fun s i wr => ∃ (k : Nat) (u : Int), k ≤ l.length ∧ i = .int .i64 k ∧ s = .int .i64 u ∧ Bm wr b x (x.1 + u) ∧ Only nob W wr) (fun _ i _ => l.length - (intOf i).toNat)
  case atStart => exact ⟨0, 0, Nat.zero_le _, rfl, rfl, by rw [Int.add_zero]; exact HM2.out, O2.out⟩
  case round =>
    obtain ⟨k, u, hk, rfl, rfl, hBm, hO⟩ := hrel
    have HM := Lib.hid hBm
    have HO := Lib.hid hO
    have HW := Lib.hid (HB.out.1.trans hO)
    obtain ⟨r0, r1, r2, r3, r4, r5, r6⟩ := hBm.range
    have r7 : 0 ≤ u := by omega
    have r8 : u ≤ x.2 := by omega
    by_cases hlt : k < l.length
    · obtain ⟨z, hz⟩ : ∃ z, l[k]? = some z := ⟨_, List.getElem?_eq_getElem hlt⟩
      obtain ⟨q, o, rfl, hq, d0⟩ := sl_int HS.out HW.out.whole hz
      have HZ := Lib.hid hz
      obtain ⟨c0, c1⟩ := HB.out.2.old hO
      clear hz hO hBm
      go_upto_if 54 with fail
      go_cut [7] (fun s wx => ∃ u' : Int, s = .int .i64 u' ∧ Bm wx b x (x.1 + u') ∧ Only nob W wx)
      case first =>
        by_cases hn : z < 0
        · by_cases hbig : -1099511627776 ≤ z
          · by_cases hok : x.1 ≤ x.1 + u + z
            · go_wp2_with fail
              go_at_call 9
              refine (bBack_yes b x (x.1 + u) (x.1 + u + z) _ HM.out hok (by omega)).mono ?_
              rintro e w3 ⟨rfl, hB3, o3⟩
              have HM3 := Lib.hid hB3
              have O3 := Lib.hid (HO.out.andThen o3 fun i hi e => by unfold isb at e; omega)
              clear hB3 o3 c0 c1
              obtain ⟨c0, c1⟩ := HB.out.2.old O3.out
              go_wp2
              go_meet
              exact ⟨u + z, ret_num (by omega), by rw [show x.1 + (u + z) = x.1 + u + z by omega]; exact HM3.out, O3.out⟩
            · have hno : x.1 + u + z < x.1 := by omega
              go_wp2_with fail
              go_at_call 9
              refine (bBack_no b x (x.1 + u) (x.1 + u + z) _ HM.out (.inl hno)).mono ?_
              rintro e w3 ⟨rfl, o3⟩
              have HM3 := Lib.hid (HM.out.old o3)
              have O3 := Lib.hid (HO.out.trans o3)
              clear o3 c0 c1
              obtain ⟨c0, c1⟩ := HB.out.2.old O3.out
              go_wp2
              go_meet
              exact ⟨u, rfl, HM3.out, O3.out⟩
          · by_cases hok : x.1 ≤ 0
            · go_wp2_with fail
              go_at_call 9
              refine (bBack_yes b x (x.1 + u) 0 _ HM.out hok (by omega)).mono ?_
              rintro e w3 ⟨rfl, hB3, o3⟩
              have HM3 := Lib.hid hB3
              have O3 := Lib.hid (HO.out.andThen o3 fun i hi e => by unfold isb at e; omega)
              clear hB3 o3 c0 c1
              obtain ⟨c0, c1⟩ := HB.out.2.old O3.out
              go_wp2
              go_meet
              exact ⟨0, ret_num (by omega), by rw [show x.1 + 0 = 0 by omega]; exact HM3.out, O3.out⟩
            · have hno : 0 < x.1 := by omega
              go_wp2_with fail
              go_at_call 9
              refine (bBack_no b x (x.1 + u) 0 _ HM.out (.inl hno)).mono ?_
              rintro e w3 ⟨rfl, o3⟩
              have HM3 := Lib.hid (HM.out.old o3)
              have O3 := Lib.hid (HO.out.trans o3)
              clear o3 c0 c1
              obtain ⟨c0, c1⟩ := HB.out.2.old O3.out
              go_wp2
              go_meet
              exact ⟨u, rfl, HM3.out, O3.out⟩
        · by_cases h0 : z = 0
          · subst h0
            go_wp2_with fail
            go_at_call 10
            refine (bTake_no b x (x.1 + u) 0 _ HM.out (.inl (by decide))).mono ?_
            rw [show tno 0 = 7 from by decide]
            rintro e w3 ⟨rfl, o3⟩
            have HM3 := Lib.hid (HM.out.old o3)
            have O3 := Lib.hid (HO.out.trans o3)
            clear o3 c0 c1
            obtain ⟨c0, c1⟩ := HB.out.2.old O3.out
            go_wp2
            go_meet
            exact ⟨u, rfl, HM3.out, O3.out⟩
          · have h0' : (z == 0) = false := by simpa using h0
            by_cases hbig : x.2 - u < z
            · have HT := Lib.hid (tno_2 (n := z) (by omega))
              go_wp2_with fail
              go_at_call 10
              refine (bTake_no b x (x.1 + u) z _ HM.out (.inr (by omega))).mono ?_
              rw [HT.out]
              rintro e w3 ⟨rfl, o3⟩
              have HM3 := Lib.hid (HM.out.old o3)
              have O3 := Lib.hid (HO.out.trans o3)
              clear o3 c0 c1
              obtain ⟨c0, c1⟩ := HB.out.2.old O3.out
              go_wp2
              go_meet
              exact ⟨u, rfl, HM3.out, O3.out⟩
            · have hbig' : z ≤ x.2 - u := by omega
              go_wp2_with fail
              go_at_call 10
              refine (bTake_yes b x (x.1 + u) z _ HM.out (by omega) (by omega)).mono ?_
              rintro e w3 ⟨rfl, hB3, o3⟩
              have HM3 := Lib.hid hB3
              have O3 := Lib.hid (HO.out.andThen o3 fun i hi e => by unfold isb at e; omega)
              clear hB3 o3 c0 c1
              obtain ⟨c0, c1⟩ := HB.out.2.old O3.out
              go_wp2
              go_meet
              exact ⟨u + z, rfl, by rw [← Int.add_assoc]; exact HM3.out, O3.out⟩
      case rest =>
        obtain ⟨u', rfl, hBm, hO⟩ := hcut
        have HM3 := Lib.hid hBm
        have O3 := Lib.hid hO
        obtain ⟨q0, q1, q2, q3, q4, q5, q6⟩ := hBm.range
        have q7 : 0 ≤ u' := by omega
        have q8 : u' ≤ x.2 := by omega
        clear c0 c1 d0 hBm hO
        obtain ⟨c0, c1⟩ := HB.out.2.old O3.out
        go_wp2_with fail
        have HU := Lib.hid (show ∀ (n : Nat) (os : Array Obj), Calls Try.prog 11 #[.pointer (some ⟨b, 0, none⟩)] (wat wc n os) fun e w' => e = .returned (.int .i64 u') ∧ Only nob (wat wc n os) w' from fun n os => by
          have h := bUsed_bm b x (x.1 + u') (wat wc n os) (HM3.out.old (only_wat wc n os))
          rwa [show x.1 + u' - x.1 = u' by omega] at h)
        have HR := Lib.hid (show ∀ (n : Nat) (os : Array Obj), Calls Try.prog 13 #[.pointer (some ⟨b, 0, none⟩)] (wat wc n os) fun e w' => e = .returned (.int .i64 (x.2 - u')) ∧ Only nob (wat wc n os) w' from fun n os => by
          have h := bRoom_bm b x (x.1 + u') (wat wc n os) (HM3.out.old (only_wat wc n os))
          rwa [show x.1 + u' - x.1 = u' by omega] at h)
        have HT := Lib.hid (show ∀ (n : Nat) (os : Array Obj), Calls Try.prog 12 #[.pointer (some ⟨b, 0, none⟩)] (wat wc n os) fun e w' => e = .returned (.int .i64 (x.1 + u')) ∧ Only nob (wat wc n os) w' from fun n os => bTop_bm b x (x.1 + u') (wat wc n os) (HM3.out.old (only_wat wc n os)))
        have g0 := wat_cell c0
        have g1 := wat_cell c1
        have s1 : IntKind.i64.wrap (x.1 + u') = x.1 + u' := IntWalk.i64_in _ (by omega)
        have s2 : IntKind.i64.wrap (x.2 - u') = x.2 - u' := IntWalk.i64_in _ (by omega)
        clear c0 c1
        refine wp_region_only mixedBm (by kernel_rfl) ?_
        repeat (quiet_step (first
          | (go_at_call 11; with_reducible refine wat_call (HU.out _ _))
          | (go_at_call 13; with_reducible refine wat_call (HR.out _ _))
          | (go_at_call 12; with_reducible refine wat_call (HT.out _ _))))
        refine wpQuiet_nil ?_
        rintro w' ⟨⟨nq, osq⟩, rfl⟩
        obtain ⟨W3, hW3, O4⟩ := wat_name wc nq osq
        rw [hW3]
        clear hW3 g0 g1 s1 s2
        have HM4 := Lib.hid (HM3.out.old O4.out)
        have O5 := Lib.hid (O3.out.trans O4.out)
        go_wp2
        go_roundw
        case rel => exact ⟨k + 1, u', by omega, by go_num, rfl, HM4.out, O5.out⟩
        case measure => simp [intOf]; omega
    · obtain rfl : k = l.length := by omega
      clear hO hBm
      go_wp2_with fail
      go_at_call 6
      refine (awake05_any _).mono ?_
      rintro e w6 ⟨rfl, ho⟩
      have HO2 := Lib.hid (HW.out.trans ho)
      clear ho
      go_wp2
      go_ret
      exact ⟨rfl, HO2.out.whole⟩

theorem bumpPlays_walk (x : Sp) (v : Value) (l : List Int) (w : World) (hs : Sl w w.heap.size 1 v l.length (i64s l)) (hf : Fit x) :
    Calls Try.prog 3 #[.agg #[.int .i64 x.1, .int .i64 x.2], v] w fun e w' => e = .returned (.bool true) ∧ Below w.heap.size w w' := by
  by_cases h : l.length ≤ 100
  · by_cases hx : x.ok
    · exact bumpPlays_yes x v l w hs h hx
    · obtain ⟨A, c, rfl, -⟩ := hs
      exact bumpPlays_no x A _ c w h hf hx
  · obtain ⟨A, c, rfl, -⟩ := hs
    exact bumpPlays_big x A _ c w (by omega)
end Go.Proofs.Ytpgkmjkickkieaa
