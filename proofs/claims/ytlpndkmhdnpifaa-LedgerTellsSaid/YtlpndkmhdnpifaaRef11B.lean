/- Contracts of the document's own answers for tables: Add, Drop. -/
import Derived.Test.YtlpndkmhdnpifaaRef11
namespace Go.Proofs.Ytlpndkmhdnpifaa
set_option maxRecDepth 100000
open Go.RowKit Go.Lib

theorem not_any_meets {l : List Sp} {s : Sp} (h : ∀ (j : Nat) y, j < l.length → l[j]? = some y → decide (Sp.meets y s) = false) : l.any (fun x => decide (Sp.meets x s)) = false := by
  rw [List.any_eq_false]
  intro x hx
  obtain ⟨j, hj, rfl⟩ := List.getElem_of_mem hx
  have := h j _ hj (List.getElem?_eq_getElem hj)
  simpa using this
theorem yes_any_meets {l : List Sp} {s x : Sp} {k : Nat} (hx : l[k]? = some x) (h : Sp.meets x s) : l.any (fun x => decide (Sp.meets x s)) = true := List.any_eq_true.2 ⟨x, List.mem_of_getElem? hx, decide_eq_true h⟩
theorem sl_top {w w' : World} {B : Nat} {v : Value} {l : List Sp} (h : Sl w B 2 v l.length (spc l)) (o : Only nob w w') (hB : B ≤ w.heap.size) : Sl w' w'.heap.size 2 v l.length (spc l) :=
  (h.below (o.below hB fun _ h => h.elim)).more (Nat.le_trans hB o.size)

def RAddP (l : List Sp) (s : Sp) (w : World) (e : Ending) (w' : World) : Prop := ∃ v', e = .returned (.tuple #[v', .int .i64 (addT l s).2]) ∧ Sl w' w'.heap.size 2 v' (addT l s).1.length (spc (addT l s).1) ∧ Only nob w w'
set_option maxHeartbeats 8000000 in
theorem rAdd (v : Value) (l : List Sp) (s : Sp) (B : Nat) (w : World) (h : Sl w B 2 v l.length (spc l)) (hB : B ≤ w.heap.size) (hl : l.length ≤ 10000) :
    Calls Try.prog 8 #[v, .agg #[.int .i64 s.1, .int .i64 s.2]] w (RAddP l s w) := by
  obtain ⟨i0, hi0, hz0, hz1, hz2⟩ := info_parts info_span
  have HA := Lib.hid h
  obtain ⟨A, ca, rfl, hac, ham, -⟩ := h
  unfold maxLen at ham
  have HB := Lib.hid (Blk.new w 24 #[.int .i64 s.1, .int .i64 s.2])
  have HO0 := Lib.hid ((Only.refl nob w).alloc (.cells #[.int .i64 s.1, .int .i64 s.2] 24))
  by_cases ho : s.ok
  · have HM := Lib.hid (decide_eq_true ho)
    have HOK := Lib.hid ho
    clear ho
    go_enter Try.func8, Try.ntmps8
    go_wp2_with fail
    go_at_call 27
    refine (refMay03_any s _).mono ?_
    rw [HM.out]
    rintro e w1 ⟨rfl, o⟩
    have HB1 := Lib.hid (HB.out.keep o id)
    have O1 := Lib.hid (HO0.out.trans o)
    clear o
    go_wp2_with fail
    go_loopw [6] (fun i wr => ∃ k : Nat, k ≤ l.length ∧ i = .int .i64 k ∧ Hid (∀ (j : Nat) y, j < k → l[j]? = some y → decide (Sp.meets y s) = false) ∧ Hid (Only nob w1 wr)) (fun i _ => l.length - (intOf i).toNat)
    case atStart => exact ⟨0, Nat.zero_le _, rfl, fun j _ hj _ => absurd hj (Nat.not_lt_zero j), Only.refl _ _⟩
    case round =>
      obtain ⟨k, hk, rfl, hno, HX⟩ := hrel
      have HOW := Lib.hid (O1.out.trans HX.out)
      have b0 := HX.out.keeps (HB1.out.cell 0)
      have b1 := HX.out.keeps (HB1.out.cell 1)
      simp at b0 b1
      by_cases hlt : k < l.length
      · obtain ⟨x, hx⟩ : ∃ x, l[k]? = some x := ⟨_, List.getElem?_eq_getElem hlt⟩
        obtain ⟨b, o, rfl, hb, c0, c1⟩ := sl_span HA.out (HOW.out.below hB fun _ h => h.elim) hx
        have HXX := Lib.hid hx
        clear hx
        by_cases hm : Sp.meets x s
        · have HD := Lib.hid (decide_eq_true hm)
          have HT := Lib.hid (addT_twice HOK.out (yes_any_meets HXX.out hm))
          clear hm
          go_wp2_with fail
          go_region_held3 (fun w' => w'.cell? ⟨b, o + k * 2, none⟩ = some (.int .i64 x.1) ∧ w'.cell? ⟨b, o + k * 2 + 1, none⟩ = some (.int .i64 x.2) ∧ w'.cell? ⟨w.heap.size, 0, none⟩ = some (.int .i64 s.1) ∧ w'.cell? ⟨w.heap.size, 1, none⟩ = some (.int .i64 s.2)) (first | go_keep | exact C1.out)
            ((go_at_call 28; refine (refMeets_any x s _).mono ?_; rw [HD.out]; rintro e w2 ⟨rfl, ho⟩; have O2 := Lib.hid ho.drewL; have C1 := Lib.hid (And.intro (ho.drewL.keeps c0) (And.intro (ho.drewL.keeps c1) (And.intro (ho.drewL.keeps b0) (ho.drewL.keeps b1)))); clear ho))
          have HOW2 := Lib.hid (HOW.out.trans O2.out)
          clear c0 c1 b0 b1
          go_wp2
          go_ret2
          exact ⟨_, by rw [HT.out]; rfl, by rw [HT.out]; exact sl_top HA.out HOW2.out hB, HOW2.out⟩
        · have HD := Lib.hid (decide_eq_false hm)
          clear hm
          go_wp2_with fail
          go_region_held3 (fun w' => w'.cell? ⟨b, o + k * 2, none⟩ = some (.int .i64 x.1) ∧ w'.cell? ⟨b, o + k * 2 + 1, none⟩ = some (.int .i64 x.2) ∧ w'.cell? ⟨w.heap.size, 0, none⟩ = some (.int .i64 s.1) ∧ w'.cell? ⟨w.heap.size, 1, none⟩ = some (.int .i64 s.2)) (first | go_keep | exact C1.out)
            ((go_at_call 28; refine (refMeets_any x s _).mono ?_; rw [HD.out]; rintro e w2 ⟨rfl, ho⟩; have O2 := Lib.hid ho.drewL; have C1 := Lib.hid (And.intro (ho.drewL.keeps c0) (And.intro (ho.drewL.keeps c1) (And.intro (ho.drewL.keeps b0) (ho.drewL.keeps b1)))); clear ho))
          have HX2 := Lib.hid (HX.out.trans O2.out)
          clear c0 c1 b0 b1
          go_wp2
          go_roundw
          case rel =>
            refine ⟨k + 1, by omega, by go_num, fun j y hj hy => ?_, HX2.out⟩
            rcases Nat.lt_or_ge j k with h' | h'
            · exact hno.out j y h' hy
            · obtain rfl : j = k := by omega
              rw [HXX.out] at hy
              obtain rfl := Option.some.inj hy
              exact HD.out
          case measure => simp [intOf]; omega
      · obtain rfl : k = l.length := by omega
        have HT := Lib.hid (addT_in HOK.out (not_any_meets hno.out))
        have HBW := Lib.hid (HB1.out.keep HX.out id)
        obtain ⟨wo, rfl⟩ : ∃ wo : World, wo = wr := ⟨_, rfl⟩
        clear b0 b1
        go_wp2_with fail
        go_loopw [7] (fun i wr => ∃ k : Nat, k ≤ l.length ∧ i = .int .i64 k ∧ Hid (∀ (j : Nat) y, j < k → l[j]? = some y → y.1 ≤ s.1) ∧ Hid (Only nob wo wr)) (fun i _ => l.length - (intOf i).toNat)
        case atStart => exact ⟨0, Nat.zero_le _, rfl, fun j _ hj _ => absurd hj (Nat.not_lt_zero j), Only.refl _ _⟩
        case round =>
          obtain ⟨k, hk, rfl, hle, HY⟩ := hrel
          have HOY := Lib.hid (HOW.out.trans HY.out)
          have b0 := HY.out.keeps (HBW.out.cell 0)
          have b1 := HY.out.keeps (HBW.out.cell 1)
          simp at b0 b1
          by_cases hgo : ∃ x, l[k]? = some x ∧ x.1 ≤ s.1
          · obtain ⟨x, hx, hxs⟩ := hgo
            obtain ⟨b, o, rfl, hb, c0, c1⟩ := sl_span HA.out (HOY.out.below hB fun _ h => h.elim) hx
            have HXX := Lib.hid hx
            have hlt : k < l.length := (List.getElem?_eq_some_iff.1 hx).1
            have HXS := Lib.hid hxs
            clear hx
            go_wp2_with fail
            go_quiet (fail)
            go_wp2
            go_roundw
            case rel =>
              refine ⟨k + 1, by omega, by go_num, fun j y hj hy => ?_, HY.out.drewN _⟩
              rcases Nat.lt_or_ge j k with h' | h'
              · exact hle.out j y h' hy
              · obtain rfl : j = k := by omega
                rw [HXX.out] at hy
                obtain rfl := Option.some.inj hy
                exact HXS.out
            case measure => simp [intOf]; omega
          · have hK : placeT l s.1 = k := by
              rcases Nat.lt_or_ge k l.length with hlt | hge
              · exact placeT_at (List.getElem?_eq_getElem hlt) (Int.lt_of_not_ge fun h => hgo ⟨_, List.getElem?_eq_getElem hlt, h⟩) hle.out
              · have e : k = l.length := by omega
                subst e
                exact placeT_end hle.out
            have HK := Lib.hid hK
            have HGO := Lib.hid hgo
            clear hK hgo
            by_cases hlt : k < l.length
            case pos =>
              obtain ⟨x, hx⟩ : ∃ x, l[k]? = some x := ⟨_, List.getElem?_eq_getElem hlt⟩
              obtain ⟨b, o, rfl, hb, c0, c1⟩ := sl_span HA.out (HOY.out.below hB fun _ h => h.elim) hx
              have hxs : ¬ x.1 ≤ s.1 := fun h => HGO.out ⟨x, hx, h⟩
              clear hx
              go_wp2_with fail
              go_quiet (fail)
              clear c0 c1
              obtain ⟨W2, hW2⟩ : ∃ W2, W2 = wr.drewN nq := ⟨_, rfl⟩
              have O2 := Lib.hid (show Only nob w W2 by rw [hW2]; exact HOY.out.drewN _)
              have HB2 := Lib.hid (show Blk W2 w.heap.size 24 #[.int .i64 s.1, .int .i64 s.2] by rw [hW2]; exact HBW.out.keep (HY.out.drewN _) id)
              rw [← hW2]
              clear hW2 b0 b1
              have ST := Lib.hid (sl_take HA.out hk)
              have SD := Lib.hid (sl_drop HA.out hk)
              have hcutA := run_cut_h Try.underlying22 hi0 (some ⟨b, o, none⟩) l.length ca k (by omega)
              have hcutB := run_cut_l Try.underlying22 hi0 (some ⟨b, o, none⟩) l.length ca k hk
              rw [hz1] at hcutA hcutB
              go_wp2_with (with_reducible refine wpList_append_sl (o := ⟨some 46, _, _, _, _, _⟩) _ rfl (.tmp 42) (.tmp 45) _ rfl W2.heap.size 24 i0 _ 2 16 Try.underlying22 hi0 hz0 hz1 hz2 rfl (by decide) (.slice (some ⟨W2.heap.size, 0, none⟩) 0 0) 0 [] rfl ?c1 B (cutv (some ⟨b, o, none⟩) 0 k ca 2) k (spc (l.take k)) rfl ?c2 (spc_one _) ?c3 ?c4 ?c5 ?c6)
              case c1 => exact lit_own W2 _ _
              case c2 => exact ST.out.below ((O2.out.alloc _).below hB fun _ h => h.elim)
              case c3 => unfold maxLen; omega
              case c4 => omega
              case c5 => simp
              case c6 =>
                intro v1 w3 H1 o1 _
                have O3 := Lib.hid (lit_only o1)
                have HW1 := Lib.hid (show w3.ownsRow W2.heap.size 24 2 v1 k (spc (l.take k)) by simpa using H1.out)
                have HB3 := Lib.hid (HB2.out.keep O3.out id)
                have HQ3 := Lib.hid (Blk.new w3 24 #[.int .i64 s.1, .int .i64 s.2])
                obtain ⟨A1, c1', rfl, hk1, hk2⟩ := own_len HW1.out
                unfold maxLen at hk2
                have b0 := HB3.out.cell 0
                have b1 := HB3.out.cell 1
                simp at b0 b1
                have hz3 : W2.heap.size ≤ w3.heap.size := O3.out.size
                clear o1 H1 hcutA
                go_wp2_with (with_reducible refine wpList_append_sl (o := ⟨some 50, _, _, _, _, _⟩) _ rfl (.tmp 47) (.tmp 49) _ rfl W2.heap.size 24 i0 _ 2 16 Try.underlying22 hi0 hz0 hz1 hz2 rfl (by decide) (.slice A1 k c1') k (spc (l.take k)) rfl ?c7 (w3.heap.size + 1) (.slice (some ⟨w3.heap.size, 0, none⟩) 1 1) 1 (spc [s]) rfl ?c8 (spc_one _) ?c9 ?c10 ?c11 ?c12)
                case c7 => exact own_only HW1.out ((Only.refl nob w3).alloc _) fun _ _ h => h
                case c8 => exact (Sl.of_blk (size := 2) (n := 1) (c := 1) HQ3.out rfl (Nat.le_refl _) (by decide)).more (by simp)
                case c9 => unfold maxLen; omega
                case c10 => omega
                case c11 => simp; omega
                case c12 =>
                  intro v2 w4 H2 o2 _
                  have O4 := Lib.hid (own_nob (O3.out.alloc (.cells #[.int .i64 s.1, .int .i64 s.2] 24)) (own_only HW1.out ((Only.refl nob w3).alloc _) fun _ _ h => h) o2 (Nat.le_refl _))
                  have HW2 := Lib.hid (show w4.ownsRow W2.heap.size 24 2 v2 (k + 1) (spc (l.take k ++ [s])) by rw [spc_append]; exact H2.out)
                  obtain ⟨A2, c2', rfl, hk3, hk4⟩ := own_len HW2.out
                  unfold maxLen at hk4
                  have hz4 : W2.heap.size ≤ w4.heap.size := O4.out.size
                  clear o2 H2 b0 b1
                  go_wp2_with (with_reducible refine wpList_append_sl (o := ⟨some 55, _, _, _, _, _⟩) _ rfl (.tmp 51) (.tmp 54) _ rfl W2.heap.size 24 i0 _ 2 16 Try.underlying22 hi0 hz0 hz1 hz2 rfl (by decide) (.slice A2 (k + 1) c2') (k + 1) (spc (l.take k ++ [s])) rfl ?c13 B (cutv (some ⟨b, o, none⟩) k l.length ca 2) (l.length - k) (spc (l.drop k)) rfl ?c14 (spc_one _) ?c15 ?c16 ?c17 ?c18)
                  case c13 => exact HW2.out
                  case c14 => exact SD.out.below ((O2.out.trans O4.out).below hB fun _ h => h.elim)
                  case c15 => unfold maxLen; omega
                  case c16 => omega
                  case c17 => exact hz4
                  case c18 =>
                    intro v3 w5 H3 o3 _
                    have O5 := Lib.hid (O2.out.trans (own_nob O4.out HW2.out o3 (Nat.le_refl _)))
                    have HW3 := Lib.hid (show Sl w5 w5.heap.size 2 v3 (insAt l k s).length (spc (insAt l k s)) by
                      have h1 := Sl.of_own H3.out H3.out.1
                      rw [← spc_append, List.append_assoc] at h1
                      rw [insAt_len s hk, show l.length + 1 = k + 1 + (l.length - k) by omega]
                      exact h1)
                    clear o3 H3
                    go_wp2
                    go_ret2
                    exact ⟨v3, by rw [HT.out]; rfl, by rw [HT.out, HK.out]; exact HW3.out, O5.out⟩
            case neg =>
              go_wp2_with fail
              go_quiet (fail)
              obtain ⟨W2, hW2⟩ : ∃ W2, W2 = wr.drewN nq := ⟨_, rfl⟩
              have O2 := Lib.hid (show Only nob w W2 by rw [hW2]; exact HOY.out.drewN _)
              have HB2 := Lib.hid (show Blk W2 w.heap.size 24 #[.int .i64 s.1, .int .i64 s.2] by rw [hW2]; exact HBW.out.keep (HY.out.drewN _) id)
              rw [← hW2]
              clear hW2 b0 b1
              have ST := Lib.hid (sl_take HA.out hk)
              have SD := Lib.hid (sl_drop HA.out hk)
              have hcutA := run_cut_h Try.underlying22 hi0 A l.length ca k (by omega)
              have hcutB := run_cut_l Try.underlying22 hi0 A l.length ca k hk
              rw [hz1] at hcutA hcutB
              go_wp2_with (with_reducible refine wpList_append_sl (o := ⟨some 46, _, _, _, _, _⟩) _ rfl (.tmp 42) (.tmp 45) _ rfl W2.heap.size 24 i0 _ 2 16 Try.underlying22 hi0 hz0 hz1 hz2 rfl (by decide) (.slice (some ⟨W2.heap.size, 0, none⟩) 0 0) 0 [] rfl ?d1 B (cutv A 0 k ca 2) k (spc (l.take k)) rfl ?d2 (spc_one _) ?d3 ?d4 ?d5 ?d6)
              case d1 => exact lit_own W2 _ _
              case d2 => exact ST.out.below ((O2.out.alloc _).below hB fun _ h => h.elim)
              case d3 => unfold maxLen; omega
              case d4 => omega
              case d5 => simp
              case d6 =>
                intro v1 w3 H1 o1 _
                have O3 := Lib.hid (lit_only o1)
                have HW1 := Lib.hid (show w3.ownsRow W2.heap.size 24 2 v1 k (spc (l.take k)) by simpa using H1.out)
                have HB3 := Lib.hid (HB2.out.keep O3.out id)
                have HQ3 := Lib.hid (Blk.new w3 24 #[.int .i64 s.1, .int .i64 s.2])
                obtain ⟨A1, c1', rfl, hk1, hk2⟩ := own_len HW1.out
                unfold maxLen at hk2
                have b0 := HB3.out.cell 0
                have b1 := HB3.out.cell 1
                simp at b0 b1
                have hz3 : W2.heap.size ≤ w3.heap.size := O3.out.size
                clear o1 H1 hcutA
                go_wp2_with (with_reducible refine wpList_append_sl (o := ⟨some 50, _, _, _, _, _⟩) _ rfl (.tmp 47) (.tmp 49) _ rfl W2.heap.size 24 i0 _ 2 16 Try.underlying22 hi0 hz0 hz1 hz2 rfl (by decide) (.slice A1 k c1') k (spc (l.take k)) rfl ?d7 (w3.heap.size + 1) (.slice (some ⟨w3.heap.size, 0, none⟩) 1 1) 1 (spc [s]) rfl ?d8 (spc_one _) ?d9 ?d10 ?d11 ?d12)
                case d7 => exact own_only HW1.out ((Only.refl nob w3).alloc _) fun _ _ h => h
                case d8 => exact (Sl.of_blk (size := 2) (n := 1) (c := 1) HQ3.out rfl (Nat.le_refl _) (by decide)).more (by simp)
                case d9 => unfold maxLen; omega
                case d10 => omega
                case d11 => simp; omega
                case d12 =>
                  intro v2 w4 H2 o2 _
                  have O4 := Lib.hid (own_nob (O3.out.alloc (.cells #[.int .i64 s.1, .int .i64 s.2] 24)) (own_only HW1.out ((Only.refl nob w3).alloc _) fun _ _ h => h) o2 (Nat.le_refl _))
                  have HW2 := Lib.hid (show w4.ownsRow W2.heap.size 24 2 v2 (k + 1) (spc (l.take k ++ [s])) by rw [spc_append]; exact H2.out)
                  obtain ⟨A2, c2', rfl, hk3, hk4⟩ := own_len HW2.out
                  unfold maxLen at hk4
                  have hz4 : W2.heap.size ≤ w4.heap.size := O4.out.size
                  clear o2 H2 b0 b1
                  go_wp2_with (with_reducible refine wpList_append_sl (o := ⟨some 55, _, _, _, _, _⟩) _ rfl (.tmp 51) (.tmp 54) _ rfl W2.heap.size 24 i0 _ 2 16 Try.underlying22 hi0 hz0 hz1 hz2 rfl (by decide) (.slice A2 (k + 1) c2') (k + 1) (spc (l.take k ++ [s])) rfl ?d13 B (cutv A k l.length ca 2) (l.length - k) (spc (l.drop k)) rfl ?d14 (spc_one _) ?d15 ?d16 ?d17 ?d18)
                  case d13 => exact HW2.out
                  case d14 => exact SD.out.below ((O2.out.trans O4.out).below hB fun _ h => h.elim)
                  case d15 => unfold maxLen; omega
                  case d16 => omega
                  case d17 => exact hz4
                  case d18 =>
                    intro v3 w5 H3 o3 _
                    have O5 := Lib.hid (O2.out.trans (own_nob O4.out HW2.out o3 (Nat.le_refl _)))
                    have HW3 := Lib.hid (show Sl w5 w5.heap.size 2 v3 (insAt l k s).length (spc (insAt l k s)) by
                      have h1 := Sl.of_own H3.out H3.out.1
                      rw [← spc_append, List.append_assoc] at h1
                      rw [insAt_len s hk, show l.length + 1 = k + 1 + (l.length - k) by omega]
                      exact h1)
                    clear o3 H3
                    go_wp2
                    go_ret2
                    exact ⟨v3, by rw [HT.out]; rfl, by rw [HT.out, HK.out]; exact HW3.out, O5.out⟩
  · have HM := Lib.hid (decide_eq_false ho)
    have HT := Lib.hid (addT_arg (l := l) ho)
    clear ho
    go_enter Try.func8, Try.ntmps8
    go_wp2_with fail
    go_at_call 27
    refine (refMay03_any s _).mono ?_
    rw [HM.out]
    rintro e w1 ⟨rfl, o⟩
    have O1 := Lib.hid (HO0.out.trans o)
    clear o
    go_wp2
    go_ret2
    exact ⟨_, by rw [HT.out]; rfl, by rw [HT.out]; exact sl_top HA.out O1.out hB, O1.out⟩

def DropP (l : List Sp) (a : Int) (w : World) (e : Ending) (w' : World) : Prop := ∃ v', e = .returned (.tuple #[v', .agg #[.int .i64 (dropT l a).2.1.1, .int .i64 (dropT l a).2.1.2], .int .i64 (dropT l a).2.2]) ∧ Sl w' w'.heap.size 2 v' (dropT l a).1.length (spc (dropT l a).1) ∧ Only nob w w'
theorem two_set {w w' : World} {g : Nat} (h : Only nob w w') (hg : w.heap.size ≤ g) (x y : Value) : Only nob w ((w'.setCell ⟨g, 0, none⟩ x).setCell ⟨g, 1, none⟩ y) :=
  (h.setCell (p := ⟨g, 0, none⟩) (fun h => absurd h (Nat.not_lt_of_le hg)) x).setCell (p := ⟨g, 1, none⟩) (fun h => absurd h (Nat.not_lt_of_le hg)) y
theorem only_set2 (w : World) (g : Nat) (x y : Value) : Only (isb g) w ((w.setCell ⟨g, 0, none⟩ x).setCell ⟨g, 1, none⟩ y) := (only_set w g 0 x).trans (only_set _ g 1 y)
theorem size_set2 (w : World) (g : Nat) (x y : Value) : ((w.setCell ⟨g, 0, none⟩ x).setCell ⟨g, 1, none⟩ y).heap.size = w.heap.size := by simp [World.setCell]
set_option maxHeartbeats 8000000 in
theorem rDrop (v : Value) (l : List Sp) (a : Int) (B : Nat) (w : World) (h : Sl w B 2 v l.length (spc l)) (hB : B ≤ w.heap.size) (hl : l.length ≤ 10000) :
    Calls Try.prog 10 #[v, .int .i64 a] w (DropP l a w) := by
  obtain ⟨i0, hi0, hz0, hz1, hz2⟩ := info_parts info_span
  have HA := Lib.hid h
  obtain ⟨A, ca, rfl, hac, ham, -⟩ := h
  unfold maxLen at ham
  obtain ⟨W1, hW1⟩ : ∃ W1, W1 = w.alloc (.cells #[.int .i64 0, .int .i64 0] 24) := ⟨_, rfl⟩
  have HB := Lib.hid (show Blk W1 w.heap.size 24 #[.int .i64 0, .int .i64 0] by rw [hW1]; exact Blk.new w _ _)
  have O0 := Lib.hid (show Only nob w W1 by rw [hW1]; exact (Only.refl nob w).alloc _)
  have HWE := Lib.hid hW1
  clear hW1
  obtain ⟨i, hi⟩ : ∃ i, i = findT l a := ⟨_, rfl⟩
  have HI := Lib.hid hi
  clear hi
  by_cases hlt : i < 0
  · have HT := Lib.hid (dropT_none (l := l) (a := a) (by rw [← HI.out]; exact hlt))
    have c0 := HB.out.cell 0
    have c1 := HB.out.cell 1
    have f0 := HB.out.free 0
    have f1 := HB.out.free 1
    simp at c0 c1
    go_enter Try.func10, Try.ntmps10
    go_wp2_with fail
    rw [← HWE.out]
    go_at_call 13
    refine (rFind _ l a B _ (HA.out.below (O0.out.below hB fun _ h => h.elim))).mono ?_
    rw [← HI.out]
    rintro e w2 ⟨rfl, rfl⟩
    go_wp2_with fail
    have B5 := (HB.out.put 0 (.int .i64 0)).put 1 (.int .i64 0)
    have h0 := B5.cell 0
    have h1 := B5.cell 1
    simp at h0 h1
    refine bodyPost_ret (v := .tuple #[.slice A l.length ca, .agg #[.int .i64 0, .int .i64 0], .int .i64 2]) (by simp [results, Try.results10, go_sem, h0, h1]) rfl ⟨_, by rw [HT.out], ?_, two_set O0.out (Nat.le_refl _) _ _⟩
    rw [HT.out]
    exact sl_top HA.out (two_set O0.out (Nat.le_refl _) _ _) hB
  · obtain ⟨k, x, hk, hx, hxa, hd⟩ := dropT_some (l := l) (a := a) (by rw [← HI.out]; exact hlt)
    rw [← HI.out] at hk
    obtain rfl := hk
    have HT := Lib.hid hd
    have HX := Lib.hid hx
    have hkl : k < l.length := (List.getElem?_eq_some_iff.1 hx).1
    clear hd hx hxa
    have ST := Lib.hid (sl_take HA.out (show k ≤ l.length by omega))
    have SD := Lib.hid (sl_drop HA.out (show k + 1 ≤ l.length by omega))
    have hcutA := run_cut_h Try.underlying22 hi0 A l.length ca k (by omega)
    have hcutB : ∀ w, (Instr.sliceAt 22 (.slice A l.length ca) (some (.int .i64 ((k : Int) + 1))) none none).run Try.prog w = .ok (cutv A (k + 1) l.length ca 2) w := fun w => by
      have := run_cut_l Try.underlying22 hi0 A l.length ca (k + 1) (by omega) w
      rw [hz1] at this
      exact this
    rw [hz1] at hcutA
    have hzw : W1.heap.size = w.heap.size + 1 := by rw [HWE.out]; simp
    have HZW := Lib.hid hzw
    clear hzw
    go_enter Try.func10, Try.ntmps10
    go_wp2_with fail
    rw [← HWE.out]
    go_at_call 13
    refine (rFind _ l a B _ (HA.out.below (O0.out.below hB fun _ h => h.elim))).mono ?_
    rw [← HI.out]
    rintro e w2 ⟨rfl, rfl⟩
    go_wp2_with (with_reducible refine wpList_append_sl (o := ⟨some 20, _, _, _, _, _⟩) _ rfl (.tmp 16) (.tmp 19) _ rfl W1.heap.size 24 i0 _ 2 16 Try.underlying22 hi0 hz0 hz1 hz2 rfl (by decide) (.slice (some ⟨W1.heap.size, 0, none⟩) 0 0) 0 [] rfl ?c1 B (cutv A 0 k ca 2) k (spc (l.take k)) rfl ?c2 (spc_one _) ?c3 ?c4 ?c5 ?c6)
    case c1 => exact lit_own W1 _ _
    case c2 => exact ST.out.below ((O0.out.alloc _).below hB fun _ h => h.elim)
    case c3 => unfold maxLen; omega
    case c4 => omega
    case c5 => simp
    case c6 =>
      intro v1 w3 H1 o1 _
      have O3 := Lib.hid (lit_only o1)
      have OW3 := Lib.hid (O0.out.trans O3.out)
      have HW1 := Lib.hid (show w3.ownsRow W1.heap.size 24 2 v1 k (spc (l.take k)) by simpa using H1.out)
      have HB3 := Lib.hid (HB.out.keep O3.out id)
      obtain ⟨A1, c1', rfl, hk1, hk2⟩ := own_len HW1.out
      unfold maxLen at hk2
      have hz3 : W1.heap.size ≤ w3.heap.size := O3.out.size
      obtain ⟨b, oo, rfl, hb, d0, d1⟩ := sl_span HA.out (OW3.out.below hB fun _ h => h.elim) HX.out
      have hbr : b ≠ w.heap.size := by omega
      have hbr2 : w.heap.size ≠ b := by omega
      have hbw : b < w3.heap.size := by have := HZW.out; omega
      have hw1 : IntKind.i64.wrap ((k : Int) + 1) = (k : Int) + 1 := by rw [IntKind.wrap_i64]; omega
      have hb1 : (0 : Int) ≤ (k : Int) + 1 := by omega
      have hb3 : (k : Int) + 1 ≤ (l.length : Int) := by omega
      have htn : ((k : Int) + 1).toNat = k + 1 := by omega
      clear o1 H1 hcutA
      go_wp2_with fail
      go_region_held3 (fun w' => w'.cell? ⟨b, oo + k * 2, none⟩ = some (.int .i64 x.1) ∧ w'.cell? ⟨b, oo + k * 2 + 1, none⟩ = some (.int .i64 x.2)) (first | go_keep | exact C1.out)
        ((refine step_append_sl _ (by rfl) _ _ _ (by rfl) W1.heap.size 24 i0 _ 2 16 Try.underlying22 hi0 hz0 hz1 hz2 (by rfl) (by decide) (.slice A1 k c1') k (spc (l.take k)) (by rfl) (own_heap HW1.out rfl) B (cutv (some ⟨b, oo, none⟩) (k + 1) l.length ca 2) (l.length - (k + 1)) (spc (l.drop (k + 1))) (by rfl) ((SD.out.below (OW3.out.below hB fun _ h => h.elim)).heap rfl) (spc_one _) (by unfold maxLen; omega) (by omega) (by simpa using hz3) ?_
          intro v2 w4 H2 q3 _
          have q4 := q3.drewL
          have C1 := Lib.hid (And.intro ((q4.cell (p := ⟨b, oo + k * 2, none⟩) hbw (fun he => by have h1 := (own_lt HW1.out he).1; have := HZW.out; simp only at h1; omega)).trans d0) ((q4.cell (p := ⟨b, oo + k * 2 + 1, none⟩) hbw (fun he => by have h1 := (own_lt HW1.out he).1; have := HZW.out; simp only at h1; omega)).trans d1))
          have O4 := Lib.hid (O0.out.trans (own_nob O3.out HW1.out q4 (Nat.le_refl _)))
          have HW2 := Lib.hid (show w4.ownsRow W1.heap.size 24 2 v2 (k + (l.length - (k + 1))) (spc (l.take k ++ l.drop (k + 1))) by rw [spc_append]; exact H2.out)
          have HR4 := Lib.hid (HB3.out.keep q4 (fun he => by have h1 := (own_lt HW1.out he).1; have := HZW.out; omega))
          have r0 := HR4.out.cell 0
          have r1 := HR4.out.cell 1
          have rf0 := HR4.out.free 0
          have rf1 := HR4.out.free 1
          simp at r0 r1
          clear H2 q3 q4))
      all_goals
        go_wp2_with fail
        have B5 := (HR4.out.put 0 (.int .i64 x.1)).put 1 (.int .i64 x.2)
        have h0 := B5.cell 0
        have h1 := B5.cell 1
        simp at h0 h1
        refine bodyPost_ret (v := .tuple #[v2, .agg #[.int .i64 x.1, .int .i64 x.2], .int .i64 0]) (by simp [results, Try.results10, go_sem, h0, h1]) rfl ⟨_, by rw [HT.out], ?_, two_set O4.out (Nat.le_refl _) _ _⟩
        rw [HT.out]
        have hel : (l.eraseIdx k).length = k + (l.length - (k + 1)) := by rw [List.length_eraseIdx, if_pos hkl]; omega
        have h2 := own_only HW2.out (only_set2 w4 w.heap.size (.int .i64 x.1) (.int .i64 x.2)) (fun q e he => by unfold isb at he; have h1 := (own_lt HW2.out e).1; have := HZW.out; omega)
        have h3 := Sl.of_own h2 h2.1
        rw [hel, erase_at]
        exact h3
end Go.Proofs.Ytlpndkmhdnpifaa
