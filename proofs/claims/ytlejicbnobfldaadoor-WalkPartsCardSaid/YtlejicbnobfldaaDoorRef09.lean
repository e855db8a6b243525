/- Contract of the document's own Walk. -/
import Derived.Test.YtlejicbnobfldaaDoorWalk
import Derived.Test.YtlejicbnobfldaaDoorInts
import Derived.Test.YtlejicbnobfldaaDoorRef03A
import Derived.Test.YtlejicbnobfldaaDoorRef08
namespace Go.Proofs.YtlejicbnobfldaaDoor
open Go.RowKit
set_option maxRecDepth 100000

/-- A walk of an arena's words has few steps. -/
theorem walkL_few (l : List Nat) (x : Sp) (top : Int) : (walkL (hAr l) x top).length ≤ l.length + 1 := by
  have key : ∀ a, 0 ≤ a → (tr (hAr l) top a).length ≤ ((l.length : Int) - a).toNat + 1 := by
    intro a
    refine tr_ind (hAr_ok l) top (P := fun a => 0 ≤ a → (tr (hAr l) top a).length ≤ ((l.length : Int) - a).toNat + 1) ?_ ?_ ?_ a
    · intro a ha _
      rw [tr_end ha]; simp
    · intro a ha hs _
      rw [tr_err ha hs]; simp
    · intro a ha hs ih h0
      have hz := sw_zero hs
      have ho := osz_pos (hAr_ok l) hz.1
      have hb := oh_bounds (show ohE l a = 0 from hz.1)
      have hoz : osz (hAr l) a = 1 + ohF l a + ohR l a := rfl
      have := ih (by omega)
      rw [tr_ok (hAr_ok l) ha hs]
      simp only [List.length_cons]
      omega
  unfold walkL
  split
  · rename_i hm
    have h0 : 0 ≤ x.1 := hm.1.1
    have := key x.1 h0
    omega
  · simp

set_option maxHeartbeats 4000000 in
theorem rWalk_yes (v : Value) (B : Nat) (l : List Nat) (x : Sp) (top : Int) (w : World) (h : Sl w B 1 v l.length (u64s l)) (hB : B ≤ w.heap.size) (hw : Words l) (hl : l.length ≤ 98304) (hm : may9 x top) :
    Calls Tryd.prog 10 #[v, .agg #[.int .i64 x.1, .int .i64 x.2], .int .i64 top] w fun e w' => ∃ v', e = .returned (.tuple #[v', .int .i64 (wkP (walkL (hAr l) x top) top), .int .i64 (wkE (walkL (hAr l) x top))]) ∧
      w'.ownsRow w.heap.size 3 1 v' (wkL (walkL (hAr l) x top)).length (i64s (wkL (walkL (hAr l) x top))) ∧ Only nob w w' := by
  obtain ⟨i0, hi0, hz0, hz1, hz2⟩ := info_parts info_int
  have HA := Lib.hid h
  have HW := Lib.hid hw
  have HFEW := Lib.hid (walkL_few l x top)
  have HWL := Lib.hid (show walkL (hAr l) x top = tr (hAr l) top x.1 from if_pos hm)
  have HMAY := Lib.hid (show decide x.ok = true from decide_eq_true hm.1)
  obtain ⟨hm1, hm2, hm3⟩ := hm
  unfold Sp.ok most at hm1
  obtain ⟨A, ca, rfl, hac, ham, -⟩ := h
  unfold maxLen at ham
  obtain ⟨w1, hw1, HB⟩ : ∃ w1, w.alloc (.cells #[.int .i64 x.1, .int .i64 x.2] 24) = w1 ∧ Hid (Only nob w w1 ∧ Blk w1 w.heap.size 24 #[.int .i64 x.1, .int .i64 x.2]) := ⟨_, rfl, Lib.hid ⟨(Only.refl nob w).alloc _, Blk.new _ _ _⟩⟩
  have HW1 := Lib.hid hw1
  have c0 := HB.out.2.cell 0
  have c1 := HB.out.2.cell 1
  simp at c0 c1
  clear hw1 hw
  go_enter Tryd.func10, Tryd.ntmps10
  go_wp2_with fail
  rw [HW1.out]
  go_at_call 23
  refine (refMay03_any x _).mono ?_
  rw [HMAY.out]
  rintro e w2 ⟨rfl, o⟩
  have O2 := Lib.hid (HB.out.1.trans o)
  have c0' := o.keeps c0
  have c1' := o.keeps c1
  clear o c0 c1
  go_wp2_with fail
  go_loopw [9, 10] (fun out at_ wr => ∃ (a : Int) (pre : List It), at_ = .int .i64 a ∧ x.1 ≤ a ∧ a ≤ top ∧ Hid (pre ++ tr (hAr l) top a = tr (hAr l) top x.1) ∧ Hid (∀ y ∈ pre, y.e = 0) ∧ Hid (wr.ownsRow w.heap.size 3 1 out (ats pre).length (i64s (ats pre))) ∧ Hid (Only nob w wr)) (fun _ s _ => (top - intOf s).toNat)
  case atStart => exact ⟨x.1, [], rfl, Int.le_refl _, hm2, rfl, Lib.hid (fun _ h => by cases h), World.ownsRow_nil _ _ _ _, O2⟩
  case round =>
    clear c0' c1' O2
    obtain ⟨a, pre, rfl, ha1, ha2, HP, HOK, HR, HO⟩ := hrel
    have hwr : w.heap.size ≤ wr.heap.size := HO.out.size
    by_cases hat : a < top
    · have HRH := Lib.hid (rHead_any (.slice A l.length ca) B l a wr (HA.out.only HO.out hB (fun _ h => h.elim)) (by omega) HW.out hl)
      have hlp : (ats pre).length ≤ 98305 := by
        have h1 := HFEW.out
        rw [HWL.out, ← HP.out, List.length_append] at h1
        rw [ats_len]; omega
      have HSTEP := Lib.hid (show ∀ z, (z = item (hAr l) top a) → swE (hAr l) top a ≠ 0 → walkL (hAr l) x top = pre ++ z :: [] from fun z hz hs => by
        rw [HWL.out, ← HP.out, tr_err hat hs, hz])
      by_cases h0 : ohE l a = 0
      · have HE0 := Lib.hid h0
        have hb := oh_bounds h0
        obtain ⟨s, hs⟩ : ∃ s : Int, s = 1 + ohF l a + ohR l a := ⟨_, rfl⟩
        have HS := Lib.hid ((hSz_yes hb.2.2.2.2.2.2).trans hs.symm)
        have HOZ := Lib.hid (show osz (hAr l) a = s from hs.symm)
        have hs1 : 1 ≤ s ∧ s ≤ 8193 := by omega
        clear hb hs h0
        by_cases hf : top < a + s
        · have HSW := Lib.hid (show swE (hAr l) top a = 2 from sw_far HE0.out (by rw [HOZ.out]; omega))
          have HWE := Lib.hid (show walkL (hAr l) x top = pre ++ item (hAr l) top a :: [] from HSTEP.out _ rfl (by rw [HSW.out]; decide))
          obtain ⟨k1, k2, k3⟩ := wk_no (R := []) (y := item (hAr l) top a) HOK.out (by rw [item_e, HSW.out]; decide) top
          rw [← HWE.out, item_e, HSW.out] at k2
          rw [← HWE.out, item_at] at k1
          rw [← HWE.out] at k3
          have HK1 := Lib.hid k1
          have HK2 := Lib.hid k2
          have HK3 := Lib.hid k3
          clear k1 k2 k3
          go_wp2_with fail
          go_at_call 24
          refine HRH.out.mono ?_
          rw [HE0.out]
          rintro e w3 ⟨rfl, o3⟩
          obtain ⟨W3, hW3, HB3⟩ := box_head w3 (ohK l a) (ohF l a) (ohR l a) (ohM l a) (ohC l a)
          have HW3 := Lib.hid hW3
          have O3 := Lib.hid (HO.out.trans (o3.trans HB3.out.1))
          clear hW3 o3
          go_upto_region 9 with fail
          rw [HW3.out]
          obtain ⟨c0, c1, c2, c3, c4⟩ := cells5 HB3.out.2
          go_wp2_with fail
          go_at_call 25
          refine (refSize07_any _ _ _ _ _ _).mono ?_
          rw [HS.out]
          rintro e w4 ⟨rfl, o⟩
          have O4 := Lib.hid (O3.out.trans o)
          clear o c0 c1 c2 c3 c4
          go_wp2
          refine bodyPost_ret (v := .tuple #[.slice none 0 0, .int .i64 a, .int .i64 2]) (by simp [results, Tryd.results10, go_sem]) rfl ?_
          exact ⟨_, by rw [HK1.out, HK2.out], by rw [HK3.out]; exact World.ownsRow_nil _ _ _ _, O4.out⟩
        · have HSW := Lib.hid (show swE (hAr l) top a = 0 from sw_ok HE0.out (by rw [HOZ.out]; omega))
          have HP2 := Lib.hid (show (pre ++ [item (hAr l) top a]) ++ tr (hAr l) top (a + s) = tr (hAr l) top x.1 by
            rw [← HP.out, tr_ok (hAr_ok l) hat HSW.out, HOZ.out, List.append_assoc]; rfl)
          have HOK2 := Lib.hid (show ∀ y ∈ pre ++ [item (hAr l) top a], y.e = 0 from fun y hy => by
            rcases List.mem_append.1 hy with h | h
            · exact HOK.out y h
            · rw [List.mem_singleton.1 h, item_e]; exact HSW.out)
          have HAT := Lib.hid (show i64s (ats (pre ++ [item (hAr l) top a])) = i64s (ats pre) ++ i64s [a] ∧ (ats (pre ++ [item (hAr l) top a])).length = (ats pre).length + 1 by
            rw [ats_snoc, item_at]; exact ⟨i64s_append _ _, by rw [List.length_append]; rfl⟩)
          obtain ⟨n, hn⟩ : ∃ n, n = (ats pre).length := ⟨_, rfl⟩
          rw [← hn] at HR HAT hlp
          obtain ⟨A1, c1', rfl, hc1, hm1'⟩ := own_len HR.out
          unfold maxLen at hm1'
          clear hn
          go_wp2_with fail
          go_at_call 24
          refine HRH.out.mono ?_
          rw [HE0.out]
          rintro e w3 ⟨rfl, o3⟩
          obtain ⟨W3, hW3, HB3⟩ := box_head w3 (ohK l a) (ohF l a) (ohR l a) (ohM l a) (ohC l a)
          have HW3 := Lib.hid hW3
          have O3 := Lib.hid (HO.out.trans (o3.trans HB3.out.1))
          have HR3 := Lib.hid (own_only HR.out (o3.trans HB3.out.1) fun _ _ h => h)
          clear hW3 o3
          go_upto_region 9 with fail
          rw [HW3.out]
          obtain ⟨c0, c1, c2, c3, c4⟩ := cells5 HB3.out.2
          go_wp2_with fail
          go_at_call 25
          refine (refSize07_any _ _ _ _ _ _).mono ?_
          rw [HS.out]
          rintro e w4 ⟨rfl, o⟩
          have O4 := Lib.hid (O3.out.trans o)
          have HR4 := Lib.hid (own_only HR3.out o fun _ _ h => h)
          have hw4 : w.heap.size ≤ w4.heap.size := O4.out.size
          clear o c0 c1 c2 c3 c4
          go_wp2_with (with_reducible refine wpList_append_sl (o := ⟨some 58, _, _, _, _, _⟩) _ rfl (.tmp 55) (.tmp 57) _ rfl w.heap.size 3 i0 _ 1 8 Tryd.underlying25 hi0 hz0 hz1 hz2 rfl (by decide) (.slice A1 n c1') n (i64s (ats pre)) rfl ?d1 (w4.heap.size + 1) (.slice (some ⟨w4.heap.size, 0, none⟩) 1 1) 1 (i64s [a]) rfl ?d6 (i64s_one _) ?d2 ?d3 ?d4 ?d5)
          case d1 => exact HR4.out.alloc _
          case d6 =>
            have := Sl.of_blk (size := 1) (n := 1) (c := 1) (Blk.new w4 3 #[.int .i64 a]) rfl (Nat.le_refl _) (by decide)
            simpa [i64s] using this
          case d2 => unfold maxLen; omega
          case d3 => omega
          case d4 => simp; omega
          case d5 =>
            intro v1 w5 H1 o1 _
            have HO5 := Lib.hid (own_nob (O4.out.alloc (.cells #[.int .i64 a] 3)) (HR4.out.alloc (.cells #[.int .i64 a] 3)) o1 (Nat.le_refl _))
            have HR5 := Lib.hid (show w5.ownsRow w.heap.size 3 1 v1 (ats (pre ++ [item (hAr l) top a])).length (i64s (ats (pre ++ [item (hAr l) top a]))) by
              rw [HAT.out.1, HAT.out.2]; exact H1.out)
            clear H1 o1
            go_wp2
            go_roundw
            case rel => exact ⟨a + s, _, rfl, by omega, by omega, HP2, HOK2, HR5, HO5⟩
            case measure => simp [intOf]; omega
      · have HSW := Lib.hid (show swE (hAr l) top a = ohE l a from sw_head h0)
        have HWE := Lib.hid (show walkL (hAr l) x top = pre ++ item (hAr l) top a :: [] from HSTEP.out _ rfl (by rw [HSW.out]; exact h0))
        obtain ⟨k1, k2, k3⟩ := wk_no (R := []) (y := item (hAr l) top a) HOK.out (by rw [item_e, HSW.out]; exact h0) top
        rw [← HWE.out, item_e, HSW.out] at k2
        rw [← HWE.out, item_at] at k1
        rw [← HWE.out] at k3
        obtain ⟨q, hq⟩ : ∃ q, q = ohE l a := ⟨_, rfl⟩
        rw [← hq] at k2 HRH h0
        have h0' : (q == 0) = false := by simpa using h0
        have HK1 := Lib.hid k1
        have HK2 := Lib.hid k2
        have HK3 := Lib.hid k3
        clear k1 k2 k3 h0 hq
        go_wp2_with fail
        go_at_call 24
        refine HRH.out.mono ?_
        rintro e w3 ⟨rfl, o3⟩
        have O3 := Lib.hid ((HO.out.trans o3).alloc (.cells #[.int .i64 (ohK l a), .int .i64 (ohF l a), .int .i64 (ohR l a), .bool (ohM l a), .int .i64 (ohC l a)] 45))
        clear o3
        go_wp2
        refine bodyPost_ret (v := .tuple #[.slice none 0 0, .int .i64 a, .int .i64 q]) (by simp [results, Tryd.results10, go_sem]) rfl ?_
        exact ⟨_, by rw [HK1.out, HK2.out], by rw [HK3.out]; exact World.ownsRow_nil _ _ _ _, O3.out⟩
    · have HE := Lib.hid (show walkL (hAr l) x top = pre by have := HP.out; rw [tr_end hat, List.append_nil] at this; rw [HWL.out]; exact this.symm)
      obtain ⟨k1, k2, k3⟩ := wk_ok HOK.out top
      rw [← HE.out] at k1 k2 k3 HR
      have HK1 := Lib.hid k1
      have HK2 := Lib.hid k2
      have HK3 := Lib.hid k3
      clear k1 k2 k3
      go_wp2
      refine bodyPost_ret (v := .tuple #[u9, .int .i64 top, .int .i64 0]) (by simp [results, Tryd.results10, go_sem]) rfl ?_
      exact ⟨_, by rw [HK1.out, HK2.out], by rw [HK3.out]; exact HR.out, HO.out⟩

set_option maxHeartbeats 4000000 in
theorem rWalk_no (A : Option Addr) (n ca : Nat) (x : Sp) (top : Int) (w : World) (hm : ¬ may9 x top) :
    Calls Tryd.prog 10 #[.slice A n ca, .agg #[.int .i64 x.1, .int .i64 x.2], .int .i64 top] w fun e w' => e = .returned (.tuple #[.slice none 0 0, .int .i64 0, .int .i64 1]) ∧ Only nob w w' := by
  obtain ⟨w1, hw1, HB⟩ : ∃ w1, w.alloc (.cells #[.int .i64 x.1, .int .i64 x.2] 24) = w1 ∧ Hid (Only nob w w1 ∧ Blk w1 w.heap.size 24 #[.int .i64 x.1, .int .i64 x.2]) := ⟨_, rfl, Lib.hid ⟨(Only.refl nob w).alloc _, Blk.new _ _ _⟩⟩
  have HW1 := Lib.hid hw1
  have c0 := HB.out.2.cell 0
  have c1 := HB.out.2.cell 1
  simp at c0 c1
  clear hw1
  by_cases h1 : x.ok
  · have HD := Lib.hid (show decide x.ok = true from decide_eq_true h1)
    have hxo := h1
    unfold Sp.ok most at hxo
    by_cases h2 : top < x.1
    · clear h1 hm
      go_enter Tryd.func10, Tryd.ntmps10
      go_wp2_with fail
      rw [HW1.out]
      go_at_call 23
      refine (refMay03_any x _).mono ?_
      rw [HD.out]
      rintro e w2 ⟨rfl, o⟩
      have O2 := Lib.hid (HB.out.1.trans o)
      have c0' := o.keeps c0
      have c1' := o.keeps c1
      clear o c0 c1
      go_wp2
      refine bodyPost_ret (v := .tuple #[.slice none 0 0, .int .i64 0, .int .i64 1]) (by simp [results, Tryd.results10, go_sem]) rfl ?_
      exact ⟨rfl, O2.out⟩
    · have h3 : x.1 + x.2 < top := by
        rcases Int.lt_or_le (x.1 + x.2) top with h3 | h3
        · exact h3
        · exact absurd ⟨h1, by omega, h3⟩ hm
      clear h1 hm
      go_enter Tryd.func10, Tryd.ntmps10
      go_wp2_with fail
      rw [HW1.out]
      go_at_call 23
      refine (refMay03_any x _).mono ?_
      rw [HD.out]
      rintro e w2 ⟨rfl, o⟩
      have O2 := Lib.hid (HB.out.1.trans o)
      have c0' := o.keeps c0
      have c1' := o.keeps c1
      clear o c0 c1
      go_wp2
      refine bodyPost_ret (v := .tuple #[.slice none 0 0, .int .i64 0, .int .i64 1]) (by simp [results, Tryd.results10, go_sem]) rfl ?_
      exact ⟨rfl, O2.out⟩
  · have HD := Lib.hid (show decide x.ok = false from decide_eq_false h1)
    clear h1 hm
    go_enter Tryd.func10, Tryd.ntmps10
    go_wp2_with fail
    rw [HW1.out]
    go_at_call 23
    refine (refMay03_any x _).mono ?_
    rw [HD.out]
    rintro e w2 ⟨rfl, o⟩
    have O2 := Lib.hid (HB.out.1.trans o)
    clear o c0 c1
    go_wp2
    refine bodyPost_ret (v := .tuple #[.slice none 0 0, .int .i64 0, .int .i64 1]) (by simp [results, Tryd.results10, go_sem]) rfl ?_
    exact ⟨rfl, O2.out⟩
theorem rWalk (v : Value) (B : Nat) (l : List Nat) (x : Sp) (top : Int) (w : World) (h : Sl w B 1 v l.length (u64s l)) (hB : B ≤ w.heap.size) (hw : Words l) (hl : l.length ≤ 98304) :
    Calls Tryd.prog 10 #[v, .agg #[.int .i64 x.1, .int .i64 x.2], .int .i64 top] w fun e w' => ∃ v', e = .returned (.tuple #[v', .int .i64 (wkP (walkL (hAr l) x top) top), .int .i64 (wkE (walkL (hAr l) x top))]) ∧
      w'.ownsRow w.heap.size 3 1 v' (wkL (walkL (hAr l) x top)).length (i64s (wkL (walkL (hAr l) x top))) ∧ Only nob w w' := by
  by_cases hm : may9 x top
  · exact rWalk_yes v B l x top w h hB hw hl hm
  · have hL : walkL (hAr l) x top = [badIt] := if_neg hm
    rw [hL]
    obtain ⟨A, ca, rfl, -⟩ := h
    refine (rWalk_no A l.length ca x top w hm).mono ?_
    rintro e w' ⟨rfl, o⟩
    exact ⟨_, rfl, World.ownsRow_nil _ _ _ _, o⟩
end Go.Proofs.YtlejicbnobfldaaDoor

/- Contract of the document's own Sums. -/
namespace Go.Proofs.YtlejicbnobfldaaDoor
open Go.RowKit
set_option maxRecDepth 100000

theorem suW_take {h : Int → Hd} {ps : List Int} {k : Nat} {a : Int} (hk : ps[k]? = some a) : suW h (ps.take (k + 1)) = suW h (ps.take k) + osz h a := by
  rw [List.take_add_one, hk, suW_append]; simp [suW]
theorem suF_take {h : Int → Hd} {ps : List Int} {k : Nat} {a : Int} (hk : ps[k]? = some a) : suF h (ps.take (k + 1)) = suF h (ps.take k) + (h a).f := by
  rw [List.take_add_one, hk, suF_append]; simp [suF]
/-- Each place of a walk that does not err has an object. -/
theorem wkL_head {h : Int → Hd} (H : HdOk h) {x : Sp} {top : Int} : ∀ a ∈ wkL (walkL h x top), (h a).e = 0 := by
  intro a ha
  unfold wkL at ha
  split at ha
  · rename_i hb
    have hok := bad_ok hb
    unfold ats at ha
    obtain ⟨y, hy, rfl⟩ := List.mem_map.1 ha
    have hz := hok y hy
    unfold walkL at hy hok
    split at hy
    · have h1 := (tr_all H _ y hy).1
      have : swE h top y.at_ = 0 := by rw [← item_e, ← h1]; exact hz
      exact (sw_zero this).1
    · rename_i hm
      rw [if_neg hm] at hok
      exact absurd (hok badIt (by simp)) (by decide)
  · cases ha
theorem su_in {h : Int → Hd} (H : HdOk h) : ∀ ps : List Int, (∀ a ∈ ps, (h a).e = 0) → 0 ≤ suW h ps ∧ suW h ps ≤ 8193 * ps.length ∧ 0 ≤ suF h ps ∧ suF h ps ≤ 8193 * ps.length
  | [], _ => by simp [suW, suF]
  | a :: ps, hp => by
    have ih := su_in H ps fun b hb => hp b (List.mem_cons_of_mem _ hb)
    have h0 := hp a List.mem_cons_self
    have h1 := osz_pos H h0
    have h2 := hmay_iff.1 (H a h0)
    simp only [suW, suF, List.length_cons]
    omega
theorem wkL_few (l : List Nat) (x : Sp) (top : Int) : (wkL (walkL (hAr l) x top)).length ≤ l.length + 1 := by
  unfold wkL
  split
  · rw [ats_len]; exact walkL_few l x top
  · simp

set_option maxHeartbeats 4000000 in
theorem rSums (v : Value) (B : Nat) (l : List Nat) (x : Sp) (top : Int) (w : World) (h : Sl w B 1 v l.length (u64s l)) (hB : B ≤ w.heap.size) (hw : Words l) (hl : l.length ≤ 98304) :
    Calls Tryd.prog 12 #[v, .agg #[.int .i64 x.1, .int .i64 x.2], .int .i64 top] w fun e w' =>
      e = .returned (.tuple #[.int .i64 (wkL (walkL (hAr l) x top)).length, .int .i64 (suW (hAr l) (wkL (walkL (hAr l) x top))), .int .i64 (suF (hAr l) (wkL (walkL (hAr l) x top))), .int .i64 (wkE (walkL (hAr l) x top))]) ∧ Only nob w w' := by
  have HA := Lib.hid h
  have HW := Lib.hid hw
  have hfew := wkL_few l x top
  have HHD := Lib.hid (wkL_head (hAr_ok l) (x := x) (top := top))
  obtain ⟨ps, hps⟩ : ∃ ps, ps = wkL (walkL (hAr l) x top) := ⟨_, rfl⟩
  obtain ⟨pe, hpe⟩ : ∃ pe, pe = wkE (walkL (hAr l) x top) := ⟨_, rfl⟩
  obtain ⟨pp, hpp⟩ : ∃ pp, pp = wkP (walkL (hAr l) x top) top := ⟨_, rfl⟩
  obtain ⟨w1, hw1, HB⟩ : ∃ w1, w.alloc (.cells #[.int .i64 x.1, .int .i64 x.2] 24) = w1 ∧ Hid (Only nob w w1 ∧ Blk w1 w.heap.size 24 #[.int .i64 x.1, .int .i64 x.2]) := ⟨_, rfl, Lib.hid ⟨(Only.refl nob w).alloc _, Blk.new _ _ _⟩⟩
  have HW1 := Lib.hid hw1
  have c0 := HB.out.2.cell 0
  have c1 := HB.out.2.cell 1
  simp at c0 c1
  have HRW := Lib.hid (rWalk v B l x top w1 (h.only HB.out.1 hB (fun _ h => h.elim)) (by have := HB.out.1.size; omega) hw hl)
  rw [← hps, ← hpe, ← hpp] at HRW
  rw [← hps] at hfew HHD
  rw [← hps, ← hpe]
  obtain ⟨A, ca, rfl, hac, ham, -⟩ := h
  unfold maxLen at ham
  clear hw1 hw hps hpe hpp
  go_enter Tryd.func12, Tryd.ntmps12
  go_wp2_with fail
  rw [HW1.out]
  go_at_call 10
  refine HRW.out.mono ?_
  rintro e w2 ⟨v2, rfl, own2, o2⟩
  have O2 := Lib.hid (HB.out.1.trans o2)
  have HS2 := Lib.hid (Sl.of_own own2 (by rw [i64s_len, Nat.mul_one]))
  obtain ⟨A2, c2, rfl, hc2, hm2⟩ := own_len own2
  unfold maxLen at hm2
  clear own2 o2 c0 c1
  go_wp2_with fail
  go_loopw [13, 14, 15] (fun a b c wr => ∃ k : Nat, k ≤ ps.length ∧ a = .int .i64 (suW (hAr l) (ps.take k)) ∧ b = .int .i64 (suF (hAr l) (ps.take k)) ∧ c = .int .i64 k ∧ Hid (Only nob w2 wr)) (fun _ _ c _ => ps.length - (intOf c).toNat)
  case atStart => exact ⟨0, Nat.zero_le _, rfl, rfl, rfl, Only.refl _ _⟩
  case round =>
    obtain ⟨k, hk, rfl, rfl, rfl, HO⟩ := hrel
    by_cases hlt : k < ps.length
    · obtain ⟨a, ha⟩ : ∃ a, ps[k]? = some a := ⟨_, List.getElem?_eq_getElem hlt⟩
      obtain ⟨b, o, rfl, -, hc⟩ := sl_int HS2.out HO.out.whole ha
      have h0 : ohE l a = 0 := HHD.out a (List.mem_of_getElem? ha)
      have hbn := oh_bounds h0
      have HE0 := Lib.hid h0
      have HSZ := Lib.hid (show hSz (ohK l a) (ohF l a) (ohR l a) (ohC l a) = osz (hAr l) a from hSz_yes hbn.2.2.2.2.2.2)
      have HTW := Lib.hid (suW_take (h := hAr l) ha)
      have HTF := Lib.hid (show suF (hAr l) (ps.take (k + 1)) = suF (hAr l) (ps.take k) + ohF l a from suF_take (h := hAr l) ha)
      have hin := su_in (hAr_ok l) (ps.take k) fun b hb => HHD.out b (List.mem_of_mem_take hb)
      have hlen : (ps.take k).length ≤ 98305 := by have := List.length_take_le k ps; omega
      have hoz := osz_pos (hAr_ok l) (show (hAr l a).e = 0 from h0)
      have HRH := Lib.hid (rHead_any (.slice A l.length ca) B l a wr (HA.out.only (O2.out.trans HO.out) hB (fun _ h => h.elim)) (by have := (O2.out.trans HO.out).size; omega) HW.out hl)
      obtain ⟨sw, hsw⟩ : ∃ sw, sw = suW (hAr l) (ps.take k) := ⟨_, rfl⟩
      obtain ⟨sf, hsf⟩ : ∃ sf, sf = suF (hAr l) (ps.take k) := ⟨_, rfl⟩
      obtain ⟨z, hz⟩ : ∃ z, z = osz (hAr l) a := ⟨_, rfl⟩
      obtain ⟨f, hf⟩ : ∃ f, f = ohF l a := ⟨_, rfl⟩
      rw [← hsw, ← hsf] at hin ⊢
      rw [← hsw, ← hz] at HTW
      rw [← hsf, ← hf] at HTF
      rw [← hz] at hoz HSZ
      rw [← hf] at HRH HSZ hbn
      obtain ⟨hb1, -, -, -, hb5, -⟩ := hbn
      have hin1 : 0 ≤ sw ∧ sw ≤ 1000000000 ∧ 0 ≤ sf ∧ sf ≤ 1000000000 := by omega
      clear ha h0 hsw hsf hz hf hin hlen
      go_wp2_with fail
      go_at_call 24
      refine HRH.out.mono ?_
      rw [HE0.out]
      rintro e w3 ⟨rfl, o3⟩
      obtain ⟨W3, hW3, HB3⟩ := box_head w3 (ohK l a) f (ohR l a) (ohM l a) (ohC l a)
      have HW3 := Lib.hid hW3
      have O3 := Lib.hid (HO.out.trans (o3.trans HB3.out.1))
      clear hW3 o3
      go_upto_region 8 with fail
      rw [HW3.out]
      obtain ⟨c0, c1, c2, c3, c4⟩ := cells5 HB3.out.2
      go_wp2_with fail
      go_at_call 25
      refine (refSize07_any _ _ _ _ _ _).mono ?_
      rw [HSZ.out]
      rintro e w4 ⟨rfl, o⟩
      have O4 := Lib.hid (O3.out.trans o)
      have B4 := HB3.out.2.keep o id
      clear o c0 c1 c2 c3 c4
      obtain ⟨c0, c1, c2, c3, c4⟩ := cells5 B4
      clear B4
      go_wp2
      go_roundw
      case rel => exact ⟨k + 1, hlt, by rw [HTW.out], by rw [HTF.out], rfl, O4⟩
      case measure => simp [intOf]; omega
    · obtain rfl : k = ps.length := by omega
      rw [List.take_length]
      go_wp2
      refine bodyPost_ret (v := .tuple #[.int .i64 ps.length, .int .i64 (suW (hAr l) ps), .int .i64 (suF (hAr l) ps), .int .i64 pe]) (by simp [results, Tryd.results12, go_sem]) rfl ⟨rfl, O2.out.trans HO.out⟩
end Go.Proofs.YtlejicbnobfldaaDoor
