/- The document's own answer for graphs: values whose references lead to where nodes are now. -/
import Derived.Test.YtdlaigghejahdaaRef16C
import Derived.Lib.SliceRun
import Derived.WalkKit
namespace Go.Proofs.Ytdlaigghejahdaa
open Go.RowKit Go.Lib
set_option maxRecDepth 100000
set_option linter.unusedSimpArgs false
set_option linter.unusedVariables false

theorem info_val16 : (Try.prog.info? 46).map (fun i => (i.zero, i.size, i.bytes)) = some (some (.agg #[.int .i64 0, .int .i64 0]), 2, 16) := by kernel_rfl
theorem one_val16 (w : World) (x y : Int) : Sl (w.alloc (.cells #[.int .i64 x, .int .i64 y] 46)) (w.heap.size + 1) 2 (.slice (some ⟨w.heap.size, 0, none⟩) 1 1) 1 (spc [(x, y)]) := by
  have := Sl.of_blk (size := 2) (n := 1) (c := 1) (Blk.new w 46 #[.int .i64 x, .int .i64 y]) (by simp) (Nat.le_refl _) (by unfold maxLen; omega)
  simpa [spc] using this
theorem spc_one16 (l : List Sp) : ∀ v ∈ spc l, v.oneCell' = true := by
  induction l with
  | nil => intro v hv; cases hv
  | cons x l ih =>
    intro v hv
    simp only [spc, List.flatMap_cons, List.mem_append] at hv
    rcases hv with hv | hv
    · simp at hv
      rcases hv with rfl | rfl <;> rfl
    · exact ih v hv
theorem spc_app16 (l m : List Sp) : spc (l ++ m) = spc l ++ spc m := by simp [spc]
theorem spc_len16 (l : List Sp) : (spc l).length = l.length * 2 := by
  induction l with
  | nil => rfl
  | cons x l ih => simp only [spc, List.flatMap_cons, List.length_append] at ih ⊢; rw [ih]; simp; omega
theorem box_val16 (w : World) (k x : Int) : ∃ W, w.alloc (.cells #[.int .i64 k, .int .i64 x] 46) = W ∧ Hid (Only nob w W ∧ Blk W w.heap.size 46 #[.int .i64 k, .int .i64 x]) :=
  ⟨_, rfl, Lib.hid ⟨(Only.refl nob w).alloc _, Blk.new w _ _⟩⟩
theorem turnD_ref {o : List Int} {y : Int} : turnD o (2, y) = (2, plc o y) := rfl
theorem turnD_not {o : List Int} {x y : Int} (h : ¬ x = 2) : turnD o (x, y) = (x, y) := if_neg h
set_option maxHeartbeats 4000000 in
theorem rTurn16 (v u : Value) (l : List Sp) (o : List Int) (B : Nat) (w : World) (h : Sl w B 2 v l.length (spc l)) (ho : Sl w B 1 u o.length (i64s o)) (hB : B ≤ w.heap.size) (hl : l.length ≤ 100000) :
    Calls Try.prog 35 #[v, u] w fun e w' => (canT o l = true → ∃ v', e = .returned (.tuple #[v', .bool true]) ∧ w'.ownsRow w.heap.size 46 2 v' (turnT o l).length (spc (turnT o l))) ∧ (canT o l = false → e = .returned (.tuple #[.slice none 0 0, .bool false])) ∧ Only nob w w' := by
  obtain ⟨j0, hj0, hy0, hy1, hy2⟩ := info_parts info_val16
  have HA := Lib.hid h
  have HU := Lib.hid ho
  obtain ⟨A, ca, rfl, hac, ham, -⟩ := h
  obtain ⟨Ao, co, rfl, hoc, hom, -⟩ := ho
  unfold maxLen at ham hom
  have HPL := Lib.hid (fun (x : Int) (w' : World) (b : Only nob w w') => rPlace16 (.slice Ao o.length co) o x B w' (HU.out.below (b.below hB fun _ h => h.elim)))
  obtain ⟨q, hq⟩ : ∃ q, q = canT o l := ⟨_, rfl⟩
  have HQ := Lib.hid (hq.trans (show canT o l = l.all (turnB o) from rfl))
  rw [← hq]
  clear hq
  go_enter Try.func35, Try.ntmps35
  go_wp2_with fail
  go_loopw [6, 7, 8, 9] (fun out i _ _ wr => ∃ k : Nat, k ≤ l.length ∧ i = .int .i64 k ∧ Hid (∀ (j : Nat) y, j < k → l[j]? = some y → turnB o y = true) ∧ Hid (wr.ownsRow w.heap.size 46 2 out (turnT o (l.take k)).length (spc (turnT o (l.take k)))) ∧ Hid (Only nob w wr)) (fun _ i _ _ _ => l.length - (intOf i).toNat)
  case atStart => exact ⟨0, Nat.zero_le _, rfl, fun j _ hj _ => absurd hj (Nat.not_lt_zero j), Lib.hid (World.ownsRow_nil _ _ _ _), Lib.hid (Only.refl _ _)⟩
  case round =>
    obtain ⟨k, hk, rfl, hno, HRW, HO⟩ := hrel
    obtain ⟨Ar, cr, rfl, hcr, hmr⟩ := own_len HRW.out
    unfold maxLen at hmr
    by_cases hlt : k < l.length
    · obtain ⟨⟨x, y⟩, hy⟩ : ∃ x, l[k]? = some x := ⟨_, List.getElem?_eq_getElem hlt⟩
      obtain ⟨b1, o1, rfl, -, c0, c1⟩ := sl_span HA.out (HO.out.below hB fun _ h => h.elim) hy
      have HY := Lib.hid hy
      have HSN := Lib.hid (show turnT o (l.take (k + 1)) = turnT o (l.take k) ++ [turnD o (x, y)] by unfold turnT; rw [List.take_add_one, hy]; simp)
      have hkl : (l.take k).length = k := by rw [List.length_take]; omega
      obtain ⟨P, hP⟩ : ∃ P, P = turnT o (l.take k) := ⟨_, rfl⟩
      have hPl : P.length = k := by rw [hP]; unfold turnT; rw [List.length_map, hkl]
      rw [← hP] at HRW HSN hcr ⊢
      obtain ⟨n, hn⟩ : ∃ n, n = P.length := ⟨_, rfl⟩
      have HN := Lib.hid hn
      rw [← hn] at HRW hcr hPl ⊢
      obtain ⟨W2, hW2, HB2⟩ := box_val16 wr x y
      have HW2 := Lib.hid hW2
      have O2 := Lib.hid (HO.out.trans HB2.out.1)
      have hww : w.heap.size ≤ wr.heap.size := HO.out.size
      have hnl : n ≤ 100000 := by omega
      simp only at c0 c1
      clear hP hn hy hW2 hkl hPl
      go_upto_region 6 with fail
      rw [HW2.out]
      have d0 : W2.cell? ⟨wr.heap.size, 0, none⟩ = some (.int .i64 x) := HB2.out.2.cell 0
      have d1 : W2.cell? ⟨wr.heap.size, 1, none⟩ = some (.int .i64 y) := HB2.out.2.cell 1
      clear c0 c1
      by_cases hx2 : x = 2
      · subst hx2
        go_wp2_with fail
        go_at_call 34
        refine (HPL.out y W2 O2.out).mono ?_
        rintro e w3 ⟨rfl, o3⟩
        have O3 := Lib.hid (O2.out.trans o3)
        have R3 := Lib.hid (own_only (own_only HRW.out HB2.out.1 fun _ _ => id) o3 fun _ _ => id)
        by_cases hm : y ∈ o
        · obtain ⟨pk, hpk, -⟩ := plc_at hm
          have HPK := Lib.hid hpk
          rw [HPK.out]
          have hTB := Lib.hid (all_next16 hno.out HY.out (show turnB o (2, y) = true by unfold turnB; simp [hm]))
          have B3 := HB2.out.2.keep o3 id
          have e1 : w3.cell? ⟨wr.heap.size, 1, none⟩ = some (.int .i64 y) := B3.cell 1
          have f1 := B3.free 1
          obtain ⟨W4, hW4, o4, b4⟩ : ∃ W4, w3.setCell ⟨wr.heap.size, 1, none⟩ (.int .i64 ((pk : Nat) : Int)) = W4 ∧ Only nob w W4 ∧ Blk W4 wr.heap.size 46 #[.int .i64 2, .int .i64 ((pk : Nat) : Int)] := ⟨_, rfl, set_new O3.out hww _, by simpa using B3.put 1 (.int .i64 ((pk : Nat) : Int))⟩
          have HW4 := Lib.hid hW4
          have O4 := Lib.hid o4
          have R4 := Lib.hid (own_only R3.out (show Only (isb wr.heap.size) w3 W4 by rw [← hW4]; exact only_set _ _ _ _) (fun k hk e => by have := (own_lt HRW.out hk).2; unfold isb at e; omega))
          have g0 : W4.cell? ⟨wr.heap.size, 0, none⟩ = some (.int .i64 2) := b4.cell 0
          have g1 : W4.cell? ⟨wr.heap.size, 1, none⟩ = some (.int .i64 ((pk : Nat) : Int)) := b4.cell 1
          have hTD := Lib.hid (show turnD o (2, y) = (2, ((pk : Nat) : Int)) by rw [turnD_ref, HPK.out])
          clear hpk hm hW4 o4 b4 B3 d0 d1 o3
          go_upto_region 11 with fail
          rw [HW4.out]
          clear e1 f1
          go_wp2_with (with_reducible refine wpList_append_sl (o := ⟨some 34, _, _, _, _, _⟩) _ rfl (.tmp 31) (.tmp 33) _ rfl w.heap.size 46 j0 _ 2 16 Try.underlying23 hj0 hy0 hy1 hy2 rfl (by decide) (.slice Ar n cr) n (spc P) rfl ?c1 (W4.heap.size + 1) (.slice (some ⟨W4.heap.size, 0, none⟩) 1 1) 1 (spc [(2, ((pk : Nat) : Int))]) rfl ?c6 (spc_one16 _) ?c2 ?c3 ?c4 ?c5)
          case c1 => exact own_only R4.out ((Only.refl nob W4).alloc _) (fun _ _ h => h)
          case c6 => exact one_val16 W4 2 _
          case c2 => unfold maxLen; omega
          case c3 => omega
          case c4 => have := O4.out.size; simp; omega
          case c5 =>
            intro v6 w6 H6 o6 _
            have HR6 := Lib.hid (show w6.ownsRow w.heap.size 46 2 v6 (turnT o (l.take (k + 1))).length (spc (turnT o (l.take (k + 1)))) by
              rw [HSN.out, hTD.out, List.length_append, spc_app16, ← HN.out]
              exact H6.out)
            have h1 := own_only R4.out ((Only.refl nob W4).alloc (.cells #[.int .i64 2, .int .i64 ((pk : Nat) : Int)] 46)) (fun _ _ h => h)
            have O6 := Lib.hid (own_nob (O4.out.alloc (.cells #[.int .i64 2, .int .i64 ((pk : Nat) : Int)] 46)) h1 o6 (Nat.le_refl _))
            clear H6 o6 h1 g0 g1
            go_wp2
            go_roundw
            case rel => exact ⟨k + 1, by omega, by go_num, hTB, HR6, O6⟩
            case measure => simp [intOf]; omega
        · have HF := Lib.hid (HQ.out.trans (all_no16 HY.out (show turnB o (2, y) = false by unfold turnB; simp [hm])))
          have hpn : plc o y = -1 := plc_out hm
          rw [hpn]
          clear hm hpn d0 d1
          go_wp2
          go_ret2
          exact ⟨(fun h => by rw [HF.out] at h; cases h), fun _ => rfl, O3.out⟩
      · have hbq : (x == 2) = false := by simpa using hx2
        have hTB := Lib.hid (all_next16 hno.out HY.out (show turnB o (x, y) = true by unfold turnB; simp [hx2]))
        have hTD := Lib.hid (turnD_not (o := o) (y := y) hx2)
        clear hx2
        go_wp2_with (with_reducible refine wpList_append_sl (o := ⟨some 34, _, _, _, _, _⟩) _ rfl (.tmp 31) (.tmp 33) _ rfl w.heap.size 46 j0 _ 2 16 Try.underlying23 hj0 hy0 hy1 hy2 rfl (by decide) (.slice Ar n cr) n (spc P) rfl ?c1 (W2.heap.size + 1) (.slice (some ⟨W2.heap.size, 0, none⟩) 1 1) 1 (spc [(x, y)]) rfl ?c6 (spc_one16 _) ?c2 ?c3 ?c4 ?c5)
        case c1 => exact own_only HRW.out (HB2.out.1.alloc _) (fun _ _ h => h)
        case c6 => exact one_val16 W2 x y
        case c2 => unfold maxLen; omega
        case c3 => omega
        case c4 => have := O2.out.size; simp; omega
        case c5 =>
          intro v6 w6 H6 o6 _
          have HR6 := Lib.hid (show w6.ownsRow w.heap.size 46 2 v6 (turnT o (l.take (k + 1))).length (spc (turnT o (l.take (k + 1)))) by
            rw [HSN.out, hTD.out, List.length_append, spc_app16, ← HN.out]
            exact H6.out)
          have h1 := own_only HRW.out (HB2.out.1.alloc (.cells #[.int .i64 x, .int .i64 y] 46)) (fun _ _ h => h)
          have O6 := Lib.hid (own_nob (O2.out.alloc (.cells #[.int .i64 x, .int .i64 y] 46)) h1 o6 (Nat.le_refl _))
          clear H6 o6 h1 d0 d1
          go_wp2
          go_roundw
          case rel => exact ⟨k + 1, by omega, by go_num, hTB, HR6, O6⟩
          case measure => simp [intOf]; omega
    · obtain rfl : k = l.length := by omega
      have HF := Lib.hid (HQ.out.trans (all_yes16 fun j y hj hy => hno.out j y hj hy))
      have HE := Lib.hid (show turnT o (l.take l.length) = turnT o l by rw [List.take_length])
      rw [HE.out] at HRW hcr ⊢
      obtain ⟨n, hn⟩ : ∃ n, n = (turnT o l).length := ⟨_, rfl⟩
      have HN := Lib.hid hn
      rw [← hn] at HRW hcr ⊢
      clear hn
      go_wp2
      go_ret2
      exact ⟨(fun _ => ⟨_, rfl, by rw [← HN.out]; exact HRW.out⟩), (fun h => by rw [HF.out] at h; cases h), HO.out⟩
end Go.Proofs.Ytdlaigghejahdaa
