/- Package state: New. -/
import Derived.Test.YtciidodmhigpdaaGreatDoorStProg
import Derived.Test.YtciidodmhigpdaaGreatDoorStBase
import Derived.Test.YtciidodmhigpdaaGreatDoorLayABC
import Derived.Test.YtciidodmhigpdaaGreatDoorSpanIter
import Derived.Test.YtciidodmhigpdaaGreatDoorSlotAll
import Derived.Test.YtciidodmhigpdaaGreatDoorStNewM
namespace Go.Proofs.YtciidodmhigpdaaGreatDoor
open Go.RowKit
set_option maxRecDepth 100000
set_option linter.unusedSimpArgs false
set_option linter.unusedVariables false
set_option maxHeartbeats 2000000 in
theorem stNew_no (c : Cf) (w : World) (hc : CFit c) (h : ¬ c.ok) : Calls Tryz.prog 18 #[.agg #[.int .i64 c.semi, .int .i64 c.large, .int .i64 c.slots, .int .i64 c.limit]] w fun e w' => e = .returned (.tuple #[.agg #[.int .i64 0, .int .i64 0, .int .i64 0, .int .i64 0, .bool false, .slice none 0 0, .int .i64 0, .slice none 0 0, .slice none 0 0, .slice none 0 0], .int .i64 1]) ∧ Only nob w w' := by
  obtain ⟨W, hW, HB⟩ : ∃ W, (w.alloc (.cells #[.int .i64 c.semi, .int .i64 c.large, .int .i64 c.slots, .int .i64 c.limit] 23)) = W ∧ Hid (Only nob w W ∧ CBox W w.heap.size c) := ⟨_, rfl, Lib.hid ⟨only_box w c, CBox.new w c⟩⟩
  have HW := Lib.hid hW
  obtain ⟨W2, hW2, HB2⟩ := zero_state W
  have HW2 := Lib.hid hW2
  have hsz : W.heap.size = w.heap.size + 1 := by rw [← hW]; simp
  rw [hsz] at HB2
  have O2 := Lib.hid (HB.out.1.trans HB2.out.1)
  obtain ⟨c0, c1, c2, c3⟩ := HB.out.2.keep HB2.out.1
  have HCK := Lib.hid (lyCheck c W2 hc)
  rw [decide_eq_false h] at HCK
  clear hW hW2 hsz h hc
  go_enter Tryz.func18, Tryz.ntmps18
  go_upto_region 1 with fail
  rw [HW.out, HW2.out]
  go_wp2_with fail
  go_at_call 43
  refine HCK.out.mono ?_
  rintro e w3 ⟨rfl, o⟩
  have O3 := Lib.hid (O2.out.trans o)
  have B3 := Lib.hid (HB2.out.2.keep o id)
  clear o c0 c1 c2 c3
  obtain ⟨s0, s1, s2, s3, s4, s5, s6, s7, s8, s9⟩ := ten_cells B3.out
  obtain ⟨f0, f1, f2, f3, f4, f5, f6, f7, f8, f9⟩ := ten_free B3.out
  go_wp2
  clear s0 s1 s2 s3 s4 s5 s6 s7 s8 s9 f0 f1 f2 f3 f4 f5 f6 f7 f8 f9
  obtain ⟨W7, hW7, O7, OI7, B7⟩ := puts10 O3.out (Nat.le_succ _) B3.out (.int .i64 0) (.int .i64 0) (.int .i64 0) (.int .i64 0) (.bool false) (.slice none 0 0) (.int .i64 0) (.slice none 0 0) (.slice none 0 0) (.slice none 0 0)
  with_reducible rw [hW7]
  obtain ⟨h0, h1, h2, h3, h4, h5, h6, h7, h8, h9⟩ := ten_cells B7
  exact bodyPost_ret (v := .tuple #[.agg #[.int .i64 0, .int .i64 0, .int .i64 0, .int .i64 0, .bool false, .slice none 0 0, .int .i64 0, .slice none 0 0, .slice none 0 0, .slice none 0 0], .int .i64 1]) (by simp [results, Tryz.results18, go_sem, h0, h1, h2, h3, h4, h5, h6, h7, h8, h9]) rfl ⟨rfl, O7⟩
set_option maxHeartbeats 16000000 in
theorem stNew_ok (c : Cf) (w : World) (hc : CFit c) (h : c.ok) : Calls Tryz.prog 18 #[.agg #[.int .i64 c.semi, .int .i64 c.large, .int .i64 c.slots, .int .i64 c.limit]] w fun e w' =>
    ∃ vw vf vs, e = .returned (.tuple #[.agg #[.int .i64 c.semi, .int .i64 c.large, .int .i64 c.slots, .int .i64 c.limit, .bool false, vw, .int .i64 0, .slice none 0 0, vf, vs], .int .i64 0]) ∧ Rd w' w'.heap.size (newS c) vw (.slice none 0 0) vf vs ∧ Only nob w w' := by
  obtain ⟨W, hW, HB⟩ : ∃ W, (w.alloc (.cells #[.int .i64 c.semi, .int .i64 c.large, .int .i64 c.slots, .int .i64 c.limit] 23)) = W ∧ Hid (Only nob w W ∧ CBox W w.heap.size c) := ⟨_, rfl, Lib.hid ⟨only_box w c, CBox.new w c⟩⟩
  have HW := Lib.hid hW
  obtain ⟨W2, hW2, HB2⟩ := zero_state W
  have HW2 := Lib.hid hW2
  have hsz : W.heap.size = w.heap.size + 1 := by rw [← hW]; simp
  rw [hsz] at HB2
  have O2 := Lib.hid (HB.out.1.trans HB2.out.1)
  have X2 := Lib.hid (HB.out.2.keep HB2.out.1)
  have hw := cWords_ok h
  have h' := h
  unfold Cf.ok at h'
  have HCK := Lib.hid (lyCheck c W2 hc)
  rw [decide_eq_true h] at HCK
  have HRT := Lib.hid (show ∀ w, Calls Tryz.prog 44 #[.int .i64 c.slots] w fun e w' => ∃ A k, e = .returned (.tuple #[.slice A (List.replicate c.slots.toNat ((false, 0, 0) : Slt)).length k, .int .i64 0]) ∧ Sl w' w'.heap.size 3 (.slice A (List.replicate c.slots.toNat ((false, 0, 0) : Slt)).length k) (List.replicate c.slots.toNat ((false, 0, 0) : Slt)).length (slc (List.replicate c.slots.toNat ((false, 0, 0) : Slt))) ∧ Only nob w w' from fun w => (new_any14 c.slots w (by omega) (by omega)).mono fun e w' ⟨v', l, h1, h2, h3, h4⟩ => by
    rw [if_pos (by omega)] at h1 h2
    subst h2
    obtain ⟨A, k, rfl, -, -⟩ := h3.form
    exact ⟨A, k, h1, h3, h4⟩)
  obtain ⟨n, hn⟩ : ∃ n, n = (cWords c).toNat := ⟨_, rfl⟩
  have hmk := make_u64 n (by omega)
  have HWD := Lib.hid (show ∀ w, Calls Tryz.prog 45 #[.agg #[.int .i64 c.semi, .int .i64 c.large, .int .i64 c.slots, .int .i64 c.limit]] w fun e w' => e = .returned (.int .i64 ((n : Nat) : Int)) ∧ Only nob w w' from fun w => by
    have e : ((n : Nat) : Int) = cWords c := by rw [hn]; omega
    rw [e]
    exact lyWords spTotal c w hc)
  have HLA := Lib.hid (show ∀ w, Calls Tryz.prog 47 #[.agg #[.int .i64 c.semi, .int .i64 c.large, .int .i64 c.slots, .int .i64 c.limit]] w fun e w' => e = .returned (.agg #[.int .i64 (cLarge c).1, .int .i64 (cLarge c).2]) ∧ Only nob w w' from fun w => lyLarge c w hc)
  have hlf := (parts_fit c false).2.2
  have HGP := Lib.hid (show ∀ w, Calls Tryz.prog 46 #[.agg #[.int .i64 (cLarge c).1, .int .i64 (cLarge c).2], .slice none 0 0] w fun e w' => ∃ A k, e = .returned (.slice A (frN c).length k) ∧ Sl w' w'.heap.size 2 (.slice A (frN c).length k) (frN c).length (spc (frN c)) ∧ Only nob w w' from fun w => (spGaps (cLarge c) (.slice none 0 0) [] w.heap.size w Sl.nil_ (Nat.le_refl _) (by simp) (fun _ h => by cases h) hlf).mono fun e w' ⟨v', O, h1, h2, h3, h4, h5⟩ => by
    have := frN_is h h2 h3
    subst this
    obtain ⟨A, k, rfl, -, -⟩ := h4.form
    exact ⟨A, k, h1, h4, h5⟩)
  have HNZ := Lib.hid (frN_nz h)
  have HN := Lib.hid hn
  have HOK := Lib.hid h
  obtain ⟨x, hx⟩ : ∃ x, x = (cLarge c).1 := ⟨_, rfl⟩
  obtain ⟨y, hy⟩ : ∃ x, x = (cLarge c).2 := ⟨_, rfl⟩
  rw [← hx, ← hy] at HLA HGP
  obtain ⟨FL, hFL⟩ : ∃ FL, FL = frN c := ⟨_, rfl⟩
  have HFL := Lib.hid hFL
  rw [← hFL] at HGP HNZ
  obtain ⟨SL, hSL⟩ : ∃ SL, SL = List.replicate c.slots.toNat ((false, 0, 0) : Slt) := ⟨_, rfl⟩
  have HSL := Lib.hid hSL
  rw [← hSL] at HRT
  obtain ⟨c0, c1, c2, c3⟩ := X2.out
  clear hW hW2 hsz h hc hw h' hn hx hy hFL hSL hlf
  go_enter Tryz.func18, Tryz.ntmps18
  go_upto_region 1 with fail
  rw [HW.out, HW2.out]
  go_wp2_with fail
  go_at_call 43
  refine HCK.out.mono ?_
  rintro e w3 ⟨rfl, o⟩
  have O3 := Lib.hid (O2.out.trans o)
  have B3 := Lib.hid (HB2.out.2.keep o id)
  have X3 := Lib.hid (X2.out.keep o)
  clear o c0 c1 c2 c3
  obtain ⟨c0, c1, c2, c3⟩ := X3.out
  go_wp2_with fail
  go_at_call 44
  refine (HRT.out _).mono ?_
  rintro e WS ⟨As, ks, rfl, hs, o⟩
  have O4 := Lib.hid (O3.out.trans o)
  have B4 := Lib.hid (B3.out.keep o id)
  have X4 := Lib.hid (X3.out.keep o)
  have S4 := Lib.hid hs
  clear o c0 c1 c2 c3 hs
  obtain ⟨c0, c1, c2, c3⟩ := X4.out
  obtain ⟨p, hp⟩ : ∃ p, p = w.heap.size := ⟨_, rfl⟩
  have HP := Lib.hid hp
  rw [← hp] at c0 c1 c2 c3 B4
  clear hp
  go_upto_region 4 with fail
  rw [← HP.out]
  go_cut [6] (fun s6 wx => ∃ bq rg A k, s6 = .pointer (some ⟨bq, 0, none⟩) ∧ Hid (Only nob WS wx ∧ Blk wx bq 28 #[.int .i64 c.semi, .int .i64 c.large, .int .i64 c.slots, .int .i64 c.limit, .bool false, .slice (some ⟨rg, 0, none⟩) n n, .int .i64 0, .slice none 0 0, .slice A FL.length k, .slice As SL.length ks] ∧ Blk wx rg 48 (u64s (List.replicate n 0)).toArray ∧ Sl wx wx.heap.size 2 (.slice A FL.length k) FL.length (spc FL)))
  case first =>
    have O0 := Lib.hid (show Only nob WS WS.drew from (Only.refl nob WS).drewN 1)
    refine wp_region_held_drew (S := fun w' : World => w'.cell? ⟨p, 0, none⟩ = some (.int .i64 c.semi) ∧ w'.cell? ⟨p, 1, none⟩ = some (.int .i64 c.large) ∧ w'.cell? ⟨p, 2, none⟩ = some (.int .i64 c.slots) ∧ w'.cell? ⟨p, 3, none⟩ = some (.int .i64 c.limit)) (by kernel_rfl) ?_ (fun hHeld => ?_)
    · exact ⟨c0, c1, c2, c3⟩
    refine wpAnyH_take (i := 0) (v := ?_) rfl (by kernel_rfl) (by kernel_rfl) (by kernel_rfl) (fun _ _ _ h => h) (Or.inl ⟨by rfl, ?_⟩) hHeld ?_
    rotate_left
    · intro w hSw; (try dsimp only at hSw); go_simp; first | done | with_reducible rfl
    try simp only [Act.put, List.setIfInBounds_toArray, List.set_cons_zero, List.set_cons_succ, List.getElem_toArray, List.getElem_cons_succ, List.getElem_cons_zero]
    refine wpAnyH_take (i := 1) (v := ?_) rfl (by kernel_rfl) (by kernel_rfl) (by kernel_rfl) (fun _ _ _ h => h) (Or.inl ⟨by rfl, ?_⟩) hHeld ?_
    rotate_left
    · intro w hSw; (try dsimp only at hSw); go_simp; first | done | with_reducible rfl
    try simp only [Act.put, List.setIfInBounds_toArray, List.set_cons_zero, List.set_cons_succ, List.getElem_toArray, List.getElem_cons_succ, List.getElem_cons_zero]
    refine wpAnyH_take (i := 4) (v := ?_) rfl (by kernel_rfl) (by kernel_rfl) (by kernel_rfl) (fun _ _ _ h => h) (Or.inl ⟨by rfl, ?_⟩) hHeld ?_
    rotate_left
    · intro w hSw; (try dsimp only at hSw); go_simp; first | done | with_reducible rfl
    try simp only [Act.put, List.setIfInBounds_toArray, List.set_cons_zero, List.set_cons_succ, List.getElem_toArray, List.getElem_cons_succ, List.getElem_cons_zero]
    refine wpAnyH_take (i := 7) (v := ?_) rfl (by kernel_rfl) (by kernel_rfl) (by kernel_rfl) (fun _ _ _ h => h) (Or.inl ⟨by rfl, ?_⟩) hHeld ?_
    rotate_left
    · intro w hSw; (try dsimp only at hSw); go_simp; first | done | with_reducible rfl
    try simp only [Act.put, List.setIfInBounds_toArray, List.set_cons_zero, List.set_cons_succ, List.getElem_toArray, List.getElem_cons_succ, List.getElem_cons_zero]
    refine wpAnyH_ready (rs := [2, 9]) (by kernel_rfl) (by simp) ?_
    refine (AllReadyH.cons rfl (fun K hK => ?_) (AllReadyH.cons rfl (fun K hK => ?_) AllReadyH.nil))
    · skip
      go_simp
      go_at_call 45
      refine (HWD.out _).mono ?_
      rintro e w1 ⟨rfl, o⟩
      have O1 := Lib.hid (O0.out.trans o)
      clear o
      refine hK.out _ _ ⟨O1.out.keeps c0, O1.out.keeps c1, O1.out.keeps c2, O1.out.keeps c3⟩ (fun hHeld2 => ?_)
      clear hK K hHeld
      have hHeld := hHeld2
      clear hHeld2
      try simp only [Act.put, List.setIfInBounds_toArray, List.set_cons_zero, List.set_cons_succ, List.getElem_toArray, List.getElem_cons_succ, List.getElem_cons_zero]
      refine wpAnyH_ready (rs := [3, 5, 9]) (by kernel_rfl) (by simp) ?_
      refine (AllReadyH.cons rfl (fun K hK => ?_) (AllReadyH.cons rfl (fun K hK => ?_) (AllReadyH.cons rfl (fun K hK => ?_) AllReadyH.nil)))
      · skip
        obtain ⟨W2, hW2, HB2⟩ := box_words15 n w1
        have O2 := Lib.hid (O1.out.trans HB2.out.1)
        have RW := Lib.hid HB2.out.2
        have HWE := Lib.hid hW2
        clear hW2
        go_simp
        with_reducible rw [HWE.out]
        clear HWE
        refine hK.out _ _ ⟨O2.out.keeps c0, O2.out.keeps c1, O2.out.keeps c2, O2.out.keeps c3⟩ (fun hHeld2 => ?_)
        clear hK K hHeld
        have hHeld := hHeld2
        clear hHeld2
        try simp only [Act.put, List.setIfInBounds_toArray, List.set_cons_zero, List.set_cons_succ, List.getElem_toArray, List.getElem_cons_succ, List.getElem_cons_zero]
        refine wpAnyH_ready (rs := [5, 9]) (by kernel_rfl) (by simp) ?_
        refine (AllReadyH.cons rfl (fun K hK => ?_) (AllReadyH.cons rfl (fun K hK => ?_) AllReadyH.nil))
        · skip
          go_simp
          go_at_call 47
          refine (HLA.out _).mono ?_
          rintro e w3 ⟨rfl, o⟩
          have O3 := Lib.hid (O2.out.trans o)
          have RW := Lib.hid (RW.out.keep o id)
          clear o
          refine hK.out _ _ ⟨O3.out.keeps c0, O3.out.keeps c1, O3.out.keeps c2, O3.out.keeps c3⟩ (fun hHeld2 => ?_)
          clear hK K hHeld
          have hHeld := hHeld2
          clear hHeld2
          try simp only [Act.put, List.setIfInBounds_toArray, List.set_cons_zero, List.set_cons_succ, List.getElem_toArray, List.getElem_cons_succ, List.getElem_cons_zero]
          refine wpAnyH_ready (rs := [6, 9]) (by kernel_rfl) (by simp) ?_
          refine (AllReadyH.cons rfl (fun K hK => ?_) (AllReadyH.cons rfl (fun K hK => ?_) AllReadyH.nil))
          · skip
            go_simp
            go_at_call 46
            refine (HGP.out _).mono ?_
            rintro e w4 ⟨Ag, kg, rfl, hg, o⟩
            have O4 := Lib.hid (O3.out.trans o)
            have RW := Lib.hid (RW.out.keep o id)
            have FR := Lib.hid (hg)
            clear o hg
            refine hK.out _ _ ⟨O4.out.keeps c0, O4.out.keeps c1, O4.out.keeps c2, O4.out.keeps c3⟩ (fun hHeld2 => ?_)
            clear hK K hHeld
            have hHeld := hHeld2
            clear hHeld2
            try simp only [Act.put, List.setIfInBounds_toArray, List.set_cons_zero, List.set_cons_succ, List.getElem_toArray, List.getElem_cons_succ, List.getElem_cons_zero]
            refine wpAnyH_take (i := 8) (v := ?_) rfl (by kernel_rfl) (by kernel_rfl) (by kernel_rfl) (fun _ _ _ h => h) (Or.inl ⟨by rfl, ?_⟩) hHeld ?_
            rotate_left
            · intro w hSw; (try dsimp only at hSw); go_simp; first | done | with_reducible rfl
            try simp only [Act.put, List.setIfInBounds_toArray, List.set_cons_zero, List.set_cons_succ, List.getElem_toArray, List.getElem_cons_succ, List.getElem_cons_zero]
            refine wpAnyH_ready (rs := [9]) (by kernel_rfl) (by simp) ?_
            refine (AllReadyH.cons rfl (fun K hK => ?_) AllReadyH.nil)
            obtain ⟨W5, hW5, HB5⟩ := zero_state w4
            have O5 := Lib.hid (O4.out.trans HB5.out.1)
            have RW := Lib.hid (RW.out.keep HB5.out.1 id)
            have FR := Lib.hid ((FR.out.below HB5.out.1.whole).more HB5.out.1.size)
            have BX := Lib.hid HB5.out.2
            have HWE := Lib.hid hW5
            clear hW5
            go_simp
            with_reducible rw [HWE.out]
            clear HWE
            refine hK.out _ _ ⟨O5.out.keeps c0, O5.out.keeps c1, O5.out.keeps c2, O5.out.keeps c3⟩ (fun hHeld2 => ?_)
            clear hK K hHeld
            have hHeld := hHeld2
            clear hHeld2
            try simp only [Act.put, List.setIfInBounds_toArray, List.set_cons_zero, List.set_cons_succ, List.getElem_toArray, List.getElem_cons_succ, List.getElem_cons_zero]
            refine wpAnyH_ready (rs := [10]) (by kernel_rfl) (by simp) ?_
            refine (AllReadyH.cons rfl (fun K hK => ?_) AllReadyH.nil)
            obtain ⟨s0, s1, s2, s3, s4, s5, s6, s7, s8, s9⟩ := ten_cells BX.out
            obtain ⟨f0, f1, f2, f3, f4, f5, f6, f7, f8, f9⟩ := ten_free BX.out
            go_simp
            clear s0 s1 s2 s3 s4 s5 s6 s7 s8 s9 f0 f1 f2 f3 f4 f5 f6 f7 f8 f9
            obtain ⟨W6, hW6, oA, oB, B9⟩ := puts10 O5.out (O4.out.size) BX.out (.int .i64 c.semi) (.int .i64 c.large) (.int .i64 c.slots) (.int .i64 c.limit) (.bool false) (.slice (some ⟨w1.heap.size, 0, none⟩) n n) (.int .i64 0) (.slice none 0 0) (.slice Ag FL.length kg) (.slice As SL.length ks)
            with_reducible rw [hW6]
            have O6 := Lib.hid oA
            have RW := Lib.hid (RW.out.keep oB (BX.out.ne RW.out (by decide)).symm)
            have FR := Lib.hid (late15 HNZ.out FR.out BX.out oB (Nat.le_refl _))
            have BX := Lib.hid B9
            clear hW6 oA oB B9
            refine hK.out _ _ ⟨O6.out.keeps c0, O6.out.keeps c1, O6.out.keeps c2, O6.out.keeps c3⟩ (fun hHeld2 => ?_)
            clear hK K hHeld
            have hHeld := hHeld2
            clear hHeld2
            try simp only [Act.put, List.setIfInBounds_toArray, List.set_cons_zero, List.set_cons_succ, List.getElem_toArray, List.getElem_cons_succ, List.getElem_cons_zero]
            refine wpAnyH_done (by kernel_rfl) ?_ _
            go_wp2
            go_meet
            exact ⟨_, _, _, _, rfl, Lib.hid ⟨O6.out, BX.out, RW.out, FR.out⟩⟩
          · skip
            obtain ⟨W4, hW4, HB4⟩ := zero_state w3
            have O4 := Lib.hid (O3.out.trans HB4.out.1)
            have RW := Lib.hid (RW.out.keep HB4.out.1 id)
            have BX := Lib.hid HB4.out.2
            have HWE := Lib.hid hW4
            clear hW4
            go_simp
            with_reducible rw [HWE.out]
            clear HWE
            refine hK.out _ _ ⟨O4.out.keeps c0, O4.out.keeps c1, O4.out.keeps c2, O4.out.keeps c3⟩ (fun hHeld2 => ?_)
            clear hK K hHeld
            have hHeld := hHeld2
            clear hHeld2
            try simp only [Act.put, List.setIfInBounds_toArray, List.set_cons_zero, List.set_cons_succ, List.getElem_toArray, List.getElem_cons_succ, List.getElem_cons_zero]
            refine wpAnyH_ready (rs := [6]) (by kernel_rfl) (by simp) ?_
            refine (AllReadyH.cons rfl (fun K hK => ?_) AllReadyH.nil)
            go_simp
            go_at_call 46
            refine (HGP.out _).mono ?_
            rintro e w5 ⟨Ag, kg, rfl, hg, o⟩
            have O5 := Lib.hid (O4.out.trans o)
            have RW := Lib.hid (RW.out.keep o id)
            have BX := Lib.hid (BX.out.keep o id)
            have FR := Lib.hid (hg)
            clear o hg
            refine hK.out _ _ ⟨O5.out.keeps c0, O5.out.keeps c1, O5.out.keeps c2, O5.out.keeps c3⟩ (fun hHeld2 => ?_)
            clear hK K hHeld
            have hHeld := hHeld2
            clear hHeld2
            try simp only [Act.put, List.setIfInBounds_toArray, List.set_cons_zero, List.set_cons_succ, List.getElem_toArray, List.getElem_cons_succ, List.getElem_cons_zero]
            refine wpAnyH_take (i := 8) (v := ?_) rfl (by kernel_rfl) (by kernel_rfl) (by kernel_rfl) (fun _ _ _ h => h) (Or.inl ⟨by rfl, ?_⟩) hHeld ?_
            rotate_left
            · intro w hSw; (try dsimp only at hSw); go_simp; first | done | with_reducible rfl
            try simp only [Act.put, List.setIfInBounds_toArray, List.set_cons_zero, List.set_cons_succ, List.getElem_toArray, List.getElem_cons_succ, List.getElem_cons_zero]
            refine wpAnyH_ready (rs := [10]) (by kernel_rfl) (by simp) ?_
            refine (AllReadyH.cons rfl (fun K hK => ?_) AllReadyH.nil)
            obtain ⟨s0, s1, s2, s3, s4, s5, s6, s7, s8, s9⟩ := ten_cells BX.out
            obtain ⟨f0, f1, f2, f3, f4, f5, f6, f7, f8, f9⟩ := ten_free BX.out
            go_simp
            clear s0 s1 s2 s3 s4 s5 s6 s7 s8 s9 f0 f1 f2 f3 f4 f5 f6 f7 f8 f9
            obtain ⟨W6, hW6, oA, oB, B9⟩ := puts10 O5.out (O3.out.size) BX.out (.int .i64 c.semi) (.int .i64 c.large) (.int .i64 c.slots) (.int .i64 c.limit) (.bool false) (.slice (some ⟨w1.heap.size, 0, none⟩) n n) (.int .i64 0) (.slice none 0 0) (.slice Ag FL.length kg) (.slice As SL.length ks)
            with_reducible rw [hW6]
            have O6 := Lib.hid oA
            have RW := Lib.hid (RW.out.keep oB (BX.out.ne RW.out (by decide)).symm)
            have FR := Lib.hid (late15 HNZ.out FR.out BX.out oB (Nat.le_refl _))
            have BX := Lib.hid B9
            clear hW6 oA oB B9
            refine hK.out _ _ ⟨O6.out.keeps c0, O6.out.keeps c1, O6.out.keeps c2, O6.out.keeps c3⟩ (fun hHeld2 => ?_)
            clear hK K hHeld
            have hHeld := hHeld2
            clear hHeld2
            try simp only [Act.put, List.setIfInBounds_toArray, List.set_cons_zero, List.set_cons_succ, List.getElem_toArray, List.getElem_cons_succ, List.getElem_cons_zero]
            refine wpAnyH_done (by kernel_rfl) ?_ _
            go_wp2
            go_meet
            exact ⟨_, _, _, _, rfl, Lib.hid ⟨O6.out, BX.out, RW.out, FR.out⟩⟩
        · skip
          obtain ⟨W3, hW3, HB3⟩ := zero_state W2
          have O3 := Lib.hid (O2.out.trans HB3.out.1)
          have RW := Lib.hid (RW.out.keep HB3.out.1 id)
          have BX := Lib.hid HB3.out.2
          have HWE := Lib.hid hW3
          clear hW3
          go_simp
          with_reducible rw [HWE.out]
          clear HWE
          refine hK.out _ _ ⟨O3.out.keeps c0, O3.out.keeps c1, O3.out.keeps c2, O3.out.keeps c3⟩ (fun hHeld2 => ?_)
          clear hK K hHeld
          have hHeld := hHeld2
          clear hHeld2
          try simp only [Act.put, List.setIfInBounds_toArray, List.set_cons_zero, List.set_cons_succ, List.getElem_toArray, List.getElem_cons_succ, List.getElem_cons_zero]
          refine wpAnyH_ready (rs := [5]) (by kernel_rfl) (by simp) ?_
          refine (AllReadyH.cons rfl (fun K hK => ?_) AllReadyH.nil)
          go_simp
          go_at_call 47
          refine (HLA.out _).mono ?_
          rintro e w4 ⟨rfl, o⟩
          have O4 := Lib.hid (O3.out.trans o)
          have RW := Lib.hid (RW.out.keep o id)
          have BX := Lib.hid (BX.out.keep o id)
          clear o
          refine hK.out _ _ ⟨O4.out.keeps c0, O4.out.keeps c1, O4.out.keeps c2, O4.out.keeps c3⟩ (fun hHeld2 => ?_)
          clear hK K hHeld
          have hHeld := hHeld2
          clear hHeld2
          try simp only [Act.put, List.setIfInBounds_toArray, List.set_cons_zero, List.set_cons_succ, List.getElem_toArray, List.getElem_cons_succ, List.getElem_cons_zero]
          refine wpAnyH_ready (rs := [6]) (by kernel_rfl) (by simp) ?_
          refine (AllReadyH.cons rfl (fun K hK => ?_) AllReadyH.nil)
          go_simp
          go_at_call 46
          refine (HGP.out _).mono ?_
          rintro e w5 ⟨Ag, kg, rfl, hg, o⟩
          have O5 := Lib.hid (O4.out.trans o)
          have RW := Lib.hid (RW.out.keep o id)
          have BX := Lib.hid (BX.out.keep o id)
          have FR := Lib.hid (hg)
          clear o hg
          refine hK.out _ _ ⟨O5.out.keeps c0, O5.out.keeps c1, O5.out.keeps c2, O5.out.keeps c3⟩ (fun hHeld2 => ?_)
          clear hK K hHeld
          have hHeld := hHeld2
          clear hHeld2
          try simp only [Act.put, List.setIfInBounds_toArray, List.set_cons_zero, List.set_cons_succ, List.getElem_toArray, List.getElem_cons_succ, List.getElem_cons_zero]
          refine wpAnyH_take (i := 8) (v := ?_) rfl (by kernel_rfl) (by kernel_rfl) (by kernel_rfl) (fun _ _ _ h => h) (Or.inl ⟨by rfl, ?_⟩) hHeld ?_
          rotate_left
          · intro w hSw; (try dsimp only at hSw); go_simp; first | done | with_reducible rfl
          try simp only [Act.put, List.setIfInBounds_toArray, List.set_cons_zero, List.set_cons_succ, List.getElem_toArray, List.getElem_cons_succ, List.getElem_cons_zero]
          refine wpAnyH_ready (rs := [10]) (by kernel_rfl) (by simp) ?_
          refine (AllReadyH.cons rfl (fun K hK => ?_) AllReadyH.nil)
          obtain ⟨s0, s1, s2, s3, s4, s5, s6, s7, s8, s9⟩ := ten_cells BX.out
          obtain ⟨f0, f1, f2, f3, f4, f5, f6, f7, f8, f9⟩ := ten_free BX.out
          go_simp
          clear s0 s1 s2 s3 s4 s5 s6 s7 s8 s9 f0 f1 f2 f3 f4 f5 f6 f7 f8 f9
          obtain ⟨W6, hW6, oA, oB, B9⟩ := puts10 O5.out (O2.out.size) BX.out (.int .i64 c.semi) (.int .i64 c.large) (.int .i64 c.slots) (.int .i64 c.limit) (.bool false) (.slice (some ⟨w1.heap.size, 0, none⟩) n n) (.int .i64 0) (.slice none 0 0) (.slice Ag FL.length kg) (.slice As SL.length ks)
          with_reducible rw [hW6]
          have O6 := Lib.hid oA
          have RW := Lib.hid (RW.out.keep oB (BX.out.ne RW.out (by decide)).symm)
          have FR := Lib.hid (late15 HNZ.out FR.out BX.out oB (Nat.le_refl _))
          have BX := Lib.hid B9
          clear hW6 oA oB B9
          refine hK.out _ _ ⟨O6.out.keeps c0, O6.out.keeps c1, O6.out.keeps c2, O6.out.keeps c3⟩ (fun hHeld2 => ?_)
          clear hK K hHeld
          have hHeld := hHeld2
          clear hHeld2
          try simp only [Act.put, List.setIfInBounds_toArray, List.set_cons_zero, List.set_cons_succ, List.getElem_toArray, List.getElem_cons_succ, List.getElem_cons_zero]
          refine wpAnyH_done (by kernel_rfl) ?_ _
          go_wp2
          go_meet
          exact ⟨_, _, _, _, rfl, Lib.hid ⟨O6.out, BX.out, RW.out, FR.out⟩⟩
      · skip
        go_simp
        go_at_call 47
        refine (HLA.out _).mono ?_
        rintro e w2 ⟨rfl, o⟩
        have O2 := Lib.hid (O1.out.trans o)
        clear o
        refine hK.out _ _ ⟨O2.out.keeps c0, O2.out.keeps c1, O2.out.keeps c2, O2.out.keeps c3⟩ (fun hHeld2 => ?_)
        clear hK K hHeld
        have hHeld := hHeld2
        clear hHeld2
        try simp only [Act.put, List.setIfInBounds_toArray, List.set_cons_zero, List.set_cons_succ, List.getElem_toArray, List.getElem_cons_succ, List.getElem_cons_zero]
        refine wpAnyH_ready (rs := [3, 6, 9]) (by kernel_rfl) (by simp) ?_
        refine (AllReadyH.cons rfl (fun K hK => ?_) (AllReadyH.cons rfl (fun K hK => ?_) (AllReadyH.cons rfl (fun K hK => ?_) AllReadyH.nil)))
        · skip
          obtain ⟨W3, hW3, HB3⟩ := box_words15 n w2
          have O3 := Lib.hid (O2.out.trans HB3.out.1)
          have RW := Lib.hid HB3.out.2
          have HWE := Lib.hid hW3
          clear hW3
          go_simp
          with_reducible rw [HWE.out]
          clear HWE
          refine hK.out _ _ ⟨O3.out.keeps c0, O3.out.keeps c1, O3.out.keeps c2, O3.out.keeps c3⟩ (fun hHeld2 => ?_)
          clear hK K hHeld
          have hHeld := hHeld2
          clear hHeld2
          try simp only [Act.put, List.setIfInBounds_toArray, List.set_cons_zero, List.set_cons_succ, List.getElem_toArray, List.getElem_cons_succ, List.getElem_cons_zero]
          refine wpAnyH_ready (rs := [6, 9]) (by kernel_rfl) (by simp) ?_
          refine (AllReadyH.cons rfl (fun K hK => ?_) (AllReadyH.cons rfl (fun K hK => ?_) AllReadyH.nil))
          · skip
            go_simp
            go_at_call 46
            refine (HGP.out _).mono ?_
            rintro e w4 ⟨Ag, kg, rfl, hg, o⟩
            have O4 := Lib.hid (O3.out.trans o)
            have RW := Lib.hid (RW.out.keep o id)
            have FR := Lib.hid (hg)
            clear o hg
            refine hK.out _ _ ⟨O4.out.keeps c0, O4.out.keeps c1, O4.out.keeps c2, O4.out.keeps c3⟩ (fun hHeld2 => ?_)
            clear hK K hHeld
            have hHeld := hHeld2
            clear hHeld2
            try simp only [Act.put, List.setIfInBounds_toArray, List.set_cons_zero, List.set_cons_succ, List.getElem_toArray, List.getElem_cons_succ, List.getElem_cons_zero]
            refine wpAnyH_take (i := 8) (v := ?_) rfl (by kernel_rfl) (by kernel_rfl) (by kernel_rfl) (fun _ _ _ h => h) (Or.inl ⟨by rfl, ?_⟩) hHeld ?_
            rotate_left
            · intro w hSw; (try dsimp only at hSw); go_simp; first | done | with_reducible rfl
            try simp only [Act.put, List.setIfInBounds_toArray, List.set_cons_zero, List.set_cons_succ, List.getElem_toArray, List.getElem_cons_succ, List.getElem_cons_zero]
            refine wpAnyH_ready (rs := [9]) (by kernel_rfl) (by simp) ?_
            refine (AllReadyH.cons rfl (fun K hK => ?_) AllReadyH.nil)
            obtain ⟨W5, hW5, HB5⟩ := zero_state w4
            have O5 := Lib.hid (O4.out.trans HB5.out.1)
            have RW := Lib.hid (RW.out.keep HB5.out.1 id)
            have FR := Lib.hid ((FR.out.below HB5.out.1.whole).more HB5.out.1.size)
            have BX := Lib.hid HB5.out.2
            have HWE := Lib.hid hW5
            clear hW5
            go_simp
            with_reducible rw [HWE.out]
            clear HWE
            refine hK.out _ _ ⟨O5.out.keeps c0, O5.out.keeps c1, O5.out.keeps c2, O5.out.keeps c3⟩ (fun hHeld2 => ?_)
            clear hK K hHeld
            have hHeld := hHeld2
            clear hHeld2
            try simp only [Act.put, List.setIfInBounds_toArray, List.set_cons_zero, List.set_cons_succ, List.getElem_toArray, List.getElem_cons_succ, List.getElem_cons_zero]
            refine wpAnyH_ready (rs := [10]) (by kernel_rfl) (by simp) ?_
            refine (AllReadyH.cons rfl (fun K hK => ?_) AllReadyH.nil)
            obtain ⟨s0, s1, s2, s3, s4, s5, s6, s7, s8, s9⟩ := ten_cells BX.out
            obtain ⟨f0, f1, f2, f3, f4, f5, f6, f7, f8, f9⟩ := ten_free BX.out
            go_simp
            clear s0 s1 s2 s3 s4 s5 s6 s7 s8 s9 f0 f1 f2 f3 f4 f5 f6 f7 f8 f9
            obtain ⟨W6, hW6, oA, oB, B9⟩ := puts10 O5.out (O4.out.size) BX.out (.int .i64 c.semi) (.int .i64 c.large) (.int .i64 c.slots) (.int .i64 c.limit) (.bool false) (.slice (some ⟨w2.heap.size, 0, none⟩) n n) (.int .i64 0) (.slice none 0 0) (.slice Ag FL.length kg) (.slice As SL.length ks)
            with_reducible rw [hW6]
            have O6 := Lib.hid oA
            have RW := Lib.hid (RW.out.keep oB (BX.out.ne RW.out (by decide)).symm)
            have FR := Lib.hid (late15 HNZ.out FR.out BX.out oB (Nat.le_refl _))
            have BX := Lib.hid B9
            clear hW6 oA oB B9
            refine hK.out _ _ ⟨O6.out.keeps c0, O6.out.keeps c1, O6.out.keeps c2, O6.out.keeps c3⟩ (fun hHeld2 => ?_)
            clear hK K hHeld
            have hHeld := hHeld2
            clear hHeld2
            try simp only [Act.put, List.setIfInBounds_toArray, List.set_cons_zero, List.set_cons_succ, List.getElem_toArray, List.getElem_cons_succ, List.getElem_cons_zero]
            refine wpAnyH_done (by kernel_rfl) ?_ _
            go_wp2
            go_meet
            exact ⟨_, _, _, _, rfl, Lib.hid ⟨O6.out, BX.out, RW.out, FR.out⟩⟩
          · skip
            obtain ⟨W4, hW4, HB4⟩ := zero_state W3
            have O4 := Lib.hid (O3.out.trans HB4.out.1)
            have RW := Lib.hid (RW.out.keep HB4.out.1 id)
            have BX := Lib.hid HB4.out.2
            have HWE := Lib.hid hW4
            clear hW4
            go_simp
            with_reducible rw [HWE.out]
            clear HWE
            refine hK.out _ _ ⟨O4.out.keeps c0, O4.out.keeps c1, O4.out.keeps c2, O4.out.keeps c3⟩ (fun hHeld2 => ?_)
            clear hK K hHeld
            have hHeld := hHeld2
            clear hHeld2
            try simp only [Act.put, List.setIfInBounds_toArray, List.set_cons_zero, List.set_cons_succ, List.getElem_toArray, List.getElem_cons_succ, List.getElem_cons_zero]
            refine wpAnyH_ready (rs := [6]) (by kernel_rfl) (by simp) ?_
            refine (AllReadyH.cons rfl (fun K hK => ?_) AllReadyH.nil)
            go_simp
            go_at_call 46
            refine (HGP.out _).mono ?_
            rintro e w5 ⟨Ag, kg, rfl, hg, o⟩
            have O5 := Lib.hid (O4.out.trans o)
            have RW := Lib.hid (RW.out.keep o id)
            have BX := Lib.hid (BX.out.keep o id)
            have FR := Lib.hid (hg)
            clear o hg
            refine hK.out _ _ ⟨O5.out.keeps c0, O5.out.keeps c1, O5.out.keeps c2, O5.out.keeps c3⟩ (fun hHeld2 => ?_)
            clear hK K hHeld
            have hHeld := hHeld2
            clear hHeld2
            try simp only [Act.put, List.setIfInBounds_toArray, List.set_cons_zero, List.set_cons_succ, List.getElem_toArray, List.getElem_cons_succ, List.getElem_cons_zero]
            refine wpAnyH_take (i := 8) (v := ?_) rfl (by kernel_rfl) (by kernel_rfl) (by kernel_rfl) (fun _ _ _ h => h) (Or.inl ⟨by rfl, ?_⟩) hHeld ?_
            rotate_left
            · intro w hSw; (try dsimp only at hSw); go_simp; first | done | with_reducible rfl
            try simp only [Act.put, List.setIfInBounds_toArray, List.set_cons_zero, List.set_cons_succ, List.getElem_toArray, List.getElem_cons_succ, List.getElem_cons_zero]
            refine wpAnyH_ready (rs := [10]) (by kernel_rfl) (by simp) ?_
            refine (AllReadyH.cons rfl (fun K hK => ?_) AllReadyH.nil)
            obtain ⟨s0, s1, s2, s3, s4, s5, s6, s7, s8, s9⟩ := ten_cells BX.out
            obtain ⟨f0, f1, f2, f3, f4, f5, f6, f7, f8, f9⟩ := ten_free BX.out
            go_simp
            clear s0 s1 s2 s3 s4 s5 s6 s7 s8 s9 f0 f1 f2 f3 f4 f5 f6 f7 f8 f9
            obtain ⟨W6, hW6, oA, oB, B9⟩ := puts10 O5.out (O3.out.size) BX.out (.int .i64 c.semi) (.int .i64 c.large) (.int .i64 c.slots) (.int .i64 c.limit) (.bool false) (.slice (some ⟨w2.heap.size, 0, none⟩) n n) (.int .i64 0) (.slice none 0 0) (.slice Ag FL.length kg) (.slice As SL.length ks)
            with_reducible rw [hW6]
            have O6 := Lib.hid oA
            have RW := Lib.hid (RW.out.keep oB (BX.out.ne RW.out (by decide)).symm)
            have FR := Lib.hid (late15 HNZ.out FR.out BX.out oB (Nat.le_refl _))
            have BX := Lib.hid B9
            clear hW6 oA oB B9
            refine hK.out _ _ ⟨O6.out.keeps c0, O6.out.keeps c1, O6.out.keeps c2, O6.out.keeps c3⟩ (fun hHeld2 => ?_)
            clear hK K hHeld
            have hHeld := hHeld2
            clear hHeld2
            try simp only [Act.put, List.setIfInBounds_toArray, List.set_cons_zero, List.set_cons_succ, List.getElem_toArray, List.getElem_cons_succ, List.getElem_cons_zero]
            refine wpAnyH_done (by kernel_rfl) ?_ _
            go_wp2
            go_meet
            exact ⟨_, _, _, _, rfl, Lib.hid ⟨O6.out, BX.out, RW.out, FR.out⟩⟩
        · skip
          go_simp
          go_at_call 46
          refine (HGP.out _).mono ?_
          rintro e w3 ⟨Ag, kg, rfl, hg, o⟩
          have O3 := Lib.hid (O2.out.trans o)
          have FR := Lib.hid (hg)
          clear o hg
          refine hK.out _ _ ⟨O3.out.keeps c0, O3.out.keeps c1, O3.out.keeps c2, O3.out.keeps c3⟩ (fun hHeld2 => ?_)
          clear hK K hHeld
          have hHeld := hHeld2
          clear hHeld2
          try simp only [Act.put, List.setIfInBounds_toArray, List.set_cons_zero, List.set_cons_succ, List.getElem_toArray, List.getElem_cons_succ, List.getElem_cons_zero]
          refine wpAnyH_ready (rs := [3, 9]) (by kernel_rfl) (by simp) ?_
          refine (AllReadyH.cons rfl (fun K hK => ?_) (AllReadyH.cons rfl (fun K hK => ?_) AllReadyH.nil))
          · skip
            obtain ⟨W4, hW4, HB4⟩ := box_words15 n w3
            have O4 := Lib.hid (O3.out.trans HB4.out.1)
            have FR := Lib.hid ((FR.out.below HB4.out.1.whole).more HB4.out.1.size)
            have RW := Lib.hid HB4.out.2
            have HWE := Lib.hid hW4
            clear hW4
            go_simp
            with_reducible rw [HWE.out]
            clear HWE
            refine hK.out _ _ ⟨O4.out.keeps c0, O4.out.keeps c1, O4.out.keeps c2, O4.out.keeps c3⟩ (fun hHeld2 => ?_)
            clear hK K hHeld
            have hHeld := hHeld2
            clear hHeld2
            try simp only [Act.put, List.setIfInBounds_toArray, List.set_cons_zero, List.set_cons_succ, List.getElem_toArray, List.getElem_cons_succ, List.getElem_cons_zero]
            refine wpAnyH_take (i := 8) (v := ?_) rfl (by kernel_rfl) (by kernel_rfl) (by kernel_rfl) (fun _ _ _ h => h) (Or.inl ⟨by rfl, ?_⟩) hHeld ?_
            rotate_left
            · intro w hSw; (try dsimp only at hSw); go_simp; first | done | with_reducible rfl
            try simp only [Act.put, List.setIfInBounds_toArray, List.set_cons_zero, List.set_cons_succ, List.getElem_toArray, List.getElem_cons_succ, List.getElem_cons_zero]
            refine wpAnyH_ready (rs := [9]) (by kernel_rfl) (by simp) ?_
            refine (AllReadyH.cons rfl (fun K hK => ?_) AllReadyH.nil)
            obtain ⟨W5, hW5, HB5⟩ := zero_state W4
            have O5 := Lib.hid (O4.out.trans HB5.out.1)
            have FR := Lib.hid ((FR.out.below HB5.out.1.whole).more HB5.out.1.size)
            have RW := Lib.hid (RW.out.keep HB5.out.1 id)
            have BX := Lib.hid HB5.out.2
            have HWE := Lib.hid hW5
            clear hW5
            go_simp
            with_reducible rw [HWE.out]
            clear HWE
            refine hK.out _ _ ⟨O5.out.keeps c0, O5.out.keeps c1, O5.out.keeps c2, O5.out.keeps c3⟩ (fun hHeld2 => ?_)
            clear hK K hHeld
            have hHeld := hHeld2
            clear hHeld2
            try simp only [Act.put, List.setIfInBounds_toArray, List.set_cons_zero, List.set_cons_succ, List.getElem_toArray, List.getElem_cons_succ, List.getElem_cons_zero]
            refine wpAnyH_ready (rs := [10]) (by kernel_rfl) (by simp) ?_
            refine (AllReadyH.cons rfl (fun K hK => ?_) AllReadyH.nil)
            obtain ⟨s0, s1, s2, s3, s4, s5, s6, s7, s8, s9⟩ := ten_cells BX.out
            obtain ⟨f0, f1, f2, f3, f4, f5, f6, f7, f8, f9⟩ := ten_free BX.out
            go_simp
            clear s0 s1 s2 s3 s4 s5 s6 s7 s8 s9 f0 f1 f2 f3 f4 f5 f6 f7 f8 f9
            obtain ⟨W6, hW6, oA, oB, B9⟩ := puts10 O5.out (O4.out.size) BX.out (.int .i64 c.semi) (.int .i64 c.large) (.int .i64 c.slots) (.int .i64 c.limit) (.bool false) (.slice (some ⟨w3.heap.size, 0, none⟩) n n) (.int .i64 0) (.slice none 0 0) (.slice Ag FL.length kg) (.slice As SL.length ks)
            with_reducible rw [hW6]
            have O6 := Lib.hid oA
            have FR := Lib.hid (late15 HNZ.out FR.out BX.out oB (Nat.le_refl _))
            have RW := Lib.hid (RW.out.keep oB (BX.out.ne RW.out (by decide)).symm)
            have BX := Lib.hid B9
            clear hW6 oA oB B9
            refine hK.out _ _ ⟨O6.out.keeps c0, O6.out.keeps c1, O6.out.keeps c2, O6.out.keeps c3⟩ (fun hHeld2 => ?_)
            clear hK K hHeld
            have hHeld := hHeld2
            clear hHeld2
            try simp only [Act.put, List.setIfInBounds_toArray, List.set_cons_zero, List.set_cons_succ, List.getElem_toArray, List.getElem_cons_succ, List.getElem_cons_zero]
            refine wpAnyH_done (by kernel_rfl) ?_ _
            go_wp2
            go_meet
            exact ⟨_, _, _, _, rfl, Lib.hid ⟨O6.out, BX.out, RW.out, FR.out⟩⟩
          · skip
            obtain ⟨W4, hW4, HB4⟩ := zero_state w3
            have O4 := Lib.hid (O3.out.trans HB4.out.1)
            have FR := Lib.hid ((FR.out.below HB4.out.1.whole).more HB4.out.1.size)
            have BX := Lib.hid HB4.out.2
            have HWE := Lib.hid hW4
            clear hW4
            go_simp
            with_reducible rw [HWE.out]
            clear HWE
            refine hK.out _ _ ⟨O4.out.keeps c0, O4.out.keeps c1, O4.out.keeps c2, O4.out.keeps c3⟩ (fun hHeld2 => ?_)
            clear hK K hHeld
            have hHeld := hHeld2
            clear hHeld2
            try simp only [Act.put, List.setIfInBounds_toArray, List.set_cons_zero, List.set_cons_succ, List.getElem_toArray, List.getElem_cons_succ, List.getElem_cons_zero]
            refine wpAnyH_ready (rs := [3]) (by kernel_rfl) (by simp) ?_
            refine (AllReadyH.cons rfl (fun K hK => ?_) AllReadyH.nil)
            obtain ⟨W5, hW5, HB5⟩ := box_words15 n W4
            have O5 := Lib.hid (O4.out.trans HB5.out.1)
            have FR := Lib.hid ((FR.out.below HB5.out.1.whole).more HB5.out.1.size)
            have BX := Lib.hid (BX.out.keep HB5.out.1 id)
            have RW := Lib.hid HB5.out.2
            have HWE := Lib.hid hW5
            clear hW5
            go_simp
            with_reducible rw [HWE.out]
            clear HWE
            refine hK.out _ _ ⟨O5.out.keeps c0, O5.out.keeps c1, O5.out.keeps c2, O5.out.keeps c3⟩ (fun hHeld2 => ?_)
            clear hK K hHeld
            have hHeld := hHeld2
            clear hHeld2
            try simp only [Act.put, List.setIfInBounds_toArray, List.set_cons_zero, List.set_cons_succ, List.getElem_toArray, List.getElem_cons_succ, List.getElem_cons_zero]
            refine wpAnyH_take (i := 8) (v := ?_) rfl (by kernel_rfl) (by kernel_rfl) (by kernel_rfl) (fun _ _ _ h => h) (Or.inl ⟨by rfl, ?_⟩) hHeld ?_
            rotate_left
            · intro w hSw; (try dsimp only at hSw); go_simp; first | done | with_reducible rfl
            try simp only [Act.put, List.setIfInBounds_toArray, List.set_cons_zero, List.set_cons_succ, List.getElem_toArray, List.getElem_cons_succ, List.getElem_cons_zero]
            refine wpAnyH_ready (rs := [10]) (by kernel_rfl) (by simp) ?_
            refine (AllReadyH.cons rfl (fun K hK => ?_) AllReadyH.nil)
            obtain ⟨s0, s1, s2, s3, s4, s5, s6, s7, s8, s9⟩ := ten_cells BX.out
            obtain ⟨f0, f1, f2, f3, f4, f5, f6, f7, f8, f9⟩ := ten_free BX.out
            go_simp
            clear s0 s1 s2 s3 s4 s5 s6 s7 s8 s9 f0 f1 f2 f3 f4 f5 f6 f7 f8 f9
            obtain ⟨W6, hW6, oA, oB, B9⟩ := puts10 O5.out (O3.out.size) BX.out (.int .i64 c.semi) (.int .i64 c.large) (.int .i64 c.slots) (.int .i64 c.limit) (.bool false) (.slice (some ⟨W4.heap.size, 0, none⟩) n n) (.int .i64 0) (.slice none 0 0) (.slice Ag FL.length kg) (.slice As SL.length ks)
            with_reducible rw [hW6]
            have O6 := Lib.hid oA
            have FR := Lib.hid (late15 HNZ.out FR.out BX.out oB (Nat.le_refl _))
            have RW := Lib.hid (RW.out.keep oB (BX.out.ne RW.out (by decide)).symm)
            have BX := Lib.hid B9
            clear hW6 oA oB B9
            refine hK.out _ _ ⟨O6.out.keeps c0, O6.out.keeps c1, O6.out.keeps c2, O6.out.keeps c3⟩ (fun hHeld2 => ?_)
            clear hK K hHeld
            have hHeld := hHeld2
            clear hHeld2
            try simp only [Act.put, List.setIfInBounds_toArray, List.set_cons_zero, List.set_cons_succ, List.getElem_toArray, List.getElem_cons_succ, List.getElem_cons_zero]
            refine wpAnyH_done (by kernel_rfl) ?_ _
            go_wp2
            go_meet
            exact ⟨_, _, _, _, rfl, Lib.hid ⟨O6.out, BX.out, RW.out, FR.out⟩⟩
        · skip
          obtain ⟨W3, hW3, HB3⟩ := zero_state w2
          have O3 := Lib.hid (O2.out.trans HB3.out.1)
          have BX := Lib.hid HB3.out.2
          have HWE := Lib.hid hW3
          clear hW3
          go_simp
          with_reducible rw [HWE.out]
          clear HWE
          refine hK.out _ _ ⟨O3.out.keeps c0, O3.out.keeps c1, O3.out.keeps c2, O3.out.keeps c3⟩ (fun hHeld2 => ?_)
          clear hK K hHeld
          have hHeld := hHeld2
          clear hHeld2
          try simp only [Act.put, List.setIfInBounds_toArray, List.set_cons_zero, List.set_cons_succ, List.getElem_toArray, List.getElem_cons_succ, List.getElem_cons_zero]
          refine wpAnyH_ready (rs := [3, 6]) (by kernel_rfl) (by simp) ?_
          refine (AllReadyH.cons rfl (fun K hK => ?_) (AllReadyH.cons rfl (fun K hK => ?_) AllReadyH.nil))
          · skip
            obtain ⟨W4, hW4, HB4⟩ := box_words15 n W3
            have O4 := Lib.hid (O3.out.trans HB4.out.1)
            have BX := Lib.hid (BX.out.keep HB4.out.1 id)
            have RW := Lib.hid HB4.out.2
            have HWE := Lib.hid hW4
            clear hW4
            go_simp
            with_reducible rw [HWE.out]
            clear HWE
            refine hK.out _ _ ⟨O4.out.keeps c0, O4.out.keeps c1, O4.out.keeps c2, O4.out.keeps c3⟩ (fun hHeld2 => ?_)
            clear hK K hHeld
            have hHeld := hHeld2
            clear hHeld2
            try simp only [Act.put, List.setIfInBounds_toArray, List.set_cons_zero, List.set_cons_succ, List.getElem_toArray, List.getElem_cons_succ, List.getElem_cons_zero]
            refine wpAnyH_ready (rs := [6]) (by kernel_rfl) (by simp) ?_
            refine (AllReadyH.cons rfl (fun K hK => ?_) AllReadyH.nil)
            go_simp
            go_at_call 46
            refine (HGP.out _).mono ?_
            rintro e w5 ⟨Ag, kg, rfl, hg, o⟩
            have O5 := Lib.hid (O4.out.trans o)
            have BX := Lib.hid (BX.out.keep o id)
            have RW := Lib.hid (RW.out.keep o id)
            have FR := Lib.hid (hg)
            clear o hg
            refine hK.out _ _ ⟨O5.out.keeps c0, O5.out.keeps c1, O5.out.keeps c2, O5.out.keeps c3⟩ (fun hHeld2 => ?_)
            clear hK K hHeld
            have hHeld := hHeld2
            clear hHeld2
            try simp only [Act.put, List.setIfInBounds_toArray, List.set_cons_zero, List.set_cons_succ, List.getElem_toArray, List.getElem_cons_succ, List.getElem_cons_zero]
            refine wpAnyH_take (i := 8) (v := ?_) rfl (by kernel_rfl) (by kernel_rfl) (by kernel_rfl) (fun _ _ _ h => h) (Or.inl ⟨by rfl, ?_⟩) hHeld ?_
            rotate_left
            · intro w hSw; (try dsimp only at hSw); go_simp; first | done | with_reducible rfl
            try simp only [Act.put, List.setIfInBounds_toArray, List.set_cons_zero, List.set_cons_succ, List.getElem_toArray, List.getElem_cons_succ, List.getElem_cons_zero]
            refine wpAnyH_ready (rs := [10]) (by kernel_rfl) (by simp) ?_
            refine (AllReadyH.cons rfl (fun K hK => ?_) AllReadyH.nil)
            obtain ⟨s0, s1, s2, s3, s4, s5, s6, s7, s8, s9⟩ := ten_cells BX.out
            obtain ⟨f0, f1, f2, f3, f4, f5, f6, f7, f8, f9⟩ := ten_free BX.out
            go_simp
            clear s0 s1 s2 s3 s4 s5 s6 s7 s8 s9 f0 f1 f2 f3 f4 f5 f6 f7 f8 f9
            obtain ⟨W6, hW6, oA, oB, B9⟩ := puts10 O5.out (O2.out.size) BX.out (.int .i64 c.semi) (.int .i64 c.large) (.int .i64 c.slots) (.int .i64 c.limit) (.bool false) (.slice (some ⟨W3.heap.size, 0, none⟩) n n) (.int .i64 0) (.slice none 0 0) (.slice Ag FL.length kg) (.slice As SL.length ks)
            with_reducible rw [hW6]
            have O6 := Lib.hid oA
            have RW := Lib.hid (RW.out.keep oB (BX.out.ne RW.out (by decide)).symm)
            have FR := Lib.hid (late15 HNZ.out FR.out BX.out oB (Nat.le_refl _))
            have BX := Lib.hid B9
            clear hW6 oA oB B9
            refine hK.out _ _ ⟨O6.out.keeps c0, O6.out.keeps c1, O6.out.keeps c2, O6.out.keeps c3⟩ (fun hHeld2 => ?_)
            clear hK K hHeld
            have hHeld := hHeld2
            clear hHeld2
            try simp only [Act.put, List.setIfInBounds_toArray, List.set_cons_zero, List.set_cons_succ, List.getElem_toArray, List.getElem_cons_succ, List.getElem_cons_zero]
            refine wpAnyH_done (by kernel_rfl) ?_ _
            go_wp2
            go_meet
            exact ⟨_, _, _, _, rfl, Lib.hid ⟨O6.out, BX.out, RW.out, FR.out⟩⟩
          · skip
            go_simp
            go_at_call 46
            refine (HGP.out _).mono ?_
            rintro e w4 ⟨Ag, kg, rfl, hg, o⟩
            have O4 := Lib.hid (O3.out.trans o)
            have BX := Lib.hid (BX.out.keep o id)
            have FR := Lib.hid (hg)
            clear o hg
            refine hK.out _ _ ⟨O4.out.keeps c0, O4.out.keeps c1, O4.out.keeps c2, O4.out.keeps c3⟩ (fun hHeld2 => ?_)
            clear hK K hHeld
            have hHeld := hHeld2
            clear hHeld2
            try simp only [Act.put, List.setIfInBounds_toArray, List.set_cons_zero, List.set_cons_succ, List.getElem_toArray, List.getElem_cons_succ, List.getElem_cons_zero]
            refine wpAnyH_ready (rs := [3]) (by kernel_rfl) (by simp) ?_
            refine (AllReadyH.cons rfl (fun K hK => ?_) AllReadyH.nil)
            obtain ⟨W5, hW5, HB5⟩ := box_words15 n w4
            have O5 := Lib.hid (O4.out.trans HB5.out.1)
            have BX := Lib.hid (BX.out.keep HB5.out.1 id)
            have FR := Lib.hid ((FR.out.below HB5.out.1.whole).more HB5.out.1.size)
            have RW := Lib.hid HB5.out.2
            have HWE := Lib.hid hW5
            clear hW5
            go_simp
            with_reducible rw [HWE.out]
            clear HWE
            refine hK.out _ _ ⟨O5.out.keeps c0, O5.out.keeps c1, O5.out.keeps c2, O5.out.keeps c3⟩ (fun hHeld2 => ?_)
            clear hK K hHeld
            have hHeld := hHeld2
            clear hHeld2
            try simp only [Act.put, List.setIfInBounds_toArray, List.set_cons_zero, List.set_cons_succ, List.getElem_toArray, List.getElem_cons_succ, List.getElem_cons_zero]
            refine wpAnyH_take (i := 8) (v := ?_) rfl (by kernel_rfl) (by kernel_rfl) (by kernel_rfl) (fun _ _ _ h => h) (Or.inl ⟨by rfl, ?_⟩) hHeld ?_
            rotate_left
            · intro w hSw; (try dsimp only at hSw); go_simp; first | done | with_reducible rfl
            try simp only [Act.put, List.setIfInBounds_toArray, List.set_cons_zero, List.set_cons_succ, List.getElem_toArray, List.getElem_cons_succ, List.getElem_cons_zero]
            refine wpAnyH_ready (rs := [10]) (by kernel_rfl) (by simp) ?_
            refine (AllReadyH.cons rfl (fun K hK => ?_) AllReadyH.nil)
            obtain ⟨s0, s1, s2, s3, s4, s5, s6, s7, s8, s9⟩ := ten_cells BX.out
            obtain ⟨f0, f1, f2, f3, f4, f5, f6, f7, f8, f9⟩ := ten_free BX.out
            go_simp
            clear s0 s1 s2 s3 s4 s5 s6 s7 s8 s9 f0 f1 f2 f3 f4 f5 f6 f7 f8 f9
            obtain ⟨W6, hW6, oA, oB, B9⟩ := puts10 O5.out (O2.out.size) BX.out (.int .i64 c.semi) (.int .i64 c.large) (.int .i64 c.slots) (.int .i64 c.limit) (.bool false) (.slice (some ⟨w4.heap.size, 0, none⟩) n n) (.int .i64 0) (.slice none 0 0) (.slice Ag FL.length kg) (.slice As SL.length ks)
            with_reducible rw [hW6]
            have O6 := Lib.hid oA
            have FR := Lib.hid (late15 HNZ.out FR.out BX.out oB (Nat.le_refl _))
            have RW := Lib.hid (RW.out.keep oB (BX.out.ne RW.out (by decide)).symm)
            have BX := Lib.hid B9
            clear hW6 oA oB B9
            refine hK.out _ _ ⟨O6.out.keeps c0, O6.out.keeps c1, O6.out.keeps c2, O6.out.keeps c3⟩ (fun hHeld2 => ?_)
            clear hK K hHeld
            have hHeld := hHeld2
            clear hHeld2
            try simp only [Act.put, List.setIfInBounds_toArray, List.set_cons_zero, List.set_cons_succ, List.getElem_toArray, List.getElem_cons_succ, List.getElem_cons_zero]
            refine wpAnyH_done (by kernel_rfl) ?_ _
            go_wp2
            go_meet
            exact ⟨_, _, _, _, rfl, Lib.hid ⟨O6.out, BX.out, RW.out, FR.out⟩⟩
      · skip
        obtain ⟨W2, hW2, HB2⟩ := zero_state w1
        have O2 := Lib.hid (O1.out.trans HB2.out.1)
        have BX := Lib.hid HB2.out.2
        have HWE := Lib.hid hW2
        clear hW2
        go_simp
        with_reducible rw [HWE.out]
        clear HWE
        refine hK.out _ _ ⟨O2.out.keeps c0, O2.out.keeps c1, O2.out.keeps c2, O2.out.keeps c3⟩ (fun hHeld2 => ?_)
        clear hK K hHeld
        have hHeld := hHeld2
        clear hHeld2
        try simp only [Act.put, List.setIfInBounds_toArray, List.set_cons_zero, List.set_cons_succ, List.getElem_toArray, List.getElem_cons_succ, List.getElem_cons_zero]
        refine wpAnyH_ready (rs := [3, 5]) (by kernel_rfl) (by simp) ?_
        refine (AllReadyH.cons rfl (fun K hK => ?_) (AllReadyH.cons rfl (fun K hK => ?_) AllReadyH.nil))
        · skip
          obtain ⟨W3, hW3, HB3⟩ := box_words15 n W2
          have O3 := Lib.hid (O2.out.trans HB3.out.1)
          have BX := Lib.hid (BX.out.keep HB3.out.1 id)
          have RW := Lib.hid HB3.out.2
          have HWE := Lib.hid hW3
          clear hW3
          go_simp
          with_reducible rw [HWE.out]
          clear HWE
          refine hK.out _ _ ⟨O3.out.keeps c0, O3.out.keeps c1, O3.out.keeps c2, O3.out.keeps c3⟩ (fun hHeld2 => ?_)
          clear hK K hHeld
          have hHeld := hHeld2
          clear hHeld2
          try simp only [Act.put, List.setIfInBounds_toArray, List.set_cons_zero, List.set_cons_succ, List.getElem_toArray, List.getElem_cons_succ, List.getElem_cons_zero]
          refine wpAnyH_ready (rs := [5]) (by kernel_rfl) (by simp) ?_
          refine (AllReadyH.cons rfl (fun K hK => ?_) AllReadyH.nil)
          go_simp
          go_at_call 47
          refine (HLA.out _).mono ?_
          rintro e w4 ⟨rfl, o⟩
          have O4 := Lib.hid (O3.out.trans o)
          have BX := Lib.hid (BX.out.keep o id)
          have RW := Lib.hid (RW.out.keep o id)
          clear o
          refine hK.out _ _ ⟨O4.out.keeps c0, O4.out.keeps c1, O4.out.keeps c2, O4.out.keeps c3⟩ (fun hHeld2 => ?_)
          clear hK K hHeld
          have hHeld := hHeld2
          clear hHeld2
          try simp only [Act.put, List.setIfInBounds_toArray, List.set_cons_zero, List.set_cons_succ, List.getElem_toArray, List.getElem_cons_succ, List.getElem_cons_zero]
          refine wpAnyH_ready (rs := [6]) (by kernel_rfl) (by simp) ?_
          refine (AllReadyH.cons rfl (fun K hK => ?_) AllReadyH.nil)
          go_simp
          go_at_call 46
          refine (HGP.out _).mono ?_
          rintro e w5 ⟨Ag, kg, rfl, hg, o⟩
          have O5 := Lib.hid (O4.out.trans o)
          have BX := Lib.hid (BX.out.keep o id)
          have RW := Lib.hid (RW.out.keep o id)
          have FR := Lib.hid (hg)
          clear o hg
          refine hK.out _ _ ⟨O5.out.keeps c0, O5.out.keeps c1, O5.out.keeps c2, O5.out.keeps c3⟩ (fun hHeld2 => ?_)
          clear hK K hHeld
          have hHeld := hHeld2
          clear hHeld2
          try simp only [Act.put, List.setIfInBounds_toArray, List.set_cons_zero, List.set_cons_succ, List.getElem_toArray, List.getElem_cons_succ, List.getElem_cons_zero]
          refine wpAnyH_take (i := 8) (v := ?_) rfl (by kernel_rfl) (by kernel_rfl) (by kernel_rfl) (fun _ _ _ h => h) (Or.inl ⟨by rfl, ?_⟩) hHeld ?_
          rotate_left
          · intro w hSw; (try dsimp only at hSw); go_simp; first | done | with_reducible rfl
          try simp only [Act.put, List.setIfInBounds_toArray, List.set_cons_zero, List.set_cons_succ, List.getElem_toArray, List.getElem_cons_succ, List.getElem_cons_zero]
          refine wpAnyH_ready (rs := [10]) (by kernel_rfl) (by simp) ?_
          refine (AllReadyH.cons rfl (fun K hK => ?_) AllReadyH.nil)
          obtain ⟨s0, s1, s2, s3, s4, s5, s6, s7, s8, s9⟩ := ten_cells BX.out
          obtain ⟨f0, f1, f2, f3, f4, f5, f6, f7, f8, f9⟩ := ten_free BX.out
          go_simp
          clear s0 s1 s2 s3 s4 s5 s6 s7 s8 s9 f0 f1 f2 f3 f4 f5 f6 f7 f8 f9
          obtain ⟨W6, hW6, oA, oB, B9⟩ := puts10 O5.out (O1.out.size) BX.out (.int .i64 c.semi) (.int .i64 c.large) (.int .i64 c.slots) (.int .i64 c.limit) (.bool false) (.slice (some ⟨W2.heap.size, 0, none⟩) n n) (.int .i64 0) (.slice none 0 0) (.slice Ag FL.length kg) (.slice As SL.length ks)
          with_reducible rw [hW6]
          have O6 := Lib.hid oA
          have RW := Lib.hid (RW.out.keep oB (BX.out.ne RW.out (by decide)).symm)
          have FR := Lib.hid (late15 HNZ.out FR.out BX.out oB (Nat.le_refl _))
          have BX := Lib.hid B9
          clear hW6 oA oB B9
          refine hK.out _ _ ⟨O6.out.keeps c0, O6.out.keeps c1, O6.out.keeps c2, O6.out.keeps c3⟩ (fun hHeld2 => ?_)
          clear hK K hHeld
          have hHeld := hHeld2
          clear hHeld2
          try simp only [Act.put, List.setIfInBounds_toArray, List.set_cons_zero, List.set_cons_succ, List.getElem_toArray, List.getElem_cons_succ, List.getElem_cons_zero]
          refine wpAnyH_done (by kernel_rfl) ?_ _
          go_wp2
          go_meet
          exact ⟨_, _, _, _, rfl, Lib.hid ⟨O6.out, BX.out, RW.out, FR.out⟩⟩
        · skip
          go_simp
          go_at_call 47
          refine (HLA.out _).mono ?_
          rintro e w3 ⟨rfl, o⟩
          have O3 := Lib.hid (O2.out.trans o)
          have BX := Lib.hid (BX.out.keep o id)
          clear o
          refine hK.out _ _ ⟨O3.out.keeps c0, O3.out.keeps c1, O3.out.keeps c2, O3.out.keeps c3⟩ (fun hHeld2 => ?_)
          clear hK K hHeld
          have hHeld := hHeld2
          clear hHeld2
          try simp only [Act.put, List.setIfInBounds_toArray, List.set_cons_zero, List.set_cons_succ, List.getElem_toArray, List.getElem_cons_succ, List.getElem_cons_zero]
          refine wpAnyH_ready (rs := [3, 6]) (by kernel_rfl) (by simp) ?_
          refine (AllReadyH.cons rfl (fun K hK => ?_) (AllReadyH.cons rfl (fun K hK => ?_) AllReadyH.nil))
          · skip
            obtain ⟨W4, hW4, HB4⟩ := box_words15 n w3
            have O4 := Lib.hid (O3.out.trans HB4.out.1)
            have BX := Lib.hid (BX.out.keep HB4.out.1 id)
            have RW := Lib.hid HB4.out.2
            have HWE := Lib.hid hW4
            clear hW4
            go_simp
            with_reducible rw [HWE.out]
            clear HWE
            refine hK.out _ _ ⟨O4.out.keeps c0, O4.out.keeps c1, O4.out.keeps c2, O4.out.keeps c3⟩ (fun hHeld2 => ?_)
            clear hK K hHeld
            have hHeld := hHeld2
            clear hHeld2
            try simp only [Act.put, List.setIfInBounds_toArray, List.set_cons_zero, List.set_cons_succ, List.getElem_toArray, List.getElem_cons_succ, List.getElem_cons_zero]
            refine wpAnyH_ready (rs := [6]) (by kernel_rfl) (by simp) ?_
            refine (AllReadyH.cons rfl (fun K hK => ?_) AllReadyH.nil)
            go_simp
            go_at_call 46
            refine (HGP.out _).mono ?_
            rintro e w5 ⟨Ag, kg, rfl, hg, o⟩
            have O5 := Lib.hid (O4.out.trans o)
            have BX := Lib.hid (BX.out.keep o id)
            have RW := Lib.hid (RW.out.keep o id)
            have FR := Lib.hid (hg)
            clear o hg
            refine hK.out _ _ ⟨O5.out.keeps c0, O5.out.keeps c1, O5.out.keeps c2, O5.out.keeps c3⟩ (fun hHeld2 => ?_)
            clear hK K hHeld
            have hHeld := hHeld2
            clear hHeld2
            try simp only [Act.put, List.setIfInBounds_toArray, List.set_cons_zero, List.set_cons_succ, List.getElem_toArray, List.getElem_cons_succ, List.getElem_cons_zero]
            refine wpAnyH_take (i := 8) (v := ?_) rfl (by kernel_rfl) (by kernel_rfl) (by kernel_rfl) (fun _ _ _ h => h) (Or.inl ⟨by rfl, ?_⟩) hHeld ?_
            rotate_left
            · intro w hSw; (try dsimp only at hSw); go_simp; first | done | with_reducible rfl
            try simp only [Act.put, List.setIfInBounds_toArray, List.set_cons_zero, List.set_cons_succ, List.getElem_toArray, List.getElem_cons_succ, List.getElem_cons_zero]
            refine wpAnyH_ready (rs := [10]) (by kernel_rfl) (by simp) ?_
            refine (AllReadyH.cons rfl (fun K hK => ?_) AllReadyH.nil)
            obtain ⟨s0, s1, s2, s3, s4, s5, s6, s7, s8, s9⟩ := ten_cells BX.out
            obtain ⟨f0, f1, f2, f3, f4, f5, f6, f7, f8, f9⟩ := ten_free BX.out
            go_simp
            clear s0 s1 s2 s3 s4 s5 s6 s7 s8 s9 f0 f1 f2 f3 f4 f5 f6 f7 f8 f9
            obtain ⟨W6, hW6, oA, oB, B9⟩ := puts10 O5.out (O1.out.size) BX.out (.int .i64 c.semi) (.int .i64 c.large) (.int .i64 c.slots) (.int .i64 c.limit) (.bool false) (.slice (some ⟨w3.heap.size, 0, none⟩) n n) (.int .i64 0) (.slice none 0 0) (.slice Ag FL.length kg) (.slice As SL.length ks)
            with_reducible rw [hW6]
            have O6 := Lib.hid oA
            have RW := Lib.hid (RW.out.keep oB (BX.out.ne RW.out (by decide)).symm)
            have FR := Lib.hid (late15 HNZ.out FR.out BX.out oB (Nat.le_refl _))
            have BX := Lib.hid B9
            clear hW6 oA oB B9
            refine hK.out _ _ ⟨O6.out.keeps c0, O6.out.keeps c1, O6.out.keeps c2, O6.out.keeps c3⟩ (fun hHeld2 => ?_)
            clear hK K hHeld
            have hHeld := hHeld2
            clear hHeld2
            try simp only [Act.put, List.setIfInBounds_toArray, List.set_cons_zero, List.set_cons_succ, List.getElem_toArray, List.getElem_cons_succ, List.getElem_cons_zero]
            refine wpAnyH_done (by kernel_rfl) ?_ _
            go_wp2
            go_meet
            exact ⟨_, _, _, _, rfl, Lib.hid ⟨O6.out, BX.out, RW.out, FR.out⟩⟩
          · skip
            go_simp
            go_at_call 46
            refine (HGP.out _).mono ?_
            rintro e w4 ⟨Ag, kg, rfl, hg, o⟩
            have O4 := Lib.hid (O3.out.trans o)
            have BX := Lib.hid (BX.out.keep o id)
            have FR := Lib.hid (hg)
            clear o hg
            refine hK.out _ _ ⟨O4.out.keeps c0, O4.out.keeps c1, O4.out.keeps c2, O4.out.keeps c3⟩ (fun hHeld2 => ?_)
            clear hK K hHeld
            have hHeld := hHeld2
            clear hHeld2
            try simp only [Act.put, List.setIfInBounds_toArray, List.set_cons_zero, List.set_cons_succ, List.getElem_toArray, List.getElem_cons_succ, List.getElem_cons_zero]
            refine wpAnyH_ready (rs := [3]) (by kernel_rfl) (by simp) ?_
            refine (AllReadyH.cons rfl (fun K hK => ?_) AllReadyH.nil)
            obtain ⟨W5, hW5, HB5⟩ := box_words15 n w4
            have O5 := Lib.hid (O4.out.trans HB5.out.1)
            have BX := Lib.hid (BX.out.keep HB5.out.1 id)
            have FR := Lib.hid ((FR.out.below HB5.out.1.whole).more HB5.out.1.size)
            have RW := Lib.hid HB5.out.2
            have HWE := Lib.hid hW5
            clear hW5
            go_simp
            with_reducible rw [HWE.out]
            clear HWE
            refine hK.out _ _ ⟨O5.out.keeps c0, O5.out.keeps c1, O5.out.keeps c2, O5.out.keeps c3⟩ (fun hHeld2 => ?_)
            clear hK K hHeld
            have hHeld := hHeld2
            clear hHeld2
            try simp only [Act.put, List.setIfInBounds_toArray, List.set_cons_zero, List.set_cons_succ, List.getElem_toArray, List.getElem_cons_succ, List.getElem_cons_zero]
            refine wpAnyH_take (i := 8) (v := ?_) rfl (by kernel_rfl) (by kernel_rfl) (by kernel_rfl) (fun _ _ _ h => h) (Or.inl ⟨by rfl, ?_⟩) hHeld ?_
            rotate_left
            · intro w hSw; (try dsimp only at hSw); go_simp; first | done | with_reducible rfl
            try simp only [Act.put, List.setIfInBounds_toArray, List.set_cons_zero, List.set_cons_succ, List.getElem_toArray, List.getElem_cons_succ, List.getElem_cons_zero]
            refine wpAnyH_ready (rs := [10]) (by kernel_rfl) (by simp) ?_
            refine (AllReadyH.cons rfl (fun K hK => ?_) AllReadyH.nil)
            obtain ⟨s0, s1, s2, s3, s4, s5, s6, s7, s8, s9⟩ := ten_cells BX.out
            obtain ⟨f0, f1, f2, f3, f4, f5, f6, f7, f8, f9⟩ := ten_free BX.out
            go_simp
            clear s0 s1 s2 s3 s4 s5 s6 s7 s8 s9 f0 f1 f2 f3 f4 f5 f6 f7 f8 f9
            obtain ⟨W6, hW6, oA, oB, B9⟩ := puts10 O5.out (O1.out.size) BX.out (.int .i64 c.semi) (.int .i64 c.large) (.int .i64 c.slots) (.int .i64 c.limit) (.bool false) (.slice (some ⟨w4.heap.size, 0, none⟩) n n) (.int .i64 0) (.slice none 0 0) (.slice Ag FL.length kg) (.slice As SL.length ks)
            with_reducible rw [hW6]
            have O6 := Lib.hid oA
            have FR := Lib.hid (late15 HNZ.out FR.out BX.out oB (Nat.le_refl _))
            have RW := Lib.hid (RW.out.keep oB (BX.out.ne RW.out (by decide)).symm)
            have BX := Lib.hid B9
            clear hW6 oA oB B9
            refine hK.out _ _ ⟨O6.out.keeps c0, O6.out.keeps c1, O6.out.keeps c2, O6.out.keeps c3⟩ (fun hHeld2 => ?_)
            clear hK K hHeld
            have hHeld := hHeld2
            clear hHeld2
            try simp only [Act.put, List.setIfInBounds_toArray, List.set_cons_zero, List.set_cons_succ, List.getElem_toArray, List.getElem_cons_succ, List.getElem_cons_zero]
            refine wpAnyH_done (by kernel_rfl) ?_ _
            go_wp2
            go_meet
            exact ⟨_, _, _, _, rfl, Lib.hid ⟨O6.out, BX.out, RW.out, FR.out⟩⟩
    · skip
      obtain ⟨W1, hW1, HB1⟩ := zero_state_drew WS
      have O1 := Lib.hid (O0.out.trans HB1.out.1)
      have BX := Lib.hid HB1.out.2
      have HWE := Lib.hid hW1
      clear hW1
      go_simp
      with_reducible rw [HWE.out]
      clear HWE
      refine hK.out _ _ ⟨O1.out.keeps c0, O1.out.keeps c1, O1.out.keeps c2, O1.out.keeps c3⟩ (fun hHeld2 => ?_)
      clear hK K hHeld
      have hHeld := hHeld2
      clear hHeld2
      try simp only [Act.put, List.setIfInBounds_toArray, List.set_cons_zero, List.set_cons_succ, List.getElem_toArray, List.getElem_cons_succ, List.getElem_cons_zero]
      refine wpAnyH_ready (rs := [2]) (by kernel_rfl) (by simp) ?_
      refine (AllReadyH.cons rfl (fun K hK => ?_) AllReadyH.nil)
      go_simp
      go_at_call 45
      refine (HWD.out _).mono ?_
      rintro e w2 ⟨rfl, o⟩
      have O2 := Lib.hid (O1.out.trans o)
      have BX := Lib.hid (BX.out.keep o id)
      clear o
      refine hK.out _ _ ⟨O2.out.keeps c0, O2.out.keeps c1, O2.out.keeps c2, O2.out.keeps c3⟩ (fun hHeld2 => ?_)
      clear hK K hHeld
      have hHeld := hHeld2
      clear hHeld2
      try simp only [Act.put, List.setIfInBounds_toArray, List.set_cons_zero, List.set_cons_succ, List.getElem_toArray, List.getElem_cons_succ, List.getElem_cons_zero]
      refine wpAnyH_ready (rs := [3, 5]) (by kernel_rfl) (by simp) ?_
      refine (AllReadyH.cons rfl (fun K hK => ?_) (AllReadyH.cons rfl (fun K hK => ?_) AllReadyH.nil))
      · skip
        obtain ⟨W3, hW3, HB3⟩ := box_words15 n w2
        have O3 := Lib.hid (O2.out.trans HB3.out.1)
        have BX := Lib.hid (BX.out.keep HB3.out.1 id)
        have RW := Lib.hid HB3.out.2
        have HWE := Lib.hid hW3
        clear hW3
        go_simp
        with_reducible rw [HWE.out]
        clear HWE
        refine hK.out _ _ ⟨O3.out.keeps c0, O3.out.keeps c1, O3.out.keeps c2, O3.out.keeps c3⟩ (fun hHeld2 => ?_)
        clear hK K hHeld
        have hHeld := hHeld2
        clear hHeld2
        try simp only [Act.put, List.setIfInBounds_toArray, List.set_cons_zero, List.set_cons_succ, List.getElem_toArray, List.getElem_cons_succ, List.getElem_cons_zero]
        refine wpAnyH_ready (rs := [5]) (by kernel_rfl) (by simp) ?_
        refine (AllReadyH.cons rfl (fun K hK => ?_) AllReadyH.nil)
        go_simp
        go_at_call 47
        refine (HLA.out _).mono ?_
        rintro e w4 ⟨rfl, o⟩
        have O4 := Lib.hid (O3.out.trans o)
        have BX := Lib.hid (BX.out.keep o id)
        have RW := Lib.hid (RW.out.keep o id)
        clear o
        refine hK.out _ _ ⟨O4.out.keeps c0, O4.out.keeps c1, O4.out.keeps c2, O4.out.keeps c3⟩ (fun hHeld2 => ?_)
        clear hK K hHeld
        have hHeld := hHeld2
        clear hHeld2
        try simp only [Act.put, List.setIfInBounds_toArray, List.set_cons_zero, List.set_cons_succ, List.getElem_toArray, List.getElem_cons_succ, List.getElem_cons_zero]
        refine wpAnyH_ready (rs := [6]) (by kernel_rfl) (by simp) ?_
        refine (AllReadyH.cons rfl (fun K hK => ?_) AllReadyH.nil)
        go_simp
        go_at_call 46
        refine (HGP.out _).mono ?_
        rintro e w5 ⟨Ag, kg, rfl, hg, o⟩
        have O5 := Lib.hid (O4.out.trans o)
        have BX := Lib.hid (BX.out.keep o id)
        have RW := Lib.hid (RW.out.keep o id)
        have FR := Lib.hid (hg)
        clear o hg
        refine hK.out _ _ ⟨O5.out.keeps c0, O5.out.keeps c1, O5.out.keeps c2, O5.out.keeps c3⟩ (fun hHeld2 => ?_)
        clear hK K hHeld
        have hHeld := hHeld2
        clear hHeld2
        try simp only [Act.put, List.setIfInBounds_toArray, List.set_cons_zero, List.set_cons_succ, List.getElem_toArray, List.getElem_cons_succ, List.getElem_cons_zero]
        refine wpAnyH_take (i := 8) (v := ?_) rfl (by kernel_rfl) (by kernel_rfl) (by kernel_rfl) (fun _ _ _ h => h) (Or.inl ⟨by rfl, ?_⟩) hHeld ?_
        rotate_left
        · intro w hSw; (try dsimp only at hSw); go_simp; first | done | with_reducible rfl
        try simp only [Act.put, List.setIfInBounds_toArray, List.set_cons_zero, List.set_cons_succ, List.getElem_toArray, List.getElem_cons_succ, List.getElem_cons_zero]
        refine wpAnyH_ready (rs := [10]) (by kernel_rfl) (by simp) ?_
        refine (AllReadyH.cons rfl (fun K hK => ?_) AllReadyH.nil)
        obtain ⟨s0, s1, s2, s3, s4, s5, s6, s7, s8, s9⟩ := ten_cells BX.out
        obtain ⟨f0, f1, f2, f3, f4, f5, f6, f7, f8, f9⟩ := ten_free BX.out
        go_simp
        clear s0 s1 s2 s3 s4 s5 s6 s7 s8 s9 f0 f1 f2 f3 f4 f5 f6 f7 f8 f9
        obtain ⟨W6, hW6, oA, oB, B9⟩ := puts10 O5.out (Nat.le_refl WS.heap.size) BX.out (.int .i64 c.semi) (.int .i64 c.large) (.int .i64 c.slots) (.int .i64 c.limit) (.bool false) (.slice (some ⟨w2.heap.size, 0, none⟩) n n) (.int .i64 0) (.slice none 0 0) (.slice Ag FL.length kg) (.slice As SL.length ks)
        with_reducible rw [hW6]
        have O6 := Lib.hid oA
        have RW := Lib.hid (RW.out.keep oB (BX.out.ne RW.out (by decide)).symm)
        have FR := Lib.hid (late15 HNZ.out FR.out BX.out oB (Nat.le_refl _))
        have BX := Lib.hid B9
        clear hW6 oA oB B9
        refine hK.out _ _ ⟨O6.out.keeps c0, O6.out.keeps c1, O6.out.keeps c2, O6.out.keeps c3⟩ (fun hHeld2 => ?_)
        clear hK K hHeld
        have hHeld := hHeld2
        clear hHeld2
        try simp only [Act.put, List.setIfInBounds_toArray, List.set_cons_zero, List.set_cons_succ, List.getElem_toArray, List.getElem_cons_succ, List.getElem_cons_zero]
        refine wpAnyH_done (by kernel_rfl) ?_ _
        go_wp2
        go_meet
        exact ⟨_, _, _, _, rfl, Lib.hid ⟨O6.out, BX.out, RW.out, FR.out⟩⟩
      · skip
        go_simp
        go_at_call 47
        refine (HLA.out _).mono ?_
        rintro e w3 ⟨rfl, o⟩
        have O3 := Lib.hid (O2.out.trans o)
        have BX := Lib.hid (BX.out.keep o id)
        clear o
        refine hK.out _ _ ⟨O3.out.keeps c0, O3.out.keeps c1, O3.out.keeps c2, O3.out.keeps c3⟩ (fun hHeld2 => ?_)
        clear hK K hHeld
        have hHeld := hHeld2
        clear hHeld2
        try simp only [Act.put, List.setIfInBounds_toArray, List.set_cons_zero, List.set_cons_succ, List.getElem_toArray, List.getElem_cons_succ, List.getElem_cons_zero]
        refine wpAnyH_ready (rs := [3, 6]) (by kernel_rfl) (by simp) ?_
        refine (AllReadyH.cons rfl (fun K hK => ?_) (AllReadyH.cons rfl (fun K hK => ?_) AllReadyH.nil))
        · skip
          obtain ⟨W4, hW4, HB4⟩ := box_words15 n w3
          have O4 := Lib.hid (O3.out.trans HB4.out.1)
          have BX := Lib.hid (BX.out.keep HB4.out.1 id)
          have RW := Lib.hid HB4.out.2
          have HWE := Lib.hid hW4
          clear hW4
          go_simp
          with_reducible rw [HWE.out]
          clear HWE
          refine hK.out _ _ ⟨O4.out.keeps c0, O4.out.keeps c1, O4.out.keeps c2, O4.out.keeps c3⟩ (fun hHeld2 => ?_)
          clear hK K hHeld
          have hHeld := hHeld2
          clear hHeld2
          try simp only [Act.put, List.setIfInBounds_toArray, List.set_cons_zero, List.set_cons_succ, List.getElem_toArray, List.getElem_cons_succ, List.getElem_cons_zero]
          refine wpAnyH_ready (rs := [6]) (by kernel_rfl) (by simp) ?_
          refine (AllReadyH.cons rfl (fun K hK => ?_) AllReadyH.nil)
          go_simp
          go_at_call 46
          refine (HGP.out _).mono ?_
          rintro e w5 ⟨Ag, kg, rfl, hg, o⟩
          have O5 := Lib.hid (O4.out.trans o)
          have BX := Lib.hid (BX.out.keep o id)
          have RW := Lib.hid (RW.out.keep o id)
          have FR := Lib.hid (hg)
          clear o hg
          refine hK.out _ _ ⟨O5.out.keeps c0, O5.out.keeps c1, O5.out.keeps c2, O5.out.keeps c3⟩ (fun hHeld2 => ?_)
          clear hK K hHeld
          have hHeld := hHeld2
          clear hHeld2
          try simp only [Act.put, List.setIfInBounds_toArray, List.set_cons_zero, List.set_cons_succ, List.getElem_toArray, List.getElem_cons_succ, List.getElem_cons_zero]
          refine wpAnyH_take (i := 8) (v := ?_) rfl (by kernel_rfl) (by kernel_rfl) (by kernel_rfl) (fun _ _ _ h => h) (Or.inl ⟨by rfl, ?_⟩) hHeld ?_
          rotate_left
          · intro w hSw; (try dsimp only at hSw); go_simp; first | done | with_reducible rfl
          try simp only [Act.put, List.setIfInBounds_toArray, List.set_cons_zero, List.set_cons_succ, List.getElem_toArray, List.getElem_cons_succ, List.getElem_cons_zero]
          refine wpAnyH_ready (rs := [10]) (by kernel_rfl) (by simp) ?_
          refine (AllReadyH.cons rfl (fun K hK => ?_) AllReadyH.nil)
          obtain ⟨s0, s1, s2, s3, s4, s5, s6, s7, s8, s9⟩ := ten_cells BX.out
          obtain ⟨f0, f1, f2, f3, f4, f5, f6, f7, f8, f9⟩ := ten_free BX.out
          go_simp
          clear s0 s1 s2 s3 s4 s5 s6 s7 s8 s9 f0 f1 f2 f3 f4 f5 f6 f7 f8 f9
          obtain ⟨W6, hW6, oA, oB, B9⟩ := puts10 O5.out (Nat.le_refl WS.heap.size) BX.out (.int .i64 c.semi) (.int .i64 c.large) (.int .i64 c.slots) (.int .i64 c.limit) (.bool false) (.slice (some ⟨w3.heap.size, 0, none⟩) n n) (.int .i64 0) (.slice none 0 0) (.slice Ag FL.length kg) (.slice As SL.length ks)
          with_reducible rw [hW6]
          have O6 := Lib.hid oA
          have RW := Lib.hid (RW.out.keep oB (BX.out.ne RW.out (by decide)).symm)
          have FR := Lib.hid (late15 HNZ.out FR.out BX.out oB (Nat.le_refl _))
          have BX := Lib.hid B9
          clear hW6 oA oB B9
          refine hK.out _ _ ⟨O6.out.keeps c0, O6.out.keeps c1, O6.out.keeps c2, O6.out.keeps c3⟩ (fun hHeld2 => ?_)
          clear hK K hHeld
          have hHeld := hHeld2
          clear hHeld2
          try simp only [Act.put, List.setIfInBounds_toArray, List.set_cons_zero, List.set_cons_succ, List.getElem_toArray, List.getElem_cons_succ, List.getElem_cons_zero]
          refine wpAnyH_done (by kernel_rfl) ?_ _
          go_wp2
          go_meet
          exact ⟨_, _, _, _, rfl, Lib.hid ⟨O6.out, BX.out, RW.out, FR.out⟩⟩
        · skip
          go_simp
          go_at_call 46
          refine (HGP.out _).mono ?_
          rintro e w4 ⟨Ag, kg, rfl, hg, o⟩
          have O4 := Lib.hid (O3.out.trans o)
          have BX := Lib.hid (BX.out.keep o id)
          have FR := Lib.hid (hg)
          clear o hg
          refine hK.out _ _ ⟨O4.out.keeps c0, O4.out.keeps c1, O4.out.keeps c2, O4.out.keeps c3⟩ (fun hHeld2 => ?_)
          clear hK K hHeld
          have hHeld := hHeld2
          clear hHeld2
          try simp only [Act.put, List.setIfInBounds_toArray, List.set_cons_zero, List.set_cons_succ, List.getElem_toArray, List.getElem_cons_succ, List.getElem_cons_zero]
          refine wpAnyH_ready (rs := [3]) (by kernel_rfl) (by simp) ?_
          refine (AllReadyH.cons rfl (fun K hK => ?_) AllReadyH.nil)
          obtain ⟨W5, hW5, HB5⟩ := box_words15 n w4
          have O5 := Lib.hid (O4.out.trans HB5.out.1)
          have BX := Lib.hid (BX.out.keep HB5.out.1 id)
          have FR := Lib.hid ((FR.out.below HB5.out.1.whole).more HB5.out.1.size)
          have RW := Lib.hid HB5.out.2
          have HWE := Lib.hid hW5
          clear hW5
          go_simp
          with_reducible rw [HWE.out]
          clear HWE
          refine hK.out _ _ ⟨O5.out.keeps c0, O5.out.keeps c1, O5.out.keeps c2, O5.out.keeps c3⟩ (fun hHeld2 => ?_)
          clear hK K hHeld
          have hHeld := hHeld2
          clear hHeld2
          try simp only [Act.put, List.setIfInBounds_toArray, List.set_cons_zero, List.set_cons_succ, List.getElem_toArray, List.getElem_cons_succ, List.getElem_cons_zero]
          refine wpAnyH_take (i := 8) (v := ?_) rfl (by kernel_rfl) (by kernel_rfl) (by kernel_rfl) (fun _ _ _ h => h) (Or.inl ⟨by rfl, ?_⟩) hHeld ?_
          rotate_left
          · intro w hSw; (try dsimp only at hSw); go_simp; first | done | with_reducible rfl
          try simp only [Act.put, List.setIfInBounds_toArray, List.set_cons_zero, List.set_cons_succ, List.getElem_toArray, List.getElem_cons_succ, List.getElem_cons_zero]
          refine wpAnyH_ready (rs := [10]) (by kernel_rfl) (by simp) ?_
          refine (AllReadyH.cons rfl (fun K hK => ?_) AllReadyH.nil)
          obtain ⟨s0, s1, s2, s3, s4, s5, s6, s7, s8, s9⟩ := ten_cells BX.out
          obtain ⟨f0, f1, f2, f3, f4, f5, f6, f7, f8, f9⟩ := ten_free BX.out
          go_simp
          clear s0 s1 s2 s3 s4 s5 s6 s7 s8 s9 f0 f1 f2 f3 f4 f5 f6 f7 f8 f9
          obtain ⟨W6, hW6, oA, oB, B9⟩ := puts10 O5.out (Nat.le_refl WS.heap.size) BX.out (.int .i64 c.semi) (.int .i64 c.large) (.int .i64 c.slots) (.int .i64 c.limit) (.bool false) (.slice (some ⟨w4.heap.size, 0, none⟩) n n) (.int .i64 0) (.slice none 0 0) (.slice Ag FL.length kg) (.slice As SL.length ks)
          with_reducible rw [hW6]
          have O6 := Lib.hid oA
          have FR := Lib.hid (late15 HNZ.out FR.out BX.out oB (Nat.le_refl _))
          have RW := Lib.hid (RW.out.keep oB (BX.out.ne RW.out (by decide)).symm)
          have BX := Lib.hid B9
          clear hW6 oA oB B9
          refine hK.out _ _ ⟨O6.out.keeps c0, O6.out.keeps c1, O6.out.keeps c2, O6.out.keeps c3⟩ (fun hHeld2 => ?_)
          clear hK K hHeld
          have hHeld := hHeld2
          clear hHeld2
          try simp only [Act.put, List.setIfInBounds_toArray, List.set_cons_zero, List.set_cons_succ, List.getElem_toArray, List.getElem_cons_succ, List.getElem_cons_zero]
          refine wpAnyH_done (by kernel_rfl) ?_ _
          go_wp2
          go_meet
          exact ⟨_, _, _, _, rfl, Lib.hid ⟨O6.out, BX.out, RW.out, FR.out⟩⟩
  case rest =>
  obtain ⟨bq, rg, A, k, rfl, HC⟩ := hcut
  clear c0 c1 c2 c3 hmk
  obtain ⟨W5, rfl⟩ : ∃ W5 : World, W5 = wc := ⟨_, rfl⟩
  obtain ⟨d0, d1, d2, d3, d4, d5, d6, d7, d8, d9⟩ := ten_cells HC.out.2.1
  have B5 := Lib.hid (B4.out.keep HC.out.1 id)
  obtain ⟨s0, s1, s2, s3, s4, s5, s6, s7, s8, s9⟩ := ten_cells B5.out
  obtain ⟨f0, f1, f2, f3, f4, f5, f6, f7, f8, f9⟩ := ten_free B5.out
  go_wp2
  clear s0 s1 s2 s3 s4 s5 s6 s7 s8 s9 f0 f1 f2 f3 f4 f5 f6 f7 f8 f9 d0 d1 d2 d3 d4 d5 d6 d7 d8 d9
  obtain ⟨W7, hW7, O7, OI7, B7⟩ := puts10 (O4.out.trans HC.out.1) (by have := HP.out; omega) B5.out (.int .i64 c.semi) (.int .i64 c.large) (.int .i64 c.slots) (.int .i64 c.limit) (.bool false) (.slice (some ⟨rg, 0, none⟩) n n) (.int .i64 0) (.slice none 0 0) (.slice A FL.length k) (.slice As SL.length ks)
  with_reducible rw [hW7]
  obtain ⟨h0, h1, h2, h3, h4, h5, h6, h7, h8, h9⟩ := ten_cells B7
  have hs5 : Sl W5 W5.heap.size 3 (.slice As SL.length ks) SL.length (slc SL) := (S4.out.below HC.out.1.whole).more HC.out.1.size
  have r1 : Blk W7 rg 48 (u64s (List.replicate n 0)).toArray := HC.out.2.2.1.keep OI7 (HC.out.2.2.1.ne B5.out (by decide))
  have r2 := late15 HNZ.out HC.out.2.2.2 B5.out OI7 (Nat.le_refl _)
  have r3 := late15s HSL.out hs5 B5.out OI7 (Nat.le_refl _)
  have hrd := rd_new (w := W7) HOK.out HN.out r1 (by rw [← HFL.out]; exact r2) (by rw [← HSL.out]; exact r3)
  exact bodyPost_ret (v := .tuple #[.agg #[.int .i64 c.semi, .int .i64 c.large, .int .i64 c.slots, .int .i64 c.limit, .bool false, .slice (some ⟨rg, 0, none⟩) n n, .int .i64 0, .slice none 0 0, .slice A FL.length k, .slice As SL.length ks], .int .i64 0]) (by simp [results, Tryz.results18, go_sem, h0, h1, h2, h3, h4, h5, h6, h7, h8, h9]) rfl ⟨_, _, _, rfl, hrd, O7⟩
theorem stNew : NewC15 18 := by
  intro c w hc
  by_cases h : c.ok
  · refine (stNew_ok c w hc h).mono ?_
    rintro e w' ⟨vw, vf, vs, rfl, hrd, o⟩
    have hn := newS_ok h
    have he : nwE c = 0 := by unfold nwE; rw [if_pos h]
    refine ⟨newS c, vw, .slice none 0 0, vf, vs, rfl, ?_, hrd, o⟩
    rw [he, hn]
  · refine (stNew_no c w hc h).mono ?_
    rintro e w' ⟨rfl, o⟩
    have hn : newS c = noSt := by unfold newS; rw [if_neg h]
    have he : nwE c = 1 := by unfold nwE; rw [if_neg h]
    refine ⟨newS c, .slice none 0 0, .slice none 0 0, .slice none 0 0, .slice none 0 0, rfl, ?_, ?_, o⟩
    · rw [he, hn]; rfl
    · rw [hn]; exact ⟨Sl.nil_, Sl.nil_, Sl.nil_, Sl.nil_⟩
end Go.Proofs.YtciidodmhigpdaaGreatDoor
