/- The document's own answer: a new heap. -/
import Derived.Test.YtciidodmhigpdaaGreatDoorStProg
import Derived.Test.YtciidodmhigpdaaGreatDoorStBase
import Derived.Test.YtciidodmhigpdaaGreatDoorLayABC
import Derived.Test.YtciidodmhigpdaaGreatDoorSpanIter
import Derived.Test.YtciidodmhigpdaaGreatDoorSlotAll
import Derived.Test.YtciidodmhigpdaaGreatDoorStNewM
import Derived.Test.YtciidodmhigpdaaGreatDoorRef04L
namespace Go.Proofs.YtciidodmhigpdaaGreatDoor
open Go.RowKit
set_option maxRecDepth 100000
set_option linter.unusedSimpArgs false
set_option linter.unusedVariables false
set_option maxHeartbeats 2000000 in
theorem rNew_no (c : Cf) (w : World) (hc : CFit c) (h : ¬ c.ok) : Calls Tryz.prog 19 #[.agg #[.int .i64 c.semi, .int .i64 c.large, .int .i64 c.slots, .int .i64 c.limit]] w fun e w' => e = .returned (.tuple #[.agg #[.int .i64 0, .int .i64 0, .int .i64 0, .int .i64 0, .bool false, .slice none 0 0, .int .i64 0, .slice none 0 0, .slice none 0 0, .slice none 0 0], .int .i64 1]) ∧ Only nob w w' := by
  obtain ⟨W, hW, HB⟩ : ∃ W, (w.alloc (.cells #[.int .i64 c.semi, .int .i64 c.large, .int .i64 c.slots, .int .i64 c.limit] 23)) = W ∧ Hid (Only nob w W ∧ CBox W w.heap.size c) := ⟨_, rfl, Lib.hid ⟨only_box w c, CBox.new w c⟩⟩
  have HW := Lib.hid hW
  obtain ⟨W2, hW2, HB2⟩ := zero_state W
  have HW2 := Lib.hid hW2
  have hsz : W.heap.size = w.heap.size + 1 := by rw [← hW]; simp
  rw [hsz] at HB2
  have O2 := Lib.hid (HB.out.1.trans HB2.out.1)
  obtain ⟨c0, c1, c2, c3⟩ := HB.out.2.keep HB2.out.1
  have HCK := Lib.hid (refCheck_any c W2)
  rw [decide_eq_false h] at HCK
  clear hW hW2 hsz h hc
  go_enter Tryz.func19, Tryz.ntmps19
  go_upto_region 1 with fail
  rw [HW.out, HW2.out]
  go_wp2_with fail
  go_at_call 31
  refine HCK.out.mono ?_
  rintro e w3 ⟨rfl, o⟩
  have O3 := Lib.hid (O2.out.trans o)
  have B3 := Lib.hid (HB2.out.2.keep o id)
  clear o c0 c1 c2 c3
  obtain ⟨s0, s1, s2, s3, s4, s5, s6, s7, s8, s9⟩ := ten_cells B3.out
  obtain ⟨f0, f1, f2, f3, f4, f5, f6, f7, f8, f9⟩ := ten_free B3.out
  go_wp2
  clear s0 s1 s2 s3 s4 s5 s6 s7 s8 s9 f0 f1 f2 f3 f4 f5 f6 f7 f8 f9
  obtain ⟨W7, hW7, O7, OI7, B7⟩ := puts10 O3.out (Nat.le_succ _) B3.out (.int .i64 0) (.int .i64 0) (.int .i64 0) (.int .i64 0) (.bool false) (.slice none 0 0) (.int .i64 0) (.slice none 0 0) (.slice none 0 0) (.slice none 0 0)
  with_reducible rw [hW7]
  obtain ⟨h0, h1, h2, h3, h4, h5, h6, h7, h8, h9⟩ := ten_cells B7
  exact bodyPost_ret (v := .tuple #[.agg #[.int .i64 0, .int .i64 0, .int .i64 0, .int .i64 0, .bool false, .slice none 0 0, .int .i64 0, .slice none 0 0, .slice none 0 0, .slice none 0 0], .int .i64 1]) (by simp [results, Tryz.results19, go_sem, h0, h1, h2, h3, h4, h5, h6, h7, h8, h9]) rfl ⟨rfl, O7⟩
set_option maxHeartbeats 16000000 in
theorem rNew_ok (c : Cf) (w : World) (hc : CFit c) (h : c.ok) : Calls Tryz.prog 19 #[.agg #[.int .i64 c.semi, .int .i64 c.large, .int .i64 c.slots, .int .i64 c.limit]] w fun e w' =>
    ∃ vw vf vs, e = .returned (.tuple #[.agg #[.int .i64 c.semi, .int .i64 c.large, .int .i64 c.slots, .int .i64 c.limit, .bool false, vw, .int .i64 0, .slice none 0 0, vf, vs], .int .i64 0]) ∧ Rd w' w'.heap.size (newS c) vw (.slice none 0 0) vf vs ∧ Only nob w w' := by
  obtain ⟨W, hW, HB⟩ : ∃ W, (w.alloc (.cells #[.int .i64 c.semi, .int .i64 c.large, .int .i64 c.slots, .int .i64 c.limit] 23)) = W ∧ Hid (Only nob w W ∧ CBox W w.heap.size c) := ⟨_, rfl, Lib.hid ⟨only_box w c, CBox.new w c⟩⟩
  have HW := Lib.hid hW
  obtain ⟨W2, hW2, HB2⟩ := zero_state W
  have HW2 := Lib.hid hW2
  have hsz : W.heap.size = w.heap.size + 1 := by rw [← hW]; simp
  rw [hsz] at HB2
  have O2 := Lib.hid (HB.out.1.trans HB2.out.1)
  have X2 := Lib.hid (HB.out.2.keep HB2.out.1)
  have hw := cWords_ok h
  have h' := h
  unfold Cf.ok at h'
  have HCK := Lib.hid (refCheck_any c W2)
  rw [decide_eq_true h] at HCK
  obtain ⟨n, hn⟩ : ∃ n, n = (cWords c).toNat := ⟨_, rfl⟩
  obtain ⟨m, hm⟩ : ∃ n, n = c.slots.toNat := ⟨_, rfl⟩
  have hmk := make_u64 n (by omega)
  have hmc : c.slots = (m : Int) := by omega
  have hmks : ∀ w : World, (Instr.makeSlice 26 (.int .i64 c.slots) (.int .i64 c.slots)).run Tryz.prog w = .ok (.slice (some ⟨w.heap.size, 0, none⟩) m m) (w.alloc (.cells (slc (List.replicate m ((false, 0, 0) : Slt))).toArray 52)) := fun w => by
    have := make_slots m (by omega) w
    rw [← hmc] at this
    exact this
  have HWD := Lib.hid (show ∀ w, Calls Tryz.prog 32 #[.agg #[.int .i64 c.semi, .int .i64 c.large, .int .i64 c.slots, .int .i64 c.limit]] w fun e w' => e = .returned (.int .i64 ((n : Nat) : Int)) ∧ Only nob w w' from fun w => by
    have e : ((n : Nat) : Int) = cWords c := by rw [hn]; omega
    rw [e]
    exact refWords_any c w)
  have HLA := Lib.hid (show ∀ w, Calls Tryz.prog 48 #[.agg #[.int .i64 c.semi, .int .i64 c.large, .int .i64 c.slots, .int .i64 c.limit]] w fun e w' => e = .returned (.agg #[.int .i64 (cLarge c).1, .int .i64 (cLarge c).2]) ∧ Only nob w w' from fun w => refLarge_any c w)
  have HNZ := Lib.hid (frN_nz h)
  have HN := Lib.hid hn
  have HM := Lib.hid hm
  have HMB := Lib.hid (show m ≤ 1024 by omega)
  have HOK := Lib.hid h
  obtain ⟨x, hx⟩ : ∃ x, x = (cLarge c).1 := ⟨_, rfl⟩
  obtain ⟨y, hy⟩ : ∃ x, x = (cLarge c).2 := ⟨_, rfl⟩
  have HXY := Lib.hid (show cLarge c = (x, y) by rw [hx, hy])
  rw [← hx, ← hy] at HLA
  obtain ⟨c0, c1, c2, c3⟩ := X2.out
  clear hW hW2 hsz h hc hw h' hn hm hx hy hmc
  go_enter Tryz.func19, Tryz.ntmps19
  go_upto_region 1 with fail
  rw [HW.out, HW2.out]
  go_wp2_with fail
  go_at_call 31
  refine HCK.out.mono ?_
  rintro e WS ⟨rfl, o⟩
  have O4 := Lib.hid (O2.out.trans o)
  have B4 := Lib.hid (HB2.out.2.keep o id)
  have X4 := Lib.hid (X2.out.keep o)
  clear o c0 c1 c2 c3
  obtain ⟨c0, c1, c2, c3⟩ := X4.out
  obtain ⟨p, hp⟩ : ∃ p, p = w.heap.size := ⟨_, rfl⟩
  have HP := Lib.hid hp
  rw [← hp] at c0 c1 c2 c3 B4
  clear hp
  go_upto_region 3 with fail
  rw [← HP.out]
  go_cut [4] (fun s4 wx => ∃ bq rg sg, s4 = .pointer (some ⟨bq, 0, none⟩) ∧ Hid (Only nob WS wx ∧ WS.heap.size ≤ bq ∧ Blk wx bq 28 #[.int .i64 c.semi, .int .i64 c.large, .int .i64 c.slots, .int .i64 c.limit, .bool false, .slice (some ⟨rg, 0, none⟩) n n, .int .i64 0, .slice none 0 0, .slice none 0 0, .slice (some ⟨sg, 0, none⟩) m m] ∧ Blk wx rg 48 (u64s (List.replicate n 0)).toArray ∧ Blk wx sg 52 (slc (List.replicate m ((false, 0, 0) : Slt))).toArray))
  case first =>
    have O0 := Lib.hid (show Only nob WS WS.drew from (Only.refl nob WS).drewN 1)
    refine wp_region_held_drew (S := fun w' : World => w'.cell? ⟨p, 0, none⟩ = some (.int .i64 c.semi) ∧ w'.cell? ⟨p, 1, none⟩ = some (.int .i64 c.large) ∧ w'.cell? ⟨p, 2, none⟩ = some (.int .i64 c.slots) ∧ w'.cell? ⟨p, 3, none⟩ = some (.int .i64 c.limit)) (by kernel_rfl) ?_ (fun hHeld => ?_)
    · exact ⟨c0, c1, c2, c3⟩
    refine wpAnyH_take (i := 0) (v := ?_) rfl (by kernel_rfl) (by kernel_rfl) (by kernel_rfl) (fun _ _ _ h => h) (Or.inl ⟨by rfl, ?_⟩) hHeld ?_
    rotate_left
    · intro w hSw; (try dsimp only at hSw); go_simp; first | done | with_reducible rfl
    try simp only [Act.put, List.setIfInBounds_toArray, List.set_cons_zero, List.set_cons_succ, List.getElem_toArray, List.getElem_cons_succ, List.getElem_cons_zero]
    refine wpAnyH_take (i := 1) (v := ?_) rfl (by kernel_rfl) (by kernel_rfl) (by kernel_rfl) (fun _ _ _ h => h) (Or.inl ⟨by rfl, ?_⟩) hHeld ?_
    rotate_left
    · intro w hSw; (try dsimp only at hSw); go_simp; first | done | with_reducible rfl
    try simp only [Act.put, List.setIfInBounds_toArray, List.set_cons_zero, List.set_cons_succ, List.getElem_toArray, List.getElem_cons_succ, List.getElem_cons_zero]
    refine wpAnyH_take (i := 4) (v := ?_) rfl (by kernel_rfl) (by kernel_rfl) (by kernel_rfl) (fun _ _ _ h => h) (Or.inl ⟨by rfl, ?_⟩) hHeld ?_
    rotate_left
    · intro w hSw; (try dsimp only at hSw); go_simp; first | done | with_reducible rfl
    try simp only [Act.put, List.setIfInBounds_toArray, List.set_cons_zero, List.set_cons_succ, List.getElem_toArray, List.getElem_cons_succ, List.getElem_cons_zero]
    refine wpAnyH_take (i := 5) (v := ?_) rfl (by kernel_rfl) (by kernel_rfl) (by kernel_rfl) (fun _ _ _ h => h) (Or.inl ⟨by rfl, ?_⟩) hHeld ?_
    rotate_left
    · intro w hSw; (try dsimp only at hSw); go_simp; first | done | with_reducible rfl
    try simp only [Act.put, List.setIfInBounds_toArray, List.set_cons_zero, List.set_cons_succ, List.getElem_toArray, List.getElem_cons_succ, List.getElem_cons_zero]
    refine wpAnyH_ready (rs := [2, 6, 8]) (by kernel_rfl) (by simp) ?_
    refine (AllReadyH.cons rfl (fun K hK => ?_) (AllReadyH.cons rfl (fun K hK => ?_) (AllReadyH.cons rfl (fun K hK => ?_) AllReadyH.nil)))
    · skip
      go_simp
      go_at_call 32
      refine (HWD.out _).mono ?_
      rintro e w1 ⟨rfl, o⟩
      have O1 := Lib.hid (O0.out.trans o)
      clear o
      refine hK.out _ _ ⟨O1.out.keeps c0, O1.out.keeps c1, O1.out.keeps c2, O1.out.keeps c3⟩ (fun hHeld2 => ?_)
      clear hK K hHeld
      have hHeld := hHeld2
      clear hHeld2
      try simp only [Act.put, List.setIfInBounds_toArray, List.set_cons_zero, List.set_cons_succ, List.getElem_toArray, List.getElem_cons_succ, List.getElem_cons_zero]
      refine wpAnyH_ready (rs := [3, 6, 8]) (by kernel_rfl) (by simp) ?_
      refine (AllReadyH.cons rfl (fun K hK => ?_) (AllReadyH.cons rfl (fun K hK => ?_) (AllReadyH.cons rfl (fun K hK => ?_) AllReadyH.nil)))
      · skip
        obtain ⟨W2, hW2, HB2⟩ := box_words15 n w1
        have O2 := Lib.hid (O1.out.trans HB2.out.1)
        have RW := Lib.hid HB2.out.2
        have HWE := Lib.hid hW2
        clear hW2
        go_simp
        with_reducible rw [HWE.out]
        clear HWE
        refine hK.out _ _ ⟨O2.out.keeps c0, O2.out.keeps c1, O2.out.keeps c2, O2.out.keeps c3⟩ (fun hHeld2 => ?_)
        clear hK K hHeld
        have hHeld := hHeld2
        clear hHeld2
        try simp only [Act.put, List.setIfInBounds_toArray, List.set_cons_zero, List.set_cons_succ, List.getElem_toArray, List.getElem_cons_succ, List.getElem_cons_zero]
        refine wpAnyH_ready (rs := [6, 8]) (by kernel_rfl) (by simp) ?_
        refine (AllReadyH.cons rfl (fun K hK => ?_) (AllReadyH.cons rfl (fun K hK => ?_) AllReadyH.nil))
        · skip
          obtain ⟨W3, hW3, HB3⟩ := box_slots15 m W2
          have O3 := Lib.hid (O2.out.trans HB3.out.1)
          have RW := Lib.hid (RW.out.keep HB3.out.1 id)
          have SL := Lib.hid HB3.out.2
          have HWE := Lib.hid hW3
          clear hW3
          go_simp
          with_reducible rw [HWE.out]
          clear HWE
          refine hK.out _ _ ⟨O3.out.keeps c0, O3.out.keeps c1, O3.out.keeps c2, O3.out.keeps c3⟩ (fun hHeld2 => ?_)
          clear hK K hHeld
          have hHeld := hHeld2
          clear hHeld2
          try simp only [Act.put, List.setIfInBounds_toArray, List.set_cons_zero, List.set_cons_succ, List.getElem_toArray, List.getElem_cons_succ, List.getElem_cons_zero]
          refine wpAnyH_take (i := 7) (v := ?_) rfl (by kernel_rfl) (by kernel_rfl) (by kernel_rfl) (fun _ _ _ h => h) (Or.inl ⟨by rfl, ?_⟩) hHeld ?_
          rotate_left
          · intro w hSw; (try dsimp only at hSw); go_simp; first | done | with_reducible rfl
          try simp only [Act.put, List.setIfInBounds_toArray, List.set_cons_zero, List.set_cons_succ, List.getElem_toArray, List.getElem_cons_succ, List.getElem_cons_zero]
          refine wpAnyH_ready (rs := [8]) (by kernel_rfl) (by simp) ?_
          refine (AllReadyH.cons rfl (fun K hK => ?_) AllReadyH.nil)
          obtain ⟨W4, hW4, HB4⟩ := zero_state W3
          have O4 := Lib.hid (O3.out.trans HB4.out.1)
          have RW := Lib.hid (RW.out.keep HB4.out.1 id)
          have SL := Lib.hid (SL.out.keep HB4.out.1 id)
          have BX := Lib.hid HB4.out.2
          have HBQ := Lib.hid (O3.out.size)
          have HWE := Lib.hid hW4
          clear hW4
          go_simp
          with_reducible rw [HWE.out]
          clear HWE
          refine hK.out _ _ ⟨O4.out.keeps c0, O4.out.keeps c1, O4.out.keeps c2, O4.out.keeps c3⟩ (fun hHeld2 => ?_)
          clear hK K hHeld
          have hHeld := hHeld2
          clear hHeld2
          try simp only [Act.put, List.setIfInBounds_toArray, List.set_cons_zero, List.set_cons_succ, List.getElem_toArray, List.getElem_cons_succ, List.getElem_cons_zero]
          refine wpAnyH_ready (rs := [9]) (by kernel_rfl) (by simp) ?_
          refine (AllReadyH.cons rfl (fun K hK => ?_) AllReadyH.nil)
          obtain ⟨s0, s1, s2, s3, s4, s5, s6, s7, s8, s9⟩ := ten_cells BX.out
          obtain ⟨f0, f1, f2, f3, f4, f5, f6, f7, f8, f9⟩ := ten_free BX.out
          go_simp
          clear s0 s1 s2 s3 s4 s5 s6 s7 s8 s9 f0 f1 f2 f3 f4 f5 f6 f7 f8 f9
          obtain ⟨W5, hW5, oA, oB, B9⟩ := puts10 O4.out (O3.out.size) BX.out (.int .i64 c.semi) (.int .i64 c.large) (.int .i64 c.slots) (.int .i64 c.limit) (.bool false) (.slice (some ⟨w1.heap.size, 0, none⟩) n n) (.int .i64 0) (.slice none 0 0) (.slice none 0 0) (.slice (some ⟨W2.heap.size, 0, none⟩) m m)
          with_reducible rw [hW5]
          have O5 := Lib.hid oA
          have RW := Lib.hid (RW.out.keep oB (BX.out.ne RW.out (by decide)).symm)
          have SL := Lib.hid (SL.out.keep oB (BX.out.ne SL.out (by decide)).symm)
          have BX := Lib.hid B9
          clear hW5 oA oB B9
          refine hK.out _ _ ⟨O5.out.keeps c0, O5.out.keeps c1, O5.out.keeps c2, O5.out.keeps c3⟩ (fun hHeld2 => ?_)
          clear hK K hHeld
          have hHeld := hHeld2
          clear hHeld2
          try simp only [Act.put, List.setIfInBounds_toArray, List.set_cons_zero, List.set_cons_succ, List.getElem_toArray, List.getElem_cons_succ, List.getElem_cons_zero]
          refine wpAnyH_done (by kernel_rfl) ?_ _
          go_wp2
          go_meet
          exact ⟨_, _, _, rfl, Lib.hid ⟨O5.out, HBQ.out, BX.out, RW.out, SL.out⟩⟩
        · skip
          obtain ⟨W3, hW3, HB3⟩ := zero_state W2
          have O3 := Lib.hid (O2.out.trans HB3.out.1)
          have RW := Lib.hid (RW.out.keep HB3.out.1 id)
          have BX := Lib.hid HB3.out.2
          have HBQ := Lib.hid (O2.out.size)
          have HWE := Lib.hid hW3
          clear hW3
          go_simp
          with_reducible rw [HWE.out]
          clear HWE
          refine hK.out _ _ ⟨O3.out.keeps c0, O3.out.keeps c1, O3.out.keeps c2, O3.out.keeps c3⟩ (fun hHeld2 => ?_)
          clear hK K hHeld
          have hHeld := hHeld2
          clear hHeld2
          try simp only [Act.put, List.setIfInBounds_toArray, List.set_cons_zero, List.set_cons_succ, List.getElem_toArray, List.getElem_cons_succ, List.getElem_cons_zero]
          refine wpAnyH_ready (rs := [6]) (by kernel_rfl) (by simp) ?_
          refine (AllReadyH.cons rfl (fun K hK => ?_) AllReadyH.nil)
          obtain ⟨W4, hW4, HB4⟩ := box_slots15 m W3
          have O4 := Lib.hid (O3.out.trans HB4.out.1)
          have RW := Lib.hid (RW.out.keep HB4.out.1 id)
          have BX := Lib.hid (BX.out.keep HB4.out.1 id)
          have SL := Lib.hid HB4.out.2
          have HWE := Lib.hid hW4
          clear hW4
          go_simp
          with_reducible rw [HWE.out]
          clear HWE
          refine hK.out _ _ ⟨O4.out.keeps c0, O4.out.keeps c1, O4.out.keeps c2, O4.out.keeps c3⟩ (fun hHeld2 => ?_)
          clear hK K hHeld
          have hHeld := hHeld2
          clear hHeld2
          try simp only [Act.put, List.setIfInBounds_toArray, List.set_cons_zero, List.set_cons_succ, List.getElem_toArray, List.getElem_cons_succ, List.getElem_cons_zero]
          refine wpAnyH_take (i := 7) (v := ?_) rfl (by kernel_rfl) (by kernel_rfl) (by kernel_rfl) (fun _ _ _ h => h) (Or.inl ⟨by rfl, ?_⟩) hHeld ?_
          rotate_left
          · intro w hSw; (try dsimp only at hSw); go_simp; first | done | with_reducible rfl
          try simp only [Act.put, List.setIfInBounds_toArray, List.set_cons_zero, List.set_cons_succ, List.getElem_toArray, List.getElem_cons_succ, List.getElem_cons_zero]
          refine wpAnyH_ready (rs := [9]) (by kernel_rfl) (by simp) ?_
          refine (AllReadyH.cons rfl (fun K hK => ?_) AllReadyH.nil)
          obtain ⟨s0, s1, s2, s3, s4, s5, s6, s7, s8, s9⟩ := ten_cells BX.out
          obtain ⟨f0, f1, f2, f3, f4, f5, f6, f7, f8, f9⟩ := ten_free BX.out
          go_simp
          clear s0 s1 s2 s3 s4 s5 s6 s7 s8 s9 f0 f1 f2 f3 f4 f5 f6 f7 f8 f9
          obtain ⟨W5, hW5, oA, oB, B9⟩ := puts10 O4.out (O2.out.size) BX.out (.int .i64 c.semi) (.int .i64 c.large) (.int .i64 c.slots) (.int .i64 c.limit) (.bool false) (.slice (some ⟨w1.heap.size, 0, none⟩) n n) (.int .i64 0) (.slice none 0 0) (.slice none 0 0) (.slice (some ⟨W3.heap.size, 0, none⟩) m m)
          with_reducible rw [hW5]
          have O5 := Lib.hid oA
          have RW := Lib.hid (RW.out.keep oB (BX.out.ne RW.out (by decide)).symm)
          have SL := Lib.hid (SL.out.keep oB (BX.out.ne SL.out (by decide)).symm)
          have BX := Lib.hid B9
          clear hW5 oA oB B9
          refine hK.out _ _ ⟨O5.out.keeps c0, O5.out.keeps c1, O5.out.keeps c2, O5.out.keeps c3⟩ (fun hHeld2 => ?_)
          clear hK K hHeld
          have hHeld := hHeld2
          clear hHeld2
          try simp only [Act.put, List.setIfInBounds_toArray, List.set_cons_zero, List.set_cons_succ, List.getElem_toArray, List.getElem_cons_succ, List.getElem_cons_zero]
          refine wpAnyH_done (by kernel_rfl) ?_ _
          go_wp2
          go_meet
          exact ⟨_, _, _, rfl, Lib.hid ⟨O5.out, HBQ.out, BX.out, RW.out, SL.out⟩⟩
      · skip
        obtain ⟨W2, hW2, HB2⟩ := box_slots15 m w1
        have O2 := Lib.hid (O1.out.trans HB2.out.1)
        have SL := Lib.hid HB2.out.2
        have HWE := Lib.hid hW2
        clear hW2
        go_simp
        with_reducible rw [HWE.out]
        clear HWE
        refine hK.out _ _ ⟨O2.out.keeps c0, O2.out.keeps c1, O2.out.keeps c2, O2.out.keeps c3⟩ (fun hHeld2 => ?_)
        clear hK K hHeld
        have hHeld := hHeld2
        clear hHeld2
        try simp only [Act.put, List.setIfInBounds_toArray, List.set_cons_zero, List.set_cons_succ, List.getElem_toArray, List.getElem_cons_succ, List.getElem_cons_zero]
        refine wpAnyH_ready (rs := [3, 8]) (by kernel_rfl) (by simp) ?_
        refine (AllReadyH.cons rfl (fun K hK => ?_) (AllReadyH.cons rfl (fun K hK => ?_) AllReadyH.nil))
        · skip
          obtain ⟨W3, hW3, HB3⟩ := box_words15 n W2
          have O3 := Lib.hid (O2.out.trans HB3.out.1)
          have SL := Lib.hid (SL.out.keep HB3.out.1 id)
          have RW := Lib.hid HB3.out.2
          have HWE := Lib.hid hW3
          clear hW3
          go_simp
          with_reducible rw [HWE.out]
          clear HWE
          refine hK.out _ _ ⟨O3.out.keeps c0, O3.out.keeps c1, O3.out.keeps c2, O3.out.keeps c3⟩ (fun hHeld2 => ?_)
          clear hK K hHeld
          have hHeld := hHeld2
          clear hHeld2
          try simp only [Act.put, List.setIfInBounds_toArray, List.set_cons_zero, List.set_cons_succ, List.getElem_toArray, List.getElem_cons_succ, List.getElem_cons_zero]
          refine wpAnyH_take (i := 7) (v := ?_) rfl (by kernel_rfl) (by kernel_rfl) (by kernel_rfl) (fun _ _ _ h => h) (Or.inl ⟨by rfl, ?_⟩) hHeld ?_
          rotate_left
          · intro w hSw; (try dsimp only at hSw); go_simp; first | done | with_reducible rfl
          try simp only [Act.put, List.setIfInBounds_toArray, List.set_cons_zero, List.set_cons_succ, List.getElem_toArray, List.getElem_cons_succ, List.getElem_cons_zero]
          refine wpAnyH_ready (rs := [8]) (by kernel_rfl) (by simp) ?_
          refine (AllReadyH.cons rfl (fun K hK => ?_) AllReadyH.nil)
          obtain ⟨W4, hW4, HB4⟩ := zero_state W3
          have O4 := Lib.hid (O3.out.trans HB4.out.1)
          have SL := Lib.hid (SL.out.keep HB4.out.1 id)
          have RW := Lib.hid (RW.out.keep HB4.out.1 id)
          have BX := Lib.hid HB4.out.2
          have HBQ := Lib.hid (O3.out.size)
          have HWE := Lib.hid hW4
          clear hW4
          go_simp
          with_reducible rw [HWE.out]
          clear HWE
          refine hK.out _ _ ⟨O4.out.keeps c0, O4.out.keeps c1, O4.out.keeps c2, O4.out.keeps c3⟩ (fun hHeld2 => ?_)
          clear hK K hHeld
          have hHeld := hHeld2
          clear hHeld2
          try simp only [Act.put, List.setIfInBounds_toArray, List.set_cons_zero, List.set_cons_succ, List.getElem_toArray, List.getElem_cons_succ, List.getElem_cons_zero]
          refine wpAnyH_ready (rs := [9]) (by kernel_rfl) (by simp) ?_
          refine (AllReadyH.cons rfl (fun K hK => ?_) AllReadyH.nil)
          obtain ⟨s0, s1, s2, s3, s4, s5, s6, s7, s8, s9⟩ := ten_cells BX.out
          obtain ⟨f0, f1, f2, f3, f4, f5, f6, f7, f8, f9⟩ := ten_free BX.out
          go_simp
          clear s0 s1 s2 s3 s4 s5 s6 s7 s8 s9 f0 f1 f2 f3 f4 f5 f6 f7 f8 f9
          obtain ⟨W5, hW5, oA, oB, B9⟩ := puts10 O4.out (O3.out.size) BX.out (.int .i64 c.semi) (.int .i64 c.large) (.int .i64 c.slots) (.int .i64 c.limit) (.bool false) (.slice (some ⟨W2.heap.size, 0, none⟩) n n) (.int .i64 0) (.slice none 0 0) (.slice none 0 0) (.slice (some ⟨w1.heap.size, 0, none⟩) m m)
          with_reducible rw [hW5]
          have O5 := Lib.hid oA
          have SL := Lib.hid (SL.out.keep oB (BX.out.ne SL.out (by decide)).symm)
          have RW := Lib.hid (RW.out.keep oB (BX.out.ne RW.out (by decide)).symm)
          have BX := Lib.hid B9
          clear hW5 oA oB B9
          refine hK.out _ _ ⟨O5.out.keeps c0, O5.out.keeps c1, O5.out.keeps c2, O5.out.keeps c3⟩ (fun hHeld2 => ?_)
          clear hK K hHeld
          have hHeld := hHeld2
          clear hHeld2
          try simp only [Act.put, List.setIfInBounds_toArray, List.set_cons_zero, List.set_cons_succ, List.getElem_toArray, List.getElem_cons_succ, List.getElem_cons_zero]
          refine wpAnyH_done (by kernel_rfl) ?_ _
          go_wp2
          go_meet
          exact ⟨_, _, _, rfl, Lib.hid ⟨O5.out, HBQ.out, BX.out, RW.out, SL.out⟩⟩
        · skip
          obtain ⟨W3, hW3, HB3⟩ := zero_state W2
          have O3 := Lib.hid (O2.out.trans HB3.out.1)
          have SL := Lib.hid (SL.out.keep HB3.out.1 id)
          have BX := Lib.hid HB3.out.2
          have HBQ := Lib.hid (O2.out.size)
          have HWE := Lib.hid hW3
          clear hW3
          go_simp
          with_reducible rw [HWE.out]
          clear HWE
          refine hK.out _ _ ⟨O3.out.keeps c0, O3.out.keeps c1, O3.out.keeps c2, O3.out.keeps c3⟩ (fun hHeld2 => ?_)
          clear hK K hHeld
          have hHeld := hHeld2
          clear hHeld2
          try simp only [Act.put, List.setIfInBounds_toArray, List.set_cons_zero, List.set_cons_succ, List.getElem_toArray, List.getElem_cons_succ, List.getElem_cons_zero]
          refine wpAnyH_ready (rs := [3]) (by kernel_rfl) (by simp) ?_
          refine (AllReadyH.cons rfl (fun K hK => ?_) AllReadyH.nil)
          obtain ⟨W4, hW4, HB4⟩ := box_words15 n W3
          have O4 := Lib.hid (O3.out.trans HB4.out.1)
          have SL := Lib.hid (SL.out.keep HB4.out.1 id)
          have BX := Lib.hid (BX.out.keep HB4.out.1 id)
          have RW := Lib.hid HB4.out.2
          have HWE := Lib.hid hW4
          clear hW4
          go_simp
          with_reducible rw [HWE.out]
          clear HWE
          refine hK.out _ _ ⟨O4.out.keeps c0, O4.out.keeps c1, O4.out.keeps c2, O4.out.keeps c3⟩ (fun hHeld2 => ?_)
          clear hK K hHeld
          have hHeld := hHeld2
          clear hHeld2
          try simp only [Act.put, List.setIfInBounds_toArray, List.set_cons_zero, List.set_cons_succ, List.getElem_toArray, List.getElem_cons_succ, List.getElem_cons_zero]
          refine wpAnyH_take (i := 7) (v := ?_) rfl (by kernel_rfl) (by kernel_rfl) (by kernel_rfl) (fun _ _ _ h => h) (Or.inl ⟨by rfl, ?_⟩) hHeld ?_
          rotate_left
          · intro w hSw; (try dsimp only at hSw); go_simp; first | done | with_reducible rfl
          try simp only [Act.put, List.setIfInBounds_toArray, List.set_cons_zero, List.set_cons_succ, List.getElem_toArray, List.getElem_cons_succ, List.getElem_cons_zero]
          refine wpAnyH_ready (rs := [9]) (by kernel_rfl) (by simp) ?_
          refine (AllReadyH.cons rfl (fun K hK => ?_) AllReadyH.nil)
          obtain ⟨s0, s1, s2, s3, s4, s5, s6, s7, s8, s9⟩ := ten_cells BX.out
          obtain ⟨f0, f1, f2, f3, f4, f5, f6, f7, f8, f9⟩ := ten_free BX.out
          go_simp
          clear s0 s1 s2 s3 s4 s5 s6 s7 s8 s9 f0 f1 f2 f3 f4 f5 f6 f7 f8 f9
          obtain ⟨W5, hW5, oA, oB, B9⟩ := puts10 O4.out (O2.out.size) BX.out (.int .i64 c.semi) (.int .i64 c.large) (.int .i64 c.slots) (.int .i64 c.limit) (.bool false) (.slice (some ⟨W3.heap.size, 0, none⟩) n n) (.int .i64 0) (.slice none 0 0) (.slice none 0 0) (.slice (some ⟨w1.heap.size, 0, none⟩) m m)
          with_reducible rw [hW5]
          have O5 := Lib.hid oA
          have SL := Lib.hid (SL.out.keep oB (BX.out.ne SL.out (by decide)).symm)
          have RW := Lib.hid (RW.out.keep oB (BX.out.ne RW.out (by decide)).symm)
          have BX := Lib.hid B9
          clear hW5 oA oB B9
          refine hK.out _ _ ⟨O5.out.keeps c0, O5.out.keeps c1, O5.out.keeps c2, O5.out.keeps c3⟩ (fun hHeld2 => ?_)
          clear hK K hHeld
          have hHeld := hHeld2
          clear hHeld2
          try simp only [Act.put, List.setIfInBounds_toArray, List.set_cons_zero, List.set_cons_succ, List.getElem_toArray, List.getElem_cons_succ, List.getElem_cons_zero]
          refine wpAnyH_done (by kernel_rfl) ?_ _
          go_wp2
          go_meet
          exact ⟨_, _, _, rfl, Lib.hid ⟨O5.out, HBQ.out, BX.out, RW.out, SL.out⟩⟩
      · skip
        obtain ⟨W2, hW2, HB2⟩ := zero_state w1
        have O2 := Lib.hid (O1.out.trans HB2.out.1)
        have BX := Lib.hid HB2.out.2
        have HBQ := Lib.hid (O1.out.size)
        have HWE := Lib.hid hW2
        clear hW2
        go_simp
        with_reducible rw [HWE.out]
        clear HWE
        refine hK.out _ _ ⟨O2.out.keeps c0, O2.out.keeps c1, O2.out.keeps c2, O2.out.keeps c3⟩ (fun hHeld2 => ?_)
        clear hK K hHeld
        have hHeld := hHeld2
        clear hHeld2
        try simp only [Act.put, List.setIfInBounds_toArray, List.set_cons_zero, List.set_cons_succ, List.getElem_toArray, List.getElem_cons_succ, List.getElem_cons_zero]
        refine wpAnyH_ready (rs := [3, 6]) (by kernel_rfl) (by simp) ?_
        refine (AllReadyH.cons rfl (fun K hK => ?_) (AllReadyH.cons rfl (fun K hK => ?_) AllReadyH.nil))
        · skip
          obtain ⟨W3, hW3, HB3⟩ := box_words15 n W2
          have O3 := Lib.hid (O2.out.trans HB3.out.1)
          have BX := Lib.hid (BX.out.keep HB3.out.1 id)
          have RW := Lib.hid HB3.out.2
          have HWE := Lib.hid hW3
          clear hW3
          go_simp
          with_reducible rw [HWE.out]
          clear HWE
          refine hK.out _ _ ⟨O3.out.keeps c0, O3.out.keeps c1, O3.out.keeps c2, O3.out.keeps c3⟩ (fun hHeld2 => ?_)
          clear hK K hHeld
          have hHeld := hHeld2
          clear hHeld2
          try simp only [Act.put, List.setIfInBounds_toArray, List.set_cons_zero, List.set_cons_succ, List.getElem_toArray, List.getElem_cons_succ, List.getElem_cons_zero]
          refine wpAnyH_ready (rs := [6]) (by kernel_rfl) (by simp) ?_
          refine (AllReadyH.cons rfl (fun K hK => ?_) AllReadyH.nil)
          obtain ⟨W4, hW4, HB4⟩ := box_slots15 m W3
          have O4 := Lib.hid (O3.out.trans HB4.out.1)
          have BX := Lib.hid (BX.out.keep HB4.out.1 id)
          have RW := Lib.hid (RW.out.keep HB4.out.1 id)
          have SL := Lib.hid HB4.out.2
          have HWE := Lib.hid hW4
          clear hW4
          go_simp
          with_reducible rw [HWE.out]
          clear HWE
          refine hK.out _ _ ⟨O4.out.keeps c0, O4.out.keeps c1, O4.out.keeps c2, O4.out.keeps c3⟩ (fun hHeld2 => ?_)
          clear hK K hHeld
          have hHeld := hHeld2
          clear hHeld2
          try simp only [Act.put, List.setIfInBounds_toArray, List.set_cons_zero, List.set_cons_succ, List.getElem_toArray, List.getElem_cons_succ, List.getElem_cons_zero]
          refine wpAnyH_take (i := 7) (v := ?_) rfl (by kernel_rfl) (by kernel_rfl) (by kernel_rfl) (fun _ _ _ h => h) (Or.inl ⟨by rfl, ?_⟩) hHeld ?_
          rotate_left
          · intro w hSw; (try dsimp only at hSw); go_simp; first | done | with_reducible rfl
          try simp only [Act.put, List.setIfInBounds_toArray, List.set_cons_zero, List.set_cons_succ, List.getElem_toArray, List.getElem_cons_succ, List.getElem_cons_zero]
          refine wpAnyH_ready (rs := [9]) (by kernel_rfl) (by simp) ?_
          refine (AllReadyH.cons rfl (fun K hK => ?_) AllReadyH.nil)
          obtain ⟨s0, s1, s2, s3, s4, s5, s6, s7, s8, s9⟩ := ten_cells BX.out
          obtain ⟨f0, f1, f2, f3, f4, f5, f6, f7, f8, f9⟩ := ten_free BX.out
          go_simp
          clear s0 s1 s2 s3 s4 s5 s6 s7 s8 s9 f0 f1 f2 f3 f4 f5 f6 f7 f8 f9
          obtain ⟨W5, hW5, oA, oB, B9⟩ := puts10 O4.out (O1.out.size) BX.out (.int .i64 c.semi) (.int .i64 c.large) (.int .i64 c.slots) (.int .i64 c.limit) (.bool false) (.slice (some ⟨W2.heap.size, 0, none⟩) n n) (.int .i64 0) (.slice none 0 0) (.slice none 0 0) (.slice (some ⟨W3.heap.size, 0, none⟩) m m)
          with_reducible rw [hW5]
          have O5 := Lib.hid oA
          have RW := Lib.hid (RW.out.keep oB (BX.out.ne RW.out (by decide)).symm)
          have SL := Lib.hid (SL.out.keep oB (BX.out.ne SL.out (by decide)).symm)
          have BX := Lib.hid B9
          clear hW5 oA oB B9
          refine hK.out _ _ ⟨O5.out.keeps c0, O5.out.keeps c1, O5.out.keeps c2, O5.out.keeps c3⟩ (fun hHeld2 => ?_)
          clear hK K hHeld
          have hHeld := hHeld2
          clear hHeld2
          try simp only [Act.put, List.setIfInBounds_toArray, List.set_cons_zero, List.set_cons_succ, List.getElem_toArray, List.getElem_cons_succ, List.getElem_cons_zero]
          refine wpAnyH_done (by kernel_rfl) ?_ _
          go_wp2
          go_meet
          exact ⟨_, _, _, rfl, Lib.hid ⟨O5.out, HBQ.out, BX.out, RW.out, SL.out⟩⟩
        · skip
          obtain ⟨W3, hW3, HB3⟩ := box_slots15 m W2
          have O3 := Lib.hid (O2.out.trans HB3.out.1)
          have BX := Lib.hid (BX.out.keep HB3.out.1 id)
          have SL := Lib.hid HB3.out.2
          have HWE := Lib.hid hW3
          clear hW3
          go_simp
          with_reducible rw [HWE.out]
          clear HWE
          refine hK.out _ _ ⟨O3.out.keeps c0, O3.out.keeps c1, O3.out.keeps c2, O3.out.keeps c3⟩ (fun hHeld2 => ?_)
          clear hK K hHeld
          have hHeld := hHeld2
          clear hHeld2
          try simp only [Act.put, List.setIfInBounds_toArray, List.set_cons_zero, List.set_cons_succ, List.getElem_toArray, List.getElem_cons_succ, List.getElem_cons_zero]
          refine wpAnyH_ready (rs := [3]) (by kernel_rfl) (by simp) ?_
          refine (AllReadyH.cons rfl (fun K hK => ?_) AllReadyH.nil)
          obtain ⟨W4, hW4, HB4⟩ := box_words15 n W3
          have O4 := Lib.hid (O3.out.trans HB4.out.1)
          have BX := Lib.hid (BX.out.keep HB4.out.1 id)
          have SL := Lib.hid (SL.out.keep HB4.out.1 id)
          have RW := Lib.hid HB4.out.2
          have HWE := Lib.hid hW4
          clear hW4
          go_simp
          with_reducible rw [HWE.out]
          clear HWE
          refine hK.out _ _ ⟨O4.out.keeps c0, O4.out.keeps c1, O4.out.keeps c2, O4.out.keeps c3⟩ (fun hHeld2 => ?_)
          clear hK K hHeld
          have hHeld := hHeld2
          clear hHeld2
          try simp only [Act.put, List.setIfInBounds_toArray, List.set_cons_zero, List.set_cons_succ, List.getElem_toArray, List.getElem_cons_succ, List.getElem_cons_zero]
          refine wpAnyH_take (i := 7) (v := ?_) rfl (by kernel_rfl) (by kernel_rfl) (by kernel_rfl) (fun _ _ _ h => h) (Or.inl ⟨by rfl, ?_⟩) hHeld ?_
          rotate_left
          · intro w hSw; (try dsimp only at hSw); go_simp; first | done | with_reducible rfl
          try simp only [Act.put, List.setIfInBounds_toArray, List.set_cons_zero, List.set_cons_succ, List.getElem_toArray, List.getElem_cons_succ, List.getElem_cons_zero]
          refine wpAnyH_ready (rs := [9]) (by kernel_rfl) (by simp) ?_
          refine (AllReadyH.cons rfl (fun K hK => ?_) AllReadyH.nil)
          obtain ⟨s0, s1, s2, s3, s4, s5, s6, s7, s8, s9⟩ := ten_cells BX.out
          obtain ⟨f0, f1, f2, f3, f4, f5, f6, f7, f8, f9⟩ := ten_free BX.out
          go_simp
          clear s0 s1 s2 s3 s4 s5 s6 s7 s8 s9 f0 f1 f2 f3 f4 f5 f6 f7 f8 f9
          obtain ⟨W5, hW5, oA, oB, B9⟩ := puts10 O4.out (O1.out.size) BX.out (.int .i64 c.semi) (.int .i64 c.large) (.int .i64 c.slots) (.int .i64 c.limit) (.bool false) (.slice (some ⟨W3.heap.size, 0, none⟩) n n) (.int .i64 0) (.slice none 0 0) (.slice none 0 0) (.slice (some ⟨W2.heap.size, 0, none⟩) m m)
          with_reducible rw [hW5]
          have O5 := Lib.hid oA
          have SL := Lib.hid (SL.out.keep oB (BX.out.ne SL.out (by decide)).symm)
          have RW := Lib.hid (RW.out.keep oB (BX.out.ne RW.out (by decide)).symm)
          have BX := Lib.hid B9
          clear hW5 oA oB B9
          refine hK.out _ _ ⟨O5.out.keeps c0, O5.out.keeps c1, O5.out.keeps c2, O5.out.keeps c3⟩ (fun hHeld2 => ?_)
          clear hK K hHeld
          have hHeld := hHeld2
          clear hHeld2
          try simp only [Act.put, List.setIfInBounds_toArray, List.set_cons_zero, List.set_cons_succ, List.getElem_toArray, List.getElem_cons_succ, List.getElem_cons_zero]
          refine wpAnyH_done (by kernel_rfl) ?_ _
          go_wp2
          go_meet
          exact ⟨_, _, _, rfl, Lib.hid ⟨O5.out, HBQ.out, BX.out, RW.out, SL.out⟩⟩
    · skip
      obtain ⟨W1, hW1, HB1⟩ := box_slots15_drew m WS
      have O1 := Lib.hid (O0.out.trans HB1.out.1)
      have SL := Lib.hid HB1.out.2
      have HWE := Lib.hid hW1
      clear hW1
      go_simp
      with_reducible rw [HWE.out]
      clear HWE
      refine hK.out _ _ ⟨O1.out.keeps c0, O1.out.keeps c1, O1.out.keeps c2, O1.out.keeps c3⟩ (fun hHeld2 => ?_)
      clear hK K hHeld
      have hHeld := hHeld2
      clear hHeld2
      try simp only [Act.put, List.setIfInBounds_toArray, List.set_cons_zero, List.set_cons_succ, List.getElem_toArray, List.getElem_cons_succ, List.getElem_cons_zero]
      refine wpAnyH_ready (rs := [2, 8]) (by kernel_rfl) (by simp) ?_
      refine (AllReadyH.cons rfl (fun K hK => ?_) (AllReadyH.cons rfl (fun K hK => ?_) AllReadyH.nil))
      · skip
        go_simp
        go_at_call 32
        refine (HWD.out _).mono ?_
        rintro e w2 ⟨rfl, o⟩
        have O2 := Lib.hid (O1.out.trans o)
        have SL := Lib.hid (SL.out.keep o id)
        clear o
        refine hK.out _ _ ⟨O2.out.keeps c0, O2.out.keeps c1, O2.out.keeps c2, O2.out.keeps c3⟩ (fun hHeld2 => ?_)
        clear hK K hHeld
        have hHeld := hHeld2
        clear hHeld2
        try simp only [Act.put, List.setIfInBounds_toArray, List.set_cons_zero, List.set_cons_succ, List.getElem_toArray, List.getElem_cons_succ, List.getElem_cons_zero]
        refine wpAnyH_ready (rs := [3, 8]) (by kernel_rfl) (by simp) ?_
        refine (AllReadyH.cons rfl (fun K hK => ?_) (AllReadyH.cons rfl (fun K hK => ?_) AllReadyH.nil))
        · skip
          obtain ⟨W3, hW3, HB3⟩ := box_words15 n w2
          have O3 := Lib.hid (O2.out.trans HB3.out.1)
          have SL := Lib.hid (SL.out.keep HB3.out.1 id)
          have RW := Lib.hid HB3.out.2
          have HWE := Lib.hid hW3
          clear hW3
          go_simp
          with_reducible rw [HWE.out]
          clear HWE
          refine hK.out _ _ ⟨O3.out.keeps c0, O3.out.keeps c1, O3.out.keeps c2, O3.out.keeps c3⟩ (fun hHeld2 => ?_)
          clear hK K hHeld
          have hHeld := hHeld2
          clear hHeld2
          try simp only [Act.put, List.setIfInBounds_toArray, List.set_cons_zero, List.set_cons_succ, List.getElem_toArray, List.getElem_cons_succ, List.getElem_cons_zero]
          refine wpAnyH_take (i := 7) (v := ?_) rfl (by kernel_rfl) (by kernel_rfl) (by kernel_rfl) (fun _ _ _ h => h) (Or.inl ⟨by rfl, ?_⟩) hHeld ?_
          rotate_left
          · intro w hSw; (try dsimp only at hSw); go_simp; first | done | with_reducible rfl
          try simp only [Act.put, List.setIfInBounds_toArray, List.set_cons_zero, List.set_cons_succ, List.getElem_toArray, List.getElem_cons_succ, List.getElem_cons_zero]
          refine wpAnyH_ready (rs := [8]) (by kernel_rfl) (by simp) ?_
          refine (AllReadyH.cons rfl (fun K hK => ?_) AllReadyH.nil)
          obtain ⟨W4, hW4, HB4⟩ := zero_state W3
          have O4 := Lib.hid (O3.out.trans HB4.out.1)
          have SL := Lib.hid (SL.out.keep HB4.out.1 id)
          have RW := Lib.hid (RW.out.keep HB4.out.1 id)
          have BX := Lib.hid HB4.out.2
          have HBQ := Lib.hid (O3.out.size)
          have HWE := Lib.hid hW4
          clear hW4
          go_simp
          with_reducible rw [HWE.out]
          clear HWE
          refine hK.out _ _ ⟨O4.out.keeps c0, O4.out.keeps c1, O4.out.keeps c2, O4.out.keeps c3⟩ (fun hHeld2 => ?_)
          clear hK K hHeld
          have hHeld := hHeld2
          clear hHeld2
          try simp only [Act.put, List.setIfInBounds_toArray, List.set_cons_zero, List.set_cons_succ, List.getElem_toArray, List.getElem_cons_succ, List.getElem_cons_zero]
          refine wpAnyH_ready (rs := [9]) (by kernel_rfl) (by simp) ?_
          refine (AllReadyH.cons rfl (fun K hK => ?_) AllReadyH.nil)
          obtain ⟨s0, s1, s2, s3, s4, s5, s6, s7, s8, s9⟩ := ten_cells BX.out
          obtain ⟨f0, f1, f2, f3, f4, f5, f6, f7, f8, f9⟩ := ten_free BX.out
          go_simp
          clear s0 s1 s2 s3 s4 s5 s6 s7 s8 s9 f0 f1 f2 f3 f4 f5 f6 f7 f8 f9
          obtain ⟨W5, hW5, oA, oB, B9⟩ := puts10 O4.out (O3.out.size) BX.out (.int .i64 c.semi) (.int .i64 c.large) (.int .i64 c.slots) (.int .i64 c.limit) (.bool false) (.slice (some ⟨w2.heap.size, 0, none⟩) n n) (.int .i64 0) (.slice none 0 0) (.slice none 0 0) (.slice (some ⟨WS.heap.size, 0, none⟩) m m)
          with_reducible rw [hW5]
          have O5 := Lib.hid oA
          have SL := Lib.hid (SL.out.keep oB (BX.out.ne SL.out (by decide)).symm)
          have RW := Lib.hid (RW.out.keep oB (BX.out.ne RW.out (by decide)).symm)
          have BX := Lib.hid B9
          clear hW5 oA oB B9
          refine hK.out _ _ ⟨O5.out.keeps c0, O5.out.keeps c1, O5.out.keeps c2, O5.out.keeps c3⟩ (fun hHeld2 => ?_)
          clear hK K hHeld
          have hHeld := hHeld2
          clear hHeld2
          try simp only [Act.put, List.setIfInBounds_toArray, List.set_cons_zero, List.set_cons_succ, List.getElem_toArray, List.getElem_cons_succ, List.getElem_cons_zero]
          refine wpAnyH_done (by kernel_rfl) ?_ _
          go_wp2
          go_meet
          exact ⟨_, _, _, rfl, Lib.hid ⟨O5.out, HBQ.out, BX.out, RW.out, SL.out⟩⟩
        · skip
          obtain ⟨W3, hW3, HB3⟩ := zero_state w2
          have O3 := Lib.hid (O2.out.trans HB3.out.1)
          have SL := Lib.hid (SL.out.keep HB3.out.1 id)
          have BX := Lib.hid HB3.out.2
          have HBQ := Lib.hid (O2.out.size)
          have HWE := Lib.hid hW3
          clear hW3
          go_simp
          with_reducible rw [HWE.out]
          clear HWE
          refine hK.out _ _ ⟨O3.out.keeps c0, O3.out.keeps c1, O3.out.keeps c2, O3.out.keeps c3⟩ (fun hHeld2 => ?_)
          clear hK K hHeld
          have hHeld := hHeld2
          clear hHeld2
          try simp only [Act.put, List.setIfInBounds_toArray, List.set_cons_zero, List.set_cons_succ, List.getElem_toArray, List.getElem_cons_succ, List.getElem_cons_zero]
          refine wpAnyH_ready (rs := [3]) (by kernel_rfl) (by simp) ?_
          refine (AllReadyH.cons rfl (fun K hK => ?_) AllReadyH.nil)
          obtain ⟨W4, hW4, HB4⟩ := box_words15 n W3
          have O4 := Lib.hid (O3.out.trans HB4.out.1)
          have SL := Lib.hid (SL.out.keep HB4.out.1 id)
          have BX := Lib.hid (BX.out.keep HB4.out.1 id)
          have RW := Lib.hid HB4.out.2
          have HWE := Lib.hid hW4
          clear hW4
          go_simp
          with_reducible rw [HWE.out]
          clear HWE
          refine hK.out _ _ ⟨O4.out.keeps c0, O4.out.keeps c1, O4.out.keeps c2, O4.out.keeps c3⟩ (fun hHeld2 => ?_)
          clear hK K hHeld
          have hHeld := hHeld2
          clear hHeld2
          try simp only [Act.put, List.setIfInBounds_toArray, List.set_cons_zero, List.set_cons_succ, List.getElem_toArray, List.getElem_cons_succ, List.getElem_cons_zero]
          refine wpAnyH_take (i := 7) (v := ?_) rfl (by kernel_rfl) (by kernel_rfl) (by kernel_rfl) (fun _ _ _ h => h) (Or.inl ⟨by rfl, ?_⟩) hHeld ?_
          rotate_left
          · intro w hSw; (try dsimp only at hSw); go_simp; first | done | with_reducible rfl
          try simp only [Act.put, List.setIfInBounds_toArray, List.set_cons_zero, List.set_cons_succ, List.getElem_toArray, List.getElem_cons_succ, List.getElem_cons_zero]
          refine wpAnyH_ready (rs := [9]) (by kernel_rfl) (by simp) ?_
          refine (AllReadyH.cons rfl (fun K hK => ?_) AllReadyH.nil)
          obtain ⟨s0, s1, s2, s3, s4, s5, s6, s7, s8, s9⟩ := ten_cells BX.out
          obtain ⟨f0, f1, f2, f3, f4, f5, f6, f7, f8, f9⟩ := ten_free BX.out
          go_simp
          clear s0 s1 s2 s3 s4 s5 s6 s7 s8 s9 f0 f1 f2 f3 f4 f5 f6 f7 f8 f9
          obtain ⟨W5, hW5, oA, oB, B9⟩ := puts10 O4.out (O2.out.size) BX.out (.int .i64 c.semi) (.int .i64 c.large) (.int .i64 c.slots) (.int .i64 c.limit) (.bool false) (.slice (some ⟨W3.heap.size, 0, none⟩) n n) (.int .i64 0) (.slice none 0 0) (.slice none 0 0) (.slice (some ⟨WS.heap.size, 0, none⟩) m m)
          with_reducible rw [hW5]
          have O5 := Lib.hid oA
          have SL := Lib.hid (SL.out.keep oB (BX.out.ne SL.out (by decide)).symm)
          have RW := Lib.hid (RW.out.keep oB (BX.out.ne RW.out (by decide)).symm)
          have BX := Lib.hid B9
          clear hW5 oA oB B9
          refine hK.out _ _ ⟨O5.out.keeps c0, O5.out.keeps c1, O5.out.keeps c2, O5.out.keeps c3⟩ (fun hHeld2 => ?_)
          clear hK K hHeld
          have hHeld := hHeld2
          clear hHeld2
          try simp only [Act.put, List.setIfInBounds_toArray, List.set_cons_zero, List.set_cons_succ, List.getElem_toArray, List.getElem_cons_succ, List.getElem_cons_zero]
          refine wpAnyH_done (by kernel_rfl) ?_ _
          go_wp2
          go_meet
          exact ⟨_, _, _, rfl, Lib.hid ⟨O5.out, HBQ.out, BX.out, RW.out, SL.out⟩⟩
      · skip
        obtain ⟨W2, hW2, HB2⟩ := zero_state W1
        have O2 := Lib.hid (O1.out.trans HB2.out.1)
        have SL := Lib.hid (SL.out.keep HB2.out.1 id)
        have BX := Lib.hid HB2.out.2
        have HBQ := Lib.hid (O1.out.size)
        have HWE := Lib.hid hW2
        clear hW2
        go_simp
        with_reducible rw [HWE.out]
        clear HWE
        refine hK.out _ _ ⟨O2.out.keeps c0, O2.out.keeps c1, O2.out.keeps c2, O2.out.keeps c3⟩ (fun hHeld2 => ?_)
        clear hK K hHeld
        have hHeld := hHeld2
        clear hHeld2
        try simp only [Act.put, List.setIfInBounds_toArray, List.set_cons_zero, List.set_cons_succ, List.getElem_toArray, List.getElem_cons_succ, List.getElem_cons_zero]
        refine wpAnyH_ready (rs := [2]) (by kernel_rfl) (by simp) ?_
        refine (AllReadyH.cons rfl (fun K hK => ?_) AllReadyH.nil)
        go_simp
        go_at_call 32
        refine (HWD.out _).mono ?_
        rintro e w3 ⟨rfl, o⟩
        have O3 := Lib.hid (O2.out.trans o)
        have SL := Lib.hid (SL.out.keep o id)
        have BX := Lib.hid (BX.out.keep o id)
        clear o
        refine hK.out _ _ ⟨O3.out.keeps c0, O3.out.keeps c1, O3.out.keeps c2, O3.out.keeps c3⟩ (fun hHeld2 => ?_)
        clear hK K hHeld
        have hHeld := hHeld2
        clear hHeld2
        try simp only [Act.put, List.setIfInBounds_toArray, List.set_cons_zero, List.set_cons_succ, List.getElem_toArray, List.getElem_cons_succ, List.getElem_cons_zero]
        refine wpAnyH_ready (rs := [3]) (by kernel_rfl) (by simp) ?_
        refine (AllReadyH.cons rfl (fun K hK => ?_) AllReadyH.nil)
        obtain ⟨W4, hW4, HB4⟩ := box_words15 n w3
        have O4 := Lib.hid (O3.out.trans HB4.out.1)
        have SL := Lib.hid (SL.out.keep HB4.out.1 id)
        have BX := Lib.hid (BX.out.keep HB4.out.1 id)
        have RW := Lib.hid HB4.out.2
        have HWE := Lib.hid hW4
        clear hW4
        go_simp
        with_reducible rw [HWE.out]
        clear HWE
        refine hK.out _ _ ⟨O4.out.keeps c0, O4.out.keeps c1, O4.out.keeps c2, O4.out.keeps c3⟩ (fun hHeld2 => ?_)
        clear hK K hHeld
        have hHeld := hHeld2
        clear hHeld2
        try simp only [Act.put, List.setIfInBounds_toArray, List.set_cons_zero, List.set_cons_succ, List.getElem_toArray, List.getElem_cons_succ, List.getElem_cons_zero]
        refine wpAnyH_take (i := 7) (v := ?_) rfl (by kernel_rfl) (by kernel_rfl) (by kernel_rfl) (fun _ _ _ h => h) (Or.inl ⟨by rfl, ?_⟩) hHeld ?_
        rotate_left
        · intro w hSw; (try dsimp only at hSw); go_simp; first | done | with_reducible rfl
        try simp only [Act.put, List.setIfInBounds_toArray, List.set_cons_zero, List.set_cons_succ, List.getElem_toArray, List.getElem_cons_succ, List.getElem_cons_zero]
        refine wpAnyH_ready (rs := [9]) (by kernel_rfl) (by simp) ?_
        refine (AllReadyH.cons rfl (fun K hK => ?_) AllReadyH.nil)
        obtain ⟨s0, s1, s2, s3, s4, s5, s6, s7, s8, s9⟩ := ten_cells BX.out
        obtain ⟨f0, f1, f2, f3, f4, f5, f6, f7, f8, f9⟩ := ten_free BX.out
        go_simp
        clear s0 s1 s2 s3 s4 s5 s6 s7 s8 s9 f0 f1 f2 f3 f4 f5 f6 f7 f8 f9
        obtain ⟨W5, hW5, oA, oB, B9⟩ := puts10 O4.out (O1.out.size) BX.out (.int .i64 c.semi) (.int .i64 c.large) (.int .i64 c.slots) (.int .i64 c.limit) (.bool false) (.slice (some ⟨w3.heap.size, 0, none⟩) n n) (.int .i64 0) (.slice none 0 0) (.slice none 0 0) (.slice (some ⟨WS.heap.size, 0, none⟩) m m)
        with_reducible rw [hW5]
        have O5 := Lib.hid oA
        have SL := Lib.hid (SL.out.keep oB (BX.out.ne SL.out (by decide)).symm)
        have RW := Lib.hid (RW.out.keep oB (BX.out.ne RW.out (by decide)).symm)
        have BX := Lib.hid B9
        clear hW5 oA oB B9
        refine hK.out _ _ ⟨O5.out.keeps c0, O5.out.keeps c1, O5.out.keeps c2, O5.out.keeps c3⟩ (fun hHeld2 => ?_)
        clear hK K hHeld
        have hHeld := hHeld2
        clear hHeld2
        try simp only [Act.put, List.setIfInBounds_toArray, List.set_cons_zero, List.set_cons_succ, List.getElem_toArray, List.getElem_cons_succ, List.getElem_cons_zero]
        refine wpAnyH_done (by kernel_rfl) ?_ _
        go_wp2
        go_meet
        exact ⟨_, _, _, rfl, Lib.hid ⟨O5.out, HBQ.out, BX.out, RW.out, SL.out⟩⟩
    · skip
      obtain ⟨W1, hW1, HB1⟩ := zero_state_drew WS
      have O1 := Lib.hid (O0.out.trans HB1.out.1)
      have BX := Lib.hid HB1.out.2
      have HBQ := Lib.hid (Nat.le_refl WS.heap.size)
      have HWE := Lib.hid hW1
      clear hW1
      go_simp
      with_reducible rw [HWE.out]
      clear HWE
      refine hK.out _ _ ⟨O1.out.keeps c0, O1.out.keeps c1, O1.out.keeps c2, O1.out.keeps c3⟩ (fun hHeld2 => ?_)
      clear hK K hHeld
      have hHeld := hHeld2
      clear hHeld2
      try simp only [Act.put, List.setIfInBounds_toArray, List.set_cons_zero, List.set_cons_succ, List.getElem_toArray, List.getElem_cons_succ, List.getElem_cons_zero]
      refine wpAnyH_ready (rs := [2, 6]) (by kernel_rfl) (by simp) ?_
      refine (AllReadyH.cons rfl (fun K hK => ?_) (AllReadyH.cons rfl (fun K hK => ?_) AllReadyH.nil))
      · skip
        go_simp
        go_at_call 32
        refine (HWD.out _).mono ?_
        rintro e w2 ⟨rfl, o⟩
        have O2 := Lib.hid (O1.out.trans o)
        have BX := Lib.hid (BX.out.keep o id)
        clear o
        refine hK.out _ _ ⟨O2.out.keeps c0, O2.out.keeps c1, O2.out.keeps c2, O2.out.keeps c3⟩ (fun hHeld2 => ?_)
        clear hK K hHeld
        have hHeld := hHeld2
        clear hHeld2
        try simp only [Act.put, List.setIfInBounds_toArray, List.set_cons_zero, List.set_cons_succ, List.getElem_toArray, List.getElem_cons_succ, List.getElem_cons_zero]
        refine wpAnyH_ready (rs := [3, 6]) (by kernel_rfl) (by simp) ?_
        refine (AllReadyH.cons rfl (fun K hK => ?_) (AllReadyH.cons rfl (fun K hK => ?_) AllReadyH.nil))
        · skip
          obtain ⟨W3, hW3, HB3⟩ := box_words15 n w2
          have O3 := Lib.hid (O2.out.trans HB3.out.1)
          have BX := Lib.hid (BX.out.keep HB3.out.1 id)
          have RW := Lib.hid HB3.out.2
          have HWE := Lib.hid hW3
          clear hW3
          go_simp
          with_reducible rw [HWE.out]
          clear HWE
          refine hK.out _ _ ⟨O3.out.keeps c0, O3.out.keeps c1, O3.out.keeps c2, O3.out.keeps c3⟩ (fun hHeld2 => ?_)
          clear hK K hHeld
          have hHeld := hHeld2
          clear hHeld2
          try simp only [Act.put, List.setIfInBounds_toArray, List.set_cons_zero, List.set_cons_succ, List.getElem_toArray, List.getElem_cons_succ, List.getElem_cons_zero]
          refine wpAnyH_ready (rs := [6]) (by kernel_rfl) (by simp) ?_
          refine (AllReadyH.cons rfl (fun K hK => ?_) AllReadyH.nil)
          obtain ⟨W4, hW4, HB4⟩ := box_slots15 m W3
          have O4 := Lib.hid (O3.out.trans HB4.out.1)
          have BX := Lib.hid (BX.out.keep HB4.out.1 id)
          have RW := Lib.hid (RW.out.keep HB4.out.1 id)
          have SL := Lib.hid HB4.out.2
          have HWE := Lib.hid hW4
          clear hW4
          go_simp
          with_reducible rw [HWE.out]
          clear HWE
          refine hK.out _ _ ⟨O4.out.keeps c0, O4.out.keeps c1, O4.out.keeps c2, O4.out.keeps c3⟩ (fun hHeld2 => ?_)
          clear hK K hHeld
          have hHeld := hHeld2
          clear hHeld2
          try simp only [Act.put, List.setIfInBounds_toArray, List.set_cons_zero, List.set_cons_succ, List.getElem_toArray, List.getElem_cons_succ, List.getElem_cons_zero]
          refine wpAnyH_take (i := 7) (v := ?_) rfl (by kernel_rfl) (by kernel_rfl) (by kernel_rfl) (fun _ _ _ h => h) (Or.inl ⟨by rfl, ?_⟩) hHeld ?_
          rotate_left
          · intro w hSw; (try dsimp only at hSw); go_simp; first | done | with_reducible rfl
          try simp only [Act.put, List.setIfInBounds_toArray, List.set_cons_zero, List.set_cons_succ, List.getElem_toArray, List.getElem_cons_succ, List.getElem_cons_zero]
          refine wpAnyH_ready (rs := [9]) (by kernel_rfl) (by simp) ?_
          refine (AllReadyH.cons rfl (fun K hK => ?_) AllReadyH.nil)
          obtain ⟨s0, s1, s2, s3, s4, s5, s6, s7, s8, s9⟩ := ten_cells BX.out
          obtain ⟨f0, f1, f2, f3, f4, f5, f6, f7, f8, f9⟩ := ten_free BX.out
          go_simp
          clear s0 s1 s2 s3 s4 s5 s6 s7 s8 s9 f0 f1 f2 f3 f4 f5 f6 f7 f8 f9
          obtain ⟨W5, hW5, oA, oB, B9⟩ := puts10 O4.out (Nat.le_refl WS.heap.size) BX.out (.int .i64 c.semi) (.int .i64 c.large) (.int .i64 c.slots) (.int .i64 c.limit) (.bool false) (.slice (some ⟨w2.heap.size, 0, none⟩) n n) (.int .i64 0) (.slice none 0 0) (.slice none 0 0) (.slice (some ⟨W3.heap.size, 0, none⟩) m m)
          with_reducible rw [hW5]
          have O5 := Lib.hid oA
          have RW := Lib.hid (RW.out.keep oB (BX.out.ne RW.out (by decide)).symm)
          have SL := Lib.hid (SL.out.keep oB (BX.out.ne SL.out (by decide)).symm)
          have BX := Lib.hid B9
          clear hW5 oA oB B9
          refine hK.out _ _ ⟨O5.out.keeps c0, O5.out.keeps c1, O5.out.keeps c2, O5.out.keeps c3⟩ (fun hHeld2 => ?_)
          clear hK K hHeld
          have hHeld := hHeld2
          clear hHeld2
          try simp only [Act.put, List.setIfInBounds_toArray, List.set_cons_zero, List.set_cons_succ, List.getElem_toArray, List.getElem_cons_succ, List.getElem_cons_zero]
          refine wpAnyH_done (by kernel_rfl) ?_ _
          go_wp2
          go_meet
          exact ⟨_, _, _, rfl, Lib.hid ⟨O5.out, HBQ.out, BX.out, RW.out, SL.out⟩⟩
        · skip
          obtain ⟨W3, hW3, HB3⟩ := box_slots15 m w2
          have O3 := Lib.hid (O2.out.trans HB3.out.1)
          have BX := Lib.hid (BX.out.keep HB3.out.1 id)
          have SL := Lib.hid HB3.out.2
          have HWE := Lib.hid hW3
          clear hW3
          go_simp
          with_reducible rw [HWE.out]
          clear HWE
          refine hK.out _ _ ⟨O3.out.keeps c0, O3.out.keeps c1, O3.out.keeps c2, O3.out.keeps c3⟩ (fun hHeld2 => ?_)
          clear hK K hHeld
          have hHeld := hHeld2
          clear hHeld2
          try simp only [Act.put, List.setIfInBounds_toArray, List.set_cons_zero, List.set_cons_succ, List.getElem_toArray, List.getElem_cons_succ, List.getElem_cons_zero]
          refine wpAnyH_ready (rs := [3]) (by kernel_rfl) (by simp) ?_
          refine (AllReadyH.cons rfl (fun K hK => ?_) AllReadyH.nil)
          obtain ⟨W4, hW4, HB4⟩ := box_words15 n W3
          have O4 := Lib.hid (O3.out.trans HB4.out.1)
          have BX := Lib.hid (BX.out.keep HB4.out.1 id)
          have SL := Lib.hid (SL.out.keep HB4.out.1 id)
          have RW := Lib.hid HB4.out.2
          have HWE := Lib.hid hW4
          clear hW4
          go_simp
          with_reducible rw [HWE.out]
          clear HWE
          refine hK.out _ _ ⟨O4.out.keeps c0, O4.out.keeps c1, O4.out.keeps c2, O4.out.keeps c3⟩ (fun hHeld2 => ?_)
          clear hK K hHeld
          have hHeld := hHeld2
          clear hHeld2
          try simp only [Act.put, List.setIfInBounds_toArray, List.set_cons_zero, List.set_cons_succ, List.getElem_toArray, List.getElem_cons_succ, List.getElem_cons_zero]
          refine wpAnyH_take (i := 7) (v := ?_) rfl (by kernel_rfl) (by kernel_rfl) (by kernel_rfl) (fun _ _ _ h => h) (Or.inl ⟨by rfl, ?_⟩) hHeld ?_
          rotate_left
          · intro w hSw; (try dsimp only at hSw); go_simp; first | done | with_reducible rfl
          try simp only [Act.put, List.setIfInBounds_toArray, List.set_cons_zero, List.set_cons_succ, List.getElem_toArray, List.getElem_cons_succ, List.getElem_cons_zero]
          refine wpAnyH_ready (rs := [9]) (by kernel_rfl) (by simp) ?_
          refine (AllReadyH.cons rfl (fun K hK => ?_) AllReadyH.nil)
          obtain ⟨s0, s1, s2, s3, s4, s5, s6, s7, s8, s9⟩ := ten_cells BX.out
          obtain ⟨f0, f1, f2, f3, f4, f5, f6, f7, f8, f9⟩ := ten_free BX.out
          go_simp
          clear s0 s1 s2 s3 s4 s5 s6 s7 s8 s9 f0 f1 f2 f3 f4 f5 f6 f7 f8 f9
          obtain ⟨W5, hW5, oA, oB, B9⟩ := puts10 O4.out (Nat.le_refl WS.heap.size) BX.out (.int .i64 c.semi) (.int .i64 c.large) (.int .i64 c.slots) (.int .i64 c.limit) (.bool false) (.slice (some ⟨W3.heap.size, 0, none⟩) n n) (.int .i64 0) (.slice none 0 0) (.slice none 0 0) (.slice (some ⟨w2.heap.size, 0, none⟩) m m)
          with_reducible rw [hW5]
          have O5 := Lib.hid oA
          have SL := Lib.hid (SL.out.keep oB (BX.out.ne SL.out (by decide)).symm)
          have RW := Lib.hid (RW.out.keep oB (BX.out.ne RW.out (by decide)).symm)
          have BX := Lib.hid B9
          clear hW5 oA oB B9
          refine hK.out _ _ ⟨O5.out.keeps c0, O5.out.keeps c1, O5.out.keeps c2, O5.out.keeps c3⟩ (fun hHeld2 => ?_)
          clear hK K hHeld
          have hHeld := hHeld2
          clear hHeld2
          try simp only [Act.put, List.setIfInBounds_toArray, List.set_cons_zero, List.set_cons_succ, List.getElem_toArray, List.getElem_cons_succ, List.getElem_cons_zero]
          refine wpAnyH_done (by kernel_rfl) ?_ _
          go_wp2
          go_meet
          exact ⟨_, _, _, rfl, Lib.hid ⟨O5.out, HBQ.out, BX.out, RW.out, SL.out⟩⟩
      · skip
        obtain ⟨W2, hW2, HB2⟩ := box_slots15 m W1
        have O2 := Lib.hid (O1.out.trans HB2.out.1)
        have BX := Lib.hid (BX.out.keep HB2.out.1 id)
        have SL := Lib.hid HB2.out.2
        have HWE := Lib.hid hW2
        clear hW2
        go_simp
        with_reducible rw [HWE.out]
        clear HWE
        refine hK.out _ _ ⟨O2.out.keeps c0, O2.out.keeps c1, O2.out.keeps c2, O2.out.keeps c3⟩ (fun hHeld2 => ?_)
        clear hK K hHeld
        have hHeld := hHeld2
        clear hHeld2
        try simp only [Act.put, List.setIfInBounds_toArray, List.set_cons_zero, List.set_cons_succ, List.getElem_toArray, List.getElem_cons_succ, List.getElem_cons_zero]
        refine wpAnyH_ready (rs := [2]) (by kernel_rfl) (by simp) ?_
        refine (AllReadyH.cons rfl (fun K hK => ?_) AllReadyH.nil)
        go_simp
        go_at_call 32
        refine (HWD.out _).mono ?_
        rintro e w3 ⟨rfl, o⟩
        have O3 := Lib.hid (O2.out.trans o)
        have BX := Lib.hid (BX.out.keep o id)
        have SL := Lib.hid (SL.out.keep o id)
        clear o
        refine hK.out _ _ ⟨O3.out.keeps c0, O3.out.keeps c1, O3.out.keeps c2, O3.out.keeps c3⟩ (fun hHeld2 => ?_)
        clear hK K hHeld
        have hHeld := hHeld2
        clear hHeld2
        try simp only [Act.put, List.setIfInBounds_toArray, List.set_cons_zero, List.set_cons_succ, List.getElem_toArray, List.getElem_cons_succ, List.getElem_cons_zero]
        refine wpAnyH_ready (rs := [3]) (by kernel_rfl) (by simp) ?_
        refine (AllReadyH.cons rfl (fun K hK => ?_) AllReadyH.nil)
        obtain ⟨W4, hW4, HB4⟩ := box_words15 n w3
        have O4 := Lib.hid (O3.out.trans HB4.out.1)
        have BX := Lib.hid (BX.out.keep HB4.out.1 id)
        have SL := Lib.hid (SL.out.keep HB4.out.1 id)
        have RW := Lib.hid HB4.out.2
        have HWE := Lib.hid hW4
        clear hW4
        go_simp
        with_reducible rw [HWE.out]
        clear HWE
        refine hK.out _ _ ⟨O4.out.keeps c0, O4.out.keeps c1, O4.out.keeps c2, O4.out.keeps c3⟩ (fun hHeld2 => ?_)
        clear hK K hHeld
        have hHeld := hHeld2
        clear hHeld2
        try simp only [Act.put, List.setIfInBounds_toArray, List.set_cons_zero, List.set_cons_succ, List.getElem_toArray, List.getElem_cons_succ, List.getElem_cons_zero]
        refine wpAnyH_take (i := 7) (v := ?_) rfl (by kernel_rfl) (by kernel_rfl) (by kernel_rfl) (fun _ _ _ h => h) (Or.inl ⟨by rfl, ?_⟩) hHeld ?_
        rotate_left
        · intro w hSw; (try dsimp only at hSw); go_simp; first | done | with_reducible rfl
        try simp only [Act.put, List.setIfInBounds_toArray, List.set_cons_zero, List.set_cons_succ, List.getElem_toArray, List.getElem_cons_succ, List.getElem_cons_zero]
        refine wpAnyH_ready (rs := [9]) (by kernel_rfl) (by simp) ?_
        refine (AllReadyH.cons rfl (fun K hK => ?_) AllReadyH.nil)
        obtain ⟨s0, s1, s2, s3, s4, s5, s6, s7, s8, s9⟩ := ten_cells BX.out
        obtain ⟨f0, f1, f2, f3, f4, f5, f6, f7, f8, f9⟩ := ten_free BX.out
        go_simp
        clear s0 s1 s2 s3 s4 s5 s6 s7 s8 s9 f0 f1 f2 f3 f4 f5 f6 f7 f8 f9
        obtain ⟨W5, hW5, oA, oB, B9⟩ := puts10 O4.out (Nat.le_refl WS.heap.size) BX.out (.int .i64 c.semi) (.int .i64 c.large) (.int .i64 c.slots) (.int .i64 c.limit) (.bool false) (.slice (some ⟨w3.heap.size, 0, none⟩) n n) (.int .i64 0) (.slice none 0 0) (.slice none 0 0) (.slice (some ⟨W1.heap.size, 0, none⟩) m m)
        with_reducible rw [hW5]
        have O5 := Lib.hid oA
        have SL := Lib.hid (SL.out.keep oB (BX.out.ne SL.out (by decide)).symm)
        have RW := Lib.hid (RW.out.keep oB (BX.out.ne RW.out (by decide)).symm)
        have BX := Lib.hid B9
        clear hW5 oA oB B9
        refine hK.out _ _ ⟨O5.out.keeps c0, O5.out.keeps c1, O5.out.keeps c2, O5.out.keeps c3⟩ (fun hHeld2 => ?_)
        clear hK K hHeld
        have hHeld := hHeld2
        clear hHeld2
        try simp only [Act.put, List.setIfInBounds_toArray, List.set_cons_zero, List.set_cons_succ, List.getElem_toArray, List.getElem_cons_succ, List.getElem_cons_zero]
        refine wpAnyH_done (by kernel_rfl) ?_ _
        go_wp2
        go_meet
        exact ⟨_, _, _, rfl, Lib.hid ⟨O5.out, HBQ.out, BX.out, RW.out, SL.out⟩⟩
  case rest =>
  obtain ⟨bq, rg, sg, rfl, HC⟩ := hcut
  clear hmk hmks
  obtain ⟨W5, rfl⟩ : ∃ W5 : World, W5 = wc := ⟨_, rfl⟩
  have X5 := Lib.hid (X4.out.keep HC.out.1)
  have B5 := Lib.hid (B4.out.keep HC.out.1 id)
  have hbq := HC.out.2.1
  clear c0 c1 c2 c3
  obtain ⟨c0, c1, c2, c3⟩ := X5.out
  rw [← HP.out] at c0 c1 c2 c3
  obtain ⟨d0, d1, d2, d3, d4, d5, d6, d7, d8, d9⟩ := ten_cells HC.out.2.2.1
  by_cases hl : 0 < c.large
  · have q8 := HC.out.2.2.1.free 8
    go_wp2_with fail
    go_at_call 48
    refine (HLA.out _).mono ?_
    rintro e w6 ⟨rfl, o⟩
    obtain ⟨W6, hW6, HB6⟩ := box_span15 w6 x y
    have HW6 := Lib.hid hW6
    have o6 := o.trans HB6.out.1
    have D6 := Lib.hid (HC.out.2.2.1.keep o6 id)
    have R6 := Lib.hid (HC.out.2.2.2.1.keep o6 id)
    have S6 := Lib.hid (HC.out.2.2.2.2.keep o6 id)
    have B6 := Lib.hid (B5.out.keep o6 id)
    have O6 := Lib.hid (O4.out.trans (HC.out.1.trans o6))
    have hws : w.heap.size ≤ WS.heap.size := O4.out.size
    have k8 : W6.cell? ⟨bq, 8, none⟩ = some (.slice none 0 0) := D6.out.cell 8
    have l8 := D6.out.free 8
    have k8' := k8
    have l8' := l8
    rw [← hW6] at k8' l8'
    clear hW6 o o6 c0 c1 c2 c3 d0 d1 d2 d3 d4 d5 d6 d7 d8 d9 q8
    go_upto_region 6 with fail
    rw [HW6.out]
    clear k8' l8'
    obtain ⟨W8, hW8, o8⟩ : ∃ W8, W6.setCell ⟨bq, 8, none⟩ (.slice (some ⟨w6.heap.size, 0, none⟩) 1 1) = W8 ∧ Only (isb bq) W6 W8 := ⟨_, rfl, only_set W6 bq 8 _⟩
    have hD8 : Blk (W6.setCell ⟨bq, 8, none⟩ (.slice (some ⟨w6.heap.size, 0, none⟩) 1 1)) bq 28 #[.int .i64 c.semi, .int .i64 c.large, .int .i64 c.slots, .int .i64 c.limit, .bool false, .slice (some ⟨rg, 0, none⟩) n n, .int .i64 0, .slice none 0 0, .slice (some ⟨w6.heap.size, 0, none⟩) 1 1, .slice (some ⟨sg, 0, none⟩) m m] := by simpa using D6.out.put 8 (.slice (some ⟨w6.heap.size, 0, none⟩) 1 1)
    rw [hW8] at hD8
    have HW8 := Lib.hid hW8
    rw [HW8.out]
    have D8 := Lib.hid hD8
    have O8 := Lib.hid (show Only nob w W8 from by rw [← hW8]; exact O6.out.setCell (p := ⟨bq, 8, none⟩) (fun hlt => absurd (Nat.le_trans hws hbq) (Nat.not_le_of_lt hlt)) _)
    have R8 := Lib.hid (R6.out.keep o8 (R6.out.ne D6.out (by decide)))
    have S8 := Lib.hid (S6.out.keep o8 (S6.out.ne D6.out (by decide)))
    have F8 := Lib.hid (HB6.out.2.1.keep o8 (HB6.out.2.1.ne D6.out (by decide)))
    have hp1 : p + 1 ≠ bq := by have := B4.out.lt; omega
    have B8 := Lib.hid (B6.out.keep o8 hp1)
    clear hW8 o8 hD8 k8 l8
    obtain ⟨d0, d1, d2, d3, d4, d5, d6, d7, d8, d9⟩ := ten_cells D8.out
    obtain ⟨s0, s1, s2, s3, s4, s5, s6, s7, s8, s9⟩ := ten_cells B8.out
    obtain ⟨f0, f1, f2, f3, f4, f5, f6, f7, f8, f9⟩ := ten_free B8.out
    go_wp2
    clear s0 s1 s2 s3 s4 s5 s6 s7 s8 s9 f0 f1 f2 f3 f4 f5 f6 f7 f8 f9 d0 d1 d2 d3 d4 d5 d6 d7 d8 d9
    obtain ⟨W7, hW7, O7, OI7, B7⟩ := puts10 (O8.out) (by have := HP.out; omega) B8.out (.int .i64 c.semi) (.int .i64 c.large) (.int .i64 c.slots) (.int .i64 c.limit) (.bool false) (.slice (some ⟨rg, 0, none⟩) n n) (.int .i64 0) (.slice none 0 0) (.slice (some ⟨w6.heap.size, 0, none⟩) 1 1) (.slice (some ⟨sg, 0, none⟩) m m)
    with_reducible rw [hW7]
    obtain ⟨h0, h1, h2, h3, h4, h5, h6, h7, h8, h9⟩ := ten_cells B7
    have r1 : Blk W7 rg 48 (u64s (List.replicate n 0)).toArray := (R8.out).keep OI7 ((R8.out).ne B8.out (by decide))
    have r3 : Blk W7 sg 52 (slc (List.replicate m ((false, 0, 0) : Slt))).toArray := (S8.out).keep OI7 ((S8.out).ne B8.out (by decide))
    have s3' := Sl.of_blk (size := 3) (n := m) (c := m) r3 (by simp [slc_len]) (Nat.le_refl _) (by have := HMB.out; unfold maxLen; omega)
    have s3'' : Sl W7 W7.heap.size 3 (.slice (some ⟨sg, 0, none⟩) m m) (List.replicate c.slots.toNat ((false, 0, 0) : Slt)).length (slc (List.replicate c.slots.toNat ((false, 0, 0) : Slt))) := by
      rw [← HM.out, List.length_replicate]
      exact s3'
    have hfr : Sl W7 W7.heap.size 2 (.slice (some ⟨w6.heap.size, 0, none⟩) 1 1) (frN c).length (spc (frN c)) := by
      have hfn : frN c = [(x, y)] := by unfold frN; rw [if_pos hl, HXY.out]
      rw [hfn]
      exact Sl.of_blk (size := 2) (n := 1) (c := 1) (F8.out.keep OI7 (F8.out.ne B8.out (by decide))) (by simp) (Nat.le_refl _) (by unfold maxLen; omega)
    have hrd := rd_new (w := W7) HOK.out HN.out r1 hfr s3''
    exact bodyPost_ret (v := .tuple #[.agg #[.int .i64 c.semi, .int .i64 c.large, .int .i64 c.slots, .int .i64 c.limit, .bool false, .slice (some ⟨rg, 0, none⟩) n n, .int .i64 0, .slice none 0 0, .slice (some ⟨w6.heap.size, 0, none⟩) 1 1, .slice (some ⟨sg, 0, none⟩) m m], .int .i64 0]) (by simp [results, Tryz.results19, go_sem, h0, h1, h2, h3, h4, h5, h6, h7, h8, h9]) rfl ⟨_, _, _, rfl, hrd, O7⟩
  · have B6 := B5
    obtain ⟨s0, s1, s2, s3, s4, s5, s6, s7, s8, s9⟩ := ten_cells B5.out
    obtain ⟨f0, f1, f2, f3, f4, f5, f6, f7, f8, f9⟩ := ten_free B5.out
    go_upto_region 6 with fail
    clear c0 c1 c2 c3
    go_wp2
    clear s0 s1 s2 s3 s4 s5 s6 s7 s8 s9 f0 f1 f2 f3 f4 f5 f6 f7 f8 f9 d0 d1 d2 d3 d4 d5 d6 d7 d8 d9
    obtain ⟨W7, hW7, O7, OI7, B7⟩ := puts10 (O4.out.trans HC.out.1) (by have := HP.out; omega) B5.out (.int .i64 c.semi) (.int .i64 c.large) (.int .i64 c.slots) (.int .i64 c.limit) (.bool false) (.slice (some ⟨rg, 0, none⟩) n n) (.int .i64 0) (.slice none 0 0) (.slice none 0 0) (.slice (some ⟨sg, 0, none⟩) m m)
    with_reducible rw [hW7]
    obtain ⟨h0, h1, h2, h3, h4, h5, h6, h7, h8, h9⟩ := ten_cells B7
    have r1 : Blk W7 rg 48 (u64s (List.replicate n 0)).toArray := (HC.out.2.2.2.1).keep OI7 ((HC.out.2.2.2.1).ne B5.out (by decide))
    have r3 : Blk W7 sg 52 (slc (List.replicate m ((false, 0, 0) : Slt))).toArray := (HC.out.2.2.2.2).keep OI7 ((HC.out.2.2.2.2).ne B5.out (by decide))
    have s3' := Sl.of_blk (size := 3) (n := m) (c := m) r3 (by simp [slc_len]) (Nat.le_refl _) (by have := HMB.out; unfold maxLen; omega)
    have s3'' : Sl W7 W7.heap.size 3 (.slice (some ⟨sg, 0, none⟩) m m) (List.replicate c.slots.toNat ((false, 0, 0) : Slt)).length (slc (List.replicate c.slots.toNat ((false, 0, 0) : Slt))) := by
      rw [← HM.out, List.length_replicate]
      exact s3'
    have hfr : Sl W7 W7.heap.size 2 (.slice none 0 0) (frN c).length (spc (frN c)) := by
      have hfn : frN c = [] := by unfold frN; rw [if_neg (by omega)]
      rw [hfn]
      exact Sl.nil_
    have hrd := rd_new (w := W7) HOK.out HN.out r1 hfr s3''
    exact bodyPost_ret (v := .tuple #[.agg #[.int .i64 c.semi, .int .i64 c.large, .int .i64 c.slots, .int .i64 c.limit, .bool false, .slice (some ⟨rg, 0, none⟩) n n, .int .i64 0, .slice none 0 0, .slice none 0 0, .slice (some ⟨sg, 0, none⟩) m m], .int .i64 0]) (by simp [results, Tryz.results19, go_sem, h0, h1, h2, h3, h4, h5, h6, h7, h8, h9]) rfl ⟨_, _, _, rfl, hrd, O7⟩
theorem rNew15 : NewC15 19 := by
  intro c w hc
  by_cases h : c.ok
  · refine (rNew_ok c w hc h).mono ?_
    rintro e w' ⟨vw, vf, vs, rfl, hrd, o⟩
    have hn := newS_ok h
    have he : nwE c = 0 := by unfold nwE; rw [if_pos h]
    refine ⟨newS c, vw, .slice none 0 0, vf, vs, rfl, ?_, hrd, o⟩
    rw [he, hn]
  · refine (rNew_no c w hc h).mono ?_
    rintro e w' ⟨rfl, o⟩
    have hn : newS c = noSt := by unfold newS; rw [if_neg h]
    have he : nwE c = 1 := by unfold nwE; rw [if_neg h]
    refine ⟨newS c, .slice none 0 0, .slice none 0 0, .slice none 0 0, .slice none 0 0, rfl, ?_, ?_, o⟩
    · rw [he, hn]; rfl
    · rw [hn]; exact ⟨Sl.nil_, Sl.nil_, Sl.nil_, Sl.nil_⟩
end Go.Proofs.YtciidodmhigpdaaGreatDoor
