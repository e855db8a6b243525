/- Contracts of package ledger: Add, Drop, Right. -/
import Derived.Test.YtlpndkmhdnpifaaLedProg
import Derived.Test.YtlpndkmhdnpifaaSpanP
import Derived.Test.YtlpndkmhdnpifaaExtProg2
namespace Go.Proofs.Ytlpndkmhdnpifaa
set_option maxRecDepth 100000
open Go.RowKit Go.Lib Go.Sort

theorem new_lt (w : World) (o : Obj) : w.heap.size < (w.alloc o).heap.size := by simp

def SpAdd : Prop := ∀ (v : Value) (l : List Sp) (s : Sp) (B : Nat) (w : World), Sl w B 2 v l.length (spc l) → B ≤ w.heap.size → l.length ≤ 10000 → Fits l → Fit s →
  Calls Try.prog 7 #[v, .agg #[.int .i64 s.1, .int .i64 s.2]] w fun e w' => ∃ v', e = .returned (.tuple #[v', .int .i64 (addT l s).2]) ∧ Sl w' w'.heap.size 2 v' (addT l s).1.length (spc (addT l s).1) ∧ Only nob w w'
set_option maxHeartbeats 4000000 in
theorem spAdd : SpAdd := by
  intro v l s B w h hB hl hf hs
  have HA := Lib.hid h
  have HF := Lib.hid hf
  obtain ⟨A, ca, rfl, -, -⟩ := h.form
  have HB := Lib.hid (Blk.new w 24 #[.int .i64 s.1, .int .i64 s.2])
  have O0 := Lib.hid ((Only.refl nob w).alloc (.cells #[.int .i64 s.1, .int .i64 s.2] 24))
  clear h hf
  by_cases ho : s.ok
  · have HM := Lib.hid (decide_eq_true ho)
    have HOK := Lib.hid ho
    clear ho
    obtain ⟨q, hq⟩ : ∃ q, q = l.any (fun x => decide (Sp.meets x s)) := ⟨_, rfl⟩
    have HQ := Lib.hid hq
    clear hq
    go_enter Try.func7, Try.ntmps7
    go_wp2_with fail
    go_at_call 20
    refine (clone_spans _ l B _ (HA.out.below (O0.out.below hB fun _ h => h.elim)) (Nat.le_trans hB O0.out.size) (by omega)).mono ?_
    rintro e w1 ⟨v1, rfl, own, o⟩
    have HW1 := Lib.hid own
    have HB1 := Lib.hid (HB.out.keep o id)
    have O1 := Lib.hid (O0.out.trans o)
    have b0 := HB1.out.cell 0
    have b1 := HB1.out.cell 1
    simp at b0 b1
    clear own o
    go_wp2_with fail
    go_at_call 21
    refine (spMay s hs _).mono ?_
    rw [HM.out]
    rintro e w2 ⟨rfl, o⟩
    have HB2 := Lib.hid (HB1.out.keep o id)
    have HW2 := Lib.hid (own_only HW1.out o fun _ _ h => h)
    have O2 := Lib.hid (O1.out.trans o)
    clear o b0 b1
    go_wp2_with fail
    go_at_call 24
    refine (containsFunc_any _ _ _ _ l B w2 (add1_pred hs HB2.out) (HA.out.below (O2.out.below hB fun _ h => h.elim)) (Nat.le_trans hB O2.out.size) HF.out).mono ?_
    rw [← HQ.out]
    rintro e w3 ⟨rfl, o⟩
    have HB3 := Lib.hid (HB2.out.keep o id)
    have HW3 := Lib.hid (own_only HW2.out o fun _ _ h => h)
    have O3 := Lib.hid (O2.out.trans o)
    clear o
    cases q with
    | true =>
      have HT := Lib.hid (addT_twice HOK.out HQ.out.symm)
      have S3 := Lib.hid (Sl.of_own HW3.out HW3.out.1)
      go_wp2
      go_ret2
      exact ⟨v1, by rw [HT.out]; rfl, by rw [HT.out]; exact S3.out, O3.out⟩
    | false =>
      have HT := Lib.hid (addT_in HOK.out HQ.out.symm)
      have c0 := HB3.out.cell 0
      have c1 := HB3.out.cell 1
      simp at c0 c1
      have mixed := mixedLed
      go_wp2_with fail
      go_region_held3 (fun w' => w'.cell? ⟨w.heap.size, 0, none⟩ = some (.int .i64 s.1) ∧ w'.cell? ⟨w.heap.size, 1, none⟩ = some (.int .i64 s.2)) (first | go_keep | exact C1.out | exact C2.out)
        (first
          | (go_at_call 26; refine (place_any _ l s.1 B _ (HA.out.below ((O3.out.trans (by first | exact (Only.refl nob w3).drewN 1 | exact ((Only.refl nob w3).drewN 1).alloc _)).below hB fun _ h => h.elim)) (Nat.le_trans hB (Nat.le_trans O3.out.size (by simp))) HF.out).mono ?_
             rintro e w4 ⟨rfl, o⟩
             have X4 := Lib.hid (Only.trans (a := w3) (by first | exact (Only.refl nob w3).drewN 1 | exact ((Only.refl nob w3).drewN 1).alloc _) o)
             have Y4 := Lib.hid o
             have C1 := Lib.hid (And.intro (X4.out.keeps c0) (X4.out.keeps c1))
             clear o)
          | (go_at_call 25
             first
             | (have OW := own_only HW3.out (X4.out.alloc (.cells #[.int .i64 s.1, .int .i64 s.2] 24)) (fun _ _ h => h)
                have hz := show w.heap.size + 1 ≤ (w4.alloc (.cells #[.int .i64 s.1, .int .i64 s.2] 24)).heap.size by have h1 := HB3.out.lt; have h2 := X4.out.size; simp; omega
                have hne : v1.ownBlock ≠ some w4.heap.size := fun e => by have h1 := (own_lt HW3.out e).2; have h2 := X4.out.size; omega
                have HO5 := Lib.hid (O3.out.trans (X4.out.alloc (.cells #[.int .i64 s.1, .int .i64 s.2] 24)))
                have HB5 := Lib.hid ((HB3.out.keep X4.out id).alloc (.cells #[.int .i64 s.1, .int .i64 s.2] 24))
                with_reducible refine (insert_any _ v1 l (placeT l s.1) s w4.heap.size _ OW (by simpa using hz) (Blk.new w4 _ _) hne (placeT_le _ _) (by omega)).mono ?_
                rintro e w5 ⟨v5, rfl, hs5, o5⟩
                have S5 := Lib.hid hs5
                have O5 := Lib.hid (own_nob HO5.out OW o5 (by simp))
                have B5 := HB5.out.keep o5 (fun e => by have h1 := (own_lt HW3.out e).1; have h2 := new_lt w (.cells #[.int .i64 s.1, .int .i64 s.2] 24); omega)
                have C2 := Lib.hid (And.intro (B5.cell 0) (B5.cell 1))
                clear hs5 o5 B5 OW hz hne)
             | (have OW := own_only HW3.out X4.out (fun _ _ h => h)
                have hz := show w.heap.size + 1 ≤ w4.heap.size by have h1 := HB3.out.lt; have h2 := X4.out.size; omega
                have hne : v1.ownBlock ≠ some w3.heap.size := fun e => by have h1 := (own_lt HW3.out e).2; omega
                have HQ4 : Blk w4 w3.heap.size 24 #[.int .i64 s.1, .int .i64 s.2] := Blk.keep (F := nob) (show Blk (w3.alloc (.cells #[.int .i64 s.1, .int .i64 s.2] 24)).drew w3.heap.size 24 #[.int .i64 s.1, .int .i64 s.2] from (Blk.new w3 _ _).drewN 1) Y4.out id
                have HO5 := Lib.hid (O3.out.trans X4.out)
                have HB5 := Lib.hid (HB3.out.keep X4.out id)
                with_reducible refine (insert_any _ v1 l (placeT l s.1) s w3.heap.size _ OW (by simpa using hz) HQ4 hne (placeT_le _ _) (by omega)).mono ?_
                rintro e w5 ⟨v5, rfl, hs5, o5⟩
                have S5 := Lib.hid hs5
                have O5 := Lib.hid (own_nob HO5.out OW o5 (by simp))
                have B5 := HB5.out.keep o5 (fun e => by have h1 := (own_lt HW3.out e).1; have h2 := new_lt w (.cells #[.int .i64 s.1, .int .i64 s.2] 24); omega)
                have C2 := Lib.hid (And.intro (B5.cell 0) (B5.cell 1))
                clear hs5 o5 B5 OW hz hne HQ4)))
      all_goals
        go_wp2
        go_ret2
        exact ⟨v5, by rw [HT.out]; rfl, by rw [HT.out]; exact S5.out, O5.out⟩
  · have HM := Lib.hid (decide_eq_false ho)
    have HT := Lib.hid (addT_arg (l := l) ho)
    clear ho
    go_enter Try.func7, Try.ntmps7
    go_wp2_with fail
    go_at_call 20
    refine (clone_spans _ l B _ (HA.out.below (O0.out.below hB fun _ h => h.elim)) (Nat.le_trans hB O0.out.size) (by omega)).mono ?_
    rintro e w1 ⟨v1, rfl, own, o⟩
    have HW1 := Lib.hid own
    have HB1 := Lib.hid (HB.out.keep o id)
    have O1 := Lib.hid (O0.out.trans o)
    have b0 := HB1.out.cell 0
    have b1 := HB1.out.cell 1
    simp at b0 b1
    clear own o
    go_wp2_with fail
    go_at_call 21
    refine (spMay s hs _).mono ?_
    rw [HM.out]
    rintro e w2 ⟨rfl, o⟩
    have S2 := Lib.hid (show Sl w2 w2.heap.size 2 v1 l.length (spc l) from Sl.of_own (own_only HW1.out o fun _ _ h => h) HW1.out.1)
    have O2 := Lib.hid (O1.out.trans o)
    clear o b0 b1
    go_wp2
    go_ret2
    exact ⟨v1, by rw [HT.out]; rfl, by rw [HT.out]; exact S2.out, O2.out⟩

def SpDrop : Prop := ∀ (v : Value) (l : List Sp) (a : Int) (B : Nat) (w : World), Sl w B 2 v l.length (spc l) → B ≤ w.heap.size → l.length ≤ 10000 → Fits l →
  Calls Try.prog 9 #[v, .int .i64 a] w fun e w' => ∃ v', e = .returned (.tuple #[v', .agg #[.int .i64 (dropT l a).2.1.1, .int .i64 (dropT l a).2.1.2], .int .i64 (dropT l a).2.2]) ∧
    Sl w' w'.heap.size 2 v' (dropT l a).1.length (spc (dropT l a).1) ∧ Only nob w w'
set_option maxHeartbeats 4000000 in
theorem spDrop : SpDrop := by
  intro v l a B w h hB hl hf
  have HA := Lib.hid h
  have HF := Lib.hid hf
  obtain ⟨A, ca, rfl, hac, ham⟩ := h.form
  unfold maxLen at ham
  have HB := Lib.hid (Blk.new w 24 #[.int .i64 0, .int .i64 0])
  have O0 := Lib.hid ((Only.refl nob w).alloc (.cells #[.int .i64 0, .int .i64 0] 24))
  clear h hf
  obtain ⟨i, hi⟩ : ∃ i, i = findT l a := ⟨_, rfl⟩
  have HI := Lib.hid hi
  clear hi
  by_cases hlt : i < 0
  · have HT := Lib.hid (dropT_none (l := l) (a := a) (by rw [← HI.out]; exact hlt))
    go_enter Try.func9, Try.ntmps9
    go_wp2_with fail
    go_at_call 20
    refine (clone_spans _ l B _ (HA.out.below (O0.out.below hB fun _ h => h.elim)) (Nat.le_trans hB O0.out.size) (by omega)).mono ?_
    rintro e w1 ⟨v1, rfl, own, o⟩
    have HW1 := Lib.hid own
    have HB1 := Lib.hid (HB.out.keep o id)
    have O1 := Lib.hid (O0.out.trans o)
    clear own o
    go_wp2_with fail
    go_at_call 12
    refine (spFind _ l a B _ (HA.out.below (O1.out.below hB fun _ h => h.elim)) (Nat.le_trans hB O1.out.size) HF.out).mono ?_
    rw [← HI.out]
    rintro e w2 ⟨rfl, o⟩
    have HB2 := Lib.hid (HB1.out.keep o id)
    have HW2 := Lib.hid (own_only HW1.out o fun _ _ h => h)
    have O2 := Lib.hid (O1.out.trans o)
    have c0 := HB2.out.cell 0
    have c1 := HB2.out.cell 1
    have f0 := HB2.out.free 0
    have f1 := HB2.out.free 1
    simp at c0 c1
    clear o
    go_wp2_with fail
    have B5 := (HB2.out.put 0 (.int .i64 0)).put 1 (.int .i64 0)
    have h0 := B5.cell 0
    have h1 := B5.cell 1
    simp at h0 h1
    have hw5 := HW2.out
    refine bodyPost_ret (v := .tuple #[v1, .agg #[.int .i64 0, .int .i64 0], .int .i64 2]) (by simp [results, Try.results9, go_sem, h0, h1]) rfl ⟨v1, by rw [HT.out], ?_, ?_⟩
    · rw [HT.out]
      have h3 : ∀ q, v1.ownBlock = some q → q ≠ w.heap.size := fun q e => by have h1 := (own_lt hw5 e).1; have h2 := new_lt w (.cells #[.int .i64 0, .int .i64 0] 24); omega
      have h4 := own_only (own_only hw5 (only_set w2 w.heap.size 0 (.int .i64 0)) (fun q e he => h3 q e he)) (only_set _ w.heap.size 1 (.int .i64 0)) (fun q e he => h3 q e he)
      exact Sl.of_own h4 h4.1
    · exact ((O2.out.setCell (p := ⟨w.heap.size, 0, none⟩) (fun h => absurd h (Nat.lt_irrefl _)) _).setCell (p := ⟨w.heap.size, 1, none⟩) (fun h => absurd h (Nat.lt_irrefl _)) _)
  · obtain ⟨k, x, hk, hx, hxa, hd⟩ := dropT_some (l := l) (a := a) (by rw [← HI.out]; exact hlt)
    rw [← HI.out] at hk
    obtain rfl := hk
    have HT := Lib.hid hd
    have HX := Lib.hid hx
    have hkl : k < l.length := (List.getElem?_eq_some_iff.1 hx).1
    clear hd hx hxa
    go_enter Try.func9, Try.ntmps9
    go_wp2_with fail
    go_at_call 20
    refine (clone_spans _ l B _ (HA.out.below (O0.out.below hB fun _ h => h.elim)) (Nat.le_trans hB O0.out.size) (by omega)).mono ?_
    rintro e w1 ⟨v1, rfl, own, o⟩
    have HW1 := Lib.hid own
    have HB1 := Lib.hid (HB.out.keep o id)
    have O1 := Lib.hid (O0.out.trans o)
    clear own o
    go_wp2_with fail
    go_at_call 12
    refine (spFind _ l a B _ (HA.out.below (O1.out.below hB fun _ h => h.elim)) (Nat.le_trans hB O1.out.size) HF.out).mono ?_
    rw [← HI.out]
    rintro e w2 ⟨rfl, o⟩
    have HB2 := Lib.hid (HB1.out.keep o id)
    have HW2 := Lib.hid (own_only HW1.out o fun _ _ h => h)
    have O2 := Lib.hid (O1.out.trans o)
    clear o
    obtain ⟨b, oo, rfl, hb, d0, d1⟩ := sl_span HA.out (O2.out.below hB fun _ h => h.elim) HX.out
    obtain ⟨g, cap, cur, rfl, hg, hblk, hc1, hc2, hc3, hc4⟩ := own_block HW2.out hkl
    have HBB := Lib.hid hblk
    have HZ := Lib.hid hc3
    have HC := Lib.hid hc4
    have hcm : cap ≤ 9223372036854775807 := by unfold maxLen at hc2; omega
    have hgr : w.heap.size < g := by have := new_lt w (.cells #[.int .i64 0, .int .i64 0] 24); omega
    have hbr : b ≠ w.heap.size := by omega
    have hbr2 : w.heap.size ≠ b := by omega
    have hgb : b ≠ g := by omega
    have hw1 : IntKind.i64.wrap ((k : Int) + 1) = (k : Int) + 1 := by rw [IntKind.wrap_i64]; omega
    have mixed := mixedLed
    clear hblk hc3 hc4 hg
    go_wp2_with fail
    go_region_held3 (fun w' => w'.cell? ⟨b, oo + k * 2, none⟩ = some (.int .i64 x.1) ∧ w'.cell? ⟨b, oo + k * 2 + 1, none⟩ = some (.int .i64 x.2)) (first | go_keep | exact C1.out)
      ((go_at_call 29
        refine (delete_any g cap l.length k (k + 1) cur l _ (show Blk w2.drew g 24 cur from HBB.out) HZ.out rfl hc1 hc2 HC.out hkl rfl).mono ?_
        rintro e w5 ⟨rfl, o, cur', hb5, hz5, hc5⟩
        have OG5 := Lib.hid o.drewL
        have S5 := Lib.hid (And.intro hb5 hc5)
        have C1 := Lib.hid (And.intro ((OG5.out.cell (p := ⟨b, oo + k * 2, none⟩) (by have := O2.out.size; show b < _; omega) hgb).trans d0) ((OG5.out.cell (p := ⟨b, oo + k * 2 + 1, none⟩) (by have := O2.out.size; show b < _; omega) hgb).trans d1))
        have HR5 := Lib.hid (HB2.out.keep OG5.out (fun e => by unfold isb at e; omega))
        have r0 := HR5.out.cell 0
        have r1 := HR5.out.cell 1
        have rf0 := HR5.out.free 0
        have rf1 := HR5.out.free 1
        simp at r0 r1
        clear o hb5 hc5 hz5))
    all_goals
      go_wp2_with fail
      have B5 := (HR5.out.put 0 (.int .i64 x.1)).put 1 (.int .i64 x.2)
      have h0 := B5.cell 0
      have h1 := B5.cell 1
      simp at h0 h1
      refine bodyPost_ret (v := .tuple #[.slice (some ⟨g, 0, none⟩) (l.length - 1) cap, .agg #[.int .i64 x.1, .int .i64 x.2], .int .i64 0]) (by simp [results, Try.results9, go_sem, h0, h1]) rfl ⟨_, by rw [HT.out], ?_, ?_⟩
      · rw [HT.out]
        have hgr2 : g ≠ w.heap.size := by omega
        have hel : (l.eraseIdx k).length = l.length - 1 := by rw [List.length_eraseIdx, if_pos hkl]
        have := sl_of_cur (n := l.length - 1) (((S5.out.1.other (p := ⟨w.heap.size, 0, none⟩) (fun e => hgr2 e.symm) (.int .i64 x.1))).other (p := ⟨w.heap.size, 1, none⟩) (fun e => hgr2 e.symm) (.int .i64 x.2)) hel (by omega) hc2 S5.out.2
        rw [hel]
        exact this
      · have O5 : Only nob w _ := O2.out.andThen OG5.out fun i hi e => by unfold isb at e; omega
        exact ((O5.setCell (p := ⟨w.heap.size, 0, none⟩) (fun h => absurd h (Nat.lt_irrefl _)) _).setCell (p := ⟨w.heap.size, 1, none⟩) (fun h => absurd h (Nat.lt_irrefl _)) _)

def SpTable : Prop := ∀ (all : Sp) (v u : Value) (l m : List Sp) (B : Nat) (w : World), Sl w B 2 v l.length (spc l) → Sl w B 2 u m.length (spc m) → B ≤ w.heap.size → l.length ≤ 10000 → Fits l → Fit all →
  Calls Try.prog 16 #[.agg #[.int .i64 all.1, .int .i64 all.2], v, u] w fun e w' => e = .returned (.bool (decide (TableP all l m))) ∧ Only nob w w'
set_option maxHeartbeats 4000000 in
theorem spTable : SpTable := by
  intro all v u l m B w h k hB hl hf ha
  have HA := Lib.hid h
  have HU := Lib.hid k
  have HF := Lib.hid hf
  obtain ⟨A, ca, rfl, -, -⟩ := h.form
  obtain ⟨A', ca', rfl, -, -⟩ := k.form
  have HB := Lib.hid (Blk.new w 24 #[.int .i64 all.1, .int .i64 all.2])
  have O0 := Lib.hid ((Only.refl nob w).alloc (.cells #[.int .i64 all.1, .int .i64 all.2] 24))
  clear h k hf
  obtain ⟨q, hq⟩ : ∃ q, q = l.any (fun x => !decide (Sp.within x all)) := ⟨_, rfl⟩
  have HQ := Lib.hid hq
  clear hq
  cases q with
  | true =>
    have HK := Lib.hid (show decide (TableP all l m) = false from decide_eq_false fun h => by have := any_within.2 h.1; rw [← HQ.out] at this; cases this)
    go_enter Try.func16, Try.ntmps16
    go_wp2_with fail
    go_at_call 24
    refine (containsFunc_any _ _ _ _ l B _ (rightL_pred ha HB.out) (HA.out.below (O0.out.below hB fun _ h => h.elim)) (Nat.le_trans hB O0.out.size) HF.out).mono ?_
    rw [← HQ.out]
    rintro e w1 ⟨rfl, o⟩
    have O1 := Lib.hid (O0.out.trans o)
    clear o
    go_wp2
    go_ret
    exact ⟨ret_bool (by rw [HK.out]), O1.out⟩
  | false =>
    have HW := Lib.hid (any_within.1 HQ.out.symm)
    by_cases h2 : l.Pairwise fun x y => x.1 ≤ y.1
    · have H2 := Lib.hid h2
      have HD2 := Lib.hid (decide_eq_true h2)
      clear h2
      by_cases h3 : ApartL l
      · have H3 := Lib.hid h3
        have HD3 := Lib.hid (decide_eq_true h3)
        clear h3
        go_enter Try.func16, Try.ntmps16
        go_wp2_with fail
        go_at_call 24
        refine (containsFunc_any _ _ _ _ l B _ (rightL_pred ha HB.out) (HA.out.below (O0.out.below hB fun _ h => h.elim)) (Nat.le_trans hB O0.out.size) HF.out).mono ?_
        rw [← HQ.out]
        rintro e w1 ⟨rfl, o⟩
        have O1 := Lib.hid (O0.out.trans o)
        have HB1 := Lib.hid (HB.out.keep o id)
        clear o
        go_wp2_with fail
        go_at_call 37
        refine (isSorted_any _ l B _ (HA.out.below (O1.out.below hB fun _ h => h.elim)) (Nat.le_trans hB O1.out.size)).mono ?_
        rw [HD2.out]
        rintro e w2 ⟨rfl, o⟩
        have O2 := Lib.hid (O1.out.trans o)
        have HB2 := Lib.hid (HB1.out.keep o id)
        clear o
        go_wp2_with fail
        go_at_call 39
        refine (spApart _ l B _ (HA.out.below (O2.out.below hB fun _ h => h.elim)) (Nat.le_trans hB O2.out.size) (by omega) HF.out).mono ?_
        rw [HD3.out]
        rintro e w3 ⟨rfl, o⟩
        have O3 := Lib.hid (O2.out.trans o)
        have HB3 := Lib.hid (HB2.out.keep o id)
        have c0 := HB3.out.cell 0
        have c1 := HB3.out.cell 1
        simp at c0 c1
        clear o
        go_wp2_with fail
        go_at_call 41
        refine (spGaps all _ l B _ (HA.out.below (O3.out.below hB fun _ h => h.elim)) (Nat.le_trans hB O3.out.size) (by omega) HF.out ha).mono ?_
        rintro e w4 ⟨v4, O, rfl, hj, hc, hsl, o⟩
        have HE := Lib.hid (table_iff (m := m) HW.out H2.out H3.out hj hc)
        have S4 := Lib.hid hsl
        have O4 := Lib.hid (O3.out.trans o)
        clear hj hc hsl o c0 c1
        go_wp2_with fail
        go_at_call 40
        refine (equal_any _ _ m O B _ w4 (HU.out.below (O4.out.below hB fun _ h => h.elim)) S4.out).mono ?_
        rw [← HE.out]
        obtain ⟨j, hj⟩ : ∃ j, j = decide (TableP all l m) := ⟨_, rfl⟩
        rw [← hj]
        have HJ := Lib.hid hj
        clear hj
        rintro e w5 ⟨rfl, o⟩
        have O5 := Lib.hid (O4.out.trans o)
        clear o
        go_wp2
        go_ret
        exact ⟨ret_bool (by rw [HJ.out]), O5.out⟩
      · have HK := Lib.hid (show decide (TableP all l m) = false from decide_eq_false fun h => h3 h.2.2.1)
        have HD3 := Lib.hid (decide_eq_false h3)
        clear h3
        go_enter Try.func16, Try.ntmps16
        go_wp2_with fail
        go_at_call 24
        refine (containsFunc_any _ _ _ _ l B _ (rightL_pred ha HB.out) (HA.out.below (O0.out.below hB fun _ h => h.elim)) (Nat.le_trans hB O0.out.size) HF.out).mono ?_
        rw [← HQ.out]
        rintro e w1 ⟨rfl, o⟩
        have O1 := Lib.hid (O0.out.trans o)
        clear o
        go_wp2_with fail
        go_at_call 37
        refine (isSorted_any _ l B _ (HA.out.below (O1.out.below hB fun _ h => h.elim)) (Nat.le_trans hB O1.out.size)).mono ?_
        rw [HD2.out]
        rintro e w2 ⟨rfl, o⟩
        have O2 := Lib.hid (O1.out.trans o)
        clear o
        go_wp2_with fail
        go_at_call 39
        refine (spApart _ l B _ (HA.out.below (O2.out.below hB fun _ h => h.elim)) (Nat.le_trans hB O2.out.size) (by omega) HF.out).mono ?_
        rw [HD3.out]
        rintro e w3 ⟨rfl, o⟩
        have O3 := Lib.hid (O2.out.trans o)
        clear o
        go_wp2
        go_ret
        exact ⟨ret_bool (by rw [HK.out]), O3.out⟩
    · have HK := Lib.hid (show decide (TableP all l m) = false from decide_eq_false fun h => h2 h.2.1)
      have HD2 := Lib.hid (decide_eq_false h2)
      clear h2
      go_enter Try.func16, Try.ntmps16
      go_wp2_with fail
      go_at_call 24
      refine (containsFunc_any _ _ _ _ l B _ (rightL_pred ha HB.out) (HA.out.below (O0.out.below hB fun _ h => h.elim)) (Nat.le_trans hB O0.out.size) HF.out).mono ?_
      rw [← HQ.out]
      rintro e w1 ⟨rfl, o⟩
      have O1 := Lib.hid (O0.out.trans o)
      clear o
      go_wp2_with fail
      go_at_call 37
      refine (isSorted_any _ l B _ (HA.out.below (O1.out.below hB fun _ h => h.elim)) (Nat.le_trans hB O1.out.size)).mono ?_
      rw [HD2.out]
      rintro e w2 ⟨rfl, o⟩
      have O2 := Lib.hid (O1.out.trans o)
      clear o
      go_wp2
      go_ret
      exact ⟨ret_bool (by rw [HK.out]), O2.out⟩
end Go.Proofs.Ytlpndkmhdnpifaa
