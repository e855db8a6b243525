/- Package reach: the references of a row are put ahead. -/
import Derived.Test.YtkjdnccnfnhkoaaReBack
import Derived.Test.YtkjdnccnfnhkoaaHeldR
namespace Go.Proofs.Ytkjdnccnfnhkoaa
open Go.RowKit Go.Shelf
set_option maxRecDepth 100000
set_option linter.unusedSimpArgs false
set_option linter.unusedVariables false
attribute [local go_sem] Oper.semAt_some

section
variable {W W' : World} {b mb base : Nat} {vn vr : Value} {lim : Int} {n : Nat} {V V' : Int → Value} {M : List Int} {q : QSt}
theorem Qp.cells (h : Qp W b mb base vn vr lim n V M q) {k : Nat} (hk : Qf b mb V k) : ∃ t cs, Blk W k t cs := by
  rcases hk with rfl | rfl | ⟨i, e⟩
  · exact ⟨_, _, h.box⟩
  · exact ⟨_, _, h.fl⟩
  · obtain ⟨cur, hb⟩ := (h.rows.own i).blk e
    exact ⟨_, _, hb⟩
/-- What is no cells may turn. -/
theorem Qp.away (h : Qp W b mb base vn vr lim n V M q) {row : Option Nat} (hg : W.grownBy W' row) (hr : ∀ r, row = some r → ∃ o : Obj, W.heap[r]? = some o ∧ o.isCells = false) : Qp W' b mb base vn vr lim n V M q :=
  h.off (F := fun k => some k = row) ⟨hg.os, hg.tape, hg.output, hg.size, fun k hk hn => hg.block k hk hn⟩ fun k hk e => by
    obtain ⟨t, cs, hb⟩ := h.cells hk
    obtain ⟨o, ho, hc⟩ := hr k e.symm
    unfold Blk at hb
    rw [hb] at ho
    cases ho
    cases hc
theorem Stp.away {W0 : World} (h : Stp b mb V V' W0 W) {row : Option Nat} (hg : W.grownBy W' row) (hr : ∀ r, row = some r → W0.heap.size ≤ r) : Stp b mb V V' W0 W' := ⟨only_from16 h.only hg hr, h.grow, h.same⟩
end
def aheadQ (l : List Sp) (a : List Int) : List Int := (refsOf l).reverse ++ a
theorem ahead_snoc (l : List Sp) (v : Sp) (a : List Int) : aheadQ (l ++ [v]) a = if v.1 = 2 then v.2 :: aheadQ l a else aheadQ l a := by
  unfold aheadQ refsOf
  by_cases h : v.1 = 2 <;> simp [h, List.filter_append]
theorem ahead_all (l : List Sp) (a : List Int) : aheadQ l.reverse a = refsOf l ++ a := by
  unfold aheadQ refsOf
  rw [List.filter_reverse, List.map_reverse, List.reverse_reverse]
theorem ahead_len (l : List Sp) (a : List Int) : (aheadQ l a).length ≤ l.length + a.length := by
  unfold aheadQ refsOf
  have := List.length_filter_le (fun v : Sp => decide (v.1 = 2)) l
  simp
  omega
def withAh (q : QSt) (a : List Int) : QSt := { q with ah := a }
theorem box_val17 (W : World) (x y : Int) : ∃ X, W.alloc (.cells #[.int .i64 x, .int .i64 y] 45) = X ∧ Only nob W X ∧ Blk X W.heap.size 45 #[.int .i64 x, .int .i64 y] := ⟨_, rfl, (Only.refl nob W).alloc _, Blk.new _ _ _⟩
set_option maxHeartbeats 8000000 in
theorem follow17 (W : World) (b mb base : Nat) (n : Nat) (vn vr : Value) (lim : Int) (V : Int → Value) (M : List Int) (q : QSt) (A : Option Addr) (c B : Nat) (l : List Sp) (h : Qp W b mb base vn vr lim n V M q) (hl : Sl W B 2 (.slice A l.length c) l.length (spc l)) (hB : B ≤ base) (hbase : base ≤ W.heap.size) (hn : l.length + q.ah.length ≤ 16000000000) :
    Calls Try.prog 36 #[.pointer (some ⟨b, 0, none⟩), .slice A l.length c] W fun e w' => ∃ V', e = .returned (.tuple #[]) ∧
      Qp w' b mb base vn vr lim n V' M (withAh q (refsOf l ++ q.ah)) ∧ Stp b mb V V' W w' := by
  obtain ⟨j0, hj0, hy0, hy1, hy2⟩ := info_parts info_int
  have HQ := Lib.hid h
  have HL := Lib.hid hl
  have HBB := Lib.hid (And.intro hB hbase)
  have HN := Lib.hid hn
  obtain ⟨W1, hW1, o1, bp1⟩ : ∃ X, W.alloc (.cells #[.pointer (some ⟨b, 0, none⟩)] 48) = X ∧ Only nob W X ∧ Blk X W.heap.size 48 #[.pointer (some ⟨b, 0, none⟩)] := ⟨_, rfl, (Only.refl nob W).alloc _, Blk.new _ _ _⟩
  have HW1 := Lib.hid hW1
  have O1 := Lib.hid o1
  have BP1 := Lib.hid bp1
  have hz1 : W1.heap.size = W.heap.size + 1 := by rw [← hW1]; simp
  clear hW1 o1 bp1 h hl hB hbase hn
  refine (callsIn_wide (n := 3)).1 ?_
  refine callsIn_of_wp_marks Try.func36 rfl trivial ?_ rfl
  simp only [Try.ntmps36, List.size_toArray, List.length_cons, List.length_nil, Nat.reduceAdd, Nat.reduceSub, Array.replicate_succ, Array.replicate_zero, List.push_toArray, List.append_toArray, List.nil_append, List.cons_append]
  gi_wp2_with (with_reducible rw [HW1.out])
  refine ⟨trivial, ?_⟩
  gi_at_call 55
  refine (back_in _ _ _ _ _).mono ?_
  rintro e w2 ⟨rfl, hw2⟩
  obtain ⟨W0, hW0, o0, hz0, bg0⟩ : ∃ X, W1.alloc (.cells #[.slice A l.length c] 23) = X ∧ Only nob W1 X ∧ X.heap.size = W1.heap.size + 1 ∧ Blk X W1.heap.size 23 #[.slice A l.length c] :=
    ⟨_, rfl, (Only.refl nob W1).alloc _, by simp, Blk.new W1 _ _⟩
  with_reducible rw [hw2]
  rw [hW0]
  have OW0 := Lib.hid (O1.out.trans o0)
  have Q0 := Lib.hid (HQ.out.kept OW0.out)
  have BP := Lib.hid (BP1.out.keep o0 id)
  have SL0 := Lib.hid (HL.out.only OW0.out (Nat.le_trans HBB.out.1 HBB.out.2) fun _ h => h.elim)
  have hsz0 : W.heap.size + 2 = W0.heap.size := by omega
  have hh0 : W0.cell? ⟨W1.heap.size, 0, none⟩ = some (.slice A l.length c) := bg0.cell 0
  have hbV : ¬ Qf b mb V W1.heap.size := fun e => by
    rcases e with e | e | e
    · exact absurd e (bg0.ne Q0.out.box (by decide))
    · exact absurd e (bg0.ne Q0.out.fl (by decide))
    · exact Q0.out.rows.ne bg0 (by decide) e
  have hpV : ¬ Qf b mb V W.heap.size := fun e => by
    rcases e with e | e | e
    · exact absurd e (BP.out.ne Q0.out.box (by decide))
    · exact absurd e (BP.out.ne Q0.out.fl (by decide))
    · exact Q0.out.rows.ne BP.out (by decide) e
  have HPV := Lib.hid hpV
  have hAV : ∀ g, g < W0.heap.size → (∃ o, A = some ⟨g, o, none⟩) → 0 < l.length → ¬ Qf b mb V g := fun g _ ⟨o, e⟩ h0 hq => by
    obtain ⟨b', o', c', e', -, -, hlt, -⟩ := HL.out.at_ h0
    rw [e] at e'
    simp only [Value.slice.injEq, Option.some.injEq, Addr.mk.injEq] at e'
    obtain ⟨⟨rfl, -⟩, -⟩ := e'
    have := HQ.out.ge hq
    have := HBB.out.1
    omega
  clear hW0 o0 bg0 hw2 w2
  have HIT := itBack W1.heap.size W0.heap.size (Qf b mb V) A c l W0 (by omega) hbV hh0 (SL0.out.more (by have := HBB.out; omega)) hAV (Nat.le_refl _)
  have HBL := Lib.hid (show base ≤ W0.heap.size by have := HBB.out.2; omega)
  have HSZ0 := Lib.hid hsz0
  clear hAV hbV hh0 hpV hz1 hz0 hsz0
  gi_wp2_with fail
  refine wpIn_rangeFunc_ownH rfl (by decide) (gf := 72) (lb := #[.pointer (some ⟨W1.heap.size, 0, none⟩)]) rfl trivial (enters_of Try.func72 (by kernel_rfl) rfl)
    HIT KeepsV.trans (fun W l o o' h1 _ _ _ => KeepsV.putObj W l o' h1) (Below.refl _ _) (fun _ => rfl)
    (fun pre W => ∃ V', Qp W b mb base vn vr lim n V' M (withAh q (aheadQ (pre.map (·.2)) q.ah)) ∧ Stp b mb V V' W0 W)
    (fun _ _ _ => False)
    ?hI ?hIx ⟨V, Q0.out, Stp.refl _ _ _ _⟩
    (fun x a' W' => ∃ Bx, Blk W' Bx 45 #[.int .i64 x.2.1, .int .i64 x.2.2] ∧ a' = { tmps := #[.pointer (some ⟨b, 0, none⟩), .slice A l.length c, .pointer (some ⟨W.heap.size, 0, none⟩), undef, undef, .pointer (some ⟨Bx, 0, none⟩), .slice A l.length c, .func (.func 72) #[] #[.pointer (some ⟨W1.heap.size, 0, none⟩)], .int .i64 x.1, .agg #[.int .i64 x.2.1, .int .i64 x.2.2], undef, undef, undef, undef, undef, undef, undef, undef, undef, undef, undef, undef, undef, undef], defers := [] })
    ?hAx ?assign ?body ?done ?stop
  case hI =>
    rintro pre W W' row ⟨V', h1, h2⟩ hg hr
    exact ⟨V', h1.away hg fun r e => (hr r e).2, h2.away hg fun r e => (hr r e).1⟩
  case hIx =>
    rintro c pre W W' row h
    exact h.elim
  case hAx =>
    rintro x a' _ X Y row ⟨Bx, hb, e⟩ hg hr
    exact ⟨Bx, blk_kept16 hb hg fun r e => (hr r e).2, e⟩
  case assign =>
    rintro lp pre x W K ⟨V', h1, h2⟩ hK
    obtain ⟨X, hX, oX, bX⟩ := box_val17 W x.2.1 x.2.2
    dsimp only [bkE]
    gi_wp2_with (with_reducible rw [hX])
    exact hK _ _ ((others_nob16 oX).from _) (KeepsV.only oX fun _ _ h => h.elim) ⟨V', h1.kept oX, h2.more oX⟩ ⟨_, bX, rfl⟩
  case body =>
    rintro lp pre x a' Wb hlp ⟨r, hr⟩ ⟨V', h1, h2⟩ ⟨Bx, hBx, rfl⟩ hlt
    have HQ1 := Lib.hid h1
    have HS1 := Lib.hid h2
    have HSN := Lib.hid (show aheadQ ((pre ++ [x]).map (·.2)) q.ah = if x.2.1 = 2 then x.2.2 :: aheadQ (pre.map (·.2)) q.ah else aheadQ (pre.map (·.2)) q.ah by rw [List.map_append]; exact ahead_snoc _ _ _)
    have HLE := Lib.hid (show (aheadQ (pre.map (·.2)) q.ah).length ≤ 16000000000 by
      have h1 := ahead_len (pre.map (·.2)) q.ah
      have h2 := HN.out
      rw [List.length_map] at h1
      omega)
    obtain ⟨x0, xk, xx⟩ := x
    simp only at hBx HSN ⊢
    have g0 : Wb.cell? ⟨Bx, 0, none⟩ = some (.int .i64 xk) := hBx.cell 0
    have HX := Lib.hid hBx
    have HBP := Lib.hid (BP.out.keep h2.only HPV.out)
    clear h1 h2 hBx hlt hr
    by_cases hk2 : xk = 2
    · subst hk2
      have HSN2 := Lib.hid (HSN.out.trans (if_pos rfl))
      obtain ⟨A8, k8, hv8, hk8, hm8⟩ := (HQ1.out.rows.own (-4)).form
      have c8 := HQ1.out.cell at_ah
      rw [hv8] at c8
      obtain ⟨n8, hn8⟩ : ∃ m, m = (rowsQ (withAh q (aheadQ (pre.map (·.2)) q.ah)) (-4)).length := ⟨_, rfl⟩
      have how := HQ1.out.rows.own (-4)
      rw [hv8, ← hn8] at how
      rw [← hn8] at c8 hv8 hk8
      have HN8 := Lib.hid (show n8 = (aheadQ (pre.map (·.2)) q.ah).length by rw [hn8]; simp [rowsQ, withAh])
      have hn8b : n8 ≤ 17000000000 := by have := HLE.out; have := HN8.out; omega
      have HOW := Lib.hid how
      have HV8 := Lib.hid hv8
      have HRW := Lib.hid (show rowsQ (withAh q (aheadQ (pre.map (·.2)) q.ah)) (-4) = (aheadQ (pre.map (·.2)) q.ah).reverse by simp [rowsQ, withAh])
      have p0 : Wb.cell? ⟨W.heap.size, 0, none⟩ = some (.pointer (some ⟨b, 0, none⟩)) := HBP.out.cell 0
      have g1 : Wb.cell? ⟨Bx, 1, none⟩ = some (.int .i64 xx) := HX.out.cell 1
      clear hn8 how hv8 hk8 hm8
      gi_wp2_with fail
      refine round_heldX (stop := 11) (S := fun w' : World => w'.cell? ⟨W.heap.size, 0, none⟩ = some (.pointer (some ⟨b, 0, none⟩)) ∧ w'.cell? ⟨b, 8, none⟩ = some (.slice A8 n8 k8) ∧ w'.cell? ⟨Bx, 1, none⟩ = some (.int .i64 xx)) mixedP17 (by kernel_rfl) (fun ⟨_, _, h⟩ => by first | exact h | exact h.elim) ⟨p0, c8, g1⟩ (fun hHeld => ?_)
      clear p0 g1 c8 g0
      obtain ⟨WD, hWD, oD⟩ : ∃ X, Wb.drew = X ∧ Only nob Wb X := ⟨_, rfl, (Only.refl nob Wb).drewN 1⟩
      rw [hWD] at hHeld ⊢
      have HQD := Lib.hid (HQ1.out.kept oD)
      have OD := Lib.hid oD
      clear hWD oD
      refine anyX_take (i := 0) (v := ?_) rfl (by kernel_rfl) (by kernel_rfl) (by kernel_rfl) (by kernel_rfl) (fun _ _ _ h => h) (Or.inl ⟨by rfl, ?_⟩) hHeld ?_
      rotate_left
      · intro w hSw; (try dsimp only at hSw); go_simp; first | done | with_reducible rfl
      try simp only [Act.put, List.setIfInBounds_toArray, List.set_cons_zero, List.set_cons_succ, List.getElem_toArray, List.getElem_cons_succ, List.getElem_cons_zero]
      refine anyX_take (i := 1) (v := ?_) rfl (by kernel_rfl) (by kernel_rfl) (by kernel_rfl) (by kernel_rfl) (fun _ _ _ h => h) (Or.inl ⟨by rfl, ?_⟩) hHeld ?_
      rotate_left
      · intro w hSw; (try dsimp only at hSw); go_simp; first | done | with_reducible rfl
      try simp only [Act.put, List.setIfInBounds_toArray, List.set_cons_zero, List.set_cons_succ, List.getElem_toArray, List.getElem_cons_succ, List.getElem_cons_zero]
      refine anyX_take (i := 2) (v := ?_) rfl (by kernel_rfl) (by kernel_rfl) (by kernel_rfl) (by kernel_rfl) (fun _ _ _ h => h) (Or.inl ⟨by rfl, ?_⟩) hHeld ?_
      rotate_left
      · intro w hSw; (try dsimp only at hSw); go_simp; first | done | with_reducible rfl
      try simp only [Act.put, List.setIfInBounds_toArray, List.set_cons_zero, List.set_cons_succ, List.getElem_toArray, List.getElem_cons_succ, List.getElem_cons_zero]
      refine anyX_take (i := 3) (v := ?_) rfl (by kernel_rfl) (by kernel_rfl) (by kernel_rfl) (by kernel_rfl) (fun _ _ _ h => h) (Or.inl ⟨by rfl, ?_⟩) hHeld ?_
      rotate_left
      · intro w hSw; (try dsimp only at hSw); go_simp; first | done | with_reducible rfl
      try simp only [Act.put, List.setIfInBounds_toArray, List.set_cons_zero, List.set_cons_succ, List.getElem_toArray, List.getElem_cons_succ, List.getElem_cons_zero]
      refine anyX_take (i := 4) (v := ?_) rfl (by kernel_rfl) (by kernel_rfl) (by kernel_rfl) (by kernel_rfl) (fun _ _ _ h => h) (Or.inl ⟨by rfl, ?_⟩) hHeld ?_
      rotate_left
      · intro w hSw; (try dsimp only at hSw); go_simp; first | done | with_reducible rfl
      try simp only [Act.put, List.setIfInBounds_toArray, List.set_cons_zero, List.set_cons_succ, List.getElem_toArray, List.getElem_cons_succ, List.getElem_cons_zero]
      refine anyX_take (i := 5) (v := ?_) rfl (by kernel_rfl) (by kernel_rfl) (by kernel_rfl) (by kernel_rfl) (fun _ _ _ h => h) (Or.inl ⟨by rfl, ?_⟩) hHeld ?_
      rotate_left
      · intro w hSw; (try dsimp only at hSw); go_simp; first | done | with_reducible rfl
      try simp only [Act.put, List.setIfInBounds_toArray, List.set_cons_zero, List.set_cons_succ, List.getElem_toArray, List.getElem_cons_succ, List.getElem_cons_zero]
      refine anyX_take (i := 6) (v := ?_) rfl (by kernel_rfl) (by kernel_rfl) (by kernel_rfl) (by kernel_rfl) (fun _ _ _ h => h) (Or.inl ⟨by rfl, ?_⟩) hHeld ?_
      rotate_left
      · intro w hSw; (try dsimp only at hSw); go_simp; first | done | with_reducible rfl
      try simp only [Act.put, List.setIfInBounds_toArray, List.set_cons_zero, List.set_cons_succ, List.getElem_toArray, List.getElem_cons_succ, List.getElem_cons_zero]
      obtain ⟨XL, hX, oX, sX⟩ : ∃ X, WD.alloc (.cells #[.int .i64 xx] 3) = X ∧ Only nob WD X ∧ Sl X (WD.heap.size + 1) 1 (.slice (some ⟨WD.heap.size, 0, none⟩) 1 1) 1 [.int .i64 xx] := ⟨_, rfl, (Only.refl nob WD).alloc _, one_of16 WD xx⟩
      have HWE := Lib.hid hX
      have OL := Lib.hid oX
      have SLx := Lib.hid sX
      clear hX oX sX
      refine anyX_ready (rs := [7]) (by kernel_rfl) (by simp) ?_
      refine (AllX.cons rfl (fun K hK => ?_) AllX.nil)
      go_simp
      with_reducible rw [HWE.out]
      refine hK.out _ _ (fun _ => ⟨OL.out.keeps hHeld.1, OL.out.keeps hHeld.2.1, OL.out.keeps hHeld.2.2⟩) (fun hHeld2 => ?_)
      clear hK K hHeld
      have hHeld := hHeld2 (by decide)
      clear hHeld2
      try simp only [Act.put, List.setIfInBounds_toArray, List.set_cons_zero, List.set_cons_succ, List.getElem_toArray, List.getElem_cons_succ, List.getElem_cons_zero]
      refine anyX_ready (rs := [8]) (by kernel_rfl) (by simp) ?_
      refine (AllX.cons rfl (fun K hK => ?_) AllX.nil)
      refine step_append_or _ (by rfl) _ _ _ (by rfl) base 3 j0 _ 8 Try.underlying28 hj0 hy0 hy1 hy2 (by rfl) (.slice A8 n8 k8) n8 (i64s (rowsQ (withAh q (aheadQ (pre.map (·.2)) q.ah)) (-4))) (by rfl) (HOW.out.only (OD.out.trans OL.out) fun _ _ h => h) (WD.heap.size + 1) (.slice (some ⟨WD.heap.size, 0, none⟩) 1 1) (.int .i64 xx) (by rfl) SLx.out (by rfl) (fits17 hn8b).1 (fits17 hn8b).2 (by have h1 := HBL.out; have h2 := HS1.out.only.size; have h3 := OD.out.size; have h4 := OL.out.size; omega) ?_
      intro v9 w9 H9 o9 ho9
      obtain ⟨B9, k9, rfl, -, -⟩ := H9.out.form
      rw [← HV8.out] at o9 ho9
      have M9 := HQD.out.mid OL.out o9
      have hne9 : ∀ g t cs, Blk Wb g t cs → t ≠ 3 → Blk w9 g t cs := fun g t cs hb ht => ((hb.keep OD.out id).keep OL.out id).keep o9 fun e => (HQ1.out.rows.own (-4)).ne hb ht e
      have d0 : w9.cell? ⟨W.heap.size, 0, none⟩ = some (.pointer (some ⟨b, 0, none⟩)) := (hne9 _ _ _ HBP.out (by decide)).cell 0
      have d1 : w9.cell? ⟨Bx, 1, none⟩ = some (.int .i64 xx) := (hne9 _ _ _ HX.out (by decide)).cell 1
      have c9 : w9.cell? ⟨b, 8, none⟩ = some (.slice A8 n8 k8) := by rw [M9.cell]; exact congrArg some HV8.out
      have f9 := M9.free 8
      have hl9 : (rowsQ (withAh q (aheadQ (pre.map (·.2)) q.ah)) (-4) ++ [xx]).length = n8 + 1 := by rw [List.length_append, HN8.out]; simp [rowsQ, withAh]
      obtain ⟨QQ, SS⟩ := HQD.out.turn (q' := withAh q (xx :: aheadQ (pre.map (·.2)) q.ah)) at_ah (l := rowsQ (withAh q (aheadQ (pre.map (·.2)) q.ah)) (-4) ++ [xx]) OL.out o9 (by rw [hl9, i64s_append]; exact H9.out) ho9 (by
        rw [HRW.out]
        funext i
        unfold rowsQ upd withAh
        by_cases h : i = -4
        · subst h; simp
        · simp [h]) rfl
      obtain ⟨X9, hX9⟩ : ∃ X, w9.setCell ⟨b, 8, none⟩ (.slice B9 (n8 + 1) k9) = X := ⟨_, rfl⟩
      rw [hX9] at QQ SS
      have HX9 := Lib.hid hX9
      have HQ9 := Lib.hid QQ
      have SS9 := Lib.hid (show Stp b mb V' _ Wb X9 from (Stp.kept b mb V' OD.out).trans SS)
      have HS9 := Lib.hid (HS1.out.trans SS9.out)
      have HKO := Lib.hid (show KeepsOthers Wb X9 from others16 SS9.out.only fun k o hk ho => by
        obtain ⟨t, cs, hb⟩ := HQ1.out.cells hk
        unfold Blk at hb
        rw [hb] at ho
        cases ho; rfl)
      have HKV := Lib.hid (show KeepsV (Qf b mb V) W0.heap.size Wb X9 from KeepsV.only SS9.out.only fun k hk hf => by
        rcases hf with e | e | e
        · exact .inl e
        · exact .inr (.inl e)
        · exact HS1.out.grow k e hk)
      clear hX9 QQ SS hl9 M9 H9 o9 ho9 hne9
      refine hK.out _ _ (fun _ => ⟨d0, c9, d1⟩) (fun hHeld2 => ?_)
      clear hK K hHeld
      have hHeld := hHeld2 (by decide)
      clear hHeld2
      try simp only [Act.put, List.setIfInBounds_toArray, List.set_cons_zero, List.set_cons_succ, List.getElem_toArray, List.getElem_cons_succ, List.getElem_cons_zero]
      refine anyX_ready (rs := [9]) (by kernel_rfl) (by simp) ?_
      refine (AllX.cons rfl (fun K hK => ?_) AllX.nil)
      go_simp
      refine hK.out _ _ (fun _ => hHeld) (fun hHeld2 => ?_)
      clear hK K hHeld
      have hHeld := hHeld2 (by decide)
      clear hHeld2
      try simp only [Act.put, List.setIfInBounds_toArray, List.set_cons_zero, List.set_cons_succ, List.getElem_toArray, List.getElem_cons_succ, List.getElem_cons_zero]
      refine anyX_ready (rs := [10]) (by kernel_rfl) (by simp) ?_
      refine (AllX.cons rfl (fun K hK => ?_) AllX.nil)
      go_simp
      refine hK.out _ _ (fun _ => hHeld) (fun hHeld2 => ?_)
      clear hK K hHeld
      have hHeld := hHeld2 (by decide)
      clear hHeld2
      try simp only [Act.put, List.setIfInBounds_toArray, List.set_cons_zero, List.set_cons_succ, List.getElem_toArray, List.getElem_cons_succ, List.getElem_cons_zero]
      refine anyX_ready (rs := [11]) (by kernel_rfl) (by simp) ?_
      refine (AllX.cons rfl (fun K hK => ?_) AllX.nil)
      go_simp
      with_reducible rw [HX9.out]
      refine hK.out _ _ (fun h => absurd rfl h) (fun hHeld2 => ?_)
      clear hK K hHeld hHeld2 d0 d1 c9 f9
      try simp only [Act.put, List.setIfInBounds_toArray, List.set_cons_zero, List.set_cons_succ, List.getElem_toArray, List.getElem_cons_succ, List.getElem_cons_zero]
      refine anyX_done (by kernel_rfl) ?_ _
      gi_wp2
      exact ⟨HKO.out.from _, HKV.out, _, by rw [HSN2.out]; exact HQ9.out, HS9.out⟩
    · have hkq : (xk == 2) = false := by simpa using hk2
      have HSN2 := Lib.hid (HSN.out.trans (if_neg hk2))
      clear hk2
      gi_wp2
      exact ⟨(KeepsOthers.refl _).from _, KeepsV.refl _ _ _, V', by rw [HSN2.out]; exact HQ1.out, HS1.out⟩
  case done =>
    rintro D ys Wd hD hS ⟨V', h1, h2⟩ hK
    rw [show aheadQ (ys.map (·.2)) q.ah = refsOf l ++ q.ah by rw [hS]; exact ahead_all _ _] at h1
    have HQ2 := Lib.hid (h1.away (grownBy_putObj' Wd D (.deferred none)) fun r e => by cases e; exact ⟨_, hK, rfl⟩)
    have HS2 := Lib.hid ((Stp.kept b mb V OW0.out).trans (h2.away (grownBy_putObj' Wd D (.deferred none)) fun r e => by cases e; exact hD))
    have HKD := Lib.hid hK
    clear h1 h2 hK hS
    gi_wp2
    refine ⟨by simp, .inl ⟨_, _, rfl, run_takeDeferred HKD.out, ?_⟩⟩
    refine ⟨.tuple #[], ?_, V', rfl, HQ2.out, HS2.out⟩
    simp [results, Try.results36, go_sem]
  case stop =>
    rintro D c pre W hD hpre h
    exact h.elim
end Go.Proofs.Ytkjdnccnfnhkoaa
