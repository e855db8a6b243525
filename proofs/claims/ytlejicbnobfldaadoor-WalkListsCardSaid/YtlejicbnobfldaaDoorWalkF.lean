/- Contract of package walk: List. -/
import Derived.Test.YtlejicbnobfldaaDoorWalk
import Derived.Test.YtlejicbnobfldaaDoorInts
import Derived.Test.YtlejicbnobfldaaDoorQuiets
import Derived.Deep.QuietTactic
import Derived.BigQuiet
namespace Go.Proofs.YtlejicbnobfldaaDoor
open Go.RowKit Go.Shelf Go.Sort
attribute [local go_sem] Oper.semAt_some
set_option maxRecDepth 100000

/-- A box stays, when a row of another type grows. -/
theorem blk_row {W w1 : World} {g n0 : Nat} {t e : TypeId} {u v : Value} {size k : Nat} {xs : List Value} {tmp : Obj} (h : Blk W g t #[u]) (hte : t ≠ e) (hrow : W.ownsRow n0 e size v k xs) (hg : (W.alloc tmp).grownBy w1 v.ownBlock) : Blk w1 g t #[u] :=
  (hg.block g (h.alloc tmp).lt (Boxed.not_row (show Boxed W g t u from h) hte hrow)).trans (h.alloc tmp)

set_option maxHeartbeats 4000000 in
theorem wList (A : Option Addr) (h : Int → Hd) (x : Sp) (top : Int) (w : World) (H : Heads (.pointer A) w.heap.size h w) (hx : Fit x) (hN : (walkL h x top).length ≤ 1000000) :
    Calls Tryd.prog 8 #[.pointer A, .agg #[.int .i64 x.1, .int .i64 x.2], .int .i64 top] w fun e w' => ∃ v', e = .returned (.tuple #[v', .int .i64 (wkE (walkL h x top))]) ∧
      w'.ownsRow w.heap.size 3 1 v' (wkL (walkL h x top)).length (i64s (wkL (walkL h x top))) ∧ Only nob w w' := by
  obtain ⟨i0, hi0, hz0, hz1, hz2⟩ := info_parts info_int
  have HH := Lib.hid H
  have HX := Lib.hid hx
  clear H hx
  obtain ⟨V, hV, HV⟩ : ∃ V, (((w.alloc (.cells #[.int .i64 x.1, .int .i64 x.2] 24)).alloc (.cells #[.slice none 0 0] 25)).alloc (.cells #[.int .i64 0] 28)).alloc (.cells #[.slice none 0 0] 25) = V ∧ Hid (Only nob w V ∧ V.heap.size = w.heap.size + 4 ∧ Blk V w.heap.size 24 #[.int .i64 x.1, .int .i64 x.2] ∧ Blk V (w.heap.size + 1) 25 #[.slice none 0 0] ∧ Blk V (w.heap.size + 1 + 1) 28 #[.int .i64 0] ∧ Blk V (w.heap.size + 1 + 1 + 1) 25 #[.slice none 0 0]) :=
    ⟨_, rfl, Lib.hid ⟨((((Only.refl nob w).alloc _).alloc _).alloc _).alloc _, by simp, (((Blk.new w _ _).alloc _).alloc _).alloc _, ((Blk.newAt _ _ _ _ (by simp)).alloc _).alloc _, (Blk.newAt _ _ _ _ (by simp)).alloc _, Blk.newAt _ _ _ _ (by simp)⟩⟩
  have HVE := Lib.hid hV
  have v0 := HV.out.2.2.1.cell 0
  have v1 := HV.out.2.2.1.cell 1
  simp at v0 v1
  clear hV
  refine (callsIn_wide (n := 3)).1 ?_
  refine callsIn_of_wp_marks Tryd.func8 rfl trivial ?_ rfl
  simp only [Tryd.ntmps8, List.size_toArray, List.length_cons, List.length_nil, Nat.reduceAdd, Nat.reduceSub, Array.replicate_succ, Array.replicate_zero, List.push_toArray, List.append_toArray, List.nil_append, List.cons_append]
  gi_wp2_with (first | (with_reducible rw [HVE.out]) | (refine ⟨trivial, ?_⟩; gi_at_call 22; refine (steps_in _ _ _ _ _).mono ?_; rintro e w' ⟨rfl, rfl⟩))
  have bR0 := HV.out.2.2.2.2.2.cell 0
  simp at bR0
  obtain ⟨W0, hW0, o0, hsz, h3, hsa⟩ := three_laid (w.heap.size + 1 + 1 + 1) V A x top (by have := HV.out.2.1; omega) (fun u k h1 h2 => by rw [bR0] at h1; cases h1; cases h2)
  rw [hW0]
  have hvs1 : w.heap.size + 4 ≤ V.heap.size := Nat.le_of_eq HV.out.2.1.symm
  have hvs2 : V.heap.size ≤ w.heap.size + 4 := Nat.le_of_eq HV.out.2.1
  have hsz1 : V.heap.size + 3 ≤ W0.heap.size := Nat.le_of_eq hsz.symm
  have HD1 := Lib.hid (HH.out.later (HV.out.1.whole.trans (o0.whole.mono (by omega))) (Nat.le_refl _))
  have hB0 : Below w.heap.size w W0 := HV.out.1.whole.trans (o0.whole.mono (by omega))
  clear hW0 v0 v1 bR0 hsz
  refine wpIn_rangeFunc_ownH rfl (by decide) (gf := 35) (lb := #[.pointer (some ⟨V.heap.size + 1, 0, none⟩), .pointer (some ⟨V.heap.size + 1 + 1, 0, none⟩), .pointer (some ⟨V.heap.size, 0, none⟩)]) rfl trivial (enters_of Tryd.func35 (by kernel_rfl) rfl)
    (itSteps (w.heap.size + 1 + 1 + 1) w.heap.size V.heap.size (V.heap.size + 1) (V.heap.size + 1 + 1) V.heap.size (.pointer A) h x top W0 HD1.out (by omega) (by omega) (by omega) HX.out h3 hsa) KeepsS.trans (fun W l o o' h1 h2 h3 _ => KeepsS.putObj W l o o' (by omega) (by omega) h2 h3) (Below.refl _ _) (fun _ => rfl)
    (fun pre W => (∀ y ∈ pre, y.e = 0) ∧ (∃ v, Boxed W (w.heap.size + 1 + 1 + 1) 25 v ∧ W.ownsRow w.heap.size 3 1 v (ats pre).length (i64s (ats pre))) ∧ Blk W (w.heap.size + 1) 25 #[.slice none 0 0] ∧ Blk W (w.heap.size + 1 + 1) 28 #[.int .i64 0] ∧ Below w.heap.size w W ∧ W0.heap.size ≤ W.heap.size)
    (fun c pre W => c = .ret ∧ ∃ pre0 y, pre = pre0 ++ [y] ∧ (∀ z ∈ pre0, z.e = 0) ∧ y.e ≠ 0 ∧ Blk W (w.heap.size + 1) 25 #[.slice none 0 0] ∧ Blk W (w.heap.size + 1 + 1) 28 #[.int .i64 y.e] ∧ Below w.heap.size w W)
    ?hI ?hIx ⟨(fun _ h => by cases h), ⟨.slice none 0 0, HV.out.2.2.2.2.2.keep o0 id, World.ownsRow_nil _ _ _ _⟩, HV.out.2.2.2.1.keep o0 id, HV.out.2.2.2.2.1.keep o0 id, hB0, Nat.le_refl _⟩
    (fun y a' W => ∃ Bx, V.heap.size + 2 < Bx ∧ Blk W Bx 61 #[.int .i64 y.at_, .int .i64 y.k, .int .i64 y.f, .int .i64 y.r, .bool y.m, .int .i64 y.c] ∧ a' = { tmps := #[.pointer A, .agg #[.int .i64 x.1, .int .i64 x.2], .int .i64 top, undef, .pointer (some ⟨w.heap.size, 0, none⟩), undef, .pointer (some ⟨w.heap.size + 1, 0, none⟩), .pointer (some ⟨w.heap.size + 1 + 1, 0, none⟩), .pointer (some ⟨w.heap.size + 1 + 1 + 1, 0, none⟩), .pointer (some ⟨Bx, 0, none⟩), .int .i64 y.e, .pointer A, .agg #[.int .i64 x.1, .int .i64 x.2], .int .i64 top, .func (.func 35) #[] #[.pointer (some ⟨V.heap.size + 1, 0, none⟩), .pointer (some ⟨V.heap.size + 1 + 1, 0, none⟩), .pointer (some ⟨V.heap.size, 0, none⟩)], itv y, .int .i64 y.e, undef, undef, undef, undef, undef, undef, undef, undef, undef], defers := [] })
    (fun y a' _ X Y row hs hg hr => by
      obtain ⟨Bx, h1, h2, h3⟩ := hs
      exact ⟨Bx, h1, blk_kept h2 hg fun r e => (hr r e).2, h3⟩)
    ?assign ?body ?done ?stop
  case hI =>
    rintro pre W W' row ⟨hy, ⟨v, hv, hrow⟩, b0, b1, hb, hz⟩ hg hr
    have ho : Only (fun k => row = some k) W W' := only_grown hg fun k e _ => e
    refine ⟨hy, ⟨v, blk_kept hv hg fun r e => (hr r e).2, own_only hrow ho fun k hk e => ?_⟩, blk_kept b0 hg fun r e => (hr r e).2, blk_kept b1 hg fun r e => (hr r e).2, hb.grown hg hb.size (fun k e => by have := (hr k e).1; omega), Nat.le_trans hz hg.size⟩
    obtain ⟨o, h1, h2⟩ := (hr k e).2
    rcases hrow.2 with ⟨rfl, _⟩ | ⟨g, cap, cur, rfl, _, hgb, _⟩
    · cases hk
    · obtain rfl : g = k := by simpa [Value.ownBlock] using hk
      rw [hgb] at h1; cases h1; cases h2
  case hIx =>
    rintro c pre W W' row ⟨rfl, pre0, y, hp, hy0, hy, b0, b1, hb⟩ hg hr
    exact ⟨rfl, pre0, y, hp, hy0, hy, blk_kept b0 hg fun r e => (hr r e).2, blk_kept b1 hg fun r e => (hr r e).2, hb.grown hg hb.size (fun k e => by have := (hr k e).1; omega)⟩
  case assign =>
    rintro lp pre y W K ⟨hy, ⟨v, hv, hrow⟩, b0, b1, hb, hz⟩ hK
    rcases y with ⟨p, k, f, r, m, c, q⟩
    dsimp only [encs, itv]
    gi_wp2
    have ho : Only nob W (W.alloc (.cells #[.int .i64 p, .int .i64 k, .int .i64 f, .int .i64 r, .bool m, .int .i64 c] 61)) := (Only.refl nob W).alloc _
    exact hK _ _ ((KeepsOthers.alloc _ _).from _) (KeepsS.only ho (by omega) hb.size) ⟨hy, ⟨v, hv.alloc _, hrow.alloc _⟩, b0.keep ho id, b1.keep ho id, hb.alloc hb.size _, Nat.le_trans hz (by simp)⟩ ⟨W.heap.size, by omega, Blk.new W 61 _, rfl⟩
  case body =>
    rintro lp pre y a' W hl ⟨r, hr⟩ ⟨hy, ⟨v, hv, hrow⟩, b0, b1, hb, hz⟩ ⟨Bx, hBx, bX, rfl⟩ hlt
    have x0 := bX.cell 0
    have r0 := b0.cell 0
    have r1 := b1.cell 0
    have f0 := b0.free 0
    have f1 := b1.free 0
    have hc := hv.cell
    simp at x0 r0 r1
    by_cases he : y.e = 0
    · have he' : (y.e == 0) = true := by simpa using he
      have HY := Lib.hid (show ∀ z ∈ pre ++ [y], z.e = 0 from fun z hz => by
        rcases List.mem_append.1 hz with h | h
        · exact hy z h
        · rw [List.mem_singleton.1 h]; exact he)
      have HLE := Lib.hid (ats_len pre)
      have B0 := Lib.hid b0
      have B1 := Lib.hid b1
      have hWB : w.heap.size ≤ W.heap.size := hb.size
      clear he hy r0 r1 f0 f1 b0 b1
      gi_wp2_with (gi_at_builtin; refine wpListIn_append_own_at _ rfl _ _ 25 rfl w.heap.size 3 i0 _ 1 8 Tryd.underlying25 hi0 hz0 hz1 hz2 rfl (by decide) _ _ _ rfl (hrow.alloc _) ⟨W.heap.size, 0, none⟩ 1 1 (i64s [y.at_]) rfl rfl (cells_new _ _ _) (i64s_one _) (by have := maxLen_big; have := HLE.out; omega) (by have := HLE.out; omega) (by simp; omega) ?_; intro v' w1 hown' hgrow _ hvv; have HKB := Lib.hid (keepsB_appended (N0 := V.heap.size) hv (by decide) hrow hWB (by omega) (by omega) hown' hgrow hvv); have HO1 := Lib.hid hown'; have Q0 := Lib.hid (blk_row B0.out (by decide) hrow hgrow); have Q1 := Lib.hid (blk_row B1.out (by decide) hrow hgrow); obtain ⟨g', cap', rfl⟩ := ownsRow_succ hown'; clear hvv; obtain ⟨hv1, hv2, hr2, hk2, hb2⟩ := hv.appended (by decide) hrow hWB (by omega) hown' hgrow; have hc1 := hv1.cell; have hf1 := hv1.frozen)
      have hsn : i64s (ats (pre ++ [y])) = i64s (ats pre) ++ i64s [y.at_] := by rw [ats_snoc, i64s_append]
      have hln : (ats (pre ++ [y])).length = (ats pre).length + 1 := by rw [ats_snoc, List.length_append]; rfl
      refine ⟨hk2.from _, ⟨HKB.out, fun _ u k h1 h2 => ?_⟩, HY.out, ⟨_, hv2, by rw [hsn, hln]; exact hr2⟩, Q0.out.other (p := ⟨w.heap.size + 1 + 1 + 1, 0, none⟩) (by show w.heap.size + 1 + 1 + 1 ≠ w.heap.size + 1; omega) _, Q1.out.other (p := ⟨w.heap.size + 1 + 1 + 1, 0, none⟩) (by show w.heap.size + 1 + 1 + 1 ≠ w.heap.size + 1 + 1; omega) _, hb.trans hb2, Nat.le_trans hz hb2.size⟩
      rw [hv2.cell] at h1
      cases h1
      exact (own_lt hr2 h2).2
    · have he' : (y.e == 0) = false := by simpa using he
      have HE := Lib.hid he
      have HY := Lib.hid hy
      clear he hy
      gi_wp2
      refine ⟨((KeepsOthers.setCell _ _ _).trans (KeepsOthers.setCell _ _ _)).from _, rfl, pre, y, rfl, HY.out, HE.out, ?_, ?_, ?_⟩
      · exact (by simpa using b0.put 0 (.slice none 0 0) : Blk (W.setCell ⟨w.heap.size + 1, 0, none⟩ (.slice none 0 0)) (w.heap.size + 1) 25 #[.slice none 0 0]).other (p := ⟨w.heap.size + 1 + 1, 0, none⟩) (by show w.heap.size + 1 + 1 ≠ w.heap.size + 1; omega) _
      · simpa using (b1.other (p := ⟨w.heap.size + 1, 0, none⟩) (by show w.heap.size + 1 ≠ w.heap.size + 1 + 1; omega) (.slice none 0 0)).put 0 (.int .i64 y.e)
      · exact (hb.setCell (p := ⟨w.heap.size + 1, 0, none⟩) (by show w.heap.size ≤ w.heap.size + 1; omega) _).setCell (p := ⟨w.heap.size + 1 + 1, 0, none⟩) (by show w.heap.size ≤ w.heap.size + 1 + 1; omega) _
  case done =>
    rintro D ys W hD rfl ⟨hy, ⟨v, hv, hrow⟩, b0, b1, hb, hz⟩ hK
    have r0 := b0.cell 0
    have r1 := b1.cell 0
    have f0 := b0.free 0
    have f1 := b1.free 0
    have hc := hv.cell
    simp at r0 r1
    obtain ⟨-, k2, k3⟩ := wk_ok hy top
    have HK2 := Lib.hid k2
    have HK3 := Lib.hid k3
    have HKD := Lib.hid hK
    obtain ⟨Av, cv, rfl, -⟩ := own_len hrow
    clear hy k2 k3 hK
    gi_wp2
    have hK' := ((KeepsOthers.setCell W ⟨w.heap.size + 1, 0, none⟩ (.slice Av (ats (walkL h x top)).length cv)).trans (KeepsOthers.setCell _ ⟨w.heap.size + 1 + 1, 0, none⟩ (.int .i64 0))).same D _ HKD.out rfl
    refine ⟨by simp, .inl ⟨_, _, rfl, run_takeDeferred hK', ?_⟩⟩
    have q0 := (blk_putObj (o' := .deferred none) ((by simpa using b0.put 0 (.slice Av (ats (walkL h x top)).length cv) : Blk (W.setCell ⟨w.heap.size + 1, 0, none⟩ (.slice Av (ats (walkL h x top)).length cv)) (w.heap.size + 1) 25 #[.slice Av (ats (walkL h x top)).length cv]).other (p := ⟨w.heap.size + 1 + 1, 0, none⟩) (by show w.heap.size + 1 + 1 ≠ w.heap.size + 1; omega) (.int .i64 0)) hK' rfl).cell 0
    have q1 := (blk_putObj (o' := .deferred none) ((b1.other (p := ⟨w.heap.size + 1, 0, none⟩) (by show w.heap.size + 1 ≠ w.heap.size + 1 + 1; omega) (.slice Av (ats (walkL h x top)).length cv)).put 0 (.int .i64 0)) hK' rfl).cell 0
    simp at q0 q1
    have n0 := Boxed.not_row (show Boxed W (w.heap.size + 1) 25 _ from b0) (by decide : 25 ≠ 3) hrow
    have n1 := Boxed.not_row (show Boxed W (w.heap.size + 1 + 1) 28 _ from b1) (by decide : 28 ≠ 3) hrow
    have hr1 := own_only hrow (only_set W (w.heap.size + 1) 0 (.slice Av (ats (walkL h x top)).length cv)) fun k hk e => n0 (by unfold isb at e; rw [← e, hk])
    have hr2 := own_only hr1 (only_set _ (w.heap.size + 1 + 1) 0 (.int .i64 0)) fun k hk e => n1 (by unfold isb at e; rw [← e, hk])
    have ob := below_done ((hb.setCell (p := ⟨w.heap.size + 1, 0, none⟩) (by show w.heap.size ≤ w.heap.size + 1; omega) (.slice Av (ats (walkL h x top)).length cv)).setCell (p := ⟨w.heap.size + 1 + 1, 0, none⟩) (by show w.heap.size ≤ w.heap.size + 1 + 1; omega) (.int .i64 0)) (by omega) hK'
    refine ⟨.tuple #[.slice Av (ats (walkL h x top)).length cv, .int .i64 0], ?_, _, by rw [HK2.out], by rw [HK3.out]; exact ownsRow_putObj hr2 _ hK' rfl, ob⟩
    simp [results, Tryd.results8, go_sem, q0, q1]
  case stop =>
    rintro D c pre W hD ⟨rest, hrest⟩ ⟨rfl, pre0, y, rfl, hy0, hy, b0, b1, hb⟩ hK
    obtain ⟨-, k2, k3⟩ := wk_no (R := rest) hy0 hy top
    rw [List.append_assoc, List.singleton_append] at hrest
    rw [hrest] at k2 k3
    have HK2 := Lib.hid k2
    have HK3 := Lib.hid k3
    clear k2 k3 hrest
    gi_wp2
    refine ⟨by simp, .inl ⟨_, _, rfl, run_takeDeferred hK, ?_⟩⟩
    have q0 := (blk_putObj (o' := .deferred none) b0 hK rfl).cell 0
    have q1 := (blk_putObj (o' := .deferred none) b1 hK rfl).cell 0
    simp at q0 q1
    refine ⟨.tuple #[.slice none 0 0, .int .i64 y.e], ?_, _, by rw [HK2.out], by rw [HK3.out]; exact World.ownsRow_nil _ _ _ _, below_done hb (by omega) hK⟩
    simp [results, Tryd.results8, go_sem, q0, q1]
end Go.Proofs.YtlejicbnobfldaaDoor

/- Contract of package walk: Sums. -/
namespace Go.Proofs.YtlejicbnobfldaaDoor
open Go.RowKit Go.Shelf Go.Sort
attribute [local go_sem] Oper.semAt_some
set_option maxRecDepth 100000

/-- The words and the fields of steps, as they are added up. -/
def suZ : List It → Int
  | [] => 0
  | y :: l => hSz y.k y.f y.r y.c + suZ l
def fdZ (l : List It) : Int := l.foldl (fun s y => wrap64 (s + y.f)) 0
theorem suZ_snoc (l : List It) (y : It) : suZ (l ++ [y]) = suZ l + hSz y.k y.f y.r y.c := by
  induction l with
  | nil => simp [suZ]
  | cons z l ih => simp only [List.cons_append, suZ, ih]; omega
theorem fdZ_snoc (l : List It) (y : It) : fdZ (l ++ [y]) = wrap64 (fdZ l + y.f) := by simp [fdZ]
theorem hSz_in (k f r c : Int) : 0 ≤ hSz k f r c ∧ hSz k f r c ≤ 8193 := by
  unfold hSz
  split
  · rename_i h; have := hmay_iff.1 h; omega
  · omega
theorem suZ_in (l : List It) : 0 ≤ suZ l ∧ suZ l ≤ 8193 * l.length := by
  induction l with
  | nil => simp [suZ]
  | cons y l ih =>
    have := hSz_in y.k y.f y.r y.c
    simp only [suZ, List.length_cons]
    omega
theorem foldZ (l : List It) (h : ∀ y ∈ l, 0 ≤ y.f ∧ y.f ≤ 4096) : ∀ s : Int, 0 ≤ s → s + 4096 * l.length ≤ 1000000000000 → l.foldl (fun s y => wrap64 (s + y.f)) s = s + (l.map (·.f)).sum := by
  induction l with
  | nil => intro s _ _; simp
  | cons y l ih =>
    intro s h0 h1
    have hy := h y List.mem_cons_self
    simp only [List.length_cons] at h1
    rw [List.foldl_cons, show wrap64 (s + y.f) = s + y.f by unfold wrap64; omega, ih (fun z hz => h z (List.mem_cons_of_mem _ hz)) (s + y.f) (by omega) (by omega), List.map_cons, List.sum_cons]
    omega
/-- Behind a walk that does not err they are those of the places. -/
theorem sums_all {h : Int → Hd} (H : HdOk h) (top : Int) (L : List It) (hL : ∀ y ∈ L, y = item h top y.at_ ∧ y.e = 0) (hN : L.length ≤ 1000000) : suZ L = suW h (ats L) ∧ fdZ L = suF h (ats L) := by
  have hy : ∀ y ∈ L, hSz y.k y.f y.r y.c = osz h y.at_ ∧ y.f = (h y.at_).f ∧ 0 ≤ y.f ∧ y.f ≤ 4096 := by
    intro y hy
    obtain ⟨e1, e2⟩ := hL y hy
    have hs : swE h top y.at_ = 0 := by rw [← item_e, ← e1]; exact e2
    have hz := sw_zero hs
    have hm := H _ hz.1
    have hi := e1.trans (item_ok hs)
    have hb := hmay_iff.1 hm
    rw [hi]
    exact ⟨hSz_yes hm, rfl, hb.2.1.1, hb.2.1.2⟩
  constructor
  · clear hN hL
    induction L with
    | nil => rfl
    | cons y l ih =>
      show hSz y.k y.f y.r y.c + suZ l = osz h y.at_ + suW h (ats l)
      rw [(hy y List.mem_cons_self).1, ih fun z hz => hy z (List.mem_cons_of_mem _ hz)]
  · unfold fdZ
    rw [foldZ L (fun y hy' => (hy y hy').2.2) 0 (Int.le_refl _) (by omega), Int.zero_add]
    clear hN hL
    induction L with
    | nil => rfl
    | cons y l ih =>
      show (List.map (·.f) (y :: l)).sum = (h y.at_).f + suF h (ats l)
      rw [List.map_cons, List.sum_cons, (hy y List.mem_cons_self).2.1, ih fun z hz => hy z (List.mem_cons_of_mem _ hz)]
theorem walkL_item {h : Int → Hd} (H : HdOk h) {x : Sp} {top : Int} (hok : ∀ y ∈ walkL h x top, y.e = 0) : ∀ y ∈ walkL h x top, y = item h top y.at_ ∧ y.e = 0 := by
  intro y hy
  refine ⟨?_, hok y hy⟩
  unfold walkL at hy hok
  split at hy
  · exact (tr_all H _ y hy).1
  · rename_i hm
    rw [if_neg hm] at hok
    exact absurd (hok badIt (by simp)) (by decide)

set_option maxHeartbeats 4000000 in
theorem wSums (A : Option Addr) (h : Int → Hd) (x : Sp) (top : Int) (w : World) (H : Heads (.pointer A) w.heap.size h w) (hx : Fit x) (hN : (walkL h x top).length ≤ 1000000) :
    Calls Tryd.prog 11 #[.pointer A, .agg #[.int .i64 x.1, .int .i64 x.2], .int .i64 top] w fun e w' =>
      e = .returned (.tuple #[.int .i64 (wkL (walkL h x top)).length, .int .i64 (suW h (wkL (walkL h x top))), .int .i64 (suF h (wkL (walkL h x top))), .int .i64 (wkE (walkL h x top))]) ∧ Only nob w w' := by
  have HH := Lib.hid H
  have HX := Lib.hid hx
  have HNN := Lib.hid hN
  clear H hx
  obtain ⟨V, hV, HV⟩ : ∃ V, ((((((((w.alloc (.cells #[.int .i64 x.1, .int .i64 x.2] 24)).alloc (.cells #[.int .i64 0] 3)).alloc (.cells #[.int .i64 0] 3)).alloc (.cells #[.int .i64 0] 3)).alloc (.cells #[.int .i64 0] 28)).alloc (.cells #[.int .i64 0] 3)).alloc (.cells #[.int .i64 0] 3)).alloc (.cells #[.int .i64 0] 3)) = V ∧ Hid (Only nob w V ∧ V.heap.size = w.heap.size + 8 ∧ Blk V (w.heap.size) 24 #[.int .i64 x.1, .int .i64 x.2] ∧ Blk V (w.heap.size + 1) 3 #[.int .i64 0] ∧ Blk V (w.heap.size + 1 + 1) 3 #[.int .i64 0] ∧ Blk V (w.heap.size + 1 + 1 + 1) 3 #[.int .i64 0] ∧ Blk V (w.heap.size + 1 + 1 + 1 + 1) 28 #[.int .i64 0] ∧ Blk V (w.heap.size + 1 + 1 + 1 + 1 + 1) 3 #[.int .i64 0] ∧ Blk V (w.heap.size + 1 + 1 + 1 + 1 + 1 + 1) 3 #[.int .i64 0] ∧ Blk V (w.heap.size + 1 + 1 + 1 + 1 + 1 + 1 + 1) 3 #[.int .i64 0]) :=
    ⟨_, rfl, Lib.hid ⟨(((((((((Only.refl nob w).alloc _).alloc _).alloc _).alloc _).alloc _).alloc _).alloc _).alloc _), by simp, ((((((((Blk.new w _ _).alloc _).alloc _).alloc _).alloc _).alloc _).alloc _).alloc _), (((((((Blk.newAt _ _ _ _ (by simp)).alloc _).alloc _).alloc _).alloc _).alloc _).alloc _), ((((((Blk.newAt _ _ _ _ (by simp)).alloc _).alloc _).alloc _).alloc _).alloc _), (((((Blk.newAt _ _ _ _ (by simp)).alloc _).alloc _).alloc _).alloc _), ((((Blk.newAt _ _ _ _ (by simp)).alloc _).alloc _).alloc _), (((Blk.newAt _ _ _ _ (by simp)).alloc _).alloc _), ((Blk.newAt _ _ _ _ (by simp)).alloc _), (Blk.newAt _ _ _ _ (by simp))⟩⟩
  have HVE := Lib.hid hV
  have v0 := HV.out.2.2.1.cell 0
  have v1 := HV.out.2.2.1.cell 1
  simp at v0 v1
  clear hV
  refine (callsIn_wide (n := 3)).1 ?_
  refine callsIn_of_wp_marks Tryd.func11 rfl trivial ?_ rfl
  simp only [Tryd.ntmps11, List.size_toArray, List.length_cons, List.length_nil, Nat.reduceAdd, Nat.reduceSub, Array.replicate_succ, Array.replicate_zero, List.push_toArray, List.append_toArray, List.nil_append, List.cons_append]
  gi_wp2_with (first | (refine ⟨trivial, ?_⟩; gi_at_call 22; with_reducible rw [HVE.out]; refine (steps_in _ _ _ _ _).mono ?_; rintro e w' ⟨rfl, rfl⟩))
  have bR0 := HV.out.2.2.2.1.cell 0
  simp at bR0
  obtain ⟨W0, hW0, o0, hsz, h3, hsa⟩ := three_laid (w.heap.size + 1) V A x top (by have := HV.out.2.1; omega) (sane_int bR0)
  rw [hW0]
  have hvs1 : w.heap.size + 8 ≤ V.heap.size := Nat.le_of_eq HV.out.2.1.symm
  have hvs2 : V.heap.size ≤ w.heap.size + 8 := Nat.le_of_eq HV.out.2.1
  have hsz1 : V.heap.size + 3 ≤ W0.heap.size := Nat.le_of_eq hsz.symm
  have HD1 := Lib.hid (HH.out.later (HV.out.1.whole.trans (o0.whole.mono (by omega))) (Nat.le_refl _))
  have hB0 : Below w.heap.size w W0 := HV.out.1.whole.trans (o0.whole.mono (by omega))
  clear hW0 v0 v1 bR0 hsz
  refine wpIn_rangeFunc_ownH rfl (by decide) (gf := 35) (lb := #[.pointer (some ⟨V.heap.size + 1, 0, none⟩), .pointer (some ⟨V.heap.size + 1 + 1, 0, none⟩), .pointer (some ⟨V.heap.size, 0, none⟩)]) rfl trivial (enters_of Tryd.func35 (by kernel_rfl) rfl)
    (itSteps (w.heap.size + 1) w.heap.size V.heap.size (V.heap.size + 1) (V.heap.size + 1 + 1) V.heap.size (.pointer A) h x top W0 HD1.out (by omega) (by omega) (by omega) HX.out h3 hsa) KeepsS.trans (fun W l o o' h1 h2 h3 _ => KeepsS.putObj W l o o' (by omega) (by omega) h2 h3) (Below.refl _ _) (fun _ => rfl)
    (fun pre W => (∀ y ∈ pre, y.e = 0) ∧ (Blk W (w.heap.size + 1) 3 #[.int .i64 (0)] ∧ Blk W (w.heap.size + 1 + 1) 3 #[.int .i64 (0)] ∧ Blk W (w.heap.size + 1 + 1 + 1) 3 #[.int .i64 (0)] ∧ Blk W (w.heap.size + 1 + 1 + 1 + 1) 28 #[.int .i64 (0)] ∧ Blk W (w.heap.size + 1 + 1 + 1 + 1 + 1) 3 #[.int .i64 ((pre).length)] ∧ Blk W (w.heap.size + 1 + 1 + 1 + 1 + 1 + 1) 3 #[.int .i64 (suZ (pre))] ∧ Blk W (w.heap.size + 1 + 1 + 1 + 1 + 1 + 1 + 1) 3 #[.int .i64 (fdZ (pre))]) ∧ Below w.heap.size w W ∧ W0.heap.size ≤ W.heap.size)
    (fun c pre W => c = .ret ∧ ∃ pre0 y, pre = pre0 ++ [y] ∧ (∀ z ∈ pre0, z.e = 0) ∧ y.e ≠ 0 ∧ (Blk W (w.heap.size + 1) 3 #[.int .i64 (0)] ∧ Blk W (w.heap.size + 1 + 1) 3 #[.int .i64 (0)] ∧ Blk W (w.heap.size + 1 + 1 + 1) 3 #[.int .i64 (0)] ∧ Blk W (w.heap.size + 1 + 1 + 1 + 1) 28 #[.int .i64 (y.e)]) ∧ Below w.heap.size w W)
    ?hI ?hIx ⟨(fun _ h => by cases h), ⟨HV.out.2.2.2.1.keep o0 id, HV.out.2.2.2.2.1.keep o0 id, HV.out.2.2.2.2.2.1.keep o0 id, HV.out.2.2.2.2.2.2.1.keep o0 id, HV.out.2.2.2.2.2.2.2.1.keep o0 id, HV.out.2.2.2.2.2.2.2.2.1.keep o0 id, HV.out.2.2.2.2.2.2.2.2.2.keep o0 id⟩, hB0, Nat.le_refl _⟩
    (fun y a' W => ∃ Bx, V.heap.size + 2 < Bx ∧ Blk W Bx 61 #[.int .i64 y.at_, .int .i64 y.k, .int .i64 y.f, .int .i64 y.r, .bool y.m, .int .i64 y.c] ∧ a' = { tmps := #[.pointer A, .agg #[.int .i64 x.1, .int .i64 x.2], .int .i64 top, undef, .pointer (some ⟨w.heap.size, 0, none⟩), undef, .pointer (some ⟨w.heap.size + 1, 0, none⟩), .pointer (some ⟨w.heap.size + 1 + 1, 0, none⟩), .pointer (some ⟨w.heap.size + 1 + 1 + 1, 0, none⟩), .pointer (some ⟨w.heap.size + 1 + 1 + 1 + 1, 0, none⟩), .pointer (some ⟨w.heap.size + 1 + 1 + 1 + 1 + 1, 0, none⟩), .pointer (some ⟨w.heap.size + 1 + 1 + 1 + 1 + 1 + 1, 0, none⟩), .pointer (some ⟨w.heap.size + 1 + 1 + 1 + 1 + 1 + 1 + 1, 0, none⟩), .pointer (some ⟨Bx, 0, none⟩), .int .i64 y.e, .pointer A, .agg #[.int .i64 x.1, .int .i64 x.2], .int .i64 top, .func (.func 35) #[] #[.pointer (some ⟨V.heap.size + 1, 0, none⟩), .pointer (some ⟨V.heap.size + 1 + 1, 0, none⟩), .pointer (some ⟨V.heap.size, 0, none⟩)], itv y, .int .i64 y.e, undef, undef, undef, undef, undef, undef, undef, undef, undef, undef, undef, undef, undef, undef, undef, undef, undef, undef], defers := [] })
    (fun y a' _ X Y row hs hg hr => by
      obtain ⟨Bx, h1, h2, h3⟩ := hs
      exact ⟨Bx, h1, blk_kept h2 hg fun r e => (hr r e).2, h3⟩)
    ?assign ?body ?done ?stop
  case hI =>
    rintro pre W W' row ⟨hy, ⟨b0, b1, b2, b3, b4, b5, b6⟩, hb, hz⟩ hg hr
    exact ⟨hy, ⟨blk_kept b0 hg fun r e => (hr r e).2, blk_kept b1 hg fun r e => (hr r e).2, blk_kept b2 hg fun r e => (hr r e).2, blk_kept b3 hg fun r e => (hr r e).2, blk_kept b4 hg fun r e => (hr r e).2, blk_kept b5 hg fun r e => (hr r e).2, blk_kept b6 hg fun r e => (hr r e).2⟩, hb.grown hg hb.size (fun k e => by have := (hr k e).1; omega), Nat.le_trans hz hg.size⟩
  case hIx =>
    rintro c pre W W' row ⟨rfl, pre0, y, hp, hy0, hy, ⟨b0, b1, b2, b3⟩, hb⟩ hg hr
    exact ⟨rfl, pre0, y, hp, hy0, hy, ⟨blk_kept b0 hg fun r e => (hr r e).2, blk_kept b1 hg fun r e => (hr r e).2, blk_kept b2 hg fun r e => (hr r e).2, blk_kept b3 hg fun r e => (hr r e).2⟩, hb.grown hg hb.size (fun k e => by have := (hr k e).1; omega)⟩
  case assign =>
    rintro lp pre y W K ⟨hy, ⟨b0, b1, b2, b3, b4, b5, b6⟩, hb, hz⟩ hK
    rcases y with ⟨p, k, f, r, m, c, q⟩
    dsimp only [encs, itv]
    gi_wp2
    have ho : Only nob W (W.alloc (.cells #[.int .i64 p, .int .i64 k, .int .i64 f, .int .i64 r, .bool m, .int .i64 c] 61)) := (Only.refl nob W).alloc _
    exact hK _ _ ((KeepsOthers.alloc _ _).from _) (KeepsS.only ho (by omega) hb.size) ⟨hy, ⟨b0.keep ho id, b1.keep ho id, b2.keep ho id, b3.keep ho id, b4.keep ho id, b5.keep ho id, b6.keep ho id⟩, hb.alloc hb.size _, Nat.le_trans hz (by simp)⟩ ⟨W.heap.size, by omega, Blk.new W 61 _, rfl⟩
  case body =>
    rintro lp pre y a' W hl ⟨r, hr⟩ ⟨hy, ⟨b0, b1, b2, b3, b4, b5, b6⟩, hb, hz⟩ ⟨Bx, hBx, bX, rfl⟩ hlt
    have hWB : w.heap.size ≤ W.heap.size := hb.size
    by_cases he : y.e = 0
    · have he' : (y.e == 0) = true := by simpa using he
      have HY := Lib.hid (show ∀ z ∈ pre ++ [y], z.e = 0 from fun z hz => by
        rcases List.mem_append.1 hz with h | h
        · exact hy z h
        · rw [List.mem_singleton.1 h]; exact he)
      clear he hy
      have HB := Lib.hid hb
      have hsz0 := suZ_in pre
      have hszy := hSz_in y.k y.f y.r y.c
      obtain ⟨sz, hsze⟩ : ∃ sz, sz = suZ pre := ⟨_, rfl⟩
      obtain ⟨sy, hsye⟩ : ∃ sy, sy = hSz y.k y.f y.r y.c := ⟨_, rfl⟩
      obtain ⟨fz, hfze⟩ : ∃ fz, fz = fdZ pre := ⟨_, rfl⟩
      have HSZ := Lib.hid hsze
      have HSY := Lib.hid hsye
      have HFZ := Lib.hid hfze
      rw [← hsze] at hsz0 b5
      rw [← hsye] at hszy
      rw [← hfze] at b6
      clear hsze hsye hfze
      have hpl : pre.length < 1000000 := by omega
      -- the first sum
      obtain ⟨W1, hW1, o1, B4⟩ : ∃ W1, W.setCell ⟨w.heap.size + 1 + 1 + 1 + 1 + 1, 0, none⟩ (.int .i64 ((pre.length : Int) + 1)) = W1 ∧ Only (isb (w.heap.size + 1 + 1 + 1 + 1 + 1)) W W1 ∧ Blk W1 (w.heap.size + 1 + 1 + 1 + 1 + 1) 3 #[.int .i64 ((pre.length : Int) + 1)] := ⟨_, rfl, only_set _ _ _ _, by simpa using b4.put 0 _⟩
      have HW1 := Lib.hid hW1
      have KO1 := Lib.hid (show KeepsOthers W W1 from hW1 ▸ KeepsOthers.setCell _ _ _)
      have KB1 := Lib.hid (show KeepsB (w.heap.size + 1) V.heap.size w.heap.size W W1 from hW1 ▸ keepsB_put _ (by show w.heap.size + 1 + 1 + 1 + 1 + 1 < V.heap.size; omega) (by show w.heap.size ≤ w.heap.size + 1 + 1 + 1 + 1 + 1; omega) (by show w.heap.size + 1 + 1 + 1 + 1 + 1 ≠ w.heap.size + 1; omega))
      have x4 := b4.cell 0
      have f4 := b4.free 0
      simp at x4
      have BX1 := Lib.hid (bX.keep o1 (by unfold isb; omega))
      have R0 := Lib.hid (b0.keep o1 (by unfold isb; omega))
      have R1 := Lib.hid (b1.keep o1 (by unfold isb; omega))
      have R2 := Lib.hid (b2.keep o1 (by unfold isb; omega))
      have R3 := Lib.hid (b3.keep o1 (by unfold isb; omega))
      have C0 := Lib.hid B4
      have C1 := Lib.hid (b5.keep o1 (by unfold isb; omega))
      have C2 := Lib.hid (b6.keep o1 (by unfold isb; omega))
      clear hW1 o1 B4 b0 b1 b2 b3 b4 b5 b6 bX hb
      gi_wp2_with fail
      rw [HW1.out]
      have HP1 := Lib.hid (HH.out.par W1 (HB.out.trans KB1.out.below))
      have HSC := Lib.hid (show ∀ n os, Calls Tryd.prog 26 #[.agg #[.int .i64 y.k, .int .i64 y.f, .int .i64 y.r, .bool y.m, .int .i64 y.c]] (wat W1 n os) fun e w' => e = .returned (.int .i64 sy) ∧ Only nob (wat W1 n os) w' from fun n os => by
        rw [HSY.out]; exact hSize_any _ _ _ _ _ _ (HP1.out.old (only_wat W1 n os)))
      clear x4 f4
      obtain ⟨c0, c1, c2, c3, c4, c5⟩ := cells6 BX1.out
      have d1 := C1.out.cell 0
      simp at d1
      have e1 := wat_cell d1
      have k1 := wat_cell c1
      have k2 := wat_cell c2
      have k3 := wat_cell c3
      have k4 := wat_cell c4
      have k5 := wat_cell c5
      clear c0 c1 c2 c3 c4 c5 d1
      refine wpIn_region_only_tail (wideLike_in lp) 5 mixed_ (by kernel_rfl) (by kernel_rfl) ?_
      simp only [List.take_succ_cons, List.take_zero, List.drop_succ_cons, List.drop_zero]
      repeat (quiet_step (first | (go_at_call 26; with_reducible refine wat_call (HSC.out _ _))))
      refine wpQuiet_nil ?_
      rintro w' ⟨⟨nq, osq⟩, rfl⟩
      obtain ⟨W2, hW2, O2⟩ := wat_name W1 nq osq
      rw [hW2]
      clear hW2 e1 k1 k2 k3 k4 k5
      have HS2 := Lib.hid (show Only nob W1 W2 from O2.out)
      have D1 := C1.out.keep O2.out id
      have d1 := D1.cell 0
      have fd1 := D1.free 0
      simp at d1
      obtain ⟨W3, hW3, o3, B5⟩ : ∃ W3, W2.setCell ⟨w.heap.size + 1 + 1 + 1 + 1 + 1 + 1, 0, none⟩ (.int .i64 (sz + sy)) = W3 ∧ Only (isb (w.heap.size + 1 + 1 + 1 + 1 + 1 + 1)) W2 W3 ∧ Blk W3 (w.heap.size + 1 + 1 + 1 + 1 + 1 + 1) 3 #[.int .i64 (sz + sy)] := ⟨_, rfl, only_set _ _ _ _, by simpa using D1.put 0 _⟩
      have HW3 := Lib.hid hW3
      have KO3 := Lib.hid (show KeepsOthers W2 W3 from hW3 ▸ KeepsOthers.setCell _ _ _)
      have KB3 := Lib.hid (show KeepsB (w.heap.size + 1) V.heap.size w.heap.size W2 W3 from hW3 ▸ keepsB_put _ (by show w.heap.size + 1 + 1 + 1 + 1 + 1 + 1 < V.heap.size; omega) (by show w.heap.size ≤ w.heap.size + 1 + 1 + 1 + 1 + 1 + 1; omega) (by show w.heap.size + 1 + 1 + 1 + 1 + 1 + 1 ≠ w.heap.size + 1; omega))
      have BX3 := (BX1.out.keep O2.out id).keep o3 (by unfold isb; omega)
      have R0' := Lib.hid ((R0.out.keep O2.out id).keep o3 (by unfold isb; omega))
      have R1' := Lib.hid ((R1.out.keep O2.out id).keep o3 (by unfold isb; omega))
      have R2' := Lib.hid ((R2.out.keep O2.out id).keep o3 (by unfold isb; omega))
      have R3' := Lib.hid ((R3.out.keep O2.out id).keep o3 (by unfold isb; omega))
      have C0' := Lib.hid ((C0.out.keep O2.out id).keep o3 (by unfold isb; omega))
      have C1' := Lib.hid B5
      have D2 := (C2.out.keep O2.out id).keep o3 (by unfold isb; omega)
      have d2 := D2.cell 0
      have fd2 := D2.free 0
      have y2 := BX3.cell 2
      simp at d2 y2
      obtain ⟨W4, hW4, o4, B6⟩ : ∃ W4, W3.setCell ⟨w.heap.size + 1 + 1 + 1 + 1 + 1 + 1 + 1, 0, none⟩ (.int .i64 (wrap64 (fz + y.f))) = W4 ∧ Only (isb (w.heap.size + 1 + 1 + 1 + 1 + 1 + 1 + 1)) W3 W4 ∧ Blk W4 (w.heap.size + 1 + 1 + 1 + 1 + 1 + 1 + 1) 3 #[.int .i64 (wrap64 (fz + y.f))] := ⟨_, rfl, only_set _ _ _ _, by simpa using D2.put 0 _⟩
      have HW4 := Lib.hid hW4
      have KO4 := Lib.hid (show KeepsOthers W3 W4 from hW4 ▸ KeepsOthers.setCell _ _ _)
      have KB4 := Lib.hid (show KeepsB (w.heap.size + 1) V.heap.size w.heap.size W3 W4 from hW4 ▸ keepsB_put _ (by show w.heap.size + 1 + 1 + 1 + 1 + 1 + 1 + 1 < V.heap.size; omega) (by show w.heap.size ≤ w.heap.size + 1 + 1 + 1 + 1 + 1 + 1 + 1; omega) (by show w.heap.size + 1 + 1 + 1 + 1 + 1 + 1 + 1 ≠ w.heap.size + 1; omega))
      have HO4 := Lib.hid o4
      have C2' := Lib.hid B6
      have hs1 : W.heap.size ≤ W1.heap.size := KO1.out.size
      have hs2 : W1.heap.size ≤ W2.heap.size := O2.out.size
      have hs3 : W2.heap.size ≤ W3.heap.size := KO3.out.size
      have hs4 : W3.heap.size ≤ W4.heap.size := KO4.out.size
      clear hW3 o3 B5 D1 BX3 D2 hW4 o4 B6
      gi_wp2_with (first | (with_reducible rw [HW3.out]) | (with_reducible rw [HW4.out]))
      have no : ∀ j, j ≠ w.heap.size + 1 + 1 + 1 + 1 + 1 + 1 + 1 → ¬ isb (w.heap.size + 1 + 1 + 1 + 1 + 1 + 1 + 1) j := fun j hj e => hj e
      have r0 := R0'.out.keep HO4.out (no _ (by omega))
      have r0c := r0.cell 0
      simp at r0c
      refine ⟨(((KO1.out.trans (others_only O2.out)).trans KO3.out).trans KO4.out).from _, ⟨((KB1.out.trans (KeepsB.only O2.out (by omega) (by omega))).trans KB3.out).trans KB4.out, fun _ => sane_int r0c⟩, HY.out,
        ⟨r0, R1'.out.keep HO4.out (no _ (by omega)), R2'.out.keep HO4.out (no _ (by omega)), R3'.out.keep HO4.out (no _ (by omega)), ?_, ?_, ?_⟩, ?_, by omega⟩
      · rw [List.length_append]; exact C0'.out.keep HO4.out (no _ (by omega))
      · rw [suZ_snoc, ← HSZ.out, ← HSY.out]; exact C1'.out.keep HO4.out (no _ (by omega))
      · rw [fdZ_snoc, ← HFZ.out]; exact C2'.out
      · exact HB.out.trans (((KB1.out.below.trans (O2.out.below (by omega) fun _ h => h.elim)).trans KB3.out.below).trans KB4.out.below)
    · have he' : (y.e == 0) = false := by simpa using he
      have HE := Lib.hid he
      have HY := Lib.hid hy
      have r0 := b0.cell 0
      have r1 := b1.cell 0
      have r2 := b2.cell 0
      have r3 := b3.cell 0
      have f0 := b0.free 0
      have f1 := b1.free 0
      have f2 := b2.free 0
      have f3 := b3.free 0
      simp at r0 r1 r2 r3
      clear he hy
      gi_wp2
      refine ⟨((((KeepsOthers.setCell _ _ _).trans (KeepsOthers.setCell _ _ _)).trans (KeepsOthers.setCell _ _ _)).trans (KeepsOthers.setCell _ _ _)).from _, rfl, pre, y, rfl, HY.out, HE.out, ⟨?_, ?_, ?_, ?_⟩, ?_⟩
      · simpa using ((((b0).put 0 _).other (p := ⟨w.heap.size + 1 + 1, 0, none⟩) (by show w.heap.size + 1 + 1 ≠ w.heap.size + 1; omega) _).other (p := ⟨w.heap.size + 1 + 1 + 1, 0, none⟩) (by show w.heap.size + 1 + 1 + 1 ≠ w.heap.size + 1; omega) _).other (p := ⟨w.heap.size + 1 + 1 + 1 + 1, 0, none⟩) (by show w.heap.size + 1 + 1 + 1 + 1 ≠ w.heap.size + 1; omega) _
      · simpa using ((((b1).other (p := ⟨w.heap.size + 1, 0, none⟩) (by show w.heap.size + 1 ≠ w.heap.size + 1 + 1; omega) _).put 0 _).other (p := ⟨w.heap.size + 1 + 1 + 1, 0, none⟩) (by show w.heap.size + 1 + 1 + 1 ≠ w.heap.size + 1 + 1; omega) _).other (p := ⟨w.heap.size + 1 + 1 + 1 + 1, 0, none⟩) (by show w.heap.size + 1 + 1 + 1 + 1 ≠ w.heap.size + 1 + 1; omega) _
      · simpa using ((((b2).other (p := ⟨w.heap.size + 1, 0, none⟩) (by show w.heap.size + 1 ≠ w.heap.size + 1 + 1 + 1; omega) _).other (p := ⟨w.heap.size + 1 + 1, 0, none⟩) (by show w.heap.size + 1 + 1 ≠ w.heap.size + 1 + 1 + 1; omega) _).put 0 _).other (p := ⟨w.heap.size + 1 + 1 + 1 + 1, 0, none⟩) (by show w.heap.size + 1 + 1 + 1 + 1 ≠ w.heap.size + 1 + 1 + 1; omega) _
      · simpa using ((((b3).other (p := ⟨w.heap.size + 1, 0, none⟩) (by show w.heap.size + 1 ≠ w.heap.size + 1 + 1 + 1 + 1; omega) _).other (p := ⟨w.heap.size + 1 + 1, 0, none⟩) (by show w.heap.size + 1 + 1 ≠ w.heap.size + 1 + 1 + 1 + 1; omega) _).other (p := ⟨w.heap.size + 1 + 1 + 1, 0, none⟩) (by show w.heap.size + 1 + 1 + 1 ≠ w.heap.size + 1 + 1 + 1 + 1; omega) _).put 0 _
      · exact ((((hb.setCell (p := ⟨w.heap.size + 1, 0, none⟩) (by show w.heap.size ≤ w.heap.size + 1; omega) _).setCell (p := ⟨w.heap.size + 1 + 1, 0, none⟩) (by show w.heap.size ≤ w.heap.size + 1 + 1; omega) _).setCell (p := ⟨w.heap.size + 1 + 1 + 1, 0, none⟩) (by show w.heap.size ≤ w.heap.size + 1 + 1 + 1; omega) _).setCell (p := ⟨w.heap.size + 1 + 1 + 1 + 1, 0, none⟩) (by show w.heap.size ≤ w.heap.size + 1 + 1 + 1 + 1; omega) _)
  case done =>
    rintro D ys W hD rfl ⟨hy, ⟨b0, b1, b2, b3, b4, b5, b6⟩, hb, hz⟩ hK
    obtain ⟨-, k2, k3⟩ := wk_ok hy top
    obtain ⟨k4, k5⟩ := sums_all HH.out.ok top _ (walkL_item HH.out.ok hy) HNN.out
    have HK2 := Lib.hid k2
    have HK3 := Lib.hid k3
    have HK4 := Lib.hid k4
    have HK5 := Lib.hid k5
    have HKD := Lib.hid hK
    have c4 := b4.cell 0
    have c5 := b5.cell 0
    have c6 := b6.cell 0
    have r0 := b0.cell 0
    have r1 := b1.cell 0
    have r2 := b2.cell 0
    have r3 := b3.cell 0
    have f0 := b0.free 0
    have f1 := b1.free 0
    have f2 := b2.free 0
    have f3 := b3.free 0
    simp at r0 r1 r2 r3 c4 c5 c6
    clear hy k2 k3 k4 k5 hK
    gi_wp2_with fail
    gi_region
    gi_wp2
    have hK' := (((((KeepsOthers.setCell _ _ _).trans (KeepsOthers.setCell _ _ _)).trans (KeepsOthers.setCell _ _ _)).trans (KeepsOthers.setCell _ _ _)).trans (KeepsOthers.drew _) : KeepsOthers W (((((W.setCell ⟨w.heap.size + 1, 0, none⟩ (.int .i64 ((walkL h x top).length))).setCell ⟨w.heap.size + 1 + 1, 0, none⟩ (.int .i64 (suZ (walkL h x top)))).setCell ⟨w.heap.size + 1 + 1 + 1, 0, none⟩ (.int .i64 (fdZ (walkL h x top)))).setCell ⟨w.heap.size + 1 + 1 + 1 + 1, 0, none⟩ (.int .i64 (0))).drew)).same D _ HKD.out rfl
    refine ⟨by simp, .inl ⟨_, _, rfl, run_takeDeferred hK', ?_⟩⟩
    have q0 := (blk_putObj (o' := .deferred none) (show Blk (((((W.setCell ⟨w.heap.size + 1, 0, none⟩ (.int .i64 ((walkL h x top).length))).setCell ⟨w.heap.size + 1 + 1, 0, none⟩ (.int .i64 (suZ (walkL h x top)))).setCell ⟨w.heap.size + 1 + 1 + 1, 0, none⟩ (.int .i64 (fdZ (walkL h x top)))).setCell ⟨w.heap.size + 1 + 1 + 1 + 1, 0, none⟩ (.int .i64 (0))).drew) (w.heap.size + 1) 3 #[.int .i64 ((walkL h x top).length)] from (show Blk ((((W.setCell ⟨w.heap.size + 1, 0, none⟩ (.int .i64 ((walkL h x top).length))).setCell ⟨w.heap.size + 1 + 1, 0, none⟩ (.int .i64 (suZ (walkL h x top)))).setCell ⟨w.heap.size + 1 + 1 + 1, 0, none⟩ (.int .i64 (fdZ (walkL h x top)))).setCell ⟨w.heap.size + 1 + 1 + 1 + 1, 0, none⟩ (.int .i64 (0))) (w.heap.size + 1) 3 #[.int .i64 ((walkL h x top).length)] by simpa using ((((b0).put 0 _).other (p := ⟨w.heap.size + 1 + 1, 0, none⟩) (by show w.heap.size + 1 + 1 ≠ w.heap.size + 1; omega) _).other (p := ⟨w.heap.size + 1 + 1 + 1, 0, none⟩) (by show w.heap.size + 1 + 1 + 1 ≠ w.heap.size + 1; omega) _).other (p := ⟨w.heap.size + 1 + 1 + 1 + 1, 0, none⟩) (by show w.heap.size + 1 + 1 + 1 + 1 ≠ w.heap.size + 1; omega) _)) hK' rfl).cell 0
    have q1 := (blk_putObj (o' := .deferred none) (show Blk (((((W.setCell ⟨w.heap.size + 1, 0, none⟩ (.int .i64 ((walkL h x top).length))).setCell ⟨w.heap.size + 1 + 1, 0, none⟩ (.int .i64 (suZ (walkL h x top)))).setCell ⟨w.heap.size + 1 + 1 + 1, 0, none⟩ (.int .i64 (fdZ (walkL h x top)))).setCell ⟨w.heap.size + 1 + 1 + 1 + 1, 0, none⟩ (.int .i64 (0))).drew) (w.heap.size + 1 + 1) 3 #[.int .i64 (suZ (walkL h x top))] from (show Blk ((((W.setCell ⟨w.heap.size + 1, 0, none⟩ (.int .i64 ((walkL h x top).length))).setCell ⟨w.heap.size + 1 + 1, 0, none⟩ (.int .i64 (suZ (walkL h x top)))).setCell ⟨w.heap.size + 1 + 1 + 1, 0, none⟩ (.int .i64 (fdZ (walkL h x top)))).setCell ⟨w.heap.size + 1 + 1 + 1 + 1, 0, none⟩ (.int .i64 (0))) (w.heap.size + 1 + 1) 3 #[.int .i64 (suZ (walkL h x top))] by simpa using ((((b1).other (p := ⟨w.heap.size + 1, 0, none⟩) (by show w.heap.size + 1 ≠ w.heap.size + 1 + 1; omega) _).put 0 _).other (p := ⟨w.heap.size + 1 + 1 + 1, 0, none⟩) (by show w.heap.size + 1 + 1 + 1 ≠ w.heap.size + 1 + 1; omega) _).other (p := ⟨w.heap.size + 1 + 1 + 1 + 1, 0, none⟩) (by show w.heap.size + 1 + 1 + 1 + 1 ≠ w.heap.size + 1 + 1; omega) _)) hK' rfl).cell 0
    have q2 := (blk_putObj (o' := .deferred none) (show Blk (((((W.setCell ⟨w.heap.size + 1, 0, none⟩ (.int .i64 ((walkL h x top).length))).setCell ⟨w.heap.size + 1 + 1, 0, none⟩ (.int .i64 (suZ (walkL h x top)))).setCell ⟨w.heap.size + 1 + 1 + 1, 0, none⟩ (.int .i64 (fdZ (walkL h x top)))).setCell ⟨w.heap.size + 1 + 1 + 1 + 1, 0, none⟩ (.int .i64 (0))).drew) (w.heap.size + 1 + 1 + 1) 3 #[.int .i64 (fdZ (walkL h x top))] from (show Blk ((((W.setCell ⟨w.heap.size + 1, 0, none⟩ (.int .i64 ((walkL h x top).length))).setCell ⟨w.heap.size + 1 + 1, 0, none⟩ (.int .i64 (suZ (walkL h x top)))).setCell ⟨w.heap.size + 1 + 1 + 1, 0, none⟩ (.int .i64 (fdZ (walkL h x top)))).setCell ⟨w.heap.size + 1 + 1 + 1 + 1, 0, none⟩ (.int .i64 (0))) (w.heap.size + 1 + 1 + 1) 3 #[.int .i64 (fdZ (walkL h x top))] by simpa using ((((b2).other (p := ⟨w.heap.size + 1, 0, none⟩) (by show w.heap.size + 1 ≠ w.heap.size + 1 + 1 + 1; omega) _).other (p := ⟨w.heap.size + 1 + 1, 0, none⟩) (by show w.heap.size + 1 + 1 ≠ w.heap.size + 1 + 1 + 1; omega) _).put 0 _).other (p := ⟨w.heap.size + 1 + 1 + 1 + 1, 0, none⟩) (by show w.heap.size + 1 + 1 + 1 + 1 ≠ w.heap.size + 1 + 1 + 1; omega) _)) hK' rfl).cell 0
    have q3 := (blk_putObj (o' := .deferred none) (show Blk (((((W.setCell ⟨w.heap.size + 1, 0, none⟩ (.int .i64 ((walkL h x top).length))).setCell ⟨w.heap.size + 1 + 1, 0, none⟩ (.int .i64 (suZ (walkL h x top)))).setCell ⟨w.heap.size + 1 + 1 + 1, 0, none⟩ (.int .i64 (fdZ (walkL h x top)))).setCell ⟨w.heap.size + 1 + 1 + 1 + 1, 0, none⟩ (.int .i64 (0))).drew) (w.heap.size + 1 + 1 + 1 + 1) 28 #[.int .i64 (0)] from (show Blk ((((W.setCell ⟨w.heap.size + 1, 0, none⟩ (.int .i64 ((walkL h x top).length))).setCell ⟨w.heap.size + 1 + 1, 0, none⟩ (.int .i64 (suZ (walkL h x top)))).setCell ⟨w.heap.size + 1 + 1 + 1, 0, none⟩ (.int .i64 (fdZ (walkL h x top)))).setCell ⟨w.heap.size + 1 + 1 + 1 + 1, 0, none⟩ (.int .i64 (0))) (w.heap.size + 1 + 1 + 1 + 1) 28 #[.int .i64 (0)] by simpa using ((((b3).other (p := ⟨w.heap.size + 1, 0, none⟩) (by show w.heap.size + 1 ≠ w.heap.size + 1 + 1 + 1 + 1; omega) _).other (p := ⟨w.heap.size + 1 + 1, 0, none⟩) (by show w.heap.size + 1 + 1 ≠ w.heap.size + 1 + 1 + 1 + 1; omega) _).other (p := ⟨w.heap.size + 1 + 1 + 1, 0, none⟩) (by show w.heap.size + 1 + 1 + 1 ≠ w.heap.size + 1 + 1 + 1 + 1; omega) _).put 0 _)) hK' rfl).cell 0
    simp only [List.getElem?_toArray, List.getElem?_cons_zero] at q0 q1 q2 q3
    have ob := below_done (show Below w.heap.size w (((((W.setCell ⟨w.heap.size + 1, 0, none⟩ (.int .i64 ((walkL h x top).length))).setCell ⟨w.heap.size + 1 + 1, 0, none⟩ (.int .i64 (suZ (walkL h x top)))).setCell ⟨w.heap.size + 1 + 1 + 1, 0, none⟩ (.int .i64 (fdZ (walkL h x top)))).setCell ⟨w.heap.size + 1 + 1 + 1 + 1, 0, none⟩ (.int .i64 (0))).drew) from Below.drew ((((hb.setCell (p := ⟨w.heap.size + 1, 0, none⟩) (by show w.heap.size ≤ w.heap.size + 1; omega) _).setCell (p := ⟨w.heap.size + 1 + 1, 0, none⟩) (by show w.heap.size ≤ w.heap.size + 1 + 1; omega) _).setCell (p := ⟨w.heap.size + 1 + 1 + 1, 0, none⟩) (by show w.heap.size ≤ w.heap.size + 1 + 1 + 1; omega) _).setCell (p := ⟨w.heap.size + 1 + 1 + 1 + 1, 0, none⟩) (by show w.heap.size ≤ w.heap.size + 1 + 1 + 1 + 1; omega) _)) (by omega) hK'
    refine ⟨.tuple #[.int .i64 (walkL h x top).length, .int .i64 (suZ (walkL h x top)), .int .i64 (fdZ (walkL h x top)), .int .i64 0], ?_, by rw [HK2.out, HK3.out, HK4.out, HK5.out, ats_len], ob⟩
    simp [results, Tryd.results11, go_sem, q0, q1, q2, q3]
  case stop =>
    rintro D c pre W hD ⟨rest, hrest⟩ ⟨rfl, pre0, y, rfl, hy0, hy, ⟨b0, b1, b2, b3⟩, hb⟩ hK
    obtain ⟨-, k2, k3⟩ := wk_no (R := rest) hy0 hy top
    rw [List.append_assoc, List.singleton_append] at hrest
    rw [hrest] at k2 k3
    have HK2 := Lib.hid k2
    have HK3 := Lib.hid k3
    clear k2 k3 hrest
    gi_wp2
    refine ⟨by simp, .inl ⟨_, _, rfl, run_takeDeferred hK, ?_⟩⟩
    have q0 := (blk_putObj (o' := .deferred none) b0 hK rfl).cell 0
    have q1 := (blk_putObj (o' := .deferred none) b1 hK rfl).cell 0
    have q2 := (blk_putObj (o' := .deferred none) b2 hK rfl).cell 0
    have q3 := (blk_putObj (o' := .deferred none) b3 hK rfl).cell 0
    simp at q0 q1 q2 q3
    refine ⟨.tuple #[.int .i64 0, .int .i64 0, .int .i64 0, .int .i64 y.e], ?_, by rw [HK2.out, HK3.out]; rfl, below_done hb (by omega) hK⟩
    simp [results, Tryd.results11, go_sem, q0, q1, q2, q3]
end Go.Proofs.YtlejicbnobfldaaDoor

/- Contracts of package walk: Starts; and of the document's own Ints and Starts. -/
namespace Go.Proofs.YtlejicbnobfldaaDoor
open Go.RowKit
set_option maxRecDepth 100000

/-- Is z one of l? -/
def isOne (l : List Int) (z : Int) : Bool := l.any (· == z)
theorem isOne_take {l : List Int} {k : Nat} {z y : Int} (h : isOne (l.take k) z = false) (hy : l[k]? = some y) (hn : (y == z) = false) : isOne (l.take (k + 1)) z = false := by
  unfold isOne at *
  rw [List.take_add_one, hy, List.any_append, h]
  simp [hn]
theorem isOne_yes {l : List Int} {k : Nat} {z y : Int} (hy : l[k]? = some y) (hn : (y == z) = true) : isOne l z = true := by
  unfold isOne
  rw [List.any_eq_true]
  exact ⟨y, List.mem_of_getElem? hy, hn⟩

set_option maxHeartbeats 1000000 in
theorem index_any (v : Value) (l : List Int) (z : Int) (B : Nat) (w : World) (h : Sl w B 1 v l.length (i64s l)) :
    Calls Tryd.prog 42 #[v, .int .i64 z] w fun e w' => ∃ k : Int, e = .returned (.int .i64 k) ∧ decide (0 ≤ k) = isOne l z ∧ w = w' := by
  have HS := Lib.hid h
  obtain ⟨A, c, rfl, hnc, hcm, -⟩ := h
  unfold maxLen at hcm
  go_enter Tryd.func42, Tryd.ntmps42
  go_wp2_with fail
  go_loopw [8] (fun s wr => wr = w ∧ ∃ k : Nat, s = .int .i64 k ∧ k ≤ l.length ∧ Hid (isOne (l.take k) z = false)) (fun s _ => l.length - (intOf s).toNat)
  case atStart => exact ⟨rfl, 0, rfl, Nat.zero_le _, Lib.hid rfl⟩
  case round =>
    obtain ⟨rfl, k, rfl, hk, HN⟩ := hrel
    by_cases hlt : k < l.length
    · obtain ⟨y, hy⟩ : ∃ y, l[k]? = some y := ⟨_, List.getElem?_eq_getElem hlt⟩
      obtain ⟨b, o, rfl, -, hc⟩ := sl_int HS.out (Below.refl _ _) hy
      have HY := Lib.hid hy
      clear hy
      rcases he : (y == z) with _ | _
      · have he' : (z == y) = false := by rw [← he]; exact Bool.beq_comm
        have HN2 := Lib.hid (isOne_take HN.out HY.out he)
        clear he
        go_wp2
        go_roundw
        case rel => exact ⟨trivial, k + 1, rfl, hlt, HN2⟩
        case measure => simp [intOf]; omega
      · have he' : (z == y) = true := by rw [← he]; exact Bool.beq_comm
        have HN2 := Lib.hid (isOne_yes HY.out he)
        clear he
        go_wp2
        go_ret
        exact ⟨k, rfl, by rw [HN2.out]; exact decide_eq_true (by omega), rfl⟩
    · have HE := Lib.hid (show isOne l z = false by have := HN.out; rwa [List.take_of_length_le (by omega)] at this)
      go_wp2
      go_ret
      exact ⟨-1, rfl, by rw [HE.out]; rfl, rfl⟩

set_option maxHeartbeats 1000000 in
theorem contains_any (v : Value) (l : List Int) (z : Int) (B : Nat) (w : World) (h : Sl w B 1 v l.length (i64s l)) :
    Calls Tryd.prog 27 #[v, .int .i64 z] w fun e w' => e = .returned (.bool (isOne l z)) ∧ w = w' := by
  have HS := Lib.hid h
  obtain ⟨A, c, rfl, -⟩ := h
  go_enter Tryd.func27, Tryd.ntmps27
  go_wp2_with fail
  go_at_call 42
  refine (index_any _ l z B _ HS.out).mono ?_
  rintro e w1 ⟨k, rfl, hk, rfl⟩
  have HK := Lib.hid hk
  clear hk
  go_wp2
  go_ret
  exact ⟨ret_bool (by rw [← HK.out]), rfl⟩
theorem wStarts (v : Value) (l : List Int) (z : Int) (B : Nat) (w : World) (h : Sl w B 1 v l.length (i64s l)) :
    Calls Tryd.prog 14 #[v, .int .i64 z] w fun e w' => e = .returned (.bool (isOne l z)) ∧ w = w' := by
  have HS := Lib.hid h
  obtain ⟨A, c, rfl, -⟩ := h
  go_enter Tryd.func14, Tryd.ntmps14
  go_wp2_with fail
  go_at_call 27
  refine (contains_any _ l z B _ HS.out).mono ?_
  rintro e w1 ⟨rfl, rfl⟩
  go_wp2
  go_ret
  exact ⟨rfl, rfl⟩
set_option maxHeartbeats 1000000 in
theorem rStarts (v : Value) (l : List Int) (z : Int) (B : Nat) (w : World) (h : Sl w B 1 v l.length (i64s l)) :
    Calls Tryd.prog 15 #[v, .int .i64 z] w fun e w' => e = .returned (.bool (isOne l z)) ∧ w = w' := by
  have HS := Lib.hid h
  obtain ⟨A, c, rfl, hnc, hcm, -⟩ := h
  unfold maxLen at hcm
  go_enter Tryd.func15, Tryd.ntmps15
  go_wp2_with fail
  go_loopw [5] (fun s wr => wr = w ∧ ∃ k : Nat, s = .int .i64 k ∧ k ≤ l.length ∧ Hid (isOne (l.take k) z = false)) (fun s _ => l.length - (intOf s).toNat)
  case atStart => exact ⟨rfl, 0, rfl, Nat.zero_le _, Lib.hid rfl⟩
  case round =>
    obtain ⟨rfl, k, rfl, hk, HN⟩ := hrel
    by_cases hlt : k < l.length
    · obtain ⟨y, hy⟩ : ∃ y, l[k]? = some y := ⟨_, List.getElem?_eq_getElem hlt⟩
      obtain ⟨b, o, rfl, -, hc⟩ := sl_int HS.out (Below.refl _ _) hy
      have HY := Lib.hid hy
      clear hy
      rcases he : (y == z) with _ | _
      · have HN2 := Lib.hid (isOne_take HN.out HY.out he)
        go_wp2
        go_roundw
        case rel => exact ⟨trivial, k + 1, rfl, hlt, HN2⟩
        case measure => simp [intOf]; omega
      · have HN2 := Lib.hid (isOne_yes HY.out he)
        go_wp2
        go_ret
        exact ⟨ret_bool (by rw [HN2.out]), rfl⟩
    · have HE := Lib.hid (show isOne l z = false by have := HN.out; rwa [List.take_of_length_le (by omega)] at this)
      go_wp2
      go_ret
      exact ⟨ret_bool (by rw [HE.out]), rfl⟩
/-- The same numbers. -/
theorem rInts (va vb : Value) (l : List Int) (B B' : Nat) (w : World) (ha : Sl w B 1 va l.length (i64s l)) (hb : Sl w B' 1 vb l.length (i64s l)) :
    Calls Tryd.prog 13 #[va, vb] w fun e w' => e = .returned (.bool true) ∧ ∃ m, w' = w.drewN m := by
  have HA := Lib.hid ha
  have HB := Lib.hid hb
  obtain ⟨A, ca, rfl, hac, ham, -⟩ := ha
  obtain ⟨A', cb, rfl, hbc, hbm, -⟩ := hb
  unfold maxLen at ham hbm
  go_enter Tryd.func13, Tryd.ntmps13
  go_wp2
  go_loopw [5] (fun i wr => ∃ k m : Nat, k ≤ l.length ∧ i = .int .i64 k ∧ wr = w.drewN m) (fun i _ => l.length - (intOf i).toNat)
  case atStart => exact ⟨0, 0, Nat.zero_le _, rfl, rfl⟩
  case round =>
    obtain ⟨k, m, hk, rfl, rfl⟩ := hrel
    by_cases hlt : k < l.length
    · obtain ⟨y, hy⟩ : ∃ y, l[k]? = some y := ⟨_, List.getElem?_eq_getElem hlt⟩
      obtain ⟨b1, o1, rfl, -, g1⟩ := sl_int HA.out (Below.refl _ _) hy
      obtain ⟨b2, o2, rfl, -, g2⟩ := sl_int HB.out (Below.refl _ _) hy
      clear hy
      go_wp2
      go_quiet (fail)
      go_wp2
      go_roundw
      case rel => exact ⟨k + 1, _, by omega, by go_num, rfl⟩
      case measure => simp [intOf]; omega
    · obtain rfl : k = l.length := by omega
      go_wp2
      go_ret
      exact ⟨rfl, _, rfl⟩
end Go.Proofs.YtlejicbnobfldaaDoor
