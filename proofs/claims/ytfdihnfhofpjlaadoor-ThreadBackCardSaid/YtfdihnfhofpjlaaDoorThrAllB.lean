/- Contract of package thread: All, of a list that may be. -/
import Derived.Test.YtfdihnfhofpjlaaDoorThrAll
import Derived.Test.YtfdihnfhofpjlaaDoorInts
import Derived.Test.YtfdihnfhofpjlaaDoorQuiets
import Derived.Deep.QuietTactic
import Derived.BigQuiet
namespace Go.Proofs.YtfdihnfhofpjlaaDoor
open Go.RowKit Go.Shelf Go.Sort
attribute [local go_sem] Oper.semAt_some
set_option maxRecDepth 100000

theorem places_in (n : Nat) (v vt : Value) (top : Int) (w : World) (hv : ∃ A, v = .pointer A) (hvt : ∃ A m c, vt = .slice A m c) : CallsIn Fence.wide n Tryd.prog 21 #[v, vt, .int .i64 top] w fun e w' =>
    e = .returned (.func (.func 27) #[] #[.pointer (some ⟨w.heap.size + 1 + 1, 0, none⟩), .pointer (some ⟨w.heap.size, 0, none⟩), .pointer (some ⟨w.heap.size + 1, 0, none⟩)]) ∧
    w' = ((w.alloc (.cells #[v] 24)).alloc (.cells #[vt] 28)).alloc (.cells #[.int .i64 top] 3) := by
  refine callsIn_wide.2 ?_
  obtain ⟨A, rfl⟩ := hv
  obtain ⟨B, m, c, rfl⟩ := hvt
  go_enter Tryd.func21, Tryd.ntmps21
  go_wp2_with fail
  go_ret
  exact ⟨rfl, rfl⟩
/-- The world in which the iterator's boxes are laid. -/
theorem threeT_laid (b : Nat) (V : World) (v vt : Value) (top : Int) (hb : b < V.heap.size) (hs : Sane b V) :
    ∃ W, ((V.alloc (.cells #[v] 24)).alloc (.cells #[vt] 28)).alloc (.cells #[.int .i64 top] 3) = W ∧ Only nob V W ∧ W.heap.size = V.heap.size + 3 ∧
      ThreeT V.heap.size b (V.heap.size + 1 + 1) V.heap.size (V.heap.size + 1) top v vt W ∧ Sane b W := by
  have o : Only nob V (((V.alloc (.cells #[v] 24)).alloc (.cells #[vt] 28)).alloc (.cells #[.int .i64 top] 3)) := (((Only.refl nob V).alloc _).alloc _).alloc _
  have no : ∀ k, V.heap.size ≤ k → ¬ mine b (((V.alloc (.cells #[v] 24)).alloc (.cells #[vt] 28)).alloc (.cells #[.int .i64 top] 3)) k := by
    rintro k hk ⟨_, u, h1, h2⟩
    have := hs u k (by rw [← h1]; exact (World.cell?_of_block (a := ⟨b, 0, none⟩) (o.block b hb id)).symm) h2
    omega
  refine ⟨_, rfl, o, by simp, ⟨⟨Blk.newAt _ _ _ _ (by simp), by omega, no _ (by omega)⟩, ⟨((Blk.new V _ _).alloc _).alloc _, Nat.le_refl _, no _ (Nat.le_refl _)⟩, ⟨(Blk.newAt _ _ _ _ (by simp)).alloc _, by omega, no _ (by omega)⟩⟩, hs.only o hb⟩

/-- A box stays, when a row of another type grows. -/
theorem blk_row12 {W w1 : World} {g n0 : Nat} {t e : TypeId} {u v : Value} {size k : Nat} {xs : List Value} {tmp : Obj} (h : Blk W g t #[u]) (hte : t ≠ e) (hrow : W.ownsRow n0 e size v k xs) (hg : (W.alloc tmp).grownBy w1 v.ownBlock) : Blk w1 g t #[u] :=
  (hg.block g (h.alloc tmp).lt (Boxed.not_row (show Boxed W g t u from h) hte hrow)).trans (h.alloc tmp)
def natI (l : List Nat) : List Int := l.map Int.ofNat
theorem natI_len (l : List Nat) : (natI l).length = l.length := List.length_map _
theorem natI_snoc (l : List Nat) (k : Nat) : natI (l ++ [k]) = natI l ++ [(k : Int)] := by simp [natI]

set_option maxHeartbeats 4000000 in
theorem all_ok (v vt : Value) (hv : ∃ A, v = .pointer A) (h : Int → Hd) (T : List Sp) (top : Int) (xs : List Nat) (w : World) (H : Heads v w.heap.size h w) (ht : Sl w w.heap.size 2 vt T.length (spc T)) (hc : ChainL h T top xs) (hfew : xs.length ≤ T.length) (hT : T.length ≤ 1000000) :
    Calls Tryd.prog 11 #[v, vt, .int .i64 top] w fun e w' => ∃ v', e = .returned (.tuple #[v', .int .i64 0]) ∧
      w'.ownsRow w.heap.size 3 1 v' xs.length (i64s (natI xs)) ∧ Only nob w w' := by
  obtain ⟨i0, hi0, hz0, hz1, hz2⟩ := info_parts info_int
  have HH := Lib.hid H
  have HS := Lib.hid ht
  have HC := Lib.hid hc
  have HPV := Lib.hid hv
  have HPT := Lib.hid (show ∃ A m c, vt = .slice A m c from by obtain ⟨A, c, e, -⟩ := ht; exact ⟨A, _, c, e⟩)
  clear H hc ht hv
  obtain ⟨V, hV, HV⟩ : ∃ V, ((w.alloc (.cells #[.slice none 0 0] 22)).alloc (.cells #[.int .i64 0] 25)).alloc (.cells #[.slice none 0 0] 22) = V ∧ Hid (Only nob w V ∧ V.heap.size = w.heap.size + 3 ∧ Blk V w.heap.size 22 #[.slice none 0 0] ∧ Blk V (w.heap.size + 1) 25 #[.int .i64 0] ∧ Blk V (w.heap.size + 1 + 1) 22 #[.slice none 0 0]) :=
    ⟨_, rfl, Lib.hid ⟨(((Only.refl nob w).alloc _).alloc _).alloc _, by simp, ((Blk.new w _ _).alloc _).alloc _, (Blk.newAt _ _ _ _ (by simp)).alloc _, Blk.newAt _ _ _ _ (by simp)⟩⟩
  have HVE := Lib.hid hV
  clear hV
  refine (callsIn_wide (n := 3)).1 ?_
  refine callsIn_of_wp_marks Tryd.func11 rfl trivial ?_ rfl
  simp only [Tryd.ntmps11, List.size_toArray, List.length_cons, List.length_nil, Nat.reduceAdd, Nat.reduceSub, Array.replicate_succ, Array.replicate_zero, List.push_toArray, List.append_toArray, List.nil_append, List.cons_append]
  gi_wp2_with (first | (with_reducible rw [HVE.out]) | (refine ⟨trivial, ?_⟩; gi_at_call 21; refine (places_in _ _ _ _ _ HPV.out HPT.out).mono ?_; rintro e w' ⟨rfl, rfl⟩))
  have bR0 := HV.out.2.2.2.2.cell 0
  simp at bR0
  obtain ⟨W0, hW0, o0, hsz, h3, hsa⟩ := threeT_laid (w.heap.size + 1 + 1) V v vt top (by have := HV.out.2.1; omega) (fun u k h1 h2 => by rw [bR0] at h1; cases h1; cases h2)
  rw [hW0]
  have hvs1 : w.heap.size + 3 ≤ V.heap.size := Nat.le_of_eq HV.out.2.1.symm
  have hvs2 : V.heap.size ≤ w.heap.size + 3 := Nat.le_of_eq HV.out.2.1
  have hsz1 : V.heap.size + 3 ≤ W0.heap.size := Nat.le_of_eq hsz.symm
  have hB0 : Below w.heap.size w W0 := HV.out.1.whole.trans (o0.whole.mono (by omega))
  have HD1 := Lib.hid (HH.out.later hB0 (Nat.le_refl _))
  have HS1 := Lib.hid (HS.out.below hB0)
  clear hW0 bR0 hsz
  refine wpIn_rangeFunc_ownH rfl (by decide) (gf := 27) (lb := #[.pointer (some ⟨V.heap.size + 1 + 1, 0, none⟩), .pointer (some ⟨V.heap.size, 0, none⟩), .pointer (some ⟨V.heap.size + 1, 0, none⟩)]) rfl trivial (enters_of Tryd.func27 (by kernel_rfl) rfl)
    (itPlaces (w.heap.size + 1 + 1) w.heap.size V.heap.size (V.heap.size + 1 + 1) V.heap.size (V.heap.size + 1) v vt h T top xs W0 HD1.out (by omega) (by omega) (by omega) HS1.out HC.out hfew hT h3 hsa) KeepsS.trans (fun W l o o' h1 h2 h3 _ => KeepsS.putObj W l o o' (by omega) (by omega) h2 h3) (Below.refl _ _) (fun _ => rfl)
    (fun pre W => (∃ v, Boxed W (w.heap.size + 1 + 1) 22 v ∧ W.ownsRow w.heap.size 3 1 v (natI pre).length (i64s (natI pre))) ∧ Blk W w.heap.size 22 #[.slice none 0 0] ∧ Blk W (w.heap.size + 1) 25 #[.int .i64 0] ∧ Below w.heap.size w W ∧ W0.heap.size ≤ W.heap.size)
    (fun c pre W => False)
    ?hI ?hIx ⟨⟨.slice none 0 0, HV.out.2.2.2.2.keep o0 id, by exact World.ownsRow_nil _ _ _ _⟩, HV.out.2.2.1.keep o0 id, HV.out.2.2.2.1.keep o0 id, hB0, Nat.le_refl _⟩
    (fun y a' W => a' = { tmps := #[v, vt, .int .i64 top, undef, undef, undef, .pointer (some ⟨w.heap.size, 0, none⟩), .pointer (some ⟨w.heap.size + 1, 0, none⟩), .pointer (some ⟨w.heap.size + 1 + 1, 0, none⟩), .int .i64 y, .int .i64 0, v, vt, .int .i64 top, .func (.func 27) #[] #[.pointer (some ⟨V.heap.size + 1 + 1, 0, none⟩), .pointer (some ⟨V.heap.size, 0, none⟩), .pointer (some ⟨V.heap.size + 1, 0, none⟩)], .int .i64 y, .int .i64 0, undef, undef, undef, undef, undef, undef, undef, undef], defers := [] })
    (fun y a' _ X Y row hs hg hr => hs)
    ?assign ?body ?done ?stop
  case hI =>
    rintro pre W W' row ⟨⟨v, hv, hrow⟩, b0, b1, hb, hz⟩ hg hr
    have ho : Only (fun k => row = some k) W W' := only_grown hg fun k e _ => e
    refine ⟨⟨v, blk_kept hv hg fun r e => (hr r e).2, own_only hrow ho fun k hk e => ?_⟩, blk_kept b0 hg fun r e => (hr r e).2, blk_kept b1 hg fun r e => (hr r e).2, hb.grown hg hb.size (fun k e => by have := (hr k e).1; omega), Nat.le_trans hz hg.size⟩
    obtain ⟨o, h1, h2⟩ := (hr k e).2
    rcases hrow.2 with ⟨rfl, _⟩ | ⟨g, cap, cur, rfl, _, hgb, _⟩
    · cases hk
    · obtain rfl : g = k := by simpa [Value.ownBlock] using hk
      rw [hgb] at h1; cases h1; cases h2
  case hIx => exact fun c pre W W' row h => h.elim
  case assign =>
    rintro lp pre y W K hI hK
    dsimp only [encT]
    gi_wp2
    exact hK _ _ ((KeepsOthers.refl _).from _) ⟨KeepsB.refl _ _ _ _, id⟩ hI rfl
  case body =>
    rintro lp pre y a' W hl ⟨r, hr⟩ ⟨⟨v, hv, hrow⟩, b0, b1, hb, hz⟩ rfl hlt
    have hc := hv.cell
    have HLE := Lib.hid (show (natI pre).length < 1000000 by rw [natI_len]; omega)
    have B0 := Lib.hid b0
    have B1 := Lib.hid b1
    have hWB : w.heap.size ≤ W.heap.size := hb.size
    clear b0 b1
    gi_wp2_with (gi_at_builtin; refine wpListIn_append_own_at _ rfl _ _ 22 rfl w.heap.size 3 i0 _ 1 8 Tryd.underlying22 hi0 hz0 hz1 hz2 rfl (by decide) _ _ _ rfl (hrow.alloc _) ⟨W.heap.size, 0, none⟩ 1 1 (i64s [(y : Int)]) rfl rfl (cells_new _ _ _) (i64s_one _) (by have := maxLen_big; have := HLE.out; omega) (by have := HLE.out; omega) (by simp; omega) ?_; intro v' w1 hown' hgrow _ hvv; have HKB := Lib.hid (keepsB_appended (N0 := V.heap.size) hv (by decide) hrow hWB (by omega) (by omega) hown' hgrow hvv); have HO1 := Lib.hid hown'; have Q0 := Lib.hid (blk_row12 B0.out (by decide) hrow hgrow); have Q1 := Lib.hid (blk_row12 B1.out (by decide) hrow hgrow); obtain ⟨g', cap', rfl⟩ := ownsRow_succ hown'; clear hvv; obtain ⟨hv1, hv2, hr2, hk2, hb2⟩ := hv.appended (by decide) hrow hWB (by omega) hown' hgrow; have hc1 := hv1.cell; have hf1 := hv1.frozen)
    have hsn : i64s (natI (pre ++ [y])) = i64s (natI pre) ++ i64s [(y : Int)] := by rw [natI_snoc, i64s_append]
    have hln : (natI (pre ++ [y])).length = (natI pre).length + 1 := by rw [natI_snoc, List.length_append]; rfl
    refine ⟨hk2.from _, ⟨HKB.out, fun _ u k h1 h2 => ?_⟩, ⟨_, hv2, by rw [hsn, hln]; exact hr2⟩, Q0.out.other (p := ⟨w.heap.size + 1 + 1, 0, none⟩) (by show w.heap.size + 1 + 1 ≠ w.heap.size; omega) _, Q1.out.other (p := ⟨w.heap.size + 1 + 1, 0, none⟩) (by show w.heap.size + 1 + 1 ≠ w.heap.size + 1; omega) _, hb.trans hb2, Nat.le_trans hz hb2.size⟩
    rw [hv2.cell] at h1
    cases h1
    exact (own_lt hr2 h2).2
  case done =>
    rintro D ys W hD rfl ⟨⟨v, hv, hrow⟩, b0, b1, hb, hz⟩ hK
    have r0 := b0.cell 0
    have r1 := b1.cell 0
    have f0 := b0.free 0
    have f1 := b1.free 0
    have hc := hv.cell
    simp at r0 r1
    have HKD := Lib.hid hK
    obtain ⟨Av, cv, rfl, -⟩ := own_len hrow
    clear hK
    gi_wp2
    have hK' := ((KeepsOthers.setCell W ⟨w.heap.size, 0, none⟩ (.slice Av (natI ys).length cv)).trans (KeepsOthers.setCell _ ⟨w.heap.size + 1, 0, none⟩ (.int .i64 0))).same D _ HKD.out rfl
    refine ⟨by simp, .inl ⟨_, _, rfl, run_takeDeferred hK', ?_⟩⟩
    have q0 := (blk_putObj (o' := .deferred none) ((by simpa using b0.put 0 (.slice Av (natI ys).length cv) : Blk (W.setCell ⟨w.heap.size, 0, none⟩ (.slice Av (natI ys).length cv)) w.heap.size 22 #[.slice Av (natI ys).length cv]).other (p := ⟨w.heap.size + 1, 0, none⟩) (by show w.heap.size + 1 ≠ w.heap.size; omega) (.int .i64 0)) hK' rfl).cell 0
    have q1 := (blk_putObj (o' := .deferred none) ((b1.other (p := ⟨w.heap.size, 0, none⟩) (by show w.heap.size ≠ w.heap.size + 1; omega) (.slice Av (natI ys).length cv)).put 0 (.int .i64 0)) hK' rfl).cell 0
    simp at q0 q1
    have n0 := Boxed.not_row (show Boxed W w.heap.size 22 _ from b0) (by decide : 22 ≠ 3) hrow
    have n1 := Boxed.not_row (show Boxed W (w.heap.size + 1) 25 _ from b1) (by decide : 25 ≠ 3) hrow
    have hr1 := own_only hrow (only_set W w.heap.size 0 (.slice Av (natI ys).length cv)) fun k hk e => n0 (by unfold isb at e; rw [← e, hk])
    have hr2 := own_only hr1 (only_set _ (w.heap.size + 1) 0 (.int .i64 0)) fun k hk e => n1 (by unfold isb at e; rw [← e, hk])
    have ob := below_done ((hb.setCell (p := ⟨w.heap.size, 0, none⟩) (by show w.heap.size ≤ w.heap.size; omega) (.slice Av (natI ys).length cv)).setCell (p := ⟨w.heap.size + 1, 0, none⟩) (by show w.heap.size ≤ w.heap.size + 1; omega) (.int .i64 0)) (by omega) hK'
    refine ⟨.tuple #[.slice Av (natI ys).length cv, .int .i64 0], ?_, _, rfl, by rw [← natI_len ys]; exact ownsRow_putObj hr2 _ hK' rfl, ob⟩
    simp [results, Tryd.results11, go_sem, q0, q1]
  case stop => exact fun D c pre W hD _ h => h.elim
end Go.Proofs.YtfdihnfhofpjlaaDoor
