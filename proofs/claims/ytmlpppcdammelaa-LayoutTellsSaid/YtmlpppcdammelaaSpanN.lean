/- Contract of package span: Join. -/
import Derived.Test.YtmlpppcdammelaaSpanM
namespace Go.Proofs.Ytmlpppcdammelaa
open Go.RowKit Go.Shelf Go.Sort
attribute [local go_sem] Oper.semAt_some

/-- A round that appends to the row in the caller's box. -/
theorem keepsB_appended {W w1 : World} {n₀ N0 b : Nat} {t e : TypeId} {size : Nat} {v v' : Value} {k m : Nat} {xs ys : List Value} {tmp : Obj}
    (hv : Boxed W b t v) (hte : t ≠ e) (hrow : W.ownsRow n₀ e size v k xs) (hn₀ : n₀ ≤ W.heap.size) (hB : n₀ ≤ b) (hbN : b < N0)
    (hown' : w1.ownsRow n₀ e size v' m ys) (hgrow : (W.alloc tmp).grownBy w1 v.ownBlock) (hvv : v'.ownBlock = v.ownBlock ∨ v'.ownBlock = some (W.alloc tmp).heap.size) :
    KeepsB b N0 n₀ W (w1.setCell ⟨b, 0, none⟩ v') := by
  obtain ⟨-, h2, -, -, h5⟩ := hv.appended hte hrow hn₀ hB hown' hgrow
  refine ⟨h5, fun k o hk ho hc hm => ?_, fun k hm => ?_⟩
  · have hlt : k < W.heap.size := (Array.getElem?_eq_some_iff.1 ho).1
    have e1 : (w1.setCell ⟨b, 0, none⟩ v').heap[k]? = w1.heap[k]? := Below.heap_setCell w1 ⟨b, 0, none⟩ v' k (by show k ≠ b; omega)
    have e2 : w1.heap[k]? = (W.alloc tmp).heap[k]? := hgrow.block k (by simp; omega) (fun e => hm ⟨hlt, v, hv.cell, e.symm⟩)
    have e3 : (W.alloc tmp).heap[k]? = W.heap[k]? := Below.heap_alloc W tmp k hlt
    rw [e1, e2, e3]; exact ho
  · obtain ⟨_, u, hu1, hu2⟩ := hm
    rw [h2.cell] at hu1
    obtain rfl := Option.some.inj hu1
    rcases hvv with e | e
    · rw [e] at hu2
      exact .inl ⟨(hrow.lt k hu2).2, v, hv.cell, hu2⟩
    · rw [e] at hu2
      have := Option.some.inj hu2
      exact .inr (by rw [← this]; simp)
theorem cells_new (w : World) (t : TypeId) (cs : Array Value) : ∀ j u, cs.toList[j]? = some u → (w.alloc (.cells cs t)).cell? ((⟨w.heap.size, 0, none⟩ : Addr).add j) = some u := by
  intro j u hj
  have := (Blk.new w t cs).cell j
  rw [Array.getElem?_toList] at hj
  rw [show (⟨w.heap.size, 0, none⟩ : Addr).add j = ⟨w.heap.size, j, none⟩ by simp [Addr.add]; try (intro h; exact h.symm)]
  rw [this, hj]
theorem maxLen_big : 1000000 ≤ maxLen := by unfold maxLen; decide

set_option maxHeartbeats 2000000 in
theorem joined_in (n : Nat) (A : Option Addr) (k c : Nat) (w : World) : CallsIn Fence.wide n Try.prog 27 #[.slice A k c] w fun e w' =>
    e = .returned (.func (.func 31) #[] #[.pointer (some ⟨w.heap.size, 0, none⟩)]) ∧ w' = w.alloc (.cells #[.slice A k c] 34) := by
  refine callsIn_wide.2 ?_
  go_enter Try.func27, Try.ntmps27
  go_wp2_with fail
  go_ret
  exact ⟨rfl, rfl⟩

set_option maxHeartbeats 2000000 in
theorem spJoin : SpJoin := by
  intro v l B w hs hB hlen hf
  have HS := Lib.hid hs
  obtain ⟨A, ca, rfl, hac, ham, -⟩ := hs
  refine (callsIn_wide (n := 3)).1 ?_
  obtain ⟨i0, hi0, hz0, hz1, hz2⟩ := info_parts info_span
  refine callsIn_of_wp_marks Try.func20 rfl trivial ?_ rfl
  simp only [Try.ntmps20, List.size_toArray, List.length_cons, List.length_nil, Nat.reduceAdd, Nat.reduceSub, Array.replicate_succ, Array.replicate_zero, List.push_toArray, List.append_toArray, List.nil_append, List.cons_append]
  gi_wp2_with (refine ⟨trivial, ?_⟩; gi_at_call 27; refine (joined_in _ _ _ _ _).mono ?_; rintro e w' ⟨rfl, rfl⟩)
  have bO := (Boxed.new w 34 (.slice none 0 0)).alloc (.cells #[.slice A l.length ca] 34)
  have bN := Boxed.new (w.alloc (.cells #[.slice none 0 0] 34)) 34 (.slice A l.length ca)
  rw [World.size_alloc] at bN
  have hB0 : Below w.heap.size w ((w.alloc (.cells #[.slice none 0 0] 34)).alloc (.cells #[.slice A l.length ca] 34)) := ((Below.refl _ w).alloc (Nat.le_refl _) _).alloc (by simp) _
  have hsz : ((w.alloc (.cells #[.slice none 0 0] 34)).alloc (.cells #[.slice A l.length ca] 34)).heap.size = w.heap.size + 2 := by simp
  obtain ⟨W0, hW0⟩ : ∃ W0, (w.alloc (.cells #[.slice none 0 0] 34)).alloc (.cells #[.slice A l.length ca] 34) = W0 := ⟨_, rfl⟩
  rw [hW0] at bO bN hB0 hsz ⊢
  clear hW0
  refine wpIn_rangeFunc_ownH rfl (by decide) (gf := 31) (lb := #[.pointer (some ⟨w.heap.size + 1, 0, none⟩)]) rfl trivial (enters_of Try.func31 (by kernel_rfl) rfl)
    (itJoined w.heap.size (w.heap.size + 1) w.heap.size _ l W0 (by omega) (by omega) (by omega) bN.cell ((HS.out.more hB).below hB0) hlen hf (fun u k h1 h2 => by rw [bO.cell] at h1; cases h1; cases h2)) KeepsB.trans (fun W l o o' h1 h2 h3 _ => KeepsB.putObj W l o o' (by omega) (by omega) h2 h3) (Below.refl _ _) (fun _ => rfl)
    (fun pre W => (∃ v, Boxed W w.heap.size 34 v ∧ W.ownsRow w.heap.size 27 2 v (plain pre).length (spc (plain pre)) ∧ True) ∧ Below w.heap.size w W)
    (fun _ _ _ => False)
    (OwnFrom.and (Own.from (holdsRow_own w.heap.size w.heap.size 34 27 2 (fun pre => (plain pre).length) (fun pre => spc (plain pre)) (fun pre v => True)) _) (ownFrom_below (Nat.le_refl _) (by omega)))
    (fun _ _ _ _ _ hs _ _ => hs)
    ⟨⟨_, bO, World.ownsRow_nil _ _ _ _, trivial⟩, hB0⟩
    (fun x a' W => ∃ Bx, w.heap.size < Bx ∧ Blk W Bx 27 #[.int .i64 x.1.1, .int .i64 x.1.2] ∧ a' = { tmps := #[.slice A l.length ca, undef, .slice none 0 0, .pointer (some ⟨w.heap.size, 0, none⟩), .pointer (some ⟨Bx, 0, none⟩), .slice A l.length ca, .func (.func 31) #[] #[.pointer (some ⟨w.heap.size + 1, 0, none⟩)], .agg #[.int .i64 x.1.1, .int .i64 x.1.2], undef, undef, undef, undef, undef], defers := [] })
    (fun x a' _ X Y row hs hg hr => by
      obtain ⟨Bx, h1, h2, h3⟩ := hs
      refine ⟨Bx, h1, ?_, h3⟩
      exact (hg.block Bx h2.lt (fun e => by obtain ⟨o, ho, hc⟩ := (hr Bx e.symm).2; rw [show X.heap[Bx]? = _ from h2] at ho; cases ho; cases hc)).trans h2)
    ?assign ?body ?done ?stop
  case assign =>
    rintro l pre x W K ⟨⟨v, hv, hrow, -⟩, hB1⟩ hK
    gi_wp2
    exact hK _ _ ((KeepsOthers.alloc _ _).from _) (KeepsB.only ((Only.refl nob W).alloc _) hv.lt hB1.size) ⟨⟨v, hv.alloc _, hrow.alloc _, trivial⟩, hB1.alloc hB1.size _⟩ ⟨W.heap.size, hv.lt, Blk.new W 27 _, rfl⟩
  case body =>
    rintro lp pre x a' W hl ⟨r, hr⟩ ⟨⟨v, hv, hrow, -⟩, hB1⟩ ⟨Bx, hBx, bX, rfl⟩ hlt
    have hc := hv.cell
    have x0 : W.cell? ⟨Bx, 0, none⟩ = some (.int .i64 x.1.1) := bX.cell 0
    have x1 : W.cell? ⟨Bx, 1, none⟩ = some (.int .i64 x.1.2) := bX.cell 1
    have hpl := Lib.hid (show (plain pre).length = pre.length from List.length_map _)
    gi_wp2_with (gi_at_builtin; refine wpListIn_append_own_at _ rfl _ _ 34 rfl w.heap.size 27 i0 _ 2 16 Try.underlying34 hi0 hz0 hz1 hz2 rfl (by decide) _ _ _ rfl (hrow.alloc _) ⟨W.heap.size, 0, none⟩ 1 1 (spc [x.1]) rfl rfl (cells_new _ _ _) (spc_one _) (by have := maxLen_big; have := hpl.out; omega) (by have := hpl.out; omega) (by have := hB1.size; simp; omega) ?_; intro v' w1 hown' hgrow _ hvv; have HKB := Lib.hid (keepsB_appended (N0 := W0.heap.size) hv (by decide) hrow hB1.size (Nat.le_refl _) (by omega) hown' hgrow hvv); obtain ⟨g', cap', rfl⟩ := ownsRow_succ hown'; clear hvv; obtain ⟨hv1, hv2, hr2, hk2, hb2⟩ := hv.appended (by decide) hrow hB1.size (Nat.le_refl _) hown' hgrow; have hc1 := hv1.cell; have hf1 := hv1.frozen)
    have hsn : plain (pre ++ [x]) = plain pre ++ [x.1] := List.map_append
    exact ⟨hk2.from _, HKB.out, ⟨_, hv2, by rw [hsn, spc_append, List.length_append]; exact hr2, trivial⟩, hB1.trans hb2⟩
  case done =>
    rintro D ys W hD hS ⟨⟨v, hv, hrow, -⟩, hB1⟩ hK
    have hc := hv.cell
    gi_wp2
    refine ⟨by simp, .inl ⟨_, _, rfl, run_takeDeferred hK, ?_⟩⟩
    exact ⟨_, results_tmp rfl _ _ _, v, plain ys, rfl, hS.1, hS.2, Sl.of_own (ownsRow_putObj hrow _ hK rfl) (spc_len _), (show Only nob w _ from ⟨(hB1.trans (belowK_b (w := w) (Nat.le_refl _) W D _ _ (by omega) hK rfl rfl)).os, (hB1.trans (belowK_b (w := w) (Nat.le_refl _) W D _ _ (by omega) hK rfl rfl)).tape, (hB1.trans (belowK_b (w := w) (Nat.le_refl _) W D _ _ (by omega) hK rfl rfl)).output, (hB1.trans (belowK_b (w := w) (Nat.le_refl _) W D _ _ (by omega) hK rfl rfl)).size, fun k hk _ => (hB1.trans (belowK_b (w := w) (Nat.le_refl _) W D _ _ (by omega) hK rfl rfl)).block k hk⟩)⟩
  case stop =>
    rintro D c pre W _ _ h _
    exact h.elim
end Go.Proofs.Ytmlpppcdammelaa
