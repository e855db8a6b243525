/- slices.Sort at a row of the call's own; what is met, rising; package reach: Reach. -/
import Derived.Test.YtkjdnccnfnhkoaaReReach
import Derived.Test.YtkjdnccnfnhkoaaLay189
import Derived.Lib.SortBridge
namespace Go.Proofs.Ytkjdnccnfnhkoaa
open Go.RowKit Go.Lib Go.Sort Go.Shelf
set_option maxRecDepth 100000
set_option linter.unusedSimpArgs false
set_option linter.unusedVariables false

theorem setCells17 {b : Nat} {E : TypeId} : ∀ (vs : List Value) (o : Nat) (w : World) (cur : Array Value), Blk w b E cur → o + vs.length ≤ cur.size → ∃ cur', Blk (w.setCells b o vs) b E cur' ∧ cur'.size = cur.size ∧ (cur'.toList.drop o).take vs.length = vs ∧ (∀ j, j < o → cur'[j]? = cur[j]?) ∧ Only (isb b) w (w.setCells b o vs)
  | [], o, w, cur, h, _ => ⟨cur, h, rfl, by simp, fun _ _ => rfl, Only.refl _ _⟩
  | v :: r, o, w, cur, h, hl => by
    have hl' : o + (r.length + 1) ≤ cur.size := hl
    obtain ⟨c', h1, h2, h3, h4, h5⟩ := setCells17 r (o + 1) _ _ (h.put o v) (by simp; omega)
    refine ⟨c', h1, by simpa using h2, ?_, fun j hj => ?_, (only_set w b o v).trans h5⟩
    · have hv : c'.toList[o]? = some v := by rw [Array.getElem?_toList, h4 o (by omega), Array.getElem?_setIfInBounds_self_of_lt (by omega)]
      obtain ⟨hlt, hv2⟩ := List.getElem?_eq_some_iff.1 hv
      rw [List.drop_eq_getElem_cons hlt, List.length_cons, List.take_succ_cons, h3, hv2]
    · rw [h4 j (by omega), Array.getElem?_setIfInBounds_ne (by omega)]
theorem sorted_len (l : List Int) : (l.mergeSort fun x y => decide (x ≤ y)).length = l.length := List.length_mergeSort ..
theorem sort17 (w : World) (base : Nat) (v : Value) (l : List Int) (h : OwR w base 3 v l.length (i64s l)) (hl : l.length < 4611686018427387904) :
    Calls Try.prog 27 #[v] w fun e w' => e = .returned (.tuple #[]) ∧ OwR w' base 3 v l.length (i64s (l.mergeSort fun x y => decide (x ≤ y))) ∧ Only (fun k => v.ownBlock = some k) w w' := by
  rcases l with _ | ⟨x, l⟩
  · obtain ⟨A, c, rfl, -, -⟩ := h.form
    refine (Any.slices_Sort_int_none lays189 A c w).mono ?_
    rintro e w' ⟨rfl, rfl⟩
    exact ⟨rfl, by simpa using h, Only.refl _ _⟩
  · obtain ⟨L, hL⟩ : ∃ L, L = x :: l := ⟨_, rfl⟩
    rw [← hL] at h hl ⊢
    obtain ⟨A, c, rfl, -, -⟩ := h.form
    rcases h.2 with ⟨e, e2⟩ | ⟨g, o, cap, cur, e, hb, hg, h1, h2, h3, h4⟩
    · rw [hL] at e2; cases e2
    · simp only [Value.slice.injEq] at e
      obtain ⟨rfl, -, rfl⟩ := e
      have hbk : Blk w g 3 cur := hg
      have hc : ∀ j, j < L.length → w.cell? ⟨g, o + j, none⟩ = some (.int .i64 (L.getD j 0)) := fun j hj => by
        rw [hbk.cell, ← Array.getElem?_toList]
        have h5 : (i64s L)[j]? = some (.int .i64 (L.getD j 0)) := by
          unfold i64s
          rw [List.getElem?_map, List.getD_eq_getElem?_getD, List.getElem?_eq_getElem hj]; rfl
        rw [← h4, List.getElem?_take_of_lt hj, List.getElem?_drop] at h5
        exact h5
      have hH := Lib.holds_of_ints (Nat.le_refl _) hc fun j _ => hbk.free _
      rw [List.take_length] at hH
      refine (Any.slices_Sort_int lays189 g o c L w hH hbk.lt hl).mono ?_
      rintro e w' ⟨rfl, q, os, rfl⟩
      obtain ⟨S, hS⟩ : ∃ S, S = L.mergeSort fun x y => decide (x ≤ y) := ⟨_, rfl⟩
      have hSl : S.length = L.length := by rw [hS]; exact sorted_len L
      rw [← hS, Lib.sorted_world _ w g o q _ _ os hH (by simpa using hSl)]
      obtain ⟨cur', q1, q2, q3, -, q5⟩ := setCells17 (S.map (Value.int .i64)) o (w.drewN q) cur (hbk.drewN q) (by simp; omega)
      have o1 : Only (isb g) w ((w.drewN q).setCells g o (S.map (Value.int .i64))) := ((Only.refl _ w).drewN q).trans q5
      have hh : ∀ k, k < ((w.drewN q).setCells g o (S.map (Value.int .i64))).heap.size → (grow ((w.drewN q).setCells g o (S.map (Value.int .i64))) os).heap[k]? = ((w.drewN q).setCells g o (S.map (Value.int .i64))).heap[k]? := fun k hk => heap_grow_old _ os hk
      refine ⟨rfl, ⟨by simpa [i64s] using hSl, .inr ⟨g, o, c, cur', rfl, hb, (hh g q1.lt).trans q1, h1, h2, by omega, ?_⟩⟩, ⟨o1.os, o1.tape, o1.output, Nat.le_trans o1.size (by simp), fun k hk hn => (hh k (Nat.lt_of_lt_of_le hk o1.size)).trans (o1.block k hk fun e => hn (by rw [e]; rfl))⟩⟩
      rw [List.length_map, hSl] at q3
      exact q3
theorem upTo_mem {l : List Int} {n : Nat} {x : Int} : x ∈ upTo l n ↔ x ∈ l ∧ 0 ≤ x ∧ x < n := by
  unfold upTo
  rw [List.mem_filter, List.mem_map]
  constructor
  · rintro ⟨⟨k, hk, rfl⟩, h⟩
    have := List.mem_range.1 hk
    exact ⟨by simpa using h, by omega, by omega⟩
  · rintro ⟨h1, h2, h3⟩
    exact ⟨⟨x.toNat, List.mem_range.2 (by omega), by omega⟩, by simpa using h1⟩
theorem upTo_lt (l : List Int) (n : Nat) : (upTo l n).Pairwise (· < ·) := by
  unfold upTo
  refine List.Pairwise.filter _ ?_
  rw [List.pairwise_map]
  exact List.Pairwise.imp (fun h => by omega) List.pairwise_lt_range
theorem sort_upTo {l : List Int} {n : Nat} (hn : l.Nodup) (hr : ∀ x ∈ l, 0 ≤ x ∧ x < (n : Int)) : (l.mergeSort fun x y => decide (x ≤ y)) = upTo l n := by
  have p1 : (l.mergeSort fun x y => decide (x ≤ y)).Perm (upTo l n) := by
    refine (List.mergeSort_perm l _).trans ((List.perm_ext_iff_of_nodup hn ((upTo_lt l n).imp fun h => by omega)).2 fun x => ?_)
    rw [upTo_mem]
    exact ⟨fun h => ⟨h, hr x h⟩, fun h => h.1⟩
  have s1 := List.pairwise_mergeSort (le := fun x y : Int => decide (x ≤ y)) (fun a b c h1 h2 => by simp at h1 h2 ⊢; omega) (fun a b => by simp; omega) l
  refine List.Perm.eq_of_pairwise (le := fun x y : Int => decide (x ≤ y) = true) (fun a b _ _ h1 h2 => by simp at h1 h2; omega) s1 ((upTo_lt l n).imp fun h => by simp; omega) p1
theorem flat_rising (g : Gr) : ((flatL g 0).mergeSort fun x y => decide (x ≤ y)) = reachL g := by
  unfold reachL
  refine sort_upTo ?_ fun x hx => ?_
  · unfold flatL
    by_cases h : grOk g = true
    · rw [if_pos h]
      exact (List.nodup_append.1 (plan_wf17 h 1000000 0 1).nodup).1
    · rw [if_neg h]; exact List.nodup_nil
  · unfold flatL at hx
    by_cases h : grOk g = true
    · rw [if_pos h] at hx
      exact (plan_wf17 h 1000000 0 1).rng x (List.mem_append.2 (.inl hx))
    · rw [if_neg h] at hx; cases hx
theorem flat_len (g : Gr) (hbd : GrBd g) : (flatL g 0).length ≤ 1000 := by
  have h1 : (flatL g 0).length = (reachL g).length := by rw [← flat_rising g]; exact (sorted_len _).symm
  have := upTo_len (flatL g 0) g.nd.length
  have := hbd.nd
  unfold reachL at h1
  omega
theorem reach_len (g : Gr) : (reachL g).length = (flatL g 0).length := by rw [← flat_rising g]; exact sorted_len _
set_option maxHeartbeats 4000000 in
theorem reach17 : ReachGC 14 := by
  intro g vn vr hs B W hr hB hfit hbd
  obtain ⟨An, cn, rfl, hacn, hcmn⟩ := hr.nodes.form
  obtain ⟨Ar, cr, rfl, hacr, hcmr⟩ := hr.roots.form
  obtain ⟨W1, hW1, o1, b1⟩ := flat_box W An Ar g.nd.length cn g.rt.length cr
  have HW1 := Lib.hid hW1
  have O1 := Lib.hid o1
  have HC := Lib.hid (breadth17 g _ _ hs B W1 (hr.only o1 hB) (Nat.le_trans hB o1.size) hfit hbd)
  have HF := Lib.hid (And.intro (flat_rising g) (And.intro (flat_len g hbd) (reach_len g)))
  have c0 : W1.cell? ⟨W.heap.size, 0, none⟩ = some (.slice An g.nd.length cn) := b1.cell 0
  have c1 : W1.cell? ⟨W.heap.size, 1, none⟩ = some (.slice Ar g.rt.length cr) := b1.cell 1
  clear hW1 o1 b1 hr hB hfit hbd
  go_enter Try.func14, Try.ntmps14
  go_upto_region 1 with fail
  rw [HW1.out]
  go_wp2_with fail
  go_at_call 11
  refine HC.out.mono ?_
  rintro e w2 ⟨v1, rfl, h1, o2⟩
  have H1 := Lib.hid h1
  have O2 := Lib.hid (O1.out.trans o2)
  have HS := Lib.hid (sort17 w2 _ v1 (flatL g 0) h1 (by have := HF.out.2.1; omega))
  obtain ⟨A2, k2, rfl, -, -⟩ := h1.form
  clear h1 o2 c0 c1
  go_wp2_with fail
  go_at_call 27
  refine HS.out.mono ?_
  rintro e w3 ⟨rfl, h3, o3⟩
  rw [HF.out.1, ← HF.out.2.2] at h3
  have H3 := Lib.hid (h3.more O1.out.size)
  have O3 := Lib.hid (O2.out.andThen o3 fun i hi e => absurd (H1.out.lt e).1 (by have := O1.out.size; omega))
  rw [← HF.out.2.2]
  clear h3 o3
  go_wp2
  go_ret2
  exact ⟨_, rfl, H3.out, O3.out⟩
end Go.Proofs.Ytkjdnccnfnhkoaa
