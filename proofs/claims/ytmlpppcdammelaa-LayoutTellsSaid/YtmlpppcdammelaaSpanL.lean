/- Contract of package span: first. -/
import Derived.Test.YtmlpppcdammelaaSpanK
namespace Go.Proofs.Ytmlpppcdammelaa
open Go.RowKit Go.Sort

/-- The first k spans of L, sorted and such as may be, make one row; k = 0: it is L's first one. -/
def RowAt (L : List Sp) (k : Nat) (r : Sp) : Prop := (k = 0 ∧ L[0]? = some r) ∨ (1 ≤ k ∧ Merge (L.take k) [] r ∧ ∃ x, L[0]? = some x ∧ r.1 = x.1)
theorem RowAt.ok {L : List Sp} {k : Nat} {r : Sp} (h : RowAt L k r) (hL : ∀ x ∈ L, Sp.ok x) : r.ok := by
  rcases h with ⟨_, h⟩ | ⟨_, h, _⟩
  · exact hL r (List.mem_of_getElem? h)
  · exact h.joined.1 r (by simp)
theorem RowAt.le {L : List Sp} {k : Nat} {r x : Sp} (h : RowAt L k r) (hs : Sorted L) (hx : L[k]? = some x) : r.1 ≤ x.1 := by
  have key : ∀ y, L[0]? = some y → y.1 ≤ x.1 := by
    intro y hy
    obtain ⟨h1, rfl⟩ := List.getElem?_eq_some_iff.1 hx
    obtain ⟨h2, rfl⟩ := List.getElem?_eq_some_iff.1 hy
    rcases Nat.eq_zero_or_pos k with h0 | h0
    · subst h0; exact Int.le_refl _
    · have := List.pairwise_iff_getElem.1 hs 0 k h2 h1 h0
      unfold Sp.le at this; omega
  rcases h with ⟨_, h⟩ | ⟨_, _, y, hy, he⟩
  · exact key _ h
  · rw [he]; exact key _ hy
theorem RowAt.next {L : List Sp} {k : Nat} {r x : Sp} {s : Int} (h : RowAt L k r) (hs : Sorted L) (hL : ∀ x ∈ L, Sp.ok x) (hx : L[k]? = some x) (hle : ¬ r.1 + r.2 < x.1) (hq : s = max (r.1 + r.2) (x.1 + x.2) - r.1) : RowAt L (k + 1) (r.1, s) := by
  have hxo := hL x (List.mem_of_getElem? hx)
  have hr := h.le hs hx
  rcases h with ⟨rfl, h⟩ | ⟨h1, hm, y, hy, he⟩
  · obtain rfl : r = x := by rw [h] at hx; exact Option.some.inj hx
    refine .inr ⟨by omega, ?_, r, h, rfl⟩
    have hss : s = r.2 := by omega
    rw [take_snoc_get h, hss]
    exact Merge.first (fun p => by simp [cov]) hxo
  · refine .inr ⟨by omega, ?_, y, hy, he⟩
    rw [take_snoc_get hx]
    exact hm.grow hxo hr (by omega) hq
theorem RowAt.merge {L : List Sp} {k : Nat} {r : Sp} (h : RowAt L k r) (hk : 1 ≤ k) : Merge (L.take k) [] r := by
  rcases h with ⟨h0, _⟩ | ⟨_, h, _⟩
  · omega
  · exact h

/-- What first tells. -/
def FirstPost (L : List Sp) (w : World) (e : Ending) (w' : World) : Prop := ∃ (r : Sp) (k : Nat), e = .returned (.tuple #[.agg #[.int .i64 r.1, .int .i64 r.2], .int .i64 k]) ∧ 1 ≤ k ∧ k ≤ L.length ∧ Merge (L.take k) [] r ∧ (∀ x, L[k]? = some x → r.1 + r.2 < x.1) ∧ Only nob w w'

theorem fits_step {r x : Sp} (hr : r.ok) (hx : x.ok) : 0 ≤ r.1 ∧ r.1 ≤ 1099511627776 ∧ 1 ≤ r.2 ∧ r.2 ≤ 1099511627776 ∧ 0 ≤ x.1 ∧ x.1 ≤ 1099511627776 ∧ 1 ≤ x.2 ∧ x.2 ≤ 1099511627776 := by unfold Sp.ok most at hr hx; omega

set_option maxRecDepth 100000 in
set_option maxHeartbeats 4000000 in
theorem first_any (v : Value) (L : List Sp) (B : Nat) (w : World) (h : Sl w B 2 v L.length (spc L)) (hB : B ≤ w.heap.size) (hlen : L.length ≤ 1000000) (hn : 0 < L.length) (hs : Sorted L) (hL : ∀ x ∈ L, Sp.ok x) :
    Calls Try.prog 33 #[v] w (FirstPost L w) := by
  have HA := Lib.hid h
  have HS := Lib.hid hs
  have HL := Lib.hid hL
  obtain ⟨A, ca, rfl, hac, ham, -⟩ := h
  unfold maxLen at ham
  obtain ⟨x0, hx0⟩ : ∃ x, L[0]? = some x := ⟨_, List.getElem?_eq_getElem hn⟩
  have R0 := Lib.hid (show RowAt L 0 x0 from .inl ⟨rfl, hx0⟩)
  obtain ⟨b, o, rfl, hb, c0, c1⟩ := sl_span HA.out (Below.refl _ _) hx0
  have hbw : b < w.heap.size := Nat.lt_of_lt_of_le hb hB
  rw [Nat.zero_mul, Nat.add_zero] at c0 c1
  clear hs hL hx0
  go_enter Try.func33, Try.ntmps33
  go_wp2
  have K0 : ∃ W0, ((w.alloc (.cells #[.int .i64 0, .int .i64 0] 27)).alloc (.cells #[.int .i64 x0.1, .int .i64 x0.2] 27)) = W0 ∧ Hid (Only nob w W0 ∧ Blk W0 w.heap.size 27 #[.int .i64 0, .int .i64 0] ∧ Blk W0 (w.heap.size + 1) 27 #[.int .i64 x0.1, .int .i64 x0.2]) := by
    refine ⟨_, rfl, ((Only.refl nob w).alloc _).alloc _, (Blk.new w _ _).alloc _, ?_⟩
    exact Blk.newAt _ _ _ _ (by simp)
  obtain ⟨W0, hW0, H0⟩ := K0
  rw [hW0]
  clear hW0 c0 c1
  go_loopw [12] (fun i wr => ∃ (k : Nat) (r : Sp), i = .int .i64 k ∧ k ≤ L.length ∧ Hid (RowAt L k r) ∧ Hid (Only nob w wr ∧ Blk wr w.heap.size 27 #[.int .i64 0, .int .i64 0] ∧ Blk wr (w.heap.size + 1) 27 #[.int .i64 r.1, .int .i64 r.2])) (fun i _ => L.length - (intOf i).toNat)
  case atStart => exact ⟨0, x0, rfl, by omega, R0, H0⟩
  case round =>
    clear R0 H0
    obtain ⟨k, r, rfl, hk, R1, H1⟩ := hrel
    have RO := Lib.hid (R1.out.ok HL.out)
    by_cases hlt : k < L.length
    · obtain ⟨x, hx⟩ : ∃ x, L[k]? = some x := ⟨_, List.getElem?_eq_getElem hlt⟩
      obtain ⟨b', o', e', hb', c0, c1⟩ := sl_span HA.out (H1.out.1.below hB fun _ h => h.elim) hx
      obtain ⟨rfl, rfl⟩ : b = b' ∧ o = o' := by simpa using e'
      have HX := Lib.hid hx
      have XO := Lib.hid (HL.out x (List.mem_of_getElem? hx))
      have hnum := fits_step RO.out XO.out
      clear hx hb' e'
      go_upto_region 5 with fail
      have K1 : ∃ W1, (wr.alloc (.cells #[.int .i64 x.1, .int .i64 x.2] 27)) = W1 ∧ Hid (Only nob w W1 ∧ Blk W1 w.heap.size 27 #[.int .i64 0, .int .i64 0] ∧ Blk W1 (w.heap.size + 1) 27 #[.int .i64 r.1, .int .i64 r.2] ∧ Blk W1 wr.heap.size 27 #[.int .i64 x.1, .int .i64 x.2]) :=
        ⟨_, rfl, H1.out.1.alloc _, H1.out.2.1.alloc _, H1.out.2.2.alloc _, Blk.new _ _ _⟩
      obtain ⟨W1, hW1, H2⟩ := K1
      rw [hW1]
      clear hW1 c0 c1
      have d0 : ∀ n os, (grow (W1.drewN n) os).cell? ⟨wr.heap.size, 0, none⟩ = some (.int .i64 x.1) := fun n os => (grw_grow n os).only.keeps (H2.out.2.2.2.cell 0)
      have e0 : ∀ n os, (grow (W1.drewN n) os).cell? ⟨w.heap.size + 1, 0, none⟩ = some (.int .i64 r.1) := fun n os => (grw_grow n os).only.keeps (H2.out.2.2.1.cell 0)
      have e1 : ∀ n os, (grow (W1.drewN n) os).cell? ⟨w.heap.size + 1, 1, none⟩ = some (.int .i64 r.2) := fun n os => (grw_grow n os).only.keeps (H2.out.2.2.1.cell 1)
      have mixed := mixed_
      by_cases hcut : r.1 + r.2 < x.1
      · have k1 : 1 ≤ k := by
          rcases R1.out with ⟨h0, h1⟩ | ⟨h0, _⟩
          · subst h0
            have := HX.out
            rw [h1] at this
            obtain rfl := Option.some.inj this
            omega
          · exact h0
        go_quiet_grown (first | (go_at_call 29; with_reducible refine grw_of (end_any _ _ RO.out)))
        obtain ⟨W3, hW3, HG⟩ := grown_name W1 nq osq
        rw [hW3]
        clear hW3 d0 e0 e1 mixed
        have f0 : W3.cell? ⟨w.heap.size + 1, 0, none⟩ = some (.int .i64 r.1) := HG.out.only.keeps (H2.out.2.2.1.cell 0)
        have f1 : W3.cell? ⟨w.heap.size + 1, 1, none⟩ = some (.int .i64 r.2) := HG.out.only.keeps (H2.out.2.2.1.cell 1)
        have B2 := Lib.hid (H2.out.2.1.keep HG.out.only id)
        have g0 : W3.cell? ⟨w.heap.size, 0, none⟩ = some (.int .i64 0) := B2.out.cell 0
        have g1 : W3.cell? ⟨w.heap.size, 1, none⟩ = some (.int .i64 0) := B2.out.cell 1
        have g2 := B2.out.free 0
        have g3 := B2.out.free 1
        have HO := Lib.hid (H2.out.1.trans HG.out.only)
        go_wp2
        have K4 : ∃ W4, ((W3.setCell ⟨w.heap.size, 0, none⟩ (.int .i64 r.1)).setCell ⟨w.heap.size, 1, none⟩ (.int .i64 r.2)) = W4 ∧ Only nob w W4 ∧ Blk W4 w.heap.size 27 #[.int .i64 r.1, .int .i64 r.2] :=
          ⟨_, rfl, (HO.out.setCell (p := ⟨w.heap.size, 0, none⟩) (fun h => absurd h (Nat.lt_irrefl _)) _).setCell (p := ⟨w.heap.size, 1, none⟩) (fun h => absurd h (Nat.lt_irrefl _)) _, by simpa using (B2.out.put 0 (.int .i64 r.1)).put 1 (.int .i64 r.2)⟩
        obtain ⟨W4, hW4, O4, B4⟩ := K4
        rw [hW4]
        have h0 := B4.cell 0
        have h1 := B4.cell 1
        simp at h0 h1
        refine bodyPost_ret (v := .tuple #[.agg #[.int .i64 r.1, .int .i64 r.2], .int .i64 k]) (by simp [results, Try.results33, go_sem, h0, h1]) rfl ⟨r, k, rfl, k1, hk, R1.out.merge k1, fun y hy => ?_, O4⟩
        have := HX.out
        rw [hy] at this
        obtain rfl := Option.some.inj this
        exact hcut
      · have hcut' : decide (r.1 + r.2 < x.1) = false := decide_eq_false hcut
        go_quiet_grown (first | (go_at_call 29; with_reducible refine grw_of (end_any _ _ RO.out)))
        obtain ⟨W3, hW3, HG⟩ := grown_name W1 nq osq
        rw [hW3]
        clear hW3 d0 e0 e1 hcut'
        have d0 : ∀ n os, (grow (W3.drewN n) os).cell? ⟨wr.heap.size, 0, none⟩ = some (.int .i64 x.1) := fun n os => (grw_grow n os).only.keeps (HG.out.only.keeps (H2.out.2.2.2.cell 0))
        have d1 : ∀ n os, (grow (W3.drewN n) os).cell? ⟨wr.heap.size, 1, none⟩ = some (.int .i64 x.2) := fun n os => (grw_grow n os).only.keeps (HG.out.only.keeps (H2.out.2.2.2.cell 1))
        have e0 : ∀ n os, (grow (W3.drewN n) os).cell? ⟨w.heap.size + 1, 0, none⟩ = some (.int .i64 r.1) := fun n os => (grw_grow n os).only.keeps (HG.out.only.keeps (H2.out.2.2.1.cell 0))
        have e1 : ∀ n os, (grow (W3.drewN n) os).cell? ⟨w.heap.size + 1, 1, none⟩ = some (.int .i64 r.2) := fun n os => (grw_grow n os).only.keeps (HG.out.only.keeps (H2.out.2.2.1.cell 1))
        have hw7 : IntKind.i64.wrap (max (r.1 + r.2) (x.1 + x.2) - r.1) = max (r.1 + r.2) (x.1 + x.2) - r.1 := by rw [IntKind.wrap_i64]; omega
        go_wp2_with fail
        refine wp_region_grown_tail 9 mixed_ (by kernel_rfl) ?_
        simp only [List.take_succ_cons, List.take_zero, List.drop_succ_cons, List.drop_zero]
        repeat (quiet_step (first | (go_at_call 29; with_reducible refine grw_of (end_any _ _ RO.out)) | (go_at_call 29; with_reducible refine grw_of (end_any _ _ XO.out))))
        refine wpQuiet_nil ?_
        rintro w' ⟨⟨nq, osq⟩, rfl⟩
        obtain ⟨W5, hW5, HG5⟩ := grown_name W3 nq osq
        rw [hW5]
        clear hW5 d0 d1 e0 e1
        have B5 := Lib.hid ((H2.out.2.2.1.keep HG.out.only id).keep HG5.out.only id)
        have f1 : W5.cell? ⟨w.heap.size + 1, 1, none⟩ = some (.int .i64 r.2) := B5.out.cell 1
        have f2 := B5.out.free 1
        have HS5 := Lib.hid (show Only nob w W5 ∧ Blk W5 w.heap.size 27 #[.int .i64 0, .int .i64 0] from ⟨(H2.out.1.trans HG.out.only).trans HG5.out.only, (H2.out.2.1.keep HG.out.only id).keep HG5.out.only id⟩)
        have HR := Lib.hid (R1.out.next (s := max (r.1 + r.2) (x.1 + x.2) - r.1) HS.out HL.out HX.out (by omega) rfl)
        have HF := Lib.hid (show Only nob w (W5.setCell ⟨w.heap.size + 1, 1, none⟩ (.int .i64 (max (r.1 + r.2) (x.1 + x.2) - r.1))) ∧ Blk (W5.setCell ⟨w.heap.size + 1, 1, none⟩ (.int .i64 (max (r.1 + r.2) (x.1 + x.2) - r.1))) w.heap.size 27 #[.int .i64 0, .int .i64 0] ∧ Blk (W5.setCell ⟨w.heap.size + 1, 1, none⟩ (.int .i64 (max (r.1 + r.2) (x.1 + x.2) - r.1))) (w.heap.size + 1) 27 #[.int .i64 r.1, .int .i64 (max (r.1 + r.2) (x.1 + x.2) - r.1)] from
          ⟨HS5.out.1.setCell (p := ⟨w.heap.size + 1, 1, none⟩) (fun h => absurd h (by simp)) _, HS5.out.2.other (p := ⟨w.heap.size + 1, 1, none⟩) (by simp) _, by simpa using B5.out.put 1 (.int .i64 (max (r.1 + r.2) (x.1 + x.2) - r.1))⟩)
        clear mixed hw7
        go_wp2
        go_roundw
        case rel => exact ⟨k + 1, _, by go_num, by omega, HR, HF⟩
        case measure => simp [intOf]; omega
    · obtain rfl : k = L.length := by omega
      have HM := Lib.hid (R1.out.merge (by omega))
      have f0 := H1.out.2.2.cell 0
      have f1 := H1.out.2.2.cell 1
      have g0 := H1.out.2.1.cell 0
      have g1 := H1.out.2.1.cell 1
      have g2 := H1.out.2.1.free 0
      have g3 := H1.out.2.1.free 1
      simp at f0 f1 g0 g1
      go_wp2
      have K4 : ∃ W4, ((wr.setCell ⟨w.heap.size, 0, none⟩ (.int .i64 r.1)).setCell ⟨w.heap.size, 1, none⟩ (.int .i64 r.2)) = W4 ∧ Only nob w W4 ∧ Blk W4 w.heap.size 27 #[.int .i64 r.1, .int .i64 r.2] :=
        ⟨_, rfl, (H1.out.1.setCell (p := ⟨w.heap.size, 0, none⟩) (fun h => absurd h (Nat.lt_irrefl _)) _).setCell (p := ⟨w.heap.size, 1, none⟩) (fun h => absurd h (Nat.lt_irrefl _)) _, by simpa using (H1.out.2.1.put 0 (.int .i64 r.1)).put 1 (.int .i64 r.2)⟩
      obtain ⟨W4, hW4, O4, B4⟩ := K4
      rw [hW4]
      have h0 := B4.cell 0
      have h1 := B4.cell 1
      simp at h0 h1
      refine bodyPost_ret (v := .tuple #[.agg #[.int .i64 r.1, .int .i64 r.2], .int .i64 L.length]) (by simp [results, Try.results33, go_sem, h0, h1]) rfl ⟨r, L.length, rfl, hn, Nat.le_refl _, HM.out, fun y hy => ?_, O4⟩
      rw [List.getElem?_eq_none (Nat.le_refl _)] at hy
      cases hy
end Go.Proofs.Ytmlpppcdammelaa
