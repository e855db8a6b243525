/- Contracts of package slices at spans: Insert of one into a row of the call's own. -/
import Derived.Test.YtlpndkmhdnpifaaExtProg
import Derived.Test.YtlpndkmhdnpifaaLedMath
import Derived.Lib.Overlaps
import Derived.Lib.SlBuf
namespace Go.Proofs.Ytlpndkmhdnpifaa
set_option maxRecDepth 100000
open Go.RowKit Go.Lib Go.Shelf

/-- copy at elements of any size, its run. -/
theorem run_copy_cut {P : Program} {w : World} (dT sT ty elem : TypeId) (i : TypeInfo) (z n : Nat) (hu : P.underlying dT = some (.slice elem)) (hi : P.info? elem = some i) (hz : i.size = z)
    (g off dLen dCap b o sLen sCap : Nat) (cur : Array Value) (t : TypeId) (hg : Blk w g t cur) (news : List Value) (hn : Nat.min sLen dLen = n) (hnl : news.length = n * z) (hfit : off + news.length ≤ cur.size)
    (hsrc : ∀ j v, news[j]? = some v → w.cell? ⟨b, o + j, none⟩ = some v) (h1 : ∀ v ∈ news, v.oneCell' = true) :
    (Builtin.copy_ #[dT, sT] ty #[.slice (some ⟨g, off, none⟩) dLen dCap, .slice (some ⟨b, o, none⟩) sLen sCap]).run P w = .ok (goInt n) (w.setCells g off news) := by
  subst hz
  have hf := run_firstCells_some (P := P) w i.size n ⟨b, o, none⟩ sLen sCap news hnl (fun j v hj => by rw [Addr.add_lit]; exact hsrc j v hj)
  have hst := run_storeCells_cells (P := P) g off news 0 w (fun j hj => by rw [Nat.add_zero, hg.cell, Array.getElem?_eq_getElem (by omega)]; rfl) (fun j hj => by rw [hg.free]) h1
  rw [Nat.add_zero] at hst
  simp [Builtin.copy_, run_underlying hu, Builtin.lenOf, sizeOf, typeInfo, hi, hn, hf, hst]
theorem step_copy_run {P : Program} {ops : Array Oper} {o : Oper} {a : Act} {w : World} {K : Act → World → Prop} {Q : Exit → Act → World → Prop} {E : Prop} (hg : o.guard = none) (d s : Operand) (t t' : TypeId)
    (ho : o.op = .call { callee := .builtin .copy, args := #[d, s], argTypes := #[t, t'] }) (v u : Value) (hd : a.eval d = v) (hs : a.eval s = u) {v' : Value} {w' : World}
    (hr : (Builtin.copy_ #[t, t'] o.type #[v, u]).run P w = .ok v' w') (h : K (a.put o.dst v') w') : if Region.wanted o (yielded ops a.tmps) = true then Oper.wp P o a w K Q else E := by
  rw [if_pos (by simp [Region.wanted, hg])]
  exact Lib.wp_copy_run w d s t t' ho v u hd hs hr h

/-- One put in: cells first to the right, then the new ones; or the other way round. -/
theorem splice_ins1 (l : List Sp) (k : Nat) (s : Sp) (cur : List Value) (hk : k ≤ l.length) (hc : cur.take (k * 2) = spc (l.take k)) :
    (splice (splice cur (k * 2) (spc [s])) ((k + 1) * 2) (spc (l.drop k))).take ((l.length + 1) * 2) = spc (insAt l k s) := by
  have hd : (spc (l.drop k)).length = (l.length - k) * 2 := by rw [spc_len, List.length_drop]
  have ht : (spc (l.take k)).length = k * 2 := by rw [spc_len, List.length_take, Nat.min_eq_left hk]
  have h1 : (splice cur (k * 2) (spc [s])).take ((k + 1) * 2) = spc (l.take k) ++ spc [s] := by
    unfold splice
    rw [hc, ← List.append_assoc, List.take_append_of_le_length (by simp [ht, spc_len]; omega), List.take_of_length_le (by simp [ht, spc_len]; omega)]
  unfold splice at h1 ⊢
  rw [h1, ← List.append_assoc, List.take_append_of_le_length (by simp [ht, hd, spc_len]; omega), List.take_of_length_le (by simp [ht, hd, spc_len]; omega)]
  unfold insAt
  rw [← spc_append, ← spc_append, List.append_assoc]
  rfl
theorem splice_ins2 (l : List Sp) (k : Nat) (s : Sp) (cur : List Value) (hk : k ≤ l.length) (hlen : (l.length + 1) * 2 ≤ cur.length) (hc : cur.take (k * 2) = spc (l.take k)) :
    (splice (splice cur ((k + 1) * 2) (spc (l.drop k))) (k * 2) (spc [s])).take ((l.length + 1) * 2) = spc (insAt l k s) := by
  have hd : (spc (l.drop k)).length = (l.length - k) * 2 := by rw [spc_len, List.length_drop]
  have ht : (spc (l.take k)).length = k * 2 := by rw [spc_len, List.length_take, Nat.min_eq_left hk]
  have hs : (spc [s]).length = 2 := by rw [spc_len]; rfl
  have h1 : (splice cur ((k + 1) * 2) (spc (l.drop k))).take (k * 2) = spc (l.take k) := by
    unfold splice
    rw [List.take_append_of_le_length (by simp; omega), List.take_take, Nat.min_eq_left (by omega), hc]
  have h2 : (splice cur ((k + 1) * 2) (spc (l.drop k))).drop (k * 2 + (spc [s]).length) = spc (l.drop k) ++ cur.drop ((k + 1) * 2 + (spc (l.drop k)).length) := by
    unfold splice
    rw [hs, show k * 2 + 2 = (cur.take ((k + 1) * 2)).length by simp; omega, List.drop_left]
  unfold splice at h1 h2 ⊢
  rw [h1, h2, ← List.append_assoc, ← List.append_assoc, List.take_append_of_le_length (by simp [ht, hd, hs]; omega), List.take_of_length_le (by simp [ht, hd, hs]; omega)]
  unfold insAt
  rw [← spc_append, ← spc_append, List.append_assoc]
  rfl

theorem shape_blk {w : World} {g : Nat} {t : TypeId} {cs : Array Value} (h : Blk w g t cs) : w.shape? g = some (t, cs.size) := by
  have h' : w.heap[g]? = some (.cells cs t (0, 0)) := h
  simp [World.shape?, h']

/-- What Insert answers. -/
def InsP (v : Value) (m : List Sp) (w : World) (e : Ending) (w' : World) : Prop := ∃ v', e = .returned v' ∧ Sl w' w'.heap.size 2 v' m.length (spc m) ∧ Only (fun b => v.ownBlock = some b) w w'

set_option maxHeartbeats 4000000 in
/-- At the end: append. -/
theorem insert_end (base : Nat) (v : Value) (l : List Sp) (s : Sp) (gq : Nat) (w : World) (hown : w.ownsRow base 24 2 v l.length (spc l)) (hb : base ≤ w.heap.size) (hq : Blk w gq 24 #[.int .i64 s.1, .int .i64 s.2]) (hl : l.length ≤ 1000000) :
    Calls Try.prog 25 #[v, .int .i64 l.length, .slice (some ⟨gq, 0, none⟩) 1 1] w (InsP v (l ++ [s]) w) := by
  obtain ⟨i0, hi0, hz0, hz1, hz2⟩ := info_parts info_span
  have HO := Lib.hid hown
  have HS := Lib.hid (Sl.of_blk (size := 2) (n := 1) (c := 1) hq rfl (Nat.le_refl _) (by decide))
  obtain ⟨A, cap, rfl, hnc, hcm⟩ := own_len hown
  have hcm' : cap ≤ 9223372036854775807 := by unfold maxLen at hcm; omega
  have hcut := run_cut_l Try.underlying22 hi0 A l.length cap l.length (Nat.le_refl _)
  clear hown hq
  go_enter Try.func25, Try.ntmps25
  go_wp2_with (with_reducible refine wpList_append_sl (o := ⟨some 25, _, _, _, _, _⟩) _ rfl (.tmp 23) (.tmp 24) _ rfl base 24 i0 _ 2 16 Try.underlying22 hi0 hz0 hz1 hz2 rfl (by decide) (.slice A l.length cap) l.length (spc l) rfl ?c1 w.heap.size (.slice (some ⟨gq, 0, none⟩) 1 1) 1 (spc [s]) rfl ?c6 (spc_one _) ?c2 ?c3 ?c4 ?c5)
  case c1 => exact HO.out
  case c6 => exact HS.out
  case c2 => unfold maxLen; omega
  case c3 => omega
  case c5 =>
    intro v1 w1 H1 o1 _
    have HW := Lib.hid (show Sl w1 w1.heap.size 2 v1 (l ++ [s]).length (spc (l ++ [s])) by
      have := Sl.of_own H1.out H1.out.1
      rw [spc_append, List.length_append]; exact this)
    have O1 := Lib.hid o1
    clear o1 H1
    go_wp2
    go_ret
    exact ⟨_, rfl, HW.out, O1.out⟩

/-- The first cells of a row. -/
theorem take_spc {cur : List Value} {l : List Sp} {n k : Nat} (_ : l.length = n) (hk : k ≤ n) (hc : cur.take (n * 2) = spc l) : cur.take (k * 2) = spc (l.take k) := by
  have := congrArg (List.take (k * 2)) hc
  rw [List.take_take, Nat.min_eq_left (by omega), spc_take] at this
  exact this
/-- The cells from one place on. -/
theorem cells_drop {w : World} {g : Nat} {t : TypeId} {cur : Array Value} {l : List Sp} {n k : Nat} (hb : Blk w g t cur) (hc : cur.toList.take (n * 2) = spc l) : ∀ j v, (spc (l.drop k))[j]? = some v → w.cell? ⟨g, k * 2 + j, none⟩ = some v := by
  intro j v hv
  rw [hb.cell, ← Array.getElem?_toList]
  rw [← spc_drop, List.getElem?_drop, ← hc, List.getElem?_take] at hv
  split at hv
  · exact hv
  · cases hv
theorem cells_one {w : World} {g : Nat} {t : TypeId} {s : Sp} (hq : Blk w g t #[.int .i64 s.1, .int .i64 s.2]) : ∀ j v, (spc [s])[j]? = some v → w.cell? ⟨g, 0 + j, none⟩ = some v := by
  intro j v hv
  rw [Nat.zero_add, hq.cell, ← Array.getElem?_toList]
  exact hv

set_option maxHeartbeats 4000000 in
/-- There is room: what stands behind the place goes to the right, in place. -/
theorem insert_room (g cap n k gq : Nat) (cur : Array Value) (l : List Sp) (s : Sp) (w : World) (hb : Blk w g 24 cur) (hs : cur.size = cap * 2) (hn : l.length = n) (hroom : n + 1 ≤ cap) (hcm : cap ≤ maxLen) (hc : cur.toList.take (n * 2) = spc l) (hk : k < n)
    (hq : Blk w gq 24 #[.int .i64 s.1, .int .i64 s.2]) (hne : gq ≠ g) :
    Calls Try.prog 25 #[.slice (some ⟨g, 0, none⟩) n cap, .int .i64 k, .slice (some ⟨gq, 0, none⟩) 1 1] w (InsP (.slice (some ⟨g, 0, none⟩) n cap) (insAt l k s) w) := by
  obtain ⟨i0, hi0, hz0, hz1, hz2⟩ := info_parts info_span
  have hcm' : cap ≤ 9223372036854775807 := by unfold maxLen at hcm; omega
  have hcl : cur.toList.length = cap * 2 := by simpa using hs
  have hd : (spc (l.drop k)).length = (n - k) * 2 := by rw [spc_len, List.length_drop, hn]
  obtain ⟨W1, hW1⟩ : ∃ W1, W1 = w.drew.setCells g ((k + 1) * 2) (spc (l.drop k)) := ⟨_, rfl⟩
  have B1 : Blk W1 g 24 (splice cur.toList ((k + 1) * 2) (spc (l.drop k))).toArray := by
    rw [hW1]
    exact Blk.setCells _ _ (show Blk w.drew g _ cur from hb) (by rw [hd]; omega)
  have Q1 : Blk W1 gq 24 #[.int .i64 s.1, .int .i64 s.2] := by
    rw [hW1]
    exact (show Blk w.drew gq _ _ from hq).keep (only_setCells g _ _ _) hne
  have hsz1 : (splice cur.toList ((k + 1) * 2) (spc (l.drop k))).length = cap * 2 := by rw [splice_len _ _ _ (by rw [hd]; omega), hcl]
  have O1 : Only (isb g) w W1 := by rw [hW1]; exact (((Only.refl (isb g) w).drewN 1)).trans (only_setCells g _ _ w.drew)
  obtain ⟨W2, hW2⟩ : ∃ W2, W2 = W1.setCells g (k * 2) (spc [s]) := ⟨_, rfl⟩
  have B2 : Blk W2 g 24 (splice (splice cur.toList ((k + 1) * 2) (spc (l.drop k))) (k * 2) (spc [s])).toArray := by
    rw [hW2]
    have := Blk.setCells (spc [s]) (k * 2) B1 (by rw [List.size_toArray, hsz1, spc_len]; simp; omega)
    simpa using this
  have O2 := Lib.hid (show Only (isb g) w W2 by rw [hW2]; exact O1.trans (only_setCells g _ _ _))
  have hlen := insAt_len s (show k ≤ l.length by omega)
  have hfin := splice_ins2 l k s cur.toList (by omega) (by omega) (take_spc hn (by omega) hc)
  have S2 := Lib.hid (sl_of_cur (cap := cap) (n := n + 1) B2 (by rw [hlen, hn]) hroom hcm (by simpa [hn] using hfin))
  have HL := Lib.hid (show (insAt l k s).length = n + 1 by rw [hlen, hn])
  have hcp1 : ∀ ty a b, (Builtin.copy_ #[22, 22] ty #[.slice (some ⟨g, (k + 1) * 2, none⟩) (n - k) a, .slice (some ⟨g, k * 2, none⟩) (n + 1 - k) b]).run Try.prog w.drew = .ok (goInt (n - k : Nat)) W1 := fun ty a b => by
    rw [hW1]
    exact run_copy_cut _ _ ty 24 i0 2 (n - k) Try.underlying22 hi0 hz1 g _ _ a g _ _ b cur _ (show Blk w.drew g _ cur from hb) _ (by simp only [Nat.min_def]; split <;> omega) hd (by rw [hd]; omega) (cells_drop (show Blk w.drew g _ cur from hb) hc) (spc_one _)
  have hcp2 : ∀ ty a b, (Builtin.copy_ #[22, 22] ty #[.slice (some ⟨g, k * 2, none⟩) (n + 1 - k) a, .slice (some ⟨gq, 0, none⟩) 1 b]).run Try.prog W1 = .ok (goInt (1 : Nat)) W2 := fun ty a b => by
    rw [hW2]
    exact run_copy_cut _ _ ty 24 i0 2 1 Try.underlying22 hi0 hz1 g _ _ a gq 0 _ b _ _ B1 _ (by simp only [Nat.min_def]; split <;> omega) rfl (by rw [List.size_toArray, hsz1, spc_len]; simp; omega) (cells_one Q1) (spc_one _)
  have hov : ∀ a b, (callFunc 50 #[.slice (some ⟨gq, 0, none⟩) 1 a, .slice (some ⟨g, (k + 1) * 2, none⟩) (n - k) b]).run Try.prog w = .ok (.value (.bool false)) w := fun a b => by
    rw [run_callFunc_extern Try.func50 (by kernel_rfl) (by kernel_rfl) (by kernel_rfl) (e := Extern.SlicesOverlaps.overlaps #[22, 22] #[4]) (by kernel_rfl),
      Lib.run_overlaps_apart w 22 4 24 Try.underlying22 2 (fun w => by simp [sizeOf, typeInfo, hi0, hz1]) ⟨gq, 0, none⟩ ⟨g, (k + 1) * 2, none⟩ 1 a (n - k) b hne 24 24 2 (cap * 2) (shape_blk hq) (by rw [← hs]; exact shape_blk hb) (by omega) (hq.free 0) (hq.free 2)]
    rfl
  have hcut1 := run_cut_l Try.underlying22 hi0 (some ⟨g, 0, none⟩) n cap k (by omega)
  have hcut2 : ∀ w, (Instr.sliceAt 22 (.slice (some ⟨g, 0, none⟩) n cap) none (some (.int .i64 ((n : Int) + 1))) none).run Try.prog w = .ok (.slice (some ⟨g, 0, none⟩) (n + 1) cap) w := fun w => by
    have := run_cut_h Try.underlying22 hi0 (some ⟨g, 0, none⟩) n cap (n + 1) hroom w
    rw [show cutv (some ⟨g, 0, none⟩) 0 (n + 1) cap i0.size = .slice (some ⟨g, 0, none⟩) (n + 1) cap by unfold cutv; split <;> simp [Addr.add]] at this
    exact this
  have hcut3 : ∀ w, (Instr.sliceAt 22 (.slice (some ⟨g, 0, none⟩) (n + 1) cap) (some (.int .i64 ((k : Int) + 1))) none none).run Try.prog w = .ok (.slice (some ⟨g, (k + 1) * 2, none⟩) (n - k) (cap - (k + 1))) w := fun w => by
    have := run_cut_l Try.underlying22 hi0 (some ⟨g, 0, none⟩) (n + 1) cap (k + 1) (by omega) w
    rw [hz1, show cutv (some ⟨g, 0, none⟩) (k + 1) (n + 1) cap 2 = .slice (some ⟨g, (k + 1) * 2, none⟩) (n - k) (cap - (k + 1)) by unfold cutv; rw [if_neg (by omega), show n + 1 - (k + 1) = n - k by omega]; show Value.slice (some (Addr.add _ _)) _ _ = _; rw [Addr.add_lit, Nat.zero_add]] at this
    exact this
  have hcut4 : ∀ w, (Instr.sliceAt 22 (.slice (some ⟨g, 0, none⟩) (n + 1) cap) (some (.int .i64 (k : Int))) none none).run Try.prog w = .ok (.slice (some ⟨g, k * 2, none⟩) (n + 1 - k) (cap - k)) w := fun w => by
    have := run_cut_l Try.underlying22 hi0 (some ⟨g, 0, none⟩) (n + 1) cap k (by omega) w
    rw [hz1, show cutv (some ⟨g, 0, none⟩) k (n + 1) cap 2 = .slice (some ⟨g, k * 2, none⟩) (n + 1 - k) (cap - k) by unfold cutv; rw [if_neg (by omega)]; show Value.slice (some (Addr.add _ _)) _ _ = _; rw [Addr.add_lit, Nat.zero_add]] at this
    exact this
  have hne1 : ¬ ((k : Int) = (n : Int)) := by omega
  have hnr : ¬ ((cap : Int) < (n : Int) + 1) := by omega
  clear hW1 hW2 B1 Q1 hsz1 O1 B2 hlen hfin hc hcl hs hd hb hq
  have mixed : Try.prog.follows .mixedOrders = true := by kernel_rfl
  go_enter Try.func25, Try.ntmps25
  go_wp2_with (simp only [hov])
  have hw1 : IntKind.i64.wrap ((k : Int) + 1) = (k : Int) + 1 := by rw [IntKind.wrap_i64]; omega
  have hb1 : (0 : Int) ≤ (k : Int) + 1 := by omega
  have htn : ((k : Int) + 1).toNat = k + 1 := by omega
  have hb3 : (k : Int) + 1 ≤ (n : Int) + 1 := by omega
  have hb4 : (k : Int) ≤ (n : Int) + 1 := by omega
  have hb2 : ¬ (cap = k + 1) := by omega
  have hb5 : ¬ (cap = k) := by omega
  have hsub : n + 1 - (k + 1) = n - k := by omega
  go_region_law_o (refine step_copy_run rfl (.tmp 73) (.tmp 76) 22 22 rfl _ _ (by simp [Act.eval, Act.put]) (by simp [Act.eval, Act.put]) (hcp1 _ _ _) ?_)
  go_wp2_with (with_reducible refine Lib.wpList_copy_run _ rfl (.tmp 80) (.tmp 81) 22 22 rfl _ _ rfl rfl (hcp2 _ _ _) ?_)
  go_ret
  exact ⟨_, rfl, by rw [HL.out]; exact S2.out, O2.out.mono fun i _ e => by unfold isb at e; rw [e]; rfl⟩

set_option maxHeartbeats 4000000 in
/-- There is no room: a new row. -/
theorem insert_grow (g cap n k gq : Nat) (cur : Array Value) (l : List Sp) (s : Sp) (w : World) (hb : Blk w g 24 cur) (hs : cur.size = cap * 2) (hn : l.length = n) (hnc : n ≤ cap) (hroom : ¬ n + 1 ≤ cap) (hc : cur.toList.take (n * 2) = spc l) (hk : k < n) (hl : n ≤ 1000000)
    (hq : Blk w gq 24 #[.int .i64 s.1, .int .i64 s.2]) :
    Calls Try.prog 25 #[.slice (some ⟨g, 0, none⟩) n cap, .int .i64 k, .slice (some ⟨gq, 0, none⟩) 1 1] w (InsP (.slice (some ⟨g, 0, none⟩) n cap) (insAt l k s) w) := by
  obtain ⟨i0, hi0, hz0, hz1, hz2⟩ := info_parts info_span
  have hcl : cur.toList.length = cap * 2 := by simpa using hs
  have hd : (spc (l.drop k)).length = (n - k) * 2 := by rw [spc_len, List.length_drop, hn]
  have htk : (spc (l.take k)).length = k * 2 := by rw [spc_len, List.length_take, Nat.min_eq_left (by omega)]
  have hold : (Builtin.firstCells i0.size k (.slice (some ⟨g, 0, none⟩) k cap)).run Try.prog w.drew = .ok (spc (l.take k)).toArray w.drew :=
    run_firstCells_some w.drew i0.size k ⟨g, 0, none⟩ k cap _ (by rw [hz1]; exact htk) fun j v hj => by
      rw [Addr.add_lit, Nat.zero_add, (show Blk w.drew g _ cur from hb).cell, ← Array.getElem?_toList]
      rw [← take_spc hn (by omega) hc, List.getElem?_take] at hj
      split at hj
      · exact hj
      · cases hj
  have hkn : k + (n + 1 - k) = n + 1 := by omega
  have hr := fun ty => Lib.run_append_grow_zeros (P := Try.prog) w 22 3 ty 24 i0 _ .i64 .i64 Try.underlying22 Try.underlying3 hi0 hz0 (some ⟨g, 0, none⟩) k cap _ hold (n + 1 - k) (by omega) (by rw [hz1]; decide) (by omega) (by omega) (by rw [hz2]; omega)
    (by rw [hz2, hkn]; exact growslice_fits (by omega) (by omega))
  rw [hkn] at hr
  have hG := grownCap_ge w (n + 1) cap 24
  have hG2 := grownCap_le_maxLen w (n + 1) cap 24 (by unfold maxLen; omega)
  obtain ⟨G, hGe⟩ : ∃ G, G = grownCap w (n + 1) cap 24 := ⟨_, rfl⟩
  rw [← hGe] at hr hG hG2
  have hG63 : G ≤ 9223372036854775807 := by unfold maxLen at hG2; omega
  obtain ⟨ROW, hROW⟩ : ∃ ROW : Array Value, ROW = (spc (l.take k)).toArray ++ Builtin.zeroCells (Value.agg #[.int .i64 0, .int .i64 0]).cells (n + 1 - k) ++ Builtin.zeroCells (Value.agg #[.int .i64 0, .int .i64 0]).cells (G - (n + 1)) := ⟨_, rfl⟩
  rw [← hROW] at hr
  have hRs : ROW.size = G * 2 := by rw [hROW]; simp [size_zeroCells, Value.cells, htk]; omega
  have hRt : ROW.toList.take (k * 2) = spc (l.take k) := by
    rw [hROW, Array.toList_append, Array.toList_append, List.append_assoc, List.take_append_of_le_length (by simp [htk]), List.take_of_length_le (by simp [htk])]
  obtain ⟨h, hh⟩ : ∃ h, h = w.heap.size := ⟨_, rfl⟩
  obtain ⟨W0, hW0⟩ : ∃ W0, W0 = w.drew.alloc (.cells ROW 24) := ⟨_, rfl⟩
  have B0 : Blk W0 h 24 ROW := by rw [hW0, hh]; exact Blk.new w.drew _ _
  have O0 : Only nob w W0 := by rw [hW0]; exact ((Only.refl nob w).drewN 1).alloc _
  have Q0 : Blk W0 gq 24 #[.int .i64 s.1, .int .i64 s.2] := hq.keep O0 id
  have K0 : Blk W0 g 24 cur := hb.keep O0 id
  have hgh : g ≠ h := by have := hb.lt; omega
  rw [← hW0, ← hh] at hr
  obtain ⟨W1, hW1⟩ : ∃ W1, W1 = W0.setCells h (k * 2) (spc [s]) := ⟨_, rfl⟩
  have B1 : Blk W1 h 24 (splice ROW.toList (k * 2) (spc [s])).toArray := by
    rw [hW1]
    exact Blk.setCells _ _ B0 (by rw [spc_len, hRs]; simp; omega)
  have hsz1 : (splice ROW.toList (k * 2) (spc [s])).length = G * 2 := by rw [splice_len _ _ _ (by rw [spc_len]; simp [hRs]; omega)]; simpa using hRs
  have OH1 : Only (isb h) W0 W1 := by rw [hW1]; exact only_setCells h _ _ W0
  have K1 : Blk W1 g 24 cur := K0.keep OH1 hgh
  obtain ⟨W2, hW2⟩ : ∃ W2, W2 = W1.drew.setCells h ((k + 1) * 2) (spc (l.drop k)) := ⟨_, rfl⟩
  have B2 : Blk W2 h 24 (splice (splice ROW.toList (k * 2) (spc [s])) ((k + 1) * 2) (spc (l.drop k))).toArray := by
    rw [hW2]
    have := Blk.setCells (spc (l.drop k)) ((k + 1) * 2) (show Blk W1.drew h _ _ from B1) (by rw [List.size_toArray, hsz1, hd]; omega)
    simpa using this
  have O2 := Lib.hid (show Only nob w W2 by
    have : Only (isb h) W0 W2 := by rw [hW2]; exact (OH1.drewN 1).trans (only_setCells h _ _ W1.drew)
    exact O0.andThen this fun i hi e => by unfold isb at e; omega)
  have hlen := insAt_len s (show k ≤ l.length by omega)
  have hfin := splice_ins1 l k s ROW.toList (by omega) hRt
  have S2 := Lib.hid (sl_of_cur (cap := G) (n := n + 1) B2 (by rw [hlen, hn]) hG hG2 (by simpa [hn] using hfin))
  have HL := Lib.hid (show (insAt l k s).length = n + 1 by rw [hlen, hn])
  have hcp1 : ∀ ty a b, (Builtin.copy_ #[22, 22] ty #[.slice (some ⟨h, k * 2, none⟩) (n + 1 - k) a, .slice (some ⟨gq, 0, none⟩) 1 b]).run Try.prog W0 = .ok (goInt (1 : Nat)) W1 := fun ty a b => by
    rw [hW1]
    exact run_copy_cut _ _ ty 24 i0 2 1 Try.underlying22 hi0 hz1 h _ _ a gq 0 _ b _ _ B0 _ (by simp only [Nat.min_def]; split <;> omega) rfl (by rw [hRs, spc_len]; simp; omega) (cells_one Q0) (spc_one _)
  have hcp2 : ∀ ty a b, (Builtin.copy_ #[22, 22] ty #[.slice (some ⟨h, (k + 1) * 2, none⟩) (n - k) a, .slice (some ⟨g, k * 2, none⟩) (n - k) b]).run Try.prog W1.drew = .ok (goInt (n - k : Nat)) W2 := fun ty a b => by
    rw [hW2]
    exact run_copy_cut _ _ ty 24 i0 2 (n - k) Try.underlying22 hi0 hz1 h _ _ a g _ _ b _ _ (show Blk W1.drew h _ _ from B1) _ (Nat.min_self _) hd (by rw [List.size_toArray, hsz1, hd]; omega) (cells_drop (show Blk W1.drew g _ cur from K1) hc) (spc_one _)
  have hnk : (n : Int) + 1 - (k : Int) = ((n + 1 - k : Nat) : Int) := by omega
  have hrz : ∀ ty, (Builtin.append_ #[22, 3] ty #[.slice (some ⟨g, 0, none⟩) k cap, .int .i64 ((n : Int) + 1 - (k : Int))]).run Try.prog w = .ok (.slice (some ⟨h, 0, none⟩) (n + 1) G) W0 := fun ty => by rw [hnk]; exact hr ty
  have hcap : cap ≤ 1000000 := by omega
  have hcut1 := run_cut_l Try.underlying22 hi0 (some ⟨g, 0, none⟩) n cap k (by omega)
  rw [hz1, show cutv (some ⟨g, 0, none⟩) k n cap 2 = .slice (some ⟨g, k * 2, none⟩) (n - k) (cap - k) by unfold cutv; rw [if_neg (by omega)]; show Value.slice (some (Addr.add _ _)) _ _ = _; rw [Addr.add_lit, Nat.zero_add]] at hcut1
  have hcut2 := run_cut_h Try.underlying22 hi0 (some ⟨g, 0, none⟩) n cap k (by omega)
  rw [show cutv (some ⟨g, 0, none⟩) 0 k cap i0.size = .slice (some ⟨g, 0, none⟩) k cap by unfold cutv; split <;> simp [Addr.add]] at hcut2
  have hcut4 := run_cut_l Try.underlying22 hi0 (some ⟨h, 0, none⟩) (n + 1) G k (by omega)
  rw [hz1, show cutv (some ⟨h, 0, none⟩) k (n + 1) G 2 = .slice (some ⟨h, k * 2, none⟩) (n + 1 - k) (G - k) by unfold cutv; rw [if_neg (by omega)]; show Value.slice (some (Addr.add _ _)) _ _ = _; rw [Addr.add_lit, Nat.zero_add]] at hcut4
  have hne1 : ¬ ((k : Int) = (n : Int)) := by omega
  have hnr : (cap : Int) < (n : Int) + 1 := by omega
  clear hW0 hW1 hW2 B0 O0 Q0 K0 B1 hsz1 OH1 K1 B2 hlen hfin hc hcl hs hd hb hq hnk hr hold htk hRs hRt hROW hkn hGe hh hgh
  have mixed : Try.prog.follows .mixedOrders = true := by kernel_rfl
  go_enter Try.func25, Try.ntmps25
  go_wp2_with (first
    | (with_reducible refine Lib.wpList_append_run _ rfl (.tmp 34) (.tmp 39) _ _ rfl _ _ rfl rfl _ _ (hrz _) ?_)
    | (with_reducible refine Lib.wpList_copy_run _ rfl (.tmp 43) (.tmp 44) 22 22 rfl _ _ rfl rfl (hcp1 _ _ _) ?_))
  have hw1 : IntKind.i64.wrap ((k : Int) + 1) = (k : Int) + 1 := by rw [IntKind.wrap_i64]; omega
  have hb1 : (0 : Int) ≤ (k : Int) + 1 := by omega
  have htn : ((k : Int) + 1).toNat = k + 1 := by omega
  have hb3 : (k : Int) + 1 ≤ (n : Int) + 1 := by omega
  have hb4 : (k : Int) ≤ (n : Int) := by omega
  have hb2 : ¬ (G = k + 1) := by omega
  have hb5 : ¬ (cap = k) := by omega
  have hsub : n + 1 - (k + 1) = n - k := by omega
  go_region_law_o (refine step_copy_run rfl (.tmp 50) (.tmp 53) 22 22 rfl _ _ (by simp [Act.eval, Act.put]) (by simp [Act.eval, Act.put]) (hcp2 _ _ _) ?_)
  go_wp2
  go_ret
  exact ⟨_, rfl, by rw [HL.out]; exact S2.out, O2.out.mono fun i _ e => e.elim⟩

/-- Insert of one span into a row of the call's own. -/
theorem insert_any (base : Nat) (v : Value) (l : List Sp) (k : Nat) (s : Sp) (gq : Nat) (w : World) (hown : w.ownsRow base 24 2 v l.length (spc l)) (hb : base ≤ w.heap.size) (hq : Blk w gq 24 #[.int .i64 s.1, .int .i64 s.2]) (hne : v.ownBlock ≠ some gq)
    (hk : k ≤ l.length) (hl : l.length ≤ 1000000) :
    Calls Try.prog 25 #[v, .int .i64 k, .slice (some ⟨gq, 0, none⟩) 1 1] w (InsP v (insAt l k s) w) := by
  rcases Nat.lt_or_ge k l.length with hlt | hge
  · obtain ⟨g, cap, cur, rfl, -, hB, h1, h2, h3, h4⟩ := own_block hown hlt
    by_cases hroom : l.length + 1 ≤ cap
    · exact insert_room g cap l.length k gq cur l s w hB h3 rfl hroom h2 h4 hlt hq (fun e => hne (by rw [e]; rfl))
    · exact insert_grow g cap l.length k gq cur l s w hB h3 rfl h1 hroom h4 hlt hl hq
  · obtain rfl : k = l.length := by omega
    rw [insAt_end]
    exact insert_end base v l s gq w hown hb hq hl
end Go.Proofs.Ytlpndkmhdnpifaa
