/- Contracts of package slices at spans: Insert of one into a row of the call's own. -/
import Derived.Test.YtoeccbbjncgmlaaDoorExt
import Derived.Test.YtoeccbbjncgmlaaDoorLedMath
import Derived.Test.YtoeccbbjncgmlaaDoorQuiets
import Derived.Test.YtoeccbbjncgmlaaDoorSpanOP
import Derived.Lib.Overlaps
import Derived.Lib.SlBuf
namespace Go.Proofs.YtoeccbbjncgmlaaDoor
set_option maxRecDepth 100000
open Go.RowKit Go.Lib Go.Shelf

/-- copy at elements of any size, its run. -/
theorem run_copy_cut {P : Program} {w : World} (dT sT ty elem : TypeId) (i : TypeInfo) (z n : Nat) (hu : P.underlying dT = some (.slice elem)) (hi : P.info? elem = some i) (hz : i.size = z)
    (g off dLen dCap b o sLen sCap : Nat) (cur : Array Value) (t : TypeId) (hg : Blk w g t cur) (news : List Value) (hn : Nat.min sLen dLen = n) (hnl : news.length = n * z) (hfit : off + news.length ≤ cur.size)
    (hsrc : ∀ j v, news[j]? = some v → w.cell? ⟨b, o + j, none⟩ = some v) (h1 : ∀ v ∈ news, v.oneCell' = true) :
    (Builtin.copy_ #[dT, sT] ty #[.slice (some ⟨g, off, none⟩) dLen dCap, .slice (some ⟨b, o, none⟩) sLen sCap]).run P w = .ok (goInt n) (w.setCells g off news) := by
  subst hz
  have hf := run_firstCells_some (P := P) w i.size n ⟨b, o, none⟩ sLen sCap news hnl (fun j v hj => by rw [Addr.add_lit]; exact hsrc j v hj)
  have hst := run_storeCells_cells (P := P) g off news 0 w (fun j hj => by rw [Nat.add_zero, hg.cell, Array.getElem?_eq_getElem (by omega)]; rfl) (fun j hj => by rw [hg.free]) h1
  rw [Nat.add_zero] at hst
  simp [Builtin.copy_, run_underlying hu, Builtin.lenOf, sizeOf, typeInfo, hi, hn, hf, hst]
theorem step_copy_run {P : Program} {ops : Array Oper} {o : Oper} {a : Act} {w : World} {K : Act → World → Prop} {Q : Exit → Act → World → Prop} {E : Prop} (hg : o.guard = none) (d s : Operand) (t t' : TypeId)
    (ho : o.op = .call { callee := .builtin .copy, args := #[d, s], argTypes := #[t, t'] }) (v u : Value) (hd : a.eval d = v) (hs : a.eval s = u) {v' : Value} {w' : World}
    (hr : (Builtin.copy_ #[t, t'] o.type #[v, u]).run P w = .ok v' w') (h : K (a.put o.dst v') w') : if Region.wanted o (yielded ops a.tmps) = true then Oper.wp P o a w K Q else E := by
  rw [if_pos (by simp [Region.wanted, hg])]
  exact Lib.wp_copy_run w d s t t' ho v u hd hs hr h

/-- One put in: cells first to the right, then the new ones; or the other way round. -/
theorem splice_ins1 (l : List Sp) (k : Nat) (s : Sp) (cur : List Value) (hk : k ≤ l.length) (hc : cur.take (k * 2) = spc (l.take k)) :
    (splice (splice cur (k * 2) (spc [s])) ((k + 1) * 2) (spc (l.drop k))).take ((l.length + 1) * 2) = spc (insAt l k s) := by
  have hd : (spc (l.drop k)).length = (l.length - k) * 2 := by rw [spc_len, List.length_drop]
  have ht : (spc (l.take k)).length = k * 2 := by rw [spc_len, List.length_take, Nat.min_eq_left hk]
  have h1 : (splice cur (k * 2) (spc [s])).take ((k + 1) * 2) = spc (l.take k) ++ spc [s] := by
    unfold splice
    rw [hc, ← List.append_assoc, List.take_append_of_le_length (by simp [ht, spc_len]; omega), List.take_of_length_le (by simp [ht, spc_len]; omega)]
  unfold splice at h1 ⊢
  rw [h1, ← List.append_assoc, List.take_append_of_le_length (by simp [ht, hd, spc_len]; omega), List.take_of_length_le (by simp [ht, hd, spc_len]; omega)]
  unfold insAt
  rw [← spc_append, ← spc_append, List.append_assoc]
  rfl
theorem splice_ins2 (l : List Sp) (k : Nat) (s : Sp) (cur : List Value) (hk : k ≤ l.length) (hlen : (l.length + 1) * 2 ≤ cur.length) (hc : cur.take (k * 2) = spc (l.take k)) :
    (splice (splice cur ((k + 1) * 2) (spc (l.drop k))) (k * 2) (spc [s])).take ((l.length + 1) * 2) = spc (insAt l k s) := by
  have hd : (spc (l.drop k)).length = (l.length - k) * 2 := by rw [spc_len, List.length_drop]
  have ht : (spc (l.take k)).length = k * 2 := by rw [spc_len, List.length_take, Nat.min_eq_left hk]
  have hs : (spc [s]).length = 2 := by rw [spc_len]; rfl
  have h1 : (splice cur ((k + 1) * 2) (spc (l.drop k))).take (k * 2) = spc (l.take k) := by
    unfold splice
    rw [List.take_append_of_le_length (by simp; omega), List.take_take, Nat.min_eq_left (by omega), hc]
  have h2 : (splice cur ((k + 1) * 2) (spc (l.drop k))).drop (k * 2 + (spc [s]).length) = spc (l.drop k) ++ cur.drop ((k + 1) * 2 + (spc (l.drop k)).length) := by
    unfold splice
    rw [hs, show k * 2 + 2 = (cur.take ((k + 1) * 2)).length by simp; omega, List.drop_left]
  unfold splice at h1 h2 ⊢
  rw [h1, h2, ← List.append_assoc, ← List.append_assoc, List.take_append_of_le_length (by simp [ht, hd, hs]; omega), List.take_of_length_le (by simp [ht, hd, hs]; omega)]
  unfold insAt
  rw [← spc_append, ← spc_append, List.append_assoc]
  rfl

theorem shape_blk {w : World} {g : Nat} {t : TypeId} {cs : Array Value} (h : Blk w g t cs) : w.shape? g = some (t, cs.size) := by
  have h' : w.heap[g]? = some (.cells cs t (0, 0)) := h
  simp [World.shape?, h']

/-- What Insert answers. -/
def InsP (v : Value) (m : List Sp) (w : World) (e : Ending) (w' : World) : Prop := ∃ v', e = .returned v' ∧ Sl w' w'.heap.size 2 v' m.length (spc m) ∧ Only (fun b => v.ownBlock = some b) w w'

set_option maxHeartbeats 4000000 in
/-- At the end: append. -/
theorem insert_end (base : Nat) (v : Value) (l : List Sp) (s : Sp) (gq : Nat) (w : World) (hown : w.ownsRow base 25 2 v l.length (spc l)) (hb : base ≤ w.heap.size) (hq : Blk w gq 25 #[.int .i64 s.1, .int .i64 s.2]) (hl : l.length ≤ 1000000) :
    Calls Tryd.prog 53 #[v, .int .i64 l.length, .slice (some ⟨gq, 0, none⟩) 1 1] w (InsP v (l ++ [s]) w) := by
  obtain ⟨i0, hi0, hz0, hz1, hz2⟩ := info_parts info_span
  have HO := Lib.hid hown
  have HS := Lib.hid (Sl.of_blk (size := 2) (n := 1) (c := 1) hq rfl (Nat.le_refl _) (by decide))
  obtain ⟨A, cap, rfl, hnc, hcm⟩ := own_len hown
  have hcm' : cap ≤ 9223372036854775807 := by unfold maxLen at hcm; omega
  have hcut := run_cut_l Tryd.underlying31 hi0 A l.length cap l.length (Nat.le_refl _)
  clear hown hq
  go_enter Tryd.func53, Tryd.ntmps53
  go_wp2_with (with_reducible refine wpList_append_sl (o := ⟨some 25, _, _, _, _, _⟩) _ rfl (.tmp 23) (.tmp 24) _ rfl base 25 i0 _ 2 16 Tryd.underlying31 hi0 hz0 hz1 hz2 rfl (by decide) (.slice A l.length cap) l.length (spc l) rfl ?c1 w.heap.size (.slice (some ⟨gq, 0, none⟩) 1 1) 1 (spc [s]) rfl ?c6 (spc_one _) ?c2 ?c3 ?c4 ?c5)
  case c1 => exact HO.out
  case c6 => exact HS.out
  case c2 => unfold maxLen; omega
  case c3 => omega
  case c5 =>
    intro v1 w1 H1 o1 _
    have HW := Lib.hid (show Sl w1 w1.heap.size 2 v1 (l ++ [s]).length (spc (l ++ [s])) by
      have := Sl.of_own H1.out H1.out.1
      rw [spc_append, List.length_append]; exact this)
    have O1 := Lib.hid o1
    clear o1 H1
    go_wp2
    go_ret
    exact ⟨_, rfl, HW.out, O1.out⟩

/-- The first cells of a row. -/
theorem take_spc {cur : List Value} {l : List Sp} {n k : Nat} (_ : l.length = n) (hk : k ≤ n) (hc : cur.take (n * 2) = spc l) : cur.take (k * 2) = spc (l.take k) := by
  have := congrArg (List.take (k * 2)) hc
  rw [List.take_take, Nat.min_eq_left (by omega), spc_take] at this
  exact this
/-- The cells from one place on. -/
theorem cells_drop {w : World} {g : Nat} {t : TypeId} {cur : Array Value} {l : List Sp} {n k : Nat} (hb : Blk w g t cur) (hc : cur.toList.take (n * 2) = spc l) : ∀ j v, (spc (l.drop k))[j]? = some v → w.cell? ⟨g, k * 2 + j, none⟩ = some v := by
  intro j v hv
  rw [hb.cell, ← Array.getElem?_toList]
  rw [← spc_drop, List.getElem?_drop, ← hc, List.getElem?_take] at hv
  split at hv
  · exact hv
  · cases hv
theorem cells_one {w : World} {g : Nat} {t : TypeId} {s : Sp} (hq : Blk w g t #[.int .i64 s.1, .int .i64 s.2]) : ∀ j v, (spc [s])[j]? = some v → w.cell? ⟨g, 0 + j, none⟩ = some v := by
  intro j v hv
  rw [Nat.zero_add, hq.cell, ← Array.getElem?_toList]
  exact hv

set_option maxHeartbeats 4000000 in
/-- There is room: what stands behind the place goes to the right, in place. -/
theorem insert_room (g cap n k gq : Nat) (cur : Array Value) (l : List Sp) (s : Sp) (w : World) (hb : Blk w g 25 cur) (hs : cur.size = cap * 2) (hn : l.length = n) (hroom : n + 1 ≤ cap) (hcm : cap ≤ maxLen) (hc : cur.toList.take (n * 2) = spc l) (hk : k < n)
    (hq : Blk w gq 25 #[.int .i64 s.1, .int .i64 s.2]) (hne : gq ≠ g) :
    Calls Tryd.prog 53 #[.slice (some ⟨g, 0, none⟩) n cap, .int .i64 k, .slice (some ⟨gq, 0, none⟩) 1 1] w (InsP (.slice (some ⟨g, 0, none⟩) n cap) (insAt l k s) w) := by
  obtain ⟨i0, hi0, hz0, hz1, hz2⟩ := info_parts info_span
  have hcm' : cap ≤ 9223372036854775807 := by unfold maxLen at hcm; omega
  have hcl : cur.toList.length = cap * 2 := by simpa using hs
  have hd : (spc (l.drop k)).length = (n - k) * 2 := by rw [spc_len, List.length_drop, hn]
  obtain ⟨W1, hW1⟩ : ∃ W1, W1 = w.drew.setCells g ((k + 1) * 2) (spc (l.drop k)) := ⟨_, rfl⟩
  have B1 : Blk W1 g 25 (splice cur.toList ((k + 1) * 2) (spc (l.drop k))).toArray := by
    rw [hW1]
    exact Blk.setCells _ _ (show Blk w.drew g _ cur from hb) (by rw [hd]; omega)
  have Q1 : Blk W1 gq 25 #[.int .i64 s.1, .int .i64 s.2] := by
    rw [hW1]
    exact (show Blk w.drew gq _ _ from hq).keep (only_setCells g _ _ _) hne
  have hsz1 : (splice cur.toList ((k + 1) * 2) (spc (l.drop k))).length = cap * 2 := by rw [splice_len _ _ _ (by rw [hd]; omega), hcl]
  have O1 : Only (isb g) w W1 := by rw [hW1]; exact (((Only.refl (isb g) w).drewN 1)).trans (only_setCells g _ _ w.drew)
  obtain ⟨W2, hW2⟩ : ∃ W2, W2 = W1.setCells g (k * 2) (spc [s]) := ⟨_, rfl⟩
  have B2 : Blk W2 g 25 (splice (splice cur.toList ((k + 1) * 2) (spc (l.drop k))) (k * 2) (spc [s])).toArray := by
    rw [hW2]
    have := Blk.setCells (spc [s]) (k * 2) B1 (by rw [List.size_toArray, hsz1, spc_len]; simp; omega)
    simpa using this
  have O2 := Lib.hid (show Only (isb g) w W2 by rw [hW2]; exact O1.trans (only_setCells g _ _ _))
  have hlen := insAt_len s (show k ≤ l.length by omega)
  have hfin := splice_ins2 l k s cur.toList (by omega) (by omega) (take_spc hn (by omega) hc)
  have S2 := Lib.hid (sl_of_cur (cap := cap) (n := n + 1) B2 (by rw [hlen, hn]) hroom hcm (by simpa [hn] using hfin))
  have HL := Lib.hid (show (insAt l k s).length = n + 1 by rw [hlen, hn])
  have hcp1 : ∀ ty a b, (Builtin.copy_ #[31, 31] ty #[.slice (some ⟨g, (k + 1) * 2, none⟩) (n - k) a, .slice (some ⟨g, k * 2, none⟩) (n + 1 - k) b]).run Tryd.prog w.drew = .ok (goInt (n - k : Nat)) W1 := fun ty a b => by
    rw [hW1]
    exact run_copy_cut _ _ ty 25 i0 2 (n - k) Tryd.underlying31 hi0 hz1 g _ _ a g _ _ b cur _ (show Blk w.drew g _ cur from hb) _ (by simp only [Nat.min_def]; split <;> omega) hd (by rw [hd]; omega) (cells_drop (show Blk w.drew g _ cur from hb) hc) (spc_one _)
  have hcp2 : ∀ ty a b, (Builtin.copy_ #[31, 31] ty #[.slice (some ⟨g, k * 2, none⟩) (n + 1 - k) a, .slice (some ⟨gq, 0, none⟩) 1 b]).run Tryd.prog W1 = .ok (goInt (1 : Nat)) W2 := fun ty a b => by
    rw [hW2]
    exact run_copy_cut _ _ ty 25 i0 2 1 Tryd.underlying31 hi0 hz1 g _ _ a gq 0 _ b _ _ B1 _ (by simp only [Nat.min_def]; split <;> omega) rfl (by rw [List.size_toArray, hsz1, spc_len]; simp; omega) (cells_one Q1) (spc_one _)
  have hov : ∀ a b, (callFunc 70 #[.slice (some ⟨gq, 0, none⟩) 1 a, .slice (some ⟨g, (k + 1) * 2, none⟩) (n - k) b]).run Tryd.prog w = .ok (.value (.bool false)) w := fun a b => by
    rw [run_callFunc_extern Tryd.func70 (by kernel_rfl) (by kernel_rfl) (by kernel_rfl) (e := Extern.SlicesOverlaps.overlaps #[31, 31] #[4]) (by kernel_rfl),
      Lib.run_overlaps_apart w 31 4 25 Tryd.underlying31 2 (fun w => by simp [sizeOf, typeInfo, hi0, hz1]) ⟨gq, 0, none⟩ ⟨g, (k + 1) * 2, none⟩ 1 a (n - k) b hne 25 25 2 (cap * 2) (shape_blk hq) (by rw [← hs]; exact shape_blk hb) (by omega) (hq.free 0) (hq.free 2)]
    rfl
  have hcut1 := run_cut_l Tryd.underlying31 hi0 (some ⟨g, 0, none⟩) n cap k (by omega)
  have hcut2 : ∀ w, (Instr.sliceAt 31 (.slice (some ⟨g, 0, none⟩) n cap) none (some (.int .i64 ((n : Int) + 1))) none).run Tryd.prog w = .ok (.slice (some ⟨g, 0, none⟩) (n + 1) cap) w := fun w => by
    have := run_cut_h Tryd.underlying31 hi0 (some ⟨g, 0, none⟩) n cap (n + 1) hroom w
    rw [show cutv (some ⟨g, 0, none⟩) 0 (n + 1) cap i0.size = .slice (some ⟨g, 0, none⟩) (n + 1) cap by unfold cutv; split <;> simp [Addr.add]] at this
    exact this
  have hcut3 : ∀ w, (Instr.sliceAt 31 (.slice (some ⟨g, 0, none⟩) (n + 1) cap) (some (.int .i64 ((k : Int) + 1))) none none).run Tryd.prog w = .ok (.slice (some ⟨g, (k + 1) * 2, none⟩) (n - k) (cap - (k + 1))) w := fun w => by
    have := run_cut_l Tryd.underlying31 hi0 (some ⟨g, 0, none⟩) (n + 1) cap (k + 1) (by omega) w
    rw [hz1, show cutv (some ⟨g, 0, none⟩) (k + 1) (n + 1) cap 2 = .slice (some ⟨g, (k + 1) * 2, none⟩) (n - k) (cap - (k + 1)) by unfold cutv; rw [if_neg (by omega), show n + 1 - (k + 1) = n - k by omega]; show Value.slice (some (Addr.add _ _)) _ _ = _; rw [Addr.add_lit, Nat.zero_add]] at this
    exact this
  have hcut4 : ∀ w, (Instr.sliceAt 31 (.slice (some ⟨g, 0, none⟩) (n + 1) cap) (some (.int .i64 (k : Int))) none none).run Tryd.prog w = .ok (.slice (some ⟨g, k * 2, none⟩) (n + 1 - k) (cap - k)) w := fun w => by
    have := run_cut_l Tryd.underlying31 hi0 (some ⟨g, 0, none⟩) (n + 1) cap k (by omega) w
    rw [hz1, show cutv (some ⟨g, 0, none⟩) k (n + 1) cap 2 = .slice (some ⟨g, k * 2, none⟩) (n + 1 - k) (cap - k) by unfold cutv; rw [if_neg (by omega)]; show Value.slice (some (Addr.add _ _)) _ _ = _; rw [Addr.add_lit, Nat.zero_add]] at this
    exact this
  have hne1 : ¬ ((k : Int) = (n : Int)) := by omega
  have hnr : ¬ ((cap : Int) < (n : Int) + 1) := by omega
  clear hW1 hW2 B1 Q1 hsz1 O1 B2 hlen hfin hc hcl hs hd hb hq
  have mixed : Tryd.prog.follows .mixedOrders = true := by kernel_rfl
  go_enter Tryd.func53, Tryd.ntmps53
  go_wp2_with (simp only [hov])
  have hw1 : IntKind.i64.wrap ((k : Int) + 1) = (k : Int) + 1 := by rw [IntKind.wrap_i64]; omega
  have hb1 : (0 : Int) ≤ (k : Int) + 1 := by omega
  have htn : ((k : Int) + 1).toNat = k + 1 := by omega
  have hb3 : (k : Int) + 1 ≤ (n : Int) + 1 := by omega
  have hb4 : (k : Int) ≤ (n : Int) + 1 := by omega
  have hb2 : ¬ (cap = k + 1) := by omega
  have hb5 : ¬ (cap = k) := by omega
  have hsub : n + 1 - (k + 1) = n - k := by omega
  go_region_law_o (refine step_copy_run rfl (.tmp 73) (.tmp 76) 31 31 rfl _ _ (by simp [Act.eval, Act.put]) (by simp [Act.eval, Act.put]) (hcp1 _ _ _) ?_)
  go_wp2_with (with_reducible refine Lib.wpList_copy_run _ rfl (.tmp 80) (.tmp 81) 31 31 rfl _ _ rfl rfl (hcp2 _ _ _) ?_)
  go_ret
  exact ⟨_, rfl, by rw [HL.out]; exact S2.out, O2.out.mono fun i _ e => by unfold isb at e; rw [e]; rfl⟩

set_option maxHeartbeats 4000000 in
/-- There is no room: a new row. -/
theorem insert_grow (g cap n k gq : Nat) (cur : Array Value) (l : List Sp) (s : Sp) (w : World) (hb : Blk w g 25 cur) (hs : cur.size = cap * 2) (hn : l.length = n) (hnc : n ≤ cap) (hroom : ¬ n + 1 ≤ cap) (hc : cur.toList.take (n * 2) = spc l) (hk : k < n) (hl : n ≤ 1000000)
    (hq : Blk w gq 25 #[.int .i64 s.1, .int .i64 s.2]) :
    Calls Tryd.prog 53 #[.slice (some ⟨g, 0, none⟩) n cap, .int .i64 k, .slice (some ⟨gq, 0, none⟩) 1 1] w (InsP (.slice (some ⟨g, 0, none⟩) n cap) (insAt l k s) w) := by
  obtain ⟨i0, hi0, hz0, hz1, hz2⟩ := info_parts info_span
  have hcl : cur.toList.length = cap * 2 := by simpa using hs
  have hd : (spc (l.drop k)).length = (n - k) * 2 := by rw [spc_len, List.length_drop, hn]
  have htk : (spc (l.take k)).length = k * 2 := by rw [spc_len, List.length_take, Nat.min_eq_left (by omega)]
  have hold : (Builtin.firstCells i0.size k (.slice (some ⟨g, 0, none⟩) k cap)).run Tryd.prog w.drew = .ok (spc (l.take k)).toArray w.drew :=
    run_firstCells_some w.drew i0.size k ⟨g, 0, none⟩ k cap _ (by rw [hz1]; exact htk) fun j v hj => by
      rw [Addr.add_lit, Nat.zero_add, (show Blk w.drew g _ cur from hb).cell, ← Array.getElem?_toList]
      rw [← take_spc hn (by omega) hc, List.getElem?_take] at hj
      split at hj
      · exact hj
      · cases hj
  have hkn : k + (n + 1 - k) = n + 1 := by omega
  have hr := fun ty => Lib.run_append_grow_zeros (P := Tryd.prog) w 31 3 ty 25 i0 _ .i64 .i64 Tryd.underlying31 Tryd.underlying3 hi0 hz0 (some ⟨g, 0, none⟩) k cap _ hold (n + 1 - k) (by omega) (by rw [hz1]; decide) (by omega) (by omega) (by rw [hz2]; omega)
    (by rw [hz2, hkn]; exact growslice_fits (by omega) (by omega))
  rw [hkn] at hr
  have hG := grownCap_ge w (n + 1) cap 25
  have hG2 := grownCap_le_maxLen w (n + 1) cap 25 (by unfold maxLen; omega)
  obtain ⟨G, hGe⟩ : ∃ G, G = grownCap w (n + 1) cap 25 := ⟨_, rfl⟩
  rw [← hGe] at hr hG hG2
  have hG63 : G ≤ 9223372036854775807 := by unfold maxLen at hG2; omega
  obtain ⟨ROW, hROW⟩ : ∃ ROW : Array Value, ROW = (spc (l.take k)).toArray ++ Builtin.zeroCells (Value.agg #[.int .i64 0, .int .i64 0]).cells (n + 1 - k) ++ Builtin.zeroCells (Value.agg #[.int .i64 0, .int .i64 0]).cells (G - (n + 1)) := ⟨_, rfl⟩
  rw [← hROW] at hr
  have hRs : ROW.size = G * 2 := by rw [hROW]; simp [size_zeroCells, Value.cells, htk]; omega
  have hRt : ROW.toList.take (k * 2) = spc (l.take k) := by
    rw [hROW, Array.toList_append, Array.toList_append, List.append_assoc, List.take_append_of_le_length (by simp [htk]), List.take_of_length_le (by simp [htk])]
  obtain ⟨h, hh⟩ : ∃ h, h = w.heap.size := ⟨_, rfl⟩
  obtain ⟨W0, hW0⟩ : ∃ W0, W0 = w.drew.alloc (.cells ROW 25) := ⟨_, rfl⟩
  have B0 : Blk W0 h 25 ROW := by rw [hW0, hh]; exact Blk.new w.drew _ _
  have O0 : Only nob w W0 := by rw [hW0]; exact ((Only.refl nob w).drewN 1).alloc _
  have Q0 : Blk W0 gq 25 #[.int .i64 s.1, .int .i64 s.2] := hq.keep O0 id
  have K0 : Blk W0 g 25 cur := hb.keep O0 id
  have hgh : g ≠ h := by have := hb.lt; omega
  rw [← hW0, ← hh] at hr
  obtain ⟨W1, hW1⟩ : ∃ W1, W1 = W0.setCells h (k * 2) (spc [s]) := ⟨_, rfl⟩
  have B1 : Blk W1 h 25 (splice ROW.toList (k * 2) (spc [s])).toArray := by
    rw [hW1]
    exact Blk.setCells _ _ B0 (by rw [spc_len, hRs]; simp; omega)
  have hsz1 : (splice ROW.toList (k * 2) (spc [s])).length = G * 2 := by rw [splice_len _ _ _ (by rw [spc_len]; simp [hRs]; omega)]; simpa using hRs
  have OH1 : Only (isb h) W0 W1 := by rw [hW1]; exact only_setCells h _ _ W0
  have K1 : Blk W1 g 25 cur := K0.keep OH1 hgh
  obtain ⟨W2, hW2⟩ : ∃ W2, W2 = W1.drew.setCells h ((k + 1) * 2) (spc (l.drop k)) := ⟨_, rfl⟩
  have B2 : Blk W2 h 25 (splice (splice ROW.toList (k * 2) (spc [s])) ((k + 1) * 2) (spc (l.drop k))).toArray := by
    rw [hW2]
    have := Blk.setCells (spc (l.drop k)) ((k + 1) * 2) (show Blk W1.drew h _ _ from B1) (by rw [List.size_toArray, hsz1, hd]; omega)
    simpa using this
  have O2 := Lib.hid (show Only nob w W2 by
    have : Only (isb h) W0 W2 := by rw [hW2]; exact (OH1.drewN 1).trans (only_setCells h _ _ W1.drew)
    exact O0.andThen this fun i hi e => by unfold isb at e; omega)
  have hlen := insAt_len s (show k ≤ l.length by omega)
  have hfin := splice_ins1 l k s ROW.toList (by omega) hRt
  have S2 := Lib.hid (sl_of_cur (cap := G) (n := n + 1) B2 (by rw [hlen, hn]) hG hG2 (by simpa [hn] using hfin))
  have HL := Lib.hid (show (insAt l k s).length = n + 1 by rw [hlen, hn])
  have hcp1 : ∀ ty a b, (Builtin.copy_ #[31, 31] ty #[.slice (some ⟨h, k * 2, none⟩) (n + 1 - k) a, .slice (some ⟨gq, 0, none⟩) 1 b]).run Tryd.prog W0 = .ok (goInt (1 : Nat)) W1 := fun ty a b => by
    rw [hW1]
    exact run_copy_cut _ _ ty 25 i0 2 1 Tryd.underlying31 hi0 hz1 h _ _ a gq 0 _ b _ _ B0 _ (by simp only [Nat.min_def]; split <;> omega) rfl (by rw [hRs, spc_len]; simp; omega) (cells_one Q0) (spc_one _)
  have hcp2 : ∀ ty a b, (Builtin.copy_ #[31, 31] ty #[.slice (some ⟨h, (k + 1) * 2, none⟩) (n - k) a, .slice (some ⟨g, k * 2, none⟩) (n - k) b]).run Tryd.prog W1.drew = .ok (goInt (n - k : Nat)) W2 := fun ty a b => by
    rw [hW2]
    exact run_copy_cut _ _ ty 25 i0 2 (n - k) Tryd.underlying31 hi0 hz1 h _ _ a g _ _ b _ _ (show Blk W1.drew h _ _ from B1) _ (Nat.min_self _) hd (by rw [List.size_toArray, hsz1, hd]; omega) (cells_drop (show Blk W1.drew g _ cur from K1) hc) (spc_one _)
  have hnk : (n : Int) + 1 - (k : Int) = ((n + 1 - k : Nat) : Int) := by omega
  have hrz : ∀ ty, (Builtin.append_ #[31, 3] ty #[.slice (some ⟨g, 0, none⟩) k cap, .int .i64 ((n : Int) + 1 - (k : Int))]).run Tryd.prog w = .ok (.slice (some ⟨h, 0, none⟩) (n + 1) G) W0 := fun ty => by rw [hnk]; exact hr ty
  have hcap : cap ≤ 1000000 := by omega
  have hcut1 := run_cut_l Tryd.underlying31 hi0 (some ⟨g, 0, none⟩) n cap k (by omega)
  rw [hz1, show cutv (some ⟨g, 0, none⟩) k n cap 2 = .slice (some ⟨g, k * 2, none⟩) (n - k) (cap - k) by unfold cutv; rw [if_neg (by omega)]; show Value.slice (some (Addr.add _ _)) _ _ = _; rw [Addr.add_lit, Nat.zero_add]] at hcut1
  have hcut2 := run_cut_h Tryd.underlying31 hi0 (some ⟨g, 0, none⟩) n cap k (by omega)
  rw [show cutv (some ⟨g, 0, none⟩) 0 k cap i0.size = .slice (some ⟨g, 0, none⟩) k cap by unfold cutv; split <;> simp [Addr.add]] at hcut2
  have hcut4 := run_cut_l Tryd.underlying31 hi0 (some ⟨h, 0, none⟩) (n + 1) G k (by omega)
  rw [hz1, show cutv (some ⟨h, 0, none⟩) k (n + 1) G 2 = .slice (some ⟨h, k * 2, none⟩) (n + 1 - k) (G - k) by unfold cutv; rw [if_neg (by omega)]; show Value.slice (some (Addr.add _ _)) _ _ = _; rw [Addr.add_lit, Nat.zero_add]] at hcut4
  have hne1 : ¬ ((k : Int) = (n : Int)) := by omega
  have hnr : (cap : Int) < (n : Int) + 1 := by omega
  clear hW0 hW1 hW2 B0 O0 Q0 K0 B1 hsz1 OH1 K1 B2 hlen hfin hc hcl hs hd hb hq hnk hr hold htk hRs hRt hROW hkn hGe hh hgh
  have mixed : Tryd.prog.follows .mixedOrders = true := by kernel_rfl
  go_enter Tryd.func53, Tryd.ntmps53
  go_wp2_with (first
    | (with_reducible refine Lib.wpList_append_run _ rfl (.tmp 34) (.tmp 39) _ _ rfl _ _ rfl rfl _ _ (hrz _) ?_)
    | (with_reducible refine Lib.wpList_copy_run _ rfl (.tmp 43) (.tmp 44) 31 31 rfl _ _ rfl rfl (hcp1 _ _ _) ?_))
  have hw1 : IntKind.i64.wrap ((k : Int) + 1) = (k : Int) + 1 := by rw [IntKind.wrap_i64]; omega
  have hb1 : (0 : Int) ≤ (k : Int) + 1 := by omega
  have htn : ((k : Int) + 1).toNat = k + 1 := by omega
  have hb3 : (k : Int) + 1 ≤ (n : Int) + 1 := by omega
  have hb4 : (k : Int) ≤ (n : Int) := by omega
  have hb2 : ¬ (G = k + 1) := by omega
  have hb5 : ¬ (cap = k) := by omega
  have hsub : n + 1 - (k + 1) = n - k := by omega
  go_region_law_o (refine step_copy_run rfl (.tmp 50) (.tmp 53) 31 31 rfl _ _ (by simp [Act.eval, Act.put]) (by simp [Act.eval, Act.put]) (hcp2 _ _ _) ?_)
  go_wp2
  go_ret
  exact ⟨_, rfl, by rw [HL.out]; exact S2.out, O2.out.mono fun i _ e => e.elim⟩

/-- Insert of one span into a row of the call's own. -/
theorem insert_any (base : Nat) (v : Value) (l : List Sp) (k : Nat) (s : Sp) (gq : Nat) (w : World) (hown : w.ownsRow base 25 2 v l.length (spc l)) (hb : base ≤ w.heap.size) (hq : Blk w gq 25 #[.int .i64 s.1, .int .i64 s.2]) (hne : v.ownBlock ≠ some gq)
    (hk : k ≤ l.length) (hl : l.length ≤ 1000000) :
    Calls Tryd.prog 53 #[v, .int .i64 k, .slice (some ⟨gq, 0, none⟩) 1 1] w (InsP v (insAt l k s) w) := by
  rcases Nat.lt_or_ge k l.length with hlt | hge
  · obtain ⟨g, cap, cur, rfl, -, hB, h1, h2, h3, h4⟩ := own_block hown hlt
    by_cases hroom : l.length + 1 ≤ cap
    · exact insert_room g cap l.length k gq cur l s w hB h3 rfl hroom h2 h4 hlt hq (fun e => hne (by rw [e]; rfl))
    · exact insert_grow g cap l.length k gq cur l s w hB h3 rfl h1 hroom h4 hlt hl hq
  · obtain rfl : k = l.length := by omega
    rw [insAt_end]
    exact insert_end base v l s gq w hown hb hq hl
end Go.Proofs.YtoeccbbjncgmlaaDoor

/- Contracts of package ledger: what is asked of spans one by one; IsSortedFunc; place, Find, Of. -/
namespace Go.Proofs.YtoeccbbjncgmlaaDoor
set_option maxRecDepth 100000
open Go.RowKit Go.Lib Go.Sort

theorem mixedLed : Tryd.prog.follows .mixedOrders = true := by kernel_rfl

set_option maxHeartbeats 1000000 in
theorem add1_any (s : Sp) (gp : Nat) (hs : Fit s) (x : Sp) (hx : Fit x) (w : World) (hb : Blk w gp 25 #[.int .i64 s.1, .int .i64 s.2]) :
    Calls Tryd.prog 51 #[.agg #[.int .i64 x.1, .int .i64 x.2], .pointer (some ⟨gp, 0, none⟩)] w fun e w' => e = .returned (.bool (decide (Sp.meets x s))) ∧ Only nob w w' := by
  have hb2 := hb.alloc (.cells #[.int .i64 x.1, .int .i64 x.2] 25)
  have hb0 := hb2.cell 0
  have hb1 := hb2.cell 1
  simp at hb0 hb1
  clear hb hb2
  obtain ⟨q, hq⟩ : ∃ q, q = decide (Sp.meets x s) := ⟨_, rfl⟩
  have HQ := Lib.hid hq
  rw [← hq]
  clear hq
  go_enter Tryd.func51, Tryd.ntmps51
  go_wp2_with fail
  go_at_call 52
  refine (spMeets x s hx hs _).mono ?_
  rw [← HQ.out]
  rintro e w1 ⟨rfl, o⟩
  have O := Lib.hid (((Only.refl nob w).alloc (.cells #[.int .i64 x.1, .int .i64 x.2] 25)).trans o)
  clear o
  go_wp2
  go_ret
  exact ⟨rfl, O.out⟩
theorem add1_pred {s : Sp} {gp : Nat} {w : World} (hs : Fit s) (hb : Blk w gp 25 #[.int .i64 s.1, .int .i64 s.2]) : Pred 51 #[.pointer (some ⟨gp, 0, none⟩)] (fun x => decide (Sp.meets x s)) w :=
  ⟨enters_of Tryd.func51 (by kernel_rfl) rfl, fun x hx W hW => add1_any s gp hs x hx W (hb.keep hW id)⟩

set_option maxHeartbeats 1000000 in
theorem rightL_any (all : Sp) (gp : Nat) (ha : Fit all) (x : Sp) (hx : Fit x) (w : World) (hb : Blk w gp 25 #[.int .i64 all.1, .int .i64 all.2]) :
    Calls Tryd.prog 34 #[.agg #[.int .i64 x.1, .int .i64 x.2], .pointer (some ⟨gp, 0, none⟩)] w fun e w' => e = .returned (.bool (!decide (Sp.within x all))) ∧ Only nob w w' := by
  have hb2 := hb.alloc (.cells #[.int .i64 x.1, .int .i64 x.2] 25)
  have hb0 := hb2.cell 0
  have hb1 := hb2.cell 1
  simp at hb0 hb1
  clear hb hb2
  obtain ⟨q, hq⟩ : ∃ q, q = decide (Sp.within x all) := ⟨_, rfl⟩
  have HQ := Lib.hid hq
  rw [← hq]
  clear hq
  go_enter Tryd.func34, Tryd.ntmps34
  go_wp2_with fail
  go_at_call 35
  refine (spWithin x all hx ha _).mono ?_
  rw [← HQ.out]
  rintro e w1 ⟨rfl, o⟩
  have O := Lib.hid (((Only.refl nob w).alloc (.cells #[.int .i64 x.1, .int .i64 x.2] 25)).trans o)
  clear o
  go_wp2
  go_ret
  exact ⟨rfl, O.out⟩
theorem rightL_pred {all : Sp} {gp : Nat} {w : World} (ha : Fit all) (hb : Blk w gp 25 #[.int .i64 all.1, .int .i64 all.2]) : Pred 34 #[.pointer (some ⟨gp, 0, none⟩)] (fun x => !decide (Sp.within x all)) w :=
  ⟨enters_of Tryd.func34 (by kernel_rfl) rfl, fun x hx W hW => rightL_any all gp ha x hx W (hb.keep hW id)⟩

set_option maxHeartbeats 1000000 in
theorem find1_any (a : Int) (gp : Nat) (x : Sp) (w : World) (hb : Blk w gp 3 #[.int .i64 a]) :
    Calls Tryd.prog 55 #[.agg #[.int .i64 x.1, .int .i64 x.2], .pointer (some ⟨gp, 0, none⟩)] w fun e w' => e = .returned (.bool (decide (x.1 = a))) ∧ Only nob w w' := by
  have hb0 := (hb.alloc (.cells #[.int .i64 x.1, .int .i64 x.2] 25)).cell 0
  simp at hb0
  have O := Lib.hid ((Only.refl nob w).alloc (.cells #[.int .i64 x.1, .int .i64 x.2] 25))
  clear hb
  go_enter Tryd.func55, Tryd.ntmps55
  go_wp2
  go_ret
  exact ⟨ret_bool (by rw [Bool.eq_iff_iff]; simp), O.out⟩
theorem find1_pred {a : Int} {gp : Nat} {w : World} (hb : Blk w gp 3 #[.int .i64 a]) : Pred 55 #[.pointer (some ⟨gp, 0, none⟩)] (fun x => decide (x.1 = a)) w :=
  ⟨enters_of Tryd.func55 (by kernel_rfl) rfl, fun x _ W hW => find1_any a gp x W (hb.keep hW id)⟩

set_option maxHeartbeats 1000000 in
theorem place1_any (a : Int) (gp : Nat) (x : Sp) (w : World) (hb : Blk w gp 3 #[.int .i64 a]) :
    Calls Tryd.prog 72 #[.agg #[.int .i64 x.1, .int .i64 x.2], .pointer (some ⟨gp, 0, none⟩)] w fun e w' => e = .returned (.bool (decide (a < x.1))) ∧ Only nob w w' := by
  have hb0 := (hb.alloc (.cells #[.int .i64 x.1, .int .i64 x.2] 25)).cell 0
  simp at hb0
  have O := Lib.hid ((Only.refl nob w).alloc (.cells #[.int .i64 x.1, .int .i64 x.2] 25))
  clear hb
  go_enter Tryd.func72, Tryd.ntmps72
  go_wp2
  go_ret
  exact ⟨rfl, O.out⟩
theorem place1_pred {a : Int} {gp : Nat} {w : World} (hb : Blk w gp 3 #[.int .i64 a]) : Pred 72 #[.pointer (some ⟨gp, 0, none⟩)] (fun x => decide (a < x.1)) w :=
  ⟨enters_of Tryd.func72 (by kernel_rfl) rfl, fun x _ W hW => place1_any a gp x W (hb.keep hW id)⟩

def SpFind : Prop := ∀ (v : Value) (l : List Sp) (a : Int) (B : Nat) (w : World), Sl w B 2 v l.length (spc l) → B ≤ w.heap.size → Fits l →
  Calls Tryd.prog 23 #[v, .int .i64 a] w fun e w' => e = .returned (.int .i64 (findT l a)) ∧ Only nob w w'
set_option maxHeartbeats 1000000 in
theorem spFind : SpFind := by
  intro v l a B w h hB hf
  have HA := Lib.hid h
  have HF := Lib.hid hf
  have HB := Lib.hid (Blk.new w 3 #[.int .i64 a])
  have O0 := Lib.hid ((Only.refl nob w).alloc (.cells #[.int .i64 a] 3))
  clear h hf
  go_enter Tryd.func23, Tryd.ntmps23
  go_wp2_with fail
  go_at_call 45
  refine (indexFunc_any _ _ _ v l B _ (find1_pred HB.out) (HA.out.below (O0.out.below hB fun _ h => h.elim)) (Nat.le_trans hB O0.out.size) HF.out).mono ?_
  rintro e w1 ⟨rfl, o⟩
  have O1 := Lib.hid (O0.out.trans o)
  obtain ⟨i, hi⟩ : ∃ i, i = idxI (fun x => decide (x.1 = a)) l := ⟨_, rfl⟩
  rw [← hi]
  have HI := Lib.hid (show i = findT l a from hi)
  clear o hi
  go_wp2
  go_ret
  exact ⟨ret_i64 HI.out, O1.out⟩

set_option maxHeartbeats 1000000 in
theorem place_any (v : Value) (l : List Sp) (a : Int) (B : Nat) (w : World) (h : Sl w B 2 v l.length (spc l)) (hB : B ≤ w.heap.size) (hf : Fits l) :
    Calls Tryd.prog 54 #[v, .int .i64 a] w fun e w' => e = .returned (.int .i64 (placeT l a : Nat)) ∧ Only nob w w' := by
  have HA := Lib.hid h
  have HF := Lib.hid hf
  obtain ⟨A, ca, rfl, -, -⟩ := h.form
  have HB := Lib.hid (Blk.new w 3 #[.int .i64 a])
  have O0 := Lib.hid ((Only.refl nob w).alloc (.cells #[.int .i64 a] 3))
  clear h hf
  obtain ⟨P1, P2⟩ := placeT_idx l a
  have H1 := Lib.hid P1
  have H2 := Lib.hid P2
  obtain ⟨i, hi⟩ : ∃ i, i = idxI (fun x => decide (a < x.1)) l := ⟨_, rfl⟩
  have HI := Lib.hid hi
  clear hi P1 P2
  by_cases hlt : i < 0
  · have HK := Lib.hid (H1.out (by rw [← HI.out]; exact hlt))
    go_enter Tryd.func54, Tryd.ntmps54
    go_wp2_with fail
    go_at_call 45
    refine (indexFunc_any _ _ _ _ l B _ (place1_pred HB.out) (HA.out.below (O0.out.below hB fun _ h => h.elim)) (Nat.le_trans hB O0.out.size) HF.out).mono ?_
    rw [← HI.out]
    rintro e w1 ⟨rfl, o⟩
    have O1 := Lib.hid (O0.out.trans o)
    clear o
    go_wp2
    go_ret
    exact ⟨ret_i64 (by rw [HK.out]), O1.out⟩
  · have HK := Lib.hid (show i = (placeT l a : Nat) by rw [HI.out]; exact H2.out (by rw [← HI.out]; exact hlt))
    go_enter Tryd.func54, Tryd.ntmps54
    go_wp2_with fail
    go_at_call 45
    refine (indexFunc_any _ _ _ _ l B _ (place1_pred HB.out) (HA.out.below (O0.out.below hB fun _ h => h.elim)) (Nat.le_trans hB O0.out.size) HF.out).mono ?_
    rw [← HI.out]
    rintro e w1 ⟨rfl, o⟩
    have O1 := Lib.hid (O0.out.trans o)
    clear o
    go_wp2
    go_ret
    exact ⟨ret_i64 HK.out, O1.out⟩

theorem byAt_any (x y : Sp) (w : World) : Calls Tryd.prog 38 #[.agg #[.int .i64 x.1, .int .i64 x.2], .agg #[.int .i64 y.1, .int .i64 y.2]] w fun e w' => e = .returned (.int .i64 (cmpI x.1 y.1)) ∧ Only nob w w' := by
  have O := Lib.hid (((Only.refl nob w).alloc (.cells #[.int .i64 x.1, .int .i64 x.2] 25)).alloc (.cells #[.int .i64 y.1, .int .i64 y.2] 25))
  go_enter Tryd.func38, Tryd.ntmps38
  go_wp2_with fail
  go_at_call 63
  refine (compare_any _ _ _).mono ?_
  rintro e w1 ⟨rfl, rfl⟩
  go_wp2
  go_ret
  exact ⟨rfl, O.out⟩
theorem cmpI_neg {a b : Int} : cmpI a b < 0 ↔ a < b := by
  unfold cmpI
  split
  · constructor <;> intro <;> omega
  · split <;> constructor <;> intro <;> omega

abbrev byAtV : Value := .func (.func 38) #[] #[]
set_option maxHeartbeats 2000000 in
theorem isSorted_any (v : Value) (l : List Sp) (B : Nat) (w : World) (h : Sl w B 2 v l.length (spc l)) (hB : B ≤ w.heap.size) :
    Calls Tryd.prog 37 #[v, byAtV] w fun e w' => e = .returned (.bool (decide (l.Pairwise fun x y => x.1 ≤ y.1))) ∧ Only nob w w' := by
  have HA := Lib.hid h
  obtain ⟨A, ca, rfl, hac, ham, -⟩ := h
  unfold maxLen at ham
  rcases Nat.eq_zero_or_pos l.length with h0 | h0
  · obtain rfl := List.eq_nil_of_length_eq_zero h0
    clear h0
    go_enter Tryd.func37, Tryd.ntmps37
    go_wp2
    go_loopw [5] (fun i wr => i = .int .i64 (-1) ∧ wr = w) (fun _ _ => 0)
    case atStart => exact ⟨rfl, rfl⟩
    case round =>
      obtain ⟨rfl, rfl⟩ := hrel
      go_wp2
      go_ret
      exact ⟨rfl, Only.refl _ _⟩
  · go_enter Tryd.func37, Tryd.ntmps37
    go_wp2
    go_loopw [5] (fun i wr => ∃ k : Nat, k < l.length ∧ i = .int .i64 k ∧ Hid (∀ (j : Nat) y x, k ≤ j → l[j]? = some y → l[j + 1]? = some x → y.1 ≤ x.1) ∧ Hid (Only nob w wr)) (fun i _ => (intOf i).toNat)
    case atStart =>
      refine ⟨l.length - 1, by omega, ?_, fun j y x hj _ hx => ?_, Only.refl _ _⟩
      · show Value.int .i64 _ = Value.int .i64 _
        congr 1
        omega
      · have := (List.getElem?_eq_some_iff.1 hx).1
        omega
    case round =>
      obtain ⟨k, hk, rfl, HS, HX⟩ := hrel
      rcases Nat.eq_zero_or_pos k with rfl | hk0
      · have HK := Lib.hid (decide_eq_true (rising_all fun j y x => HS.out j y x (Nat.zero_le _)))
        go_wp2
        go_ret
        exact ⟨ret_bool (by rw [HK.out]), HX.out⟩
      · obtain ⟨m, rfl⟩ : ∃ m, k = m + 1 := ⟨k - 1, by omega⟩
        obtain ⟨x, hx⟩ : ∃ x, l[m + 1]? = some x := ⟨_, List.getElem?_eq_getElem hk⟩
        obtain ⟨y, hy⟩ : ∃ y, l[m]? = some y := ⟨_, List.getElem?_eq_getElem (by omega)⟩
        obtain ⟨b, o, rfl, hb, c0, c1⟩ := sl_span HA.out (HX.out.below hB fun _ h => h.elim) hx
        obtain ⟨b3, o3, e3, -, d0, d1⟩ := sl_span HA.out (HX.out.below hB fun _ h => h.elim) hy
        obtain ⟨rfl, rfl⟩ : b3 = b ∧ o3 = o := by simpa using e3.symm
        have HXX := Lib.hid hx
        have HY := Lib.hid hy
        obtain ⟨c, hc⟩ : ∃ c, c = cmpI x.1 y.1 := ⟨_, rfl⟩
        have HC := Lib.hid hc
        have H1 := Lib.hid (show ∀ (n : Nat) (os : Array Obj), Calls Tryd.prog 38 #[.agg #[.int .i64 x.1, .int .i64 x.2], .agg #[.int .i64 y.1, .int .i64 y.2]] (wat wr n os) fun e w' => e = .returned (.int .i64 c) ∧ Only nob (wat wr n os) w' from fun n os => by
          rw [hc]; exact byAt_any x y _)
        have g0 := wat_cell c0
        have g1 := wat_cell c1
        have g2 := wat_cell d0
        have g3 := wat_cell d1
        clear hx hy hc e3 c0 c1 d0 d1
        have jz : (m : Int) + 1 < (l.length : Int) := by omega
        have jz1 : (m : Int) < (l.length : Int) := by omega
        have p0 : (0 : Int) ≤ (m : Int) + 1 := by omega
        have e0 : ((m : Int) + 1).toNat = m + 1 := by omega
        have hwp : IntKind.i64.wrap (m : Int) = (m : Int) := by rw [IntKind.wrap_i64]; omega
        by_cases hlt : c < 0
        · have HN := Lib.hid (decide_eq_false (rising_not HY.out HXX.out (cmpI_neg.1 (by rw [← HC.out]; exact hlt))))
          go_wp2_with fail
          refine wp_region_only mixedLed (by kernel_rfl) ?_
          repeat (quiet_step ((go_at_call 38; with_reducible refine wat_call (H1.out _ _))))
          refine wpQuiet_nil ?_
          rintro w' ⟨⟨nq, osq⟩, rfl⟩
          obtain ⟨W3, hW3, O4⟩ := wat_name wr nq osq
          rw [hW3]
          clear hW3 g0 g1 g2 g3
          have O5 := Lib.hid (HX.out.trans O4.out)
          go_wp2
          go_ret
          exact ⟨ret_bool (by rw [HN.out]), O5.out⟩
        · have HN := Lib.hid (show y.1 ≤ x.1 by
            have : ¬ x.1 < y.1 := fun e => hlt (by rw [HC.out]; exact cmpI_neg.2 e)
            omega)
          go_wp2_with fail
          refine wp_region_only mixedLed (by kernel_rfl) ?_
          repeat (quiet_step ((go_at_call 38; with_reducible refine wat_call (H1.out _ _))))
          refine wpQuiet_nil ?_
          rintro w' ⟨⟨nq, osq⟩, rfl⟩
          obtain ⟨W3, hW3, O4⟩ := wat_name wr nq osq
          rw [hW3]
          clear hW3 g0 g1 g2 g3
          have O5 := Lib.hid (HX.out.trans O4.out)
          go_wp2
          go_roundw
          case rel =>
            refine ⟨m, by omega, by go_num, fun j z u hj hz hu => ?_, O5.out⟩
            rcases Nat.lt_or_ge m j with h' | h'
            · exact HS.out j z u h' hz hu
            · obtain rfl : j = m := by omega
              rw [HY.out] at hz
              rw [HXX.out] at hu
              obtain rfl := Option.some.inj hz
              obtain rfl := Option.some.inj hu
              exact HN.out
          case measure => simp [intOf]
end Go.Proofs.YtoeccbbjncgmlaaDoor

/- Contracts of package ledger: Add, Drop, Right. -/
namespace Go.Proofs.YtoeccbbjncgmlaaDoor
set_option maxRecDepth 100000
open Go.RowKit Go.Lib Go.Sort

theorem new_lt (w : World) (o : Obj) : w.heap.size < (w.alloc o).heap.size := by simp

def SpAdd : Prop := ∀ (v : Value) (l : List Sp) (s : Sp) (B : Nat) (w : World), Sl w B 2 v l.length (spc l) → B ≤ w.heap.size → l.length ≤ 10000 → Fits l → Fit s →
  Calls Tryd.prog 22 #[v, .agg #[.int .i64 s.1, .int .i64 s.2]] w fun e w' => ∃ v', e = .returned (.tuple #[v', .int .i64 (addT l s).2]) ∧ Sl w' w'.heap.size 2 v' (addT l s).1.length (spc (addT l s).1) ∧ Only nob w w'
set_option maxHeartbeats 4000000 in
theorem spAdd : SpAdd := by
  intro v l s B w h hB hl hf hs
  have HA := Lib.hid h
  have HF := Lib.hid hf
  obtain ⟨A, ca, rfl, -, -⟩ := h.form
  have HB := Lib.hid (Blk.new w 25 #[.int .i64 s.1, .int .i64 s.2])
  have O0 := Lib.hid ((Only.refl nob w).alloc (.cells #[.int .i64 s.1, .int .i64 s.2] 25))
  clear h hf
  by_cases ho : s.ok
  · have HM := Lib.hid (decide_eq_true ho)
    have HOK := Lib.hid ho
    clear ho
    obtain ⟨q, hq⟩ : ∃ q, q = l.any (fun x => decide (Sp.meets x s)) := ⟨_, rfl⟩
    have HQ := Lib.hid hq
    clear hq
    go_enter Tryd.func22, Tryd.ntmps22
    go_wp2_with fail
    go_at_call 17
    refine (clone_spans _ l B _ (HA.out.below (O0.out.below hB fun _ h => h.elim)) (Nat.le_trans hB O0.out.size) (by omega)).mono ?_
    rintro e w1 ⟨v1, rfl, own, o⟩
    have HW1 := Lib.hid own
    have HB1 := Lib.hid (HB.out.keep o id)
    have O1 := Lib.hid (O0.out.trans o)
    have b0 := HB1.out.cell 0
    have b1 := HB1.out.cell 1
    simp at b0 b1
    clear own o
    go_wp2_with fail
    go_at_call 13
    refine (spMay s hs _).mono ?_
    rw [HM.out]
    rintro e w2 ⟨rfl, o⟩
    have HB2 := Lib.hid (HB1.out.keep o id)
    have HW2 := Lib.hid (own_only HW1.out o fun _ _ h => h)
    have O2 := Lib.hid (O1.out.trans o)
    clear o b0 b1
    go_wp2_with fail
    go_at_call 36
    refine (containsFunc_any _ _ _ _ l B w2 (add1_pred hs HB2.out) (HA.out.below (O2.out.below hB fun _ h => h.elim)) (Nat.le_trans hB O2.out.size) HF.out).mono ?_
    rw [← HQ.out]
    rintro e w3 ⟨rfl, o⟩
    have HB3 := Lib.hid (HB2.out.keep o id)
    have HW3 := Lib.hid (own_only HW2.out o fun _ _ h => h)
    have O3 := Lib.hid (O2.out.trans o)
    clear o
    cases q with
    | true =>
      have HT := Lib.hid (addT_twice HOK.out HQ.out.symm)
      have S3 := Lib.hid (Sl.of_own HW3.out HW3.out.1)
      go_wp2
      go_ret2
      exact ⟨v1, by rw [HT.out]; rfl, by rw [HT.out]; exact S3.out, O3.out⟩
    | false =>
      have HT := Lib.hid (addT_in HOK.out HQ.out.symm)
      have c0 := HB3.out.cell 0
      have c1 := HB3.out.cell 1
      simp at c0 c1
      have mixed := mixedLed
      go_wp2_with fail
      go_region_held3 (fun w' => w'.cell? ⟨w.heap.size, 0, none⟩ = some (.int .i64 s.1) ∧ w'.cell? ⟨w.heap.size, 1, none⟩ = some (.int .i64 s.2)) (first | go_keep | exact C1.out | exact C2.out)
        (first
          | (go_at_call 54; refine (place_any _ l s.1 B _ (HA.out.below ((O3.out.trans (by first | exact (Only.refl nob w3).drewN 1 | exact ((Only.refl nob w3).drewN 1).alloc _)).below hB fun _ h => h.elim)) (Nat.le_trans hB (Nat.le_trans O3.out.size (by simp))) HF.out).mono ?_
             rintro e w4 ⟨rfl, o⟩
             have X4 := Lib.hid (Only.trans (a := w3) (by first | exact (Only.refl nob w3).drewN 1 | exact ((Only.refl nob w3).drewN 1).alloc _) o)
             have Y4 := Lib.hid o
             have C1 := Lib.hid (And.intro (X4.out.keeps c0) (X4.out.keeps c1))
             clear o)
          | (go_at_call 53
             first
             | (have OW := own_only HW3.out (X4.out.alloc (.cells #[.int .i64 s.1, .int .i64 s.2] 25)) (fun _ _ h => h)
                have hz := show w.heap.size + 1 ≤ (w4.alloc (.cells #[.int .i64 s.1, .int .i64 s.2] 25)).heap.size by have h1 := HB3.out.lt; have h2 := X4.out.size; simp; omega
                have hne : v1.ownBlock ≠ some w4.heap.size := fun e => by have h1 := (own_lt HW3.out e).2; have h2 := X4.out.size; omega
                have HO5 := Lib.hid (O3.out.trans (X4.out.alloc (.cells #[.int .i64 s.1, .int .i64 s.2] 25)))
                have HB5 := Lib.hid ((HB3.out.keep X4.out id).alloc (.cells #[.int .i64 s.1, .int .i64 s.2] 25))
                with_reducible refine (insert_any _ v1 l (placeT l s.1) s w4.heap.size _ OW (by simpa using hz) (Blk.new w4 _ _) hne (placeT_le _ _) (by omega)).mono ?_
                rintro e w5 ⟨v5, rfl, hs5, o5⟩
                have S5 := Lib.hid hs5
                have O5 := Lib.hid (own_nob HO5.out OW o5 (by simp))
                have B5 := HB5.out.keep o5 (fun e => by have h1 := (own_lt HW3.out e).1; have h2 := new_lt w (.cells #[.int .i64 s.1, .int .i64 s.2] 25); omega)
                have C2 := Lib.hid (And.intro (B5.cell 0) (B5.cell 1))
                clear hs5 o5 B5 OW hz hne)
             | (have OW := own_only HW3.out X4.out (fun _ _ h => h)
                have hz := show w.heap.size + 1 ≤ w4.heap.size by have h1 := HB3.out.lt; have h2 := X4.out.size; omega
                have hne : v1.ownBlock ≠ some w3.heap.size := fun e => by have h1 := (own_lt HW3.out e).2; omega
                have HQ4 : Blk w4 w3.heap.size 25 #[.int .i64 s.1, .int .i64 s.2] := Blk.keep (F := nob) (show Blk (w3.alloc (.cells #[.int .i64 s.1, .int .i64 s.2] 25)).drew w3.heap.size 25 #[.int .i64 s.1, .int .i64 s.2] from (Blk.new w3 _ _).drewN 1) Y4.out id
                have HO5 := Lib.hid (O3.out.trans X4.out)
                have HB5 := Lib.hid (HB3.out.keep X4.out id)
                with_reducible refine (insert_any _ v1 l (placeT l s.1) s w3.heap.size _ OW (by simpa using hz) HQ4 hne (placeT_le _ _) (by omega)).mono ?_
                rintro e w5 ⟨v5, rfl, hs5, o5⟩
                have S5 := Lib.hid hs5
                have O5 := Lib.hid (own_nob HO5.out OW o5 (by simp))
                have B5 := HB5.out.keep o5 (fun e => by have h1 := (own_lt HW3.out e).1; have h2 := new_lt w (.cells #[.int .i64 s.1, .int .i64 s.2] 25); omega)
                have C2 := Lib.hid (And.intro (B5.cell 0) (B5.cell 1))
                clear hs5 o5 B5 OW hz hne HQ4)))
      all_goals
        go_wp2
        go_ret2
        exact ⟨v5, by rw [HT.out]; rfl, by rw [HT.out]; exact S5.out, O5.out⟩
  · have HM := Lib.hid (decide_eq_false ho)
    have HT := Lib.hid (addT_arg (l := l) ho)
    clear ho
    go_enter Tryd.func22, Tryd.ntmps22
    go_wp2_with fail
    go_at_call 17
    refine (clone_spans _ l B _ (HA.out.below (O0.out.below hB fun _ h => h.elim)) (Nat.le_trans hB O0.out.size) (by omega)).mono ?_
    rintro e w1 ⟨v1, rfl, own, o⟩
    have HW1 := Lib.hid own
    have HB1 := Lib.hid (HB.out.keep o id)
    have O1 := Lib.hid (O0.out.trans o)
    have b0 := HB1.out.cell 0
    have b1 := HB1.out.cell 1
    simp at b0 b1
    clear own o
    go_wp2_with fail
    go_at_call 13
    refine (spMay s hs _).mono ?_
    rw [HM.out]
    rintro e w2 ⟨rfl, o⟩
    have S2 := Lib.hid (show Sl w2 w2.heap.size 2 v1 l.length (spc l) from Sl.of_own (own_only HW1.out o fun _ _ h => h) HW1.out.1)
    have O2 := Lib.hid (O1.out.trans o)
    clear o b0 b1
    go_wp2
    go_ret2
    exact ⟨v1, by rw [HT.out]; rfl, by rw [HT.out]; exact S2.out, O2.out⟩

def SpTable : Prop := ∀ (all : Sp) (v u : Value) (l m : List Sp) (B : Nat) (w : World), Sl w B 2 v l.length (spc l) → Sl w B 2 u m.length (spc m) → B ≤ w.heap.size → l.length ≤ 10000 → Fits l → Fit all →
  Calls Tryd.prog 15 #[.agg #[.int .i64 all.1, .int .i64 all.2], v, u] w fun e w' => e = .returned (.bool (decide (TableP all l m))) ∧ Only nob w w'
set_option maxHeartbeats 4000000 in
theorem spTable : SpTable := by
  intro all v u l m B w h k hB hl hf ha
  have HA := Lib.hid h
  have HU := Lib.hid k
  have HF := Lib.hid hf
  obtain ⟨A, ca, rfl, -, -⟩ := h.form
  obtain ⟨A', ca', rfl, -, -⟩ := k.form
  have HB := Lib.hid (Blk.new w 25 #[.int .i64 all.1, .int .i64 all.2])
  have O0 := Lib.hid ((Only.refl nob w).alloc (.cells #[.int .i64 all.1, .int .i64 all.2] 25))
  clear h k hf
  obtain ⟨q, hq⟩ : ∃ q, q = l.any (fun x => !decide (Sp.within x all)) := ⟨_, rfl⟩
  have HQ := Lib.hid hq
  clear hq
  cases q with
  | true =>
    have HK := Lib.hid (show decide (TableP all l m) = false from decide_eq_false fun h => by have := any_within.2 h.1; rw [← HQ.out] at this; cases this)
    go_enter Tryd.func15, Tryd.ntmps15
    go_wp2_with fail
    go_at_call 36
    refine (containsFunc_any _ _ _ _ l B _ (rightL_pred ha HB.out) (HA.out.below (O0.out.below hB fun _ h => h.elim)) (Nat.le_trans hB O0.out.size) HF.out).mono ?_
    rw [← HQ.out]
    rintro e w1 ⟨rfl, o⟩
    have O1 := Lib.hid (O0.out.trans o)
    clear o
    go_wp2
    go_ret
    exact ⟨ret_bool (by rw [HK.out]), O1.out⟩
  | false =>
    have HW := Lib.hid (any_within.1 HQ.out.symm)
    by_cases h2 : l.Pairwise fun x y => x.1 ≤ y.1
    · have H2 := Lib.hid h2
      have HD2 := Lib.hid (decide_eq_true h2)
      clear h2
      by_cases h3 : ApartL l
      · have H3 := Lib.hid h3
        have HD3 := Lib.hid (decide_eq_true h3)
        clear h3
        go_enter Tryd.func15, Tryd.ntmps15
        go_wp2_with fail
        go_at_call 36
        refine (containsFunc_any _ _ _ _ l B _ (rightL_pred ha HB.out) (HA.out.below (O0.out.below hB fun _ h => h.elim)) (Nat.le_trans hB O0.out.size) HF.out).mono ?_
        rw [← HQ.out]
        rintro e w1 ⟨rfl, o⟩
        have O1 := Lib.hid (O0.out.trans o)
        have HB1 := Lib.hid (HB.out.keep o id)
        clear o
        go_wp2_with fail
        go_at_call 37
        refine (isSorted_any _ l B _ (HA.out.below (O1.out.below hB fun _ h => h.elim)) (Nat.le_trans hB O1.out.size)).mono ?_
        rw [HD2.out]
        rintro e w2 ⟨rfl, o⟩
        have O2 := Lib.hid (O1.out.trans o)
        have HB2 := Lib.hid (HB1.out.keep o id)
        clear o
        go_wp2_with fail
        go_at_call 39
        refine (spApart _ l B _ (HA.out.below (O2.out.below hB fun _ h => h.elim)) (Nat.le_trans hB O2.out.size) (by omega) HF.out).mono ?_
        rw [HD3.out]
        rintro e w3 ⟨rfl, o⟩
        have O3 := Lib.hid (O2.out.trans o)
        have HB3 := Lib.hid (HB2.out.keep o id)
        have c0 := HB3.out.cell 0
        have c1 := HB3.out.cell 1
        simp at c0 c1
        clear o
        go_wp2_with fail
        go_at_call 41
        refine (spGaps all _ l B _ (HA.out.below (O3.out.below hB fun _ h => h.elim)) (Nat.le_trans hB O3.out.size) (by omega) HF.out ha).mono ?_
        rintro e w4 ⟨v4, O, rfl, hj, hc, hsl, o⟩
        have HE := Lib.hid (table_iff (m := m) HW.out H2.out H3.out hj hc)
        have S4 := Lib.hid hsl
        have O4 := Lib.hid (O3.out.trans o)
        clear hj hc hsl o c0 c1
        go_wp2_with fail
        go_at_call 40
        refine (equal_any _ _ m O B _ w4 (HU.out.below (O4.out.below hB fun _ h => h.elim)) S4.out).mono ?_
        rw [← HE.out]
        obtain ⟨j, hj⟩ : ∃ j, j = decide (TableP all l m) := ⟨_, rfl⟩
        rw [← hj]
        have HJ := Lib.hid hj
        clear hj
        rintro e w5 ⟨rfl, o⟩
        have O5 := Lib.hid (O4.out.trans o)
        clear o
        go_wp2
        go_ret
        exact ⟨ret_bool (by rw [HJ.out]), O5.out⟩
      · have HK := Lib.hid (show decide (TableP all l m) = false from decide_eq_false fun h => h3 h.2.2.1)
        have HD3 := Lib.hid (decide_eq_false h3)
        clear h3
        go_enter Tryd.func15, Tryd.ntmps15
        go_wp2_with fail
        go_at_call 36
        refine (containsFunc_any _ _ _ _ l B _ (rightL_pred ha HB.out) (HA.out.below (O0.out.below hB fun _ h => h.elim)) (Nat.le_trans hB O0.out.size) HF.out).mono ?_
        rw [← HQ.out]
        rintro e w1 ⟨rfl, o⟩
        have O1 := Lib.hid (O0.out.trans o)
        clear o
        go_wp2_with fail
        go_at_call 37
        refine (isSorted_any _ l B _ (HA.out.below (O1.out.below hB fun _ h => h.elim)) (Nat.le_trans hB O1.out.size)).mono ?_
        rw [HD2.out]
        rintro e w2 ⟨rfl, o⟩
        have O2 := Lib.hid (O1.out.trans o)
        clear o
        go_wp2_with fail
        go_at_call 39
        refine (spApart _ l B _ (HA.out.below (O2.out.below hB fun _ h => h.elim)) (Nat.le_trans hB O2.out.size) (by omega) HF.out).mono ?_
        rw [HD3.out]
        rintro e w3 ⟨rfl, o⟩
        have O3 := Lib.hid (O2.out.trans o)
        clear o
        go_wp2
        go_ret
        exact ⟨ret_bool (by rw [HK.out]), O3.out⟩
    · have HK := Lib.hid (show decide (TableP all l m) = false from decide_eq_false fun h => h2 h.2.1)
      have HD2 := Lib.hid (decide_eq_false h2)
      clear h2
      go_enter Tryd.func15, Tryd.ntmps15
      go_wp2_with fail
      go_at_call 36
      refine (containsFunc_any _ _ _ _ l B _ (rightL_pred ha HB.out) (HA.out.below (O0.out.below hB fun _ h => h.elim)) (Nat.le_trans hB O0.out.size) HF.out).mono ?_
      rw [← HQ.out]
      rintro e w1 ⟨rfl, o⟩
      have O1 := Lib.hid (O0.out.trans o)
      clear o
      go_wp2_with fail
      go_at_call 37
      refine (isSorted_any _ l B _ (HA.out.below (O1.out.below hB fun _ h => h.elim)) (Nat.le_trans hB O1.out.size)).mono ?_
      rw [HD2.out]
      rintro e w2 ⟨rfl, o⟩
      have O2 := Lib.hid (O1.out.trans o)
      clear o
      go_wp2
      go_ret
      exact ⟨ret_bool (by rw [HK.out]), O2.out⟩
end Go.Proofs.YtoeccbbjncgmlaaDoor
