/- Contracts: slices.Clone at spans, and span.Sort. -/
import Derived.Test.YtfdihnfhofpjlaaDoorSpanFH
import Derived.Test.YtfdihnfhofpjlaaDoorQuiets
import Derived.Test.YtfdihnfhofpjlaaDoorSpanPure
import Derived.Lib.SliceRun
namespace Go.Proofs.YtfdihnfhofpjlaaDoor
open Go.RowKit Go.Sort

theorem flat_spc (l : List Sp) (t : Nat) (h : t < l.length * 2) : (spc l)[t]? = some ((flatK enc 2 l.toArray)[t]!) := by
  rw [get_flatK _ _ _ _ (by simpa using h)]
  obtain ⟨k, hk, ht⟩ : ∃ k, k < l.length ∧ (t = k * 2 ∨ t = k * 2 + 1) := ⟨t / 2, by omega, by omega⟩
  obtain ⟨h0, h1⟩ := spc_get l k hk
  have hg : l.toArray[k]! = l[k] := by simp [hk]
  rcases ht with rfl | rfl
  · rw [show k * 2 / 2 = k by omega, show k * 2 % 2 = 0 by omega, h0, hg]
    simp [enc]
  · rw [show (k * 2 + 1) / 2 = k by omega, show (k * 2 + 1) % 2 = 1 by omega, h1, hg]
    simp [enc]
theorem holds_own {w : World} {g n : Nat} {cur : Array Value} {t : TypeId} {l : List Sp} (hb : w.heap[g]? = some (.cells cur t (0, 0))) (hn : l.length = n) (hc : cur.toList.take (n * 2) = spc l) : HoldsK enc 2 w g 0 l.toArray := by
  intro j hj
  rw [size_flatK] at hj
  have hj' : j < l.length * 2 := by simpa using hj
  refine ⟨?_, ?_⟩
  · rw [Nat.zero_add, cell_of_row w g j cur t (0, 0) hb]
    have h1 := flat_spc l j hj'
    rw [← hc, List.getElem?_take, if_pos (by omega)] at h1
    simpa using h1
  · exact frozen_of_row w g _ cur t hb
theorem sw_blk {w W : World} {g o : Nat} {d : Array Sp} {t : TypeId} {cur : Array Value} (hb : w.heap[g]? = some (.cells cur t (0, 0))) (h : Sw w g o d W) : ∃ cur' : Array Value, W.heap[g]? = some (.cells cur' t (0, 0)) ∧ cur'.size = cur.size := by
  obtain ⟨n, os, rfl⟩ := h
  have hlt : g < w.heap.size := (Array.getElem?_eq_some_iff.1 hb).1
  refine ⟨putCells id o (flatK enc 2 d) cur, ?_, by simp [putCells]⟩
  unfold sortWorldK
  rw [grow_heap _ _ _ (by rw [size_putRowK]; exact hlt)]
  unfold putRowK putRow mapBlock
  show (w.heap.modify g _)[g]? = _
  rw [Array.getElem?_modify, if_pos rfl, hb]
  rfl
theorem sw_only {w W : World} {g o : Nat} {d : Array Sp} (h : Sw w g o d W) : Only (isb g) w W := by
  obtain ⟨n, os, rfl⟩ := h
  refine ⟨rfl, rfl, rfl, size_sortWorldK_c enc 2 w g o n d os, fun k hk hn => ?_⟩
  unfold sortWorldK
  rw [grow_heap _ _ _ (by rw [size_putRowK]; exact hk)]
  unfold putRowK putRow mapBlock
  show (w.heap.modify g _)[k]? = _
  rw [Array.getElem?_modify, if_neg (fun e => hn e.symm)]
/-- The row behind the sort, as a row of the call's own. -/
theorem own_sw {w W : World} {g cap n base : Nat} {cur : Array Value} {t : TypeId} {d d' : Array Sp} (hb : w.heap[g]? = some (.cells cur t (0, 0))) (hbase : base ≤ g) (hd : d.size = n) (hs : d'.size = d.size) (hH : HoldsK enc 2 w g 0 d) (h1 : n ≤ cap) (h2 : cap ≤ maxLen) (h3 : cur.size = cap * 2) (h : Sw w g 0 d' W) :
    W.ownsRow base t 2 (.slice (some ⟨g, 0, none⟩) n cap) d'.toList.length (spc d'.toList) := by
  obtain ⟨cur', hb', hz⟩ := sw_blk hb h
  have hlt : g < w.heap.size := (Array.getElem?_eq_some_iff.1 hb).1
  have hW := SWK.holds h hlt hH hs
  have hl : d'.toList.length = n := by simpa using hs.trans hd
  rw [hl]
  refine ⟨by rw [spc_len, hl], .inr ⟨g, cap, cur', rfl, hbase, hb', h1, h2, hz.trans h3, ?_⟩⟩
  refine List.ext_getElem? fun j => ?_
  rw [List.getElem?_take]
  split
  · rename_i hj
    have h4 := (hW j (by rw [size_flatK, hs, hd]; exact hj)).1
    rw [Nat.zero_add, cell_of_row W g j cur' t (0, 0) hb'] at h4
    rw [flat_spc d'.toList j (by rw [hl]; exact hj)]
    simpa using h4
  · rw [List.getElem?_eq_none (by rw [spc_len, hl]; omega)]
theorem perm_all {N : Nat} {d d' : Array Sp} (hN : d.size = N) (h : PermIn 0 N d d') : d'.toList.Perm d.toList := by
  have h2 := h.2.2
  have h1 := h.1
  rwa [show d'.extract 0 N = d' by rw [← hN, ← h1]; simp, show d.extract 0 N = d by rw [← hN]; simp] at h2
theorem sorted_all {N : Nat} {d : Array Sp} (hN : d.size = N) (h : SortedIn ltO 0 N d) : Sorted d.toList := by
  refine List.pairwise_iff_getElem.2 fun i j hi hj hij => ?_
  have hi' : i < d.size := by simpa using hi
  have hj' : j < d.size := by simpa using hj
  have := ltO_not.1 (h i j (by omega) hij (by omega))
  simpa [hi', hj'] using this

/-- Sort: a row of the call's own, in order. -/
def SortPost (l : List Sp) (w : World) (e : Ending) (w' : World) : Prop := ∃ v' L, e = .returned v' ∧ SortedOf l l.length L ∧ w'.ownsRow w.heap.size 33 2 v' L.length (spc L) ∧ Only nob w w'
end Go.Proofs.YtfdihnfhofpjlaaDoor

/- Contracts of package span: Total, Apart. -/
namespace Go.Proofs.YtfdihnfhofpjlaaDoor
open Go.RowKit Go.Sort

/-- The first k spans in order lie apart, and end at or below z. -/
structure Up2 (L : List Sp) (k : Nat) (z : Int) : Prop where
  apart : ApartL (L.take k)
  ends : ∀ y ∈ L.take k, y.1 + y.2 ≤ z
  last : z = 0 ∨ ∃ (j : Nat) (y : Sp), j < k ∧ L[j]? = some y ∧ y.1 + y.2 = z
  lo : 0 ≤ z
  hi : z ≤ 1099511627776
theorem Up2.start (L : List Sp) : Up2 L 0 0 := ⟨by simp [ApartL], by simp, .inl rfl, by omega, by omega⟩
theorem Up2.next {L : List Sp} {k : Nat} {z : Int} {x : Sp} (h : Up2 L k z) (hx : L[k]? = some x) (hok : x.ok) (hz : z ≤ x.1) : Up2 L (k + 1) (x.1 + x.2) := by
  have hb := hok
  unfold Sp.ok most at hb
  refine ⟨?_, fun y hy => ?_, .inr ⟨k, x, by omega, hx, rfl⟩, by omega, by omega⟩
  · rw [take_snoc_get hx]
    exact apart_next h.apart hok fun y hy => Int.le_trans (h.ends y hy) hz
  · rw [take_snoc_get hx] at hy
    rcases List.mem_append.1 hy with hy | hy
    · have := h.ends y hy; omega
    · rw [List.mem_singleton.1 hy]; omega
theorem Up2.not {L : List Sp} {k : Nat} {z : Int} {x : Sp} (h : Up2 L k z) (hs : Sorted L) (hx : L[k]? = some x) (hok : x.ok) (hz : x.1 < z) : ¬ ApartL L := by
  rcases h.last with h0 | ⟨j, y, hj, hy, he⟩
  · have := hok.1; omega
  · have hle : Sp.le y x := by
      obtain ⟨h1, rfl⟩ := List.getElem?_eq_some_iff.1 hx
      obtain ⟨h2, rfl⟩ := List.getElem?_eq_some_iff.1 hy
      exact List.pairwise_iff_getElem.1 hs j k _ _ hj
    exact apart_not hx hy hj (by unfold Sp.le at hle; omega) (by omega)

end Go.Proofs.YtfdihnfhofpjlaaDoor

/- Contracts of package span: withWords, first, add. -/
namespace Go.Proofs.YtfdihnfhofpjlaaDoor
open Go.RowKit Go.Sort

/-- Those of l that may be. -/
def okL (l : List Sp) : List Sp := l.filter fun x => decide x.ok
theorem okL_yes {l : List Sp} {k : Nat} {x : Sp} (h : l[k]? = some x) (hx : x.ok) : okL (l.take (k + 1)) = okL (l.take k) ++ [x] := by
  rw [take_snoc_get h]; unfold okL; rw [List.filter_append]; simp [hx]
theorem okL_no {l : List Sp} {k : Nat} {x : Sp} (h : l[k]? = some x) (hx : ¬ x.ok) : okL (l.take (k + 1)) = okL (l.take k) := by
  rw [take_snoc_get h]; unfold okL; rw [List.filter_append]; simp [hx]
theorem okL_len (l : List Sp) : (okL l).length ≤ l.length := List.length_filter_le _ _
theorem okL_ok {l : List Sp} : ∀ x ∈ okL l, Sp.ok x := fun x hx => by simpa using (List.mem_filter.1 hx).2
theorem okL_cov (l : List Sp) (p : Int) : cov (okL l) p ↔ cov l p :=
  ⟨fun ⟨x, hx, hp⟩ => ⟨x, (List.mem_filter.1 hx).1, hp⟩, fun ⟨x, hx, hp⟩ => ⟨x, List.mem_filter.2 ⟨hx, by simpa using hp.1⟩, hp⟩⟩

/-- add: one span more, if it has words. -/
def addL (O : List Sp) (a b : Int) : List Sp := if a < b then O ++ [(a, b - a)] else O
end Go.Proofs.YtfdihnfhofpjlaaDoor

/- Contract of package span: first. -/
namespace Go.Proofs.YtfdihnfhofpjlaaDoor
open Go.RowKit Go.Sort

/-- The first k spans of L, sorted and such as may be, make one row; k = 0: it is L's first one. -/
def RowAt (L : List Sp) (k : Nat) (r : Sp) : Prop := (k = 0 ∧ L[0]? = some r) ∨ (1 ≤ k ∧ Merge (L.take k) [] r ∧ ∃ x, L[0]? = some x ∧ r.1 = x.1)
theorem RowAt.ok {L : List Sp} {k : Nat} {r : Sp} (h : RowAt L k r) (hL : ∀ x ∈ L, Sp.ok x) : r.ok := by
  rcases h with ⟨_, h⟩ | ⟨_, h, _⟩
  · exact hL r (List.mem_of_getElem? h)
  · exact h.joined.1 r (by simp)
theorem RowAt.le {L : List Sp} {k : Nat} {r x : Sp} (h : RowAt L k r) (hs : Sorted L) (hx : L[k]? = some x) : r.1 ≤ x.1 := by
  have key : ∀ y, L[0]? = some y → y.1 ≤ x.1 := by
    intro y hy
    obtain ⟨h1, rfl⟩ := List.getElem?_eq_some_iff.1 hx
    obtain ⟨h2, rfl⟩ := List.getElem?_eq_some_iff.1 hy
    rcases Nat.eq_zero_or_pos k with h0 | h0
    · subst h0; exact Int.le_refl _
    · have := List.pairwise_iff_getElem.1 hs 0 k h2 h1 h0
      unfold Sp.le at this; omega
  rcases h with ⟨_, h⟩ | ⟨_, _, y, hy, he⟩
  · exact key _ h
  · rw [he]; exact key _ hy
theorem RowAt.next {L : List Sp} {k : Nat} {r x : Sp} {s : Int} (h : RowAt L k r) (hs : Sorted L) (hL : ∀ x ∈ L, Sp.ok x) (hx : L[k]? = some x) (hle : ¬ r.1 + r.2 < x.1) (hq : s = max (r.1 + r.2) (x.1 + x.2) - r.1) : RowAt L (k + 1) (r.1, s) := by
  have hxo := hL x (List.mem_of_getElem? hx)
  have hr := h.le hs hx
  rcases h with ⟨rfl, h⟩ | ⟨h1, hm, y, hy, he⟩
  · obtain rfl : r = x := by rw [h] at hx; exact Option.some.inj hx
    refine .inr ⟨by omega, ?_, r, h, rfl⟩
    have hss : s = r.2 := by omega
    rw [take_snoc_get h, hss]
    exact Merge.first (fun p => by simp [cov]) hxo
  · refine .inr ⟨by omega, ?_, y, hy, he⟩
    rw [take_snoc_get hx]
    exact hm.grow hxo hr (by omega) hq
theorem RowAt.merge {L : List Sp} {k : Nat} {r : Sp} (h : RowAt L k r) (hk : 1 ≤ k) : Merge (L.take k) [] r := by
  rcases h with ⟨h0, _⟩ | ⟨_, h, _⟩
  · omega
  · exact h

/-- What first tells. -/
def FirstPost (L : List Sp) (w : World) (e : Ending) (w' : World) : Prop := ∃ (r : Sp) (k : Nat), e = .returned (.tuple #[.agg #[.int .i64 r.1, .int .i64 r.2], .int .i64 k]) ∧ 1 ≤ k ∧ k ≤ L.length ∧ Merge (L.take k) [] r ∧ (∀ x, L[k]? = some x → r.1 + r.2 < x.1) ∧ Only nob w w'

theorem fits_step {r x : Sp} (hr : r.ok) (hx : x.ok) : 0 ≤ r.1 ∧ r.1 ≤ 1099511627776 ∧ 1 ≤ r.2 ∧ r.2 ≤ 1099511627776 ∧ 0 ≤ x.1 ∧ x.1 ≤ 1099511627776 ∧ 1 ≤ x.2 ∧ x.2 ≤ 1099511627776 := by unfold Sp.ok most at hr hx; omega

end Go.Proofs.YtfdihnfhofpjlaaDoor
