/- Contracts: slices.Clone at spans, and span.Sort. -/
import Derived.Test.YtmlpppcdammelaaSpanH
import Derived.Lib.SliceRun
namespace Go.Proofs.Ytmlpppcdammelaa
open Go.RowKit Go.Sort

theorem flat_spc (l : List Sp) (t : Nat) (h : t < l.length * 2) : (spc l)[t]? = some ((flatK enc 2 l.toArray)[t]!) := by
  rw [get_flatK _ _ _ _ (by simpa using h)]
  obtain ⟨k, hk, ht⟩ : ∃ k, k < l.length ∧ (t = k * 2 ∨ t = k * 2 + 1) := ⟨t / 2, by omega, by omega⟩
  obtain ⟨h0, h1⟩ := spc_get l k hk
  have hg : l.toArray[k]! = l[k] := by simp [hk]
  rcases ht with rfl | rfl
  · rw [show k * 2 / 2 = k by omega, show k * 2 % 2 = 0 by omega, h0, hg]
    simp [enc]
  · rw [show (k * 2 + 1) / 2 = k by omega, show (k * 2 + 1) % 2 = 1 by omega, h1, hg]
    simp [enc]
theorem holds_own {w : World} {g n : Nat} {cur : Array Value} {t : TypeId} {l : List Sp} (hb : w.heap[g]? = some (.cells cur t (0, 0))) (hn : l.length = n) (hc : cur.toList.take (n * 2) = spc l) : HoldsK enc 2 w g 0 l.toArray := by
  intro j hj
  rw [size_flatK] at hj
  have hj' : j < l.length * 2 := by simpa using hj
  refine ⟨?_, ?_⟩
  · rw [Nat.zero_add, cell_of_row w g j cur t (0, 0) hb]
    have h1 := flat_spc l j hj'
    rw [← hc, List.getElem?_take, if_pos (by omega)] at h1
    simpa using h1
  · exact frozen_of_row w g _ cur t hb
theorem sw_blk {w W : World} {g o : Nat} {d : Array Sp} {t : TypeId} {cur : Array Value} (hb : w.heap[g]? = some (.cells cur t (0, 0))) (h : Sw w g o d W) : ∃ cur' : Array Value, W.heap[g]? = some (.cells cur' t (0, 0)) ∧ cur'.size = cur.size := by
  obtain ⟨n, os, rfl⟩ := h
  have hlt : g < w.heap.size := (Array.getElem?_eq_some_iff.1 hb).1
  refine ⟨putCells id o (flatK enc 2 d) cur, ?_, by simp [putCells]⟩
  unfold sortWorldK
  rw [grow_heap _ _ _ (by rw [size_putRowK]; exact hlt)]
  unfold putRowK putRow mapBlock
  show (w.heap.modify g _)[g]? = _
  rw [Array.getElem?_modify, if_pos rfl, hb]
  rfl
theorem sw_only {w W : World} {g o : Nat} {d : Array Sp} (h : Sw w g o d W) : Only (isb g) w W := by
  obtain ⟨n, os, rfl⟩ := h
  refine ⟨rfl, rfl, rfl, size_sortWorldK_c enc 2 w g o n d os, fun k hk hn => ?_⟩
  unfold sortWorldK
  rw [grow_heap _ _ _ (by rw [size_putRowK]; exact hk)]
  unfold putRowK putRow mapBlock
  show (w.heap.modify g _)[k]? = _
  rw [Array.getElem?_modify, if_neg (fun e => hn e.symm)]
/-- The row behind the sort, as a row of the call's own. -/
theorem own_sw {w W : World} {g cap n base : Nat} {cur : Array Value} {t : TypeId} {d d' : Array Sp} (hb : w.heap[g]? = some (.cells cur t (0, 0))) (hbase : base ≤ g) (hd : d.size = n) (hs : d'.size = d.size) (hH : HoldsK enc 2 w g 0 d) (h1 : n ≤ cap) (h2 : cap ≤ maxLen) (h3 : cur.size = cap * 2) (h : Sw w g 0 d' W) :
    W.ownsRow base t 2 (.slice (some ⟨g, 0, none⟩) n cap) d'.toList.length (spc d'.toList) := by
  obtain ⟨cur', hb', hz⟩ := sw_blk hb h
  have hlt : g < w.heap.size := (Array.getElem?_eq_some_iff.1 hb).1
  have hW := SWK.holds h hlt hH hs
  have hl : d'.toList.length = n := by simpa using hs.trans hd
  rw [hl]
  refine ⟨by rw [spc_len, hl], .inr ⟨g, cap, cur', rfl, hbase, hb', h1, h2, hz.trans h3, ?_⟩⟩
  refine List.ext_getElem? fun j => ?_
  rw [List.getElem?_take]
  split
  · rename_i hj
    have h4 := (hW j (by rw [size_flatK, hs, hd]; exact hj)).1
    rw [Nat.zero_add, cell_of_row W g j cur' t (0, 0) hb'] at h4
    rw [flat_spc d'.toList j (by rw [hl]; exact hj)]
    simpa using h4
  · rw [List.getElem?_eq_none (by rw [spc_len, hl]; omega)]
theorem perm_all {N : Nat} {d d' : Array Sp} (hN : d.size = N) (h : PermIn 0 N d d') : d'.toList.Perm d.toList := by
  have h2 := h.2.2
  have h1 := h.1
  rwa [show d'.extract 0 N = d' by rw [← hN, ← h1]; simp, show d.extract 0 N = d by rw [← hN]; simp] at h2
theorem sorted_all {N : Nat} {d : Array Sp} (hN : d.size = N) (h : SortedIn ltO 0 N d) : Sorted d.toList := by
  refine List.pairwise_iff_getElem.2 fun i j hi hj hij => ?_
  have hi' : i < d.size := by simpa using hi
  have hj' : j < d.size := by simpa using hj
  have := ltO_not.1 (h i j (by omega) hij (by omega))
  simpa [hi', hj'] using this

set_option maxHeartbeats 1000000 in
theorem clone_any (v : Value) (l : List Sp) (B : Nat) (w : World) (h : Sl w B 2 v l.length (spc l)) (hB : B ≤ w.heap.size) (hl : l.length ≤ 1000000) :
    Calls Try.prog 34 #[v] w fun e w' => ∃ v', e = .returned v' ∧ w'.ownsRow w.heap.size 27 2 v' l.length (spc l) ∧ Only nob w w' := by
  obtain ⟨i0, hi0, hz0, hz1, hz2⟩ := info_parts info_span
  have HA := Lib.hid h
  obtain ⟨A, ca, rfl, hac, ham, hx, hs⟩ := h
  unfold maxLen at ham
  have q29 : ∀ (w : World) (n : Nat), (binOp .eql 34 (.slice A n ca) (.slice none 0 0)).run Try.prog w = .ok (.bool A.isNone) w := fun w n => Go.Lib.run_eql_slice_nil w _ _ A _ _ _ _ Try.underlying34
  rcases A with _ | ad
  · have h0 : l.length = 0 := by
      rcases Nat.eq_zero_or_pos l.length with h0 | h0
      · exact h0
      · obtain ⟨b, o, hA, -⟩ := hs h0; cases hA
    obtain rfl : l = [] := List.eq_nil_of_length_eq_zero h0
    clear hs hx h0
    go_enter Try.func34, Try.ntmps34
    go_wp2
    go_ret
    exact ⟨_, rfl, World.ownsRow_nil _ _ _ _, Only.refl _ _⟩
  · have HS := Lib.hid hs
    clear hs hx
    go_enter Try.func34, Try.ntmps34
    go_wp2_with (with_reducible refine wpList_append_sl (o := ⟨some 7, _, _, _, _, _⟩) _ rfl (.tmp 5) (.tmp 6) _ rfl w.heap.size 27 i0 _ 2 16 Try.underlying34 hi0 hz0 hz1 hz2 rfl (by decide) (.slice (some ⟨w.heap.size, 0, none⟩) 0 0) 0 [] rfl ?c1 B (.slice (some ad) l.length ca) l.length (spc l) rfl ?c6 (spc_one _) ?c2 ?c3 ?c4 ?c5)
    case c1 => exact lit_own w _ _
    case c6 => exact HA.out.below (((Only.refl nob w).alloc _).below hB fun _ h => h.elim)
    case c2 => unfold maxLen; omega
    case c3 => omega
    case c4 => simp
    case c5 =>
      intro v1 w1 H1 o1 _
      have O1 := Lib.hid (lit_only o1)
      clear o1
      go_wp2
      go_ret
      exact ⟨_, rfl, by simpa using H1.out, O1.out⟩

/-- A slice of nothing: the sort leaves all as it is. -/
theorem insertion_none (w : World) : Calls Try.prog 40 #[.slice none 0 0, .int .i64 0, .int .i64 0, ordV] w fun e w' => e = .returned (.tuple #[]) ∧ w = w' := by
  go_enter Try.func40, Try.ntmps40
  go_wp2
  go_loopw [8] (fun v wr => v = .int .i64 1 ∧ wr = w) (fun _ _ => 0)
  case atStart => exact ⟨rfl, rfl⟩
  case round =>
    obtain ⟨rfl, rfl⟩ := hrel
    go_wp2
    go_end0
    exact ⟨rfl, rfl⟩
theorem stable_none (w : World) : Calls Try.prog 37 #[.slice none 0 0, .int .i64 0, ordV] w fun e w' => e = .returned (.tuple #[]) ∧ w = w' := by
  go_enter Try.func37, Try.ntmps37
  go_wp2
  go_loopw [7, 8] (fun v u wr => v = .int .i64 0 ∧ u = .int .i64 20 ∧ wr = w) (fun _ _ _ => 0)
  case atStart => exact ⟨rfl, rfl, rfl⟩
  case round =>
    obtain ⟨rfl, rfl, rfl⟩ := hrel
    obtain ⟨w1, rfl⟩ : ∃ w1 : World, w1 = wr := ⟨_, rfl⟩
    go_wp2_with (go_at_call 40; refine (insertion_none _).mono ?_; rintro e w' ⟨rfl, rfl⟩)
    go_loopw [6] (fun v wx => v = .int .i64 20 ∧ wx = w1) (fun _ _ => 0)
    case atStart => exact ⟨rfl, rfl⟩
    case round =>
      obtain ⟨rfl, rfl⟩ := hrel
      go_wp2
      go_end0
      exact ⟨rfl, rfl⟩
theorem sortStable_none (w : World) : Calls Try.prog 35 #[.slice none 0 0, ordV] w fun e w' => e = .returned (.tuple #[]) ∧ w = w' := by
  go_enter Try.func35, Try.ntmps35
  go_wp2_with (go_at_call 37; refine (stable_none _).mono ?_; rintro e w' ⟨rfl, rfl⟩)
  go_end0
  exact ⟨rfl, rfl⟩

/-- Sort: a row of the call's own, in order. -/
def SortPost (l : List Sp) (w : World) (e : Ending) (w' : World) : Prop := ∃ v' L, e = .returned v' ∧ SortedOf l l.length L ∧ w'.ownsRow w.heap.size 27 2 v' L.length (spc L) ∧ Only nob w w'
theorem sort_any (v : Value) (l : List Sp) (B : Nat) (w : World) (h : Sl w B 2 v l.length (spc l)) (hB : B ≤ w.heap.size) (hl : l.length ≤ 1000000) :
    Calls Try.prog 30 #[v] w (SortPost l w) := by
  have HA := Lib.hid h
  clear h
  go_enter Try.func30, Try.ntmps30
  go_wp2_with fail
  go_at_call 34
  refine (clone_any v l B w HA.out hB hl).mono ?_
  rintro e w1 ⟨v1, rfl, hown, o⟩
  rcases hown.2 with ⟨rfl, h0⟩ | ⟨g, cap, cur, rfl, hbase, hg, h1, h2, h3, h4⟩
  · obtain rfl : l = [] := List.eq_nil_of_length_eq_zero h0
    have O := Lib.hid o
    clear o hown h0
    go_wp2_with (go_at_call 35; refine (sortStable_none _).mono ?_; rintro e w' ⟨rfl, rfl⟩)
    go_ret
    exact ⟨_, [], rfl, ⟨List.Pairwise.nil, List.Perm.refl _⟩, World.ownsRow_nil _ _ _ _, O.out⟩
  · have HH := holds_own (l := l) hg rfl h4
    have hlt : g < w1.heap.size := (Array.getElem?_eq_some_iff.1 hg).1
    have HF := Lib.hid (fun (d' : Array Sp) (W : World) (S : Sw w1 g 0 d' W) (hs : d'.size = l.toArray.size) => own_sw (base := w.heap.size) hg hbase (d := l.toArray) (n := l.length) (by simp) hs HH h1 h2 h3 S)
    have HHH := Lib.hid HH
    have O := Lib.hid o
    clear o hown HH h1 h2 h3 h4 hg hbase
    go_wp2_with fail
    go_at_call 35
    refine (sortStable_any g 0 cap l.length l.toArray (by simp) w1 HHH.out hlt (by omega)).mono ?_
    rintro e w2 ⟨rfl, d', S, pf, sf⟩
    have HO := Lib.hid (HF.out d' w2 S pf.1)
    have HP := Lib.hid (show SortedOf l l.length d'.toList from ⟨sorted_all (by rw [pf.1]; simp) sf, by have := perm_all (N := l.length) (by simp) pf; simpa using this⟩)
    have O2 := Lib.hid (O.out.andThen (sw_only S) (fun i hi e => by have := HF.out d' w2 S pf.1; have hb := (own_lt this (k := g) rfl).1; unfold isb at e; omega))
    clear S pf sf
    go_wp2
    go_ret
    exact ⟨_, d'.toList, rfl, HP.out, by have := HO.out; simpa using this, O2.out⟩
theorem spSort : SpSort := by
  intro v l B w h hB hl
  refine (sort_any v l B w h hB (by omega)).mono ?_
  rintro e w' ⟨v', L, he, hL, hown, o⟩
  exact ⟨v', L, he, hL, Sl.of_own hown hown.1, o⟩
end Go.Proofs.Ytmlpppcdammelaa
