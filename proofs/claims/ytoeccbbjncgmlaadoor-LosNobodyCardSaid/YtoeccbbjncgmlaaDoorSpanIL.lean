/- Contracts: slices.Clone at spans, and span.Sort. -/
import Derived.Test.YtoeccbbjncgmlaaDoorSpanFH
import Derived.Test.YtoeccbbjncgmlaaDoorQuiets
import Derived.Test.YtoeccbbjncgmlaaDoorSpanPure
import Derived.Lib.SliceRun
namespace Go.Proofs.YtoeccbbjncgmlaaDoor
open Go.RowKit Go.Sort

theorem flat_spc (l : List Sp) (t : Nat) (h : t < l.length * 2) : (spc l)[t]? = some ((flatK enc 2 l.toArray)[t]!) := by
  rw [get_flatK _ _ _ _ (by simpa using h)]
  obtain ⟨k, hk, ht⟩ : ∃ k, k < l.length ∧ (t = k * 2 ∨ t = k * 2 + 1) := ⟨t / 2, by omega, by omega⟩
  obtain ⟨h0, h1⟩ := spc_get l k hk
  have hg : l.toArray[k]! = l[k] := by simp [hk]
  rcases ht with rfl | rfl
  · rw [show k * 2 / 2 = k by omega, show k * 2 % 2 = 0 by omega, h0, hg]
    simp [enc]
  · rw [show (k * 2 + 1) / 2 = k by omega, show (k * 2 + 1) % 2 = 1 by omega, h1, hg]
    simp [enc]
theorem holds_own {w : World} {g n : Nat} {cur : Array Value} {t : TypeId} {l : List Sp} (hb : w.heap[g]? = some (.cells cur t (0, 0))) (hn : l.length = n) (hc : cur.toList.take (n * 2) = spc l) : HoldsK enc 2 w g 0 l.toArray := by
  intro j hj
  rw [size_flatK] at hj
  have hj' : j < l.length * 2 := by simpa using hj
  refine ⟨?_, ?_⟩
  · rw [Nat.zero_add, cell_of_row w g j cur t (0, 0) hb]
    have h1 := flat_spc l j hj'
    rw [← hc, List.getElem?_take, if_pos (by omega)] at h1
    simpa using h1
  · exact frozen_of_row w g _ cur t hb
theorem sw_blk {w W : World} {g o : Nat} {d : Array Sp} {t : TypeId} {cur : Array Value} (hb : w.heap[g]? = some (.cells cur t (0, 0))) (h : Sw w g o d W) : ∃ cur' : Array Value, W.heap[g]? = some (.cells cur' t (0, 0)) ∧ cur'.size = cur.size := by
  obtain ⟨n, os, rfl⟩ := h
  have hlt : g < w.heap.size := (Array.getElem?_eq_some_iff.1 hb).1
  refine ⟨putCells id o (flatK enc 2 d) cur, ?_, by simp [putCells]⟩
  unfold sortWorldK
  rw [grow_heap _ _ _ (by rw [size_putRowK]; exact hlt)]
  unfold putRowK putRow mapBlock
  show (w.heap.modify g _)[g]? = _
  rw [Array.getElem?_modify, if_pos rfl, hb]
  rfl
theorem sw_only {w W : World} {g o : Nat} {d : Array Sp} (h : Sw w g o d W) : Only (isb g) w W := by
  obtain ⟨n, os, rfl⟩ := h
  refine ⟨rfl, rfl, rfl, size_sortWorldK_c enc 2 w g o n d os, fun k hk hn => ?_⟩
  unfold sortWorldK
  rw [grow_heap _ _ _ (by rw [size_putRowK]; exact hk)]
  unfold putRowK putRow mapBlock
  show (w.heap.modify g _)[k]? = _
  rw [Array.getElem?_modify, if_neg (fun e => hn e.symm)]
/-- The row behind the sort, as a row of the call's own. -/
theorem own_sw {w W : World} {g cap n base : Nat} {cur : Array Value} {t : TypeId} {d d' : Array Sp} (hb : w.heap[g]? = some (.cells cur t (0, 0))) (hbase : base ≤ g) (hd : d.size = n) (hs : d'.size = d.size) (hH : HoldsK enc 2 w g 0 d) (h1 : n ≤ cap) (h2 : cap ≤ maxLen) (h3 : cur.size = cap * 2) (h : Sw w g 0 d' W) :
    W.ownsRow base t 2 (.slice (some ⟨g, 0, none⟩) n cap) d'.toList.length (spc d'.toList) := by
  obtain ⟨cur', hb', hz⟩ := sw_blk hb h
  have hlt : g < w.heap.size := (Array.getElem?_eq_some_iff.1 hb).1
  have hW := SWK.holds h hlt hH hs
  have hl : d'.toList.length = n := by simpa using hs.trans hd
  rw [hl]
  refine ⟨by rw [spc_len, hl], .inr ⟨g, cap, cur', rfl, hbase, hb', h1, h2, hz.trans h3, ?_⟩⟩
  refine List.ext_getElem? fun j => ?_
  rw [List.getElem?_take]
  split
  · rename_i hj
    have h4 := (hW j (by rw [size_flatK, hs, hd]; exact hj)).1
    rw [Nat.zero_add, cell_of_row W g j cur' t (0, 0) hb'] at h4
    rw [flat_spc d'.toList j (by rw [hl]; exact hj)]
    simpa using h4
  · rw [List.getElem?_eq_none (by rw [spc_len, hl]; omega)]
theorem perm_all {N : Nat} {d d' : Array Sp} (hN : d.size = N) (h : PermIn 0 N d d') : d'.toList.Perm d.toList := by
  have h2 := h.2.2
  have h1 := h.1
  rwa [show d'.extract 0 N = d' by rw [← hN, ← h1]; simp, show d.extract 0 N = d by rw [← hN]; simp] at h2
theorem sorted_all {N : Nat} {d : Array Sp} (hN : d.size = N) (h : SortedIn ltO 0 N d) : Sorted d.toList := by
  refine List.pairwise_iff_getElem.2 fun i j hi hj hij => ?_
  have hi' : i < d.size := by simpa using hi
  have hj' : j < d.size := by simpa using hj
  have := ltO_not.1 (h i j (by omega) hij (by omega))
  simpa [hi', hj'] using this

set_option maxHeartbeats 1000000 in
theorem clone_spans (v : Value) (l : List Sp) (B : Nat) (w : World) (h : Sl w B 2 v l.length (spc l)) (hB : B ≤ w.heap.size) (hl : l.length ≤ 1000000) :
    Calls Tryd.prog 17 #[v] w fun e w' => ∃ v', e = .returned v' ∧ w'.ownsRow w.heap.size 25 2 v' l.length (spc l) ∧ Only nob w w' := by
  obtain ⟨i0, hi0, hz0, hz1, hz2⟩ := info_parts info_span
  have HA := Lib.hid h
  obtain ⟨A, ca, rfl, hac, ham, hx, hs⟩ := h
  unfold maxLen at ham
  have q29 : ∀ (w : World) (n : Nat), (binOp .eql 31 (.slice A n ca) (.slice none 0 0)).run Tryd.prog w = .ok (.bool A.isNone) w := fun w n => Go.Lib.run_eql_slice_nil w _ _ A _ _ _ _ Tryd.underlying31
  rcases A with _ | ad
  · have h0 : l.length = 0 := by
      rcases Nat.eq_zero_or_pos l.length with h0 | h0
      · exact h0
      · obtain ⟨b, o, hA, -⟩ := hs h0; cases hA
    obtain rfl : l = [] := List.eq_nil_of_length_eq_zero h0
    clear hs hx h0
    go_enter Tryd.func17, Tryd.ntmps17
    go_wp2
    go_ret
    exact ⟨_, rfl, World.ownsRow_nil _ _ _ _, Only.refl _ _⟩
  · have HS := Lib.hid hs
    clear hs hx
    go_enter Tryd.func17, Tryd.ntmps17
    go_wp2_with (with_reducible refine wpList_append_sl (o := ⟨some 7, _, _, _, _, _⟩) _ rfl (.tmp 5) (.tmp 6) _ rfl w.heap.size 25 i0 _ 2 16 Tryd.underlying31 hi0 hz0 hz1 hz2 rfl (by decide) (.slice (some ⟨w.heap.size, 0, none⟩) 0 0) 0 [] rfl ?c1 B (.slice (some ad) l.length ca) l.length (spc l) rfl ?c6 (spc_one _) ?c2 ?c3 ?c4 ?c5)
    case c1 => exact lit_own w _ _
    case c6 => exact HA.out.below (((Only.refl nob w).alloc _).below hB fun _ h => h.elim)
    case c2 => unfold maxLen; omega
    case c3 => omega
    case c4 => simp
    case c5 =>
      intro v1 w1 H1 o1 _
      have O1 := Lib.hid (lit_only o1)
      clear o1
      go_wp2
      go_ret
      exact ⟨_, rfl, by simpa using H1.out, O1.out⟩

/-- A slice of nothing: the sort leaves all as it is. -/
theorem insertion_none (w : World) : Calls Tryd.prog 88 #[.slice none 0 0, .int .i64 0, .int .i64 0, ordV] w fun e w' => e = .returned (.tuple #[]) ∧ w = w' := by
  go_enter Tryd.func88, Tryd.ntmps88
  go_wp2
  go_loopw [8] (fun v wr => v = .int .i64 1 ∧ wr = w) (fun _ _ => 0)
  case atStart => exact ⟨rfl, rfl⟩
  case round =>
    obtain ⟨rfl, rfl⟩ := hrel
    go_wp2
    go_end0
    exact ⟨rfl, rfl⟩
theorem stable_none (w : World) : Calls Tryd.prog 85 #[.slice none 0 0, .int .i64 0, ordV] w fun e w' => e = .returned (.tuple #[]) ∧ w = w' := by
  go_enter Tryd.func85, Tryd.ntmps85
  go_wp2
  go_loopw [7, 8] (fun v u wr => v = .int .i64 0 ∧ u = .int .i64 20 ∧ wr = w) (fun _ _ _ => 0)
  case atStart => exact ⟨rfl, rfl, rfl⟩
  case round =>
    obtain ⟨rfl, rfl, rfl⟩ := hrel
    obtain ⟨w1, rfl⟩ : ∃ w1 : World, w1 = wr := ⟨_, rfl⟩
    go_wp2_with (go_at_call 88; refine (insertion_none _).mono ?_; rintro e w' ⟨rfl, rfl⟩)
    go_loopw [6] (fun v wx => v = .int .i64 20 ∧ wx = w1) (fun _ _ => 0)
    case atStart => exact ⟨rfl, rfl⟩
    case round =>
      obtain ⟨rfl, rfl⟩ := hrel
      go_wp2
      go_end0
      exact ⟨rfl, rfl⟩
theorem sortStable_none (w : World) : Calls Tryd.prog 79 #[.slice none 0 0, ordV] w fun e w' => e = .returned (.tuple #[]) ∧ w = w' := by
  go_enter Tryd.func79, Tryd.ntmps79
  go_wp2_with (go_at_call 85; refine (stable_none _).mono ?_; rintro e w' ⟨rfl, rfl⟩)
  go_end0
  exact ⟨rfl, rfl⟩

/-- Sort: a row of the call's own, in order. -/
def SortPost (l : List Sp) (w : World) (e : Ending) (w' : World) : Prop := ∃ v' L, e = .returned v' ∧ SortedOf l l.length L ∧ w'.ownsRow w.heap.size 25 2 v' L.length (spc L) ∧ Only nob w w'
theorem sort_any (v : Value) (l : List Sp) (B : Nat) (w : World) (h : Sl w B 2 v l.length (spc l)) (hB : B ≤ w.heap.size) (hl : l.length ≤ 1000000) :
    Calls Tryd.prog 64 #[v] w (SortPost l w) := by
  have HA := Lib.hid h
  clear h
  go_enter Tryd.func64, Tryd.ntmps64
  go_wp2_with fail
  go_at_call 17
  refine (clone_spans v l B w HA.out hB hl).mono ?_
  rintro e w1 ⟨v1, rfl, hown, o⟩
  rcases hown.2 with ⟨rfl, h0⟩ | ⟨g, cap, cur, rfl, hbase, hg, h1, h2, h3, h4⟩
  · obtain rfl : l = [] := List.eq_nil_of_length_eq_zero h0
    have O := Lib.hid o
    clear o hown h0
    go_wp2_with (go_at_call 79; refine (sortStable_none _).mono ?_; rintro e w' ⟨rfl, rfl⟩)
    go_ret
    exact ⟨_, [], rfl, ⟨List.Pairwise.nil, List.Perm.refl _⟩, World.ownsRow_nil _ _ _ _, O.out⟩
  · have HH := holds_own (l := l) hg rfl h4
    have hlt : g < w1.heap.size := (Array.getElem?_eq_some_iff.1 hg).1
    have HF := Lib.hid (fun (d' : Array Sp) (W : World) (S : Sw w1 g 0 d' W) (hs : d'.size = l.toArray.size) => own_sw (base := w.heap.size) hg hbase (d := l.toArray) (n := l.length) (by simp) hs HH h1 h2 h3 S)
    have HHH := Lib.hid HH
    have O := Lib.hid o
    clear o hown HH h1 h2 h3 h4 hg hbase
    go_wp2_with fail
    go_at_call 79
    refine (sortStable_any g 0 cap l.length l.toArray (by simp) w1 HHH.out hlt (by omega)).mono ?_
    rintro e w2 ⟨rfl, d', S, pf, sf⟩
    have HO := Lib.hid (HF.out d' w2 S pf.1)
    have HP := Lib.hid (show SortedOf l l.length d'.toList from ⟨sorted_all (by rw [pf.1]; simp) sf, by have := perm_all (N := l.length) (by simp) pf; simpa using this⟩)
    have O2 := Lib.hid (O.out.andThen (sw_only S) (fun i hi e => by have := HF.out d' w2 S pf.1; have hb := (own_lt this (k := g) rfl).1; unfold isb at e; omega))
    clear S pf sf
    go_wp2
    go_ret
    exact ⟨_, d'.toList, rfl, HP.out, by have := HO.out; simpa using this, O2.out⟩
theorem spSort : SpSort := by
  intro v l B w h hB hl
  refine (sort_any v l B w h hB (by omega)).mono ?_
  rintro e w' ⟨v', L, he, hL, hown, o⟩
  exact ⟨v', L, he, hL, Sl.of_own hown hown.1, o⟩
end Go.Proofs.YtoeccbbjncgmlaaDoor

/- Contracts of package span: Total, Apart. -/
namespace Go.Proofs.YtoeccbbjncgmlaaDoor
open Go.RowKit Go.Sort

/-- The first k spans in order lie apart, and end at or below z. -/
structure Up2 (L : List Sp) (k : Nat) (z : Int) : Prop where
  apart : ApartL (L.take k)
  ends : ∀ y ∈ L.take k, y.1 + y.2 ≤ z
  last : z = 0 ∨ ∃ (j : Nat) (y : Sp), j < k ∧ L[j]? = some y ∧ y.1 + y.2 = z
  lo : 0 ≤ z
  hi : z ≤ 1099511627776
theorem Up2.start (L : List Sp) : Up2 L 0 0 := ⟨by simp [ApartL], by simp, .inl rfl, by omega, by omega⟩
theorem Up2.next {L : List Sp} {k : Nat} {z : Int} {x : Sp} (h : Up2 L k z) (hx : L[k]? = some x) (hok : x.ok) (hz : z ≤ x.1) : Up2 L (k + 1) (x.1 + x.2) := by
  have hb := hok
  unfold Sp.ok most at hb
  refine ⟨?_, fun y hy => ?_, .inr ⟨k, x, by omega, hx, rfl⟩, by omega, by omega⟩
  · rw [take_snoc_get hx]
    exact apart_next h.apart hok fun y hy => Int.le_trans (h.ends y hy) hz
  · rw [take_snoc_get hx] at hy
    rcases List.mem_append.1 hy with hy | hy
    · have := h.ends y hy; omega
    · rw [List.mem_singleton.1 hy]; omega
theorem Up2.not {L : List Sp} {k : Nat} {z : Int} {x : Sp} (h : Up2 L k z) (hs : Sorted L) (hx : L[k]? = some x) (hok : x.ok) (hz : x.1 < z) : ¬ ApartL L := by
  rcases h.last with h0 | ⟨j, y, hj, hy, he⟩
  · have := hok.1; omega
  · have hle : Sp.le y x := by
      obtain ⟨h1, rfl⟩ := List.getElem?_eq_some_iff.1 hx
      obtain ⟨h2, rfl⟩ := List.getElem?_eq_some_iff.1 hy
      exact List.pairwise_iff_getElem.1 hs j k _ _ hj
    exact apart_not hx hy hj (by unfold Sp.le at hle; omega) (by omega)

set_option maxHeartbeats 2000000 in
theorem spApart : SpApart := by
  intro v l B w h hB hlen hf
  obtain ⟨r, hr⟩ : ∃ r, decide (ApartL l) = r := ⟨_, rfl⟩
  rw [hr]
  have HR := Lib.hid hr
  have HA := Lib.hid h
  have HF := Lib.hid hf
  clear h hr hf
  go_enter Tryd.func39, Tryd.ntmps39
  go_wp2_with fail
  go_at_call 64
  refine (sort_any v l B w HA.out hB (by omega)).mono ?_
  rintro e w1 ⟨v1, L, rfl, hL, hown, o⟩
  have hll : L.length = l.length := by rw [hL.2.length_eq, List.take_length]
  have hperm : L.Perm l := by have := hL.2; rwa [List.take_length] at this
  have HS := Lib.hid (Sl.of_own hown hown.1)
  have HSO := Lib.hid hL.1
  have HRL := Lib.hid (show ∀ b : Bool, (ApartL L ↔ b = true) → r = b from fun b hb => by
    rw [← HR.out]
    cases b with
    | true => exact decide_eq_true ((apart_perm hperm).1 (hb.2 rfl))
    | false => exact decide_eq_false fun hh => by have := hb.1 ((apart_perm hperm).2 hh); cases this)
  have HFL := Lib.hid (show Fits L from fun x hx => HF.out x (hperm.mem_iff.1 hx))
  have O1 := Lib.hid o
  obtain ⟨A, ca, rfl, hac, ham⟩ := own_len hown
  unfold maxLen at ham
  have hln : L.length ≤ 40000 := by omega
  clear hL hown o hperm hll HR HF
  have hU := Lib.hid (Up2.start L)
  go_wp2
  go_loopw [3, 9] (fun n i wr => ∃ (k : Nat) (z : Int), k ≤ L.length ∧ i = .int .i64 k ∧ n = .int .i64 z ∧ Only nob w1 wr ∧ Hid (Up2 L k z)) (fun _ i _ => L.length - (intOf i).toNat)
  case atStart => exact ⟨0, 0, Nat.zero_le _, rfl, rfl, Only.refl _ _, hU⟩
  case round =>
    clear hU
    obtain ⟨k, z, hk, rfl, rfl, hO, HU⟩ := hrel
    have HX := Lib.hid hO
    by_cases hlt : k < L.length
    · obtain ⟨x, hx⟩ : ∃ x, L[k]? = some x := ⟨_, List.getElem?_eq_getElem hlt⟩
      obtain ⟨b, o, rfl, hb, c0, c1⟩ := sl_span HS.out hO.whole hx
      have HXX := Lib.hid hx
      have hfx := HFL.out.get hx
      clear hO hx
      by_cases hp : x.ok
      · have HP := Lib.hid hp
        have hb1 : 0 ≤ x.1 ∧ x.1 ≤ 1099511627776 ∧ 1 ≤ x.2 ∧ x.2 ≤ 1099511627776 := by unfold Sp.ok most at hp; omega
        clear hp
        by_cases hz : x.1 < z
        · have HE := Lib.hid (HRL.out false ⟨fun h => absurd h (HU.out.not HSO.out HXX.out HP.out hz), fun h => by cases h⟩)
          go_wp2_with fail
          refine (may_yes HP.out _).mono ?_
          rintro e w2 ⟨rfl, g⟩
          have HB := Lib.hid ((BoxAt.new wr x).grw g)
          have HO := Lib.hid ((HX.out.alloc _).trans g.only)
          clear g
          obtain ⟨b0, b1⟩ := HB.out
          go_wp2
          go_ret
          exact ⟨ret_bool HE.out.symm, O1.out.trans HO.out⟩
        · have HE := Lib.hid (HU.out.next HXX.out HP.out (by omega))
          go_wp2_with fail
          refine (may_yes HP.out _).mono ?_
          rintro e w2 ⟨rfl, g⟩
          have HB := Lib.hid ((BoxAt.new wr x).grw g)
          have HO := Lib.hid ((HX.out.alloc _).trans g.only)
          clear g
          obtain ⟨b0, b1⟩ := HB.out
          go_wp2_with fail
          go_at_call 62
          refine (end_any x _ HP.out).mono ?_
          rintro e w3 ⟨rfl, g⟩
          have HO2 := Lib.hid (HO.out.trans g.only)
          clear g b0 b1
          go_wp2
          go_roundw
          case rel => exact ⟨k + 1, x.1 + x.2, by omega, by go_num, rfl, HO2.out, HE⟩
          case measure => simp [intOf]; omega
      · have HP := Lib.hid hp
        have HE := Lib.hid (HRL.out false ⟨fun h => absurd h (apart_no1 HXX.out hp), fun h => by cases h⟩)
        clear hp
        go_wp2_with fail
        refine (may_no hfx HP.out _).mono ?_
        rintro e w2 ⟨rfl, g⟩
        have HO := Lib.hid ((HX.out.alloc _).trans g.only)
        clear g
        go_wp2
        go_ret
        exact ⟨ret_bool HE.out.symm, O1.out.trans HO.out⟩
    · obtain rfl : k = L.length := by omega
      have HE := Lib.hid (HRL.out true ⟨fun _ => rfl, fun _ => by have := HU.out.apart; rwa [List.take_length] at this⟩)
      clear hO
      go_wp2
      go_ret
      exact ⟨ret_bool HE.out.symm, O1.out.trans HX.out⟩
end Go.Proofs.YtoeccbbjncgmlaaDoor

/- Contracts of package span: withWords, first, add. -/
namespace Go.Proofs.YtoeccbbjncgmlaaDoor
open Go.RowKit Go.Sort

/-- Those of l that may be. -/
def okL (l : List Sp) : List Sp := l.filter fun x => decide x.ok
theorem okL_yes {l : List Sp} {k : Nat} {x : Sp} (h : l[k]? = some x) (hx : x.ok) : okL (l.take (k + 1)) = okL (l.take k) ++ [x] := by
  rw [take_snoc_get h]; unfold okL; rw [List.filter_append]; simp [hx]
theorem okL_no {l : List Sp} {k : Nat} {x : Sp} (h : l[k]? = some x) (hx : ¬ x.ok) : okL (l.take (k + 1)) = okL (l.take k) := by
  rw [take_snoc_get h]; unfold okL; rw [List.filter_append]; simp [hx]
theorem okL_len (l : List Sp) : (okL l).length ≤ l.length := List.length_filter_le _ _
theorem okL_ok {l : List Sp} : ∀ x ∈ okL l, Sp.ok x := fun x hx => by simpa using (List.mem_filter.1 hx).2
theorem okL_cov (l : List Sp) (p : Int) : cov (okL l) p ↔ cov l p :=
  ⟨fun ⟨x, hx, hp⟩ => ⟨x, (List.mem_filter.1 hx).1, hp⟩, fun ⟨x, hx, hp⟩ => ⟨x, List.mem_filter.2 ⟨hx, by simpa using hp.1⟩, hp⟩⟩

set_option maxHeartbeats 2000000 in
theorem withWords_any (v : Value) (l : List Sp) (B : Nat) (w : World) (h : Sl w B 2 v l.length (spc l)) (hB : B ≤ w.heap.size) (hlen : l.length ≤ 40000) (hf : Fits l) :
    Calls Tryd.prog 76 #[v] w fun e w' => ∃ v', e = .returned v' ∧ w'.ownsRow w.heap.size 25 2 v' (okL l).length (spc (okL l)) ∧ Only nob w w' := by
  obtain ⟨i0, hi0, hz0, hz1, hz2⟩ := info_parts info_span
  have HA := Lib.hid h
  obtain ⟨A, ca, rfl, hac, ham, -⟩ := h
  unfold maxLen at ham
  go_enter Tryd.func76, Tryd.ntmps76
  go_wp2_with fail
  go_loopw [3, 8] (fun n i wr => ∃ k : Nat, k ≤ l.length ∧ i = .int .i64 k ∧ Hid (wr.ownsRow w.heap.size 25 2 n (okL (l.take k)).length (spc (okL (l.take k)))) ∧ Only nob w wr) (fun _ i _ => l.length - (intOf i).toNat)
  case atStart => exact ⟨0, Nat.zero_le _, rfl, World.ownsRow_nil _ _ _ _, Only.refl _ _⟩
  case round =>
    obtain ⟨k, hk, rfl, HW, hO⟩ := hrel
    have HX := Lib.hid hO
    by_cases hlt : k < l.length
    · obtain ⟨x, hx⟩ : ∃ x, l[k]? = some x := ⟨_, List.getElem?_eq_getElem hlt⟩
      obtain ⟨b, o, rfl, hb, c0, c1⟩ := sl_span HA.out (hO.below hB fun _ h => h.elim) hx
      have HXX := Lib.hid hx
      have hfx := hf.get hx
      have hkl : (okL (l.take k)).length ≤ 40000 := by have := okL_len (l.take k); have := List.length_take_le k l; omega
      have hws : w.heap.size ≤ wr.heap.size := hO.size
      clear hO hx
      by_cases hp : x.ok
      · have HP := Lib.hid hp
        have HE := Lib.hid (okL_yes HXX.out hp)
        clear hp
        go_wp2_with fail
        refine (may_yes HP.out _).mono ?_
        rintro e w1 ⟨rfl, g⟩
        have HB := Lib.hid ((BoxAt.new wr x).grw g)
        have HO := Lib.hid ((HX.out.alloc _).trans g.only)
        have HW1 := Lib.hid (own_only (HW.out.alloc (.cells #[.int .i64 x.1, .int .i64 x.2] 25)) g.only fun _ _ h => h)
        have hw1 : w.heap.size ≤ w1.heap.size := HO.out.size
        clear g
        obtain ⟨b0, b1⟩ := HB.out
        obtain ⟨K, hK⟩ : ∃ K, K = okL (l.take k) := ⟨_, rfl⟩
        rw [← hK] at HW1 HE hkl
        obtain ⟨n, hn⟩ : ∃ n, n = K.length := ⟨_, rfl⟩
        rw [← hn] at HW1 hkl
        have HN := Lib.hid hn
        obtain ⟨A1, c1', rfl, hc1, hm1⟩ := own_len HW1.out
        unfold maxLen at hm1
        clear hK hn HW
        go_wp2_with (with_reducible refine wpList_append_sl (o := ⟨some 17, _, _, _, _, _⟩) _ rfl (.tmp 14) (.tmp 16) _ rfl w.heap.size 25 i0 _ 2 16 Tryd.underlying31 hi0 hz0 hz1 hz2 rfl (by decide) (.slice A1 n c1') n (spc K) rfl ?d1 (w1.heap.size + 1) (.slice (some ⟨w1.heap.size, 0, none⟩) 1 1) 1 (spc [x]) rfl ?d6 (spc_one _) ?d2 ?d3 ?d4 ?d5)
        case d1 => exact HW1.out.alloc _
        case d6 =>
          have := Sl.of_blk (size := 2) (n := 1) (c := 1) (Blk.new w1 25 #[.int .i64 x.1, .int .i64 x.2]) rfl (Nat.le_refl _) (by decide)
          simpa [spc] using this
        case d2 => unfold maxLen; omega
        case d3 => omega
        case d4 => simp; omega
        case d5 =>
          intro v1 w2 H1 o1 _
          have HO2 := Lib.hid (own_nob (HO.out.alloc (.cells #[.int .i64 x.1, .int .i64 x.2] 25)) (HW1.out.alloc (.cells #[.int .i64 x.1, .int .i64 x.2] 25)) o1 (Nat.le_refl _))
          have HW2 := Lib.hid (show w2.ownsRow w.heap.size 25 2 v1 (okL (l.take (k + 1))).length (spc (okL (l.take (k + 1)))) by
            rw [HE.out, spc_append, List.length_append, ← HN.out]
            exact H1.out)
          clear H1 o1
          go_wp2
          go_roundw
          case rel => exact ⟨k + 1, by omega, by go_num, HW2, HO2.out⟩
          case measure => simp [intOf]; omega
      · have HP := Lib.hid hp
        have HE := Lib.hid (okL_no HXX.out hp)
        clear hp
        go_wp2_with fail
        refine (may_no hfx HP.out _).mono ?_
        rintro e w1 ⟨rfl, g⟩
        have HO := Lib.hid ((HX.out.alloc _).trans g.only)
        have HW1 := Lib.hid (own_only (HW.out.alloc (.cells #[.int .i64 x.1, .int .i64 x.2] 25)) g.only fun _ _ h => h)
        clear g
        go_wp2
        go_roundw
        case rel => exact ⟨k + 1, by omega, by go_num, by rw [HE.out]; exact HW1, HO.out⟩
        case measure => simp [intOf]; omega
    · obtain rfl : k = l.length := by omega
      have HE := Lib.hid (show l.take l.length = l from List.take_length)
      clear hO
      go_wp2
      go_ret
      exact ⟨_, rfl, by have := HW.out; rwa [HE.out] at this, HX.out⟩

/-- add: one span more, if it has words. -/
def addL (O : List Sp) (a b : Int) : List Sp := if a < b then O ++ [(a, b - a)] else O
set_option maxHeartbeats 2000000 in
theorem add_any (v : Value) (O : List Sp) (a b : Int) (B : Nat) (w : World) (h : w.ownsRow B 25 2 v O.length (spc O)) (hB : B ≤ w.heap.size) (hn : O.length ≤ 1000000) (ha : 0 ≤ a ∧ a ≤ 1099511627776) (hb : 0 ≤ b ∧ b ≤ 1099511627776) :
    Calls Tryd.prog 65 #[v, .int .i64 a, .int .i64 b] w fun e w' => ∃ v', e = .returned v' ∧ w'.ownsRow B 25 2 v' (addL O a b).length (spc (addL O a b)) ∧ Only (fun k => v.ownBlock = some k) w w' ∧ (v'.ownBlock = v.ownBlock ∨ ∃ k, v'.ownBlock = some k ∧ w.heap.size ≤ k) := by
  obtain ⟨i0, hi0, hz0, hz1, hz2⟩ := info_parts info_span
  have HW := Lib.hid h
  obtain ⟨A, c, rfl, hc, hm⟩ := own_len h
  unfold maxLen at hm
  by_cases hab : a < b
  · have HE := Lib.hid (show addL O a b = O ++ [(a, b - a)] by unfold addL; rw [if_pos hab])
    obtain ⟨n, hn1⟩ : ∃ n, n = O.length := ⟨_, rfl⟩
    rw [← hn1] at HW hc hn ⊢
    have HN := Lib.hid hn1
    have hab' : ¬ b ≤ a := by omega
    clear h hn1
    go_enter Tryd.func65, Tryd.ntmps65
    go_wp2_with (with_reducible refine wpList_append_sl (o := ⟨some 18, _, _, _, _, _⟩) _ rfl (.tmp 11) (.tmp 17) _ rfl B 25 i0 _ 2 16 Tryd.underlying31 hi0 hz0 hz1 hz2 rfl (by decide) (.slice A n c) n (spc O) rfl ?d1 (w.heap.size + 1) (.slice (some ⟨w.heap.size, 0, none⟩) 1 1) 1 (spc [(a, b - a)]) rfl ?d6 (spc_one _) ?d2 ?d3 ?d4 ?d5)
    case d1 => exact HW.out.alloc _
    case d6 =>
      have := Sl.of_blk (size := 2) (n := 1) (c := 1) (Blk.new w 25 #[.int .i64 a, .int .i64 (b - a)]) rfl (Nat.le_refl _) (by decide)
      simpa [spc] using this
    case d2 => unfold maxLen; omega
    case d3 => omega
    case d4 => first | omega | (simp; omega)
    case d5 =>
      intro v1 w1 H1 o1 hv
      have HO := Lib.hid ((((Only.refl (fun k => (Value.slice A n c).ownBlock = some k) w)).alloc _).trans o1)
      have HW1 := Lib.hid (show w1.ownsRow B 25 2 v1 (addL O a b).length (spc (addL O a b)) by
        rw [HE.out, spc_append, List.length_append, ← HN.out]
        exact H1.out)
      have HV := Lib.hid (show v1.ownBlock = (Value.slice A n c).ownBlock ∨ ∃ k, v1.ownBlock = some k ∧ w.heap.size ≤ k from by
        rcases hv with e | e
        · exact .inl e
        · exact .inr ⟨_, e, by first | omega | (simp; omega)⟩)
      clear H1 o1 hv
      go_wp2
      go_ret
      exact ⟨_, rfl, HW1.out, HO.out, HV.out⟩
  · have HE := Lib.hid (show addL O a b = O by unfold addL; rw [if_neg hab])
    have hab' : b ≤ a := by omega
    clear h
    go_enter Tryd.func65, Tryd.ntmps65
    go_wp2
    go_ret
    exact ⟨_, rfl, by rw [HE.out]; exact HW.out, Only.refl _ _, .inl rfl⟩
end Go.Proofs.YtoeccbbjncgmlaaDoor

/- Contract of package span: first. -/
namespace Go.Proofs.YtoeccbbjncgmlaaDoor
open Go.RowKit Go.Sort

/-- The first k spans of L, sorted and such as may be, make one row; k = 0: it is L's first one. -/
def RowAt (L : List Sp) (k : Nat) (r : Sp) : Prop := (k = 0 ∧ L[0]? = some r) ∨ (1 ≤ k ∧ Merge (L.take k) [] r ∧ ∃ x, L[0]? = some x ∧ r.1 = x.1)
theorem RowAt.ok {L : List Sp} {k : Nat} {r : Sp} (h : RowAt L k r) (hL : ∀ x ∈ L, Sp.ok x) : r.ok := by
  rcases h with ⟨_, h⟩ | ⟨_, h, _⟩
  · exact hL r (List.mem_of_getElem? h)
  · exact h.joined.1 r (by simp)
theorem RowAt.le {L : List Sp} {k : Nat} {r x : Sp} (h : RowAt L k r) (hs : Sorted L) (hx : L[k]? = some x) : r.1 ≤ x.1 := by
  have key : ∀ y, L[0]? = some y → y.1 ≤ x.1 := by
    intro y hy
    obtain ⟨h1, rfl⟩ := List.getElem?_eq_some_iff.1 hx
    obtain ⟨h2, rfl⟩ := List.getElem?_eq_some_iff.1 hy
    rcases Nat.eq_zero_or_pos k with h0 | h0
    · subst h0; exact Int.le_refl _
    · have := List.pairwise_iff_getElem.1 hs 0 k h2 h1 h0
      unfold Sp.le at this; omega
  rcases h with ⟨_, h⟩ | ⟨_, _, y, hy, he⟩
  · exact key _ h
  · rw [he]; exact key _ hy
theorem RowAt.next {L : List Sp} {k : Nat} {r x : Sp} {s : Int} (h : RowAt L k r) (hs : Sorted L) (hL : ∀ x ∈ L, Sp.ok x) (hx : L[k]? = some x) (hle : ¬ r.1 + r.2 < x.1) (hq : s = max (r.1 + r.2) (x.1 + x.2) - r.1) : RowAt L (k + 1) (r.1, s) := by
  have hxo := hL x (List.mem_of_getElem? hx)
  have hr := h.le hs hx
  rcases h with ⟨rfl, h⟩ | ⟨h1, hm, y, hy, he⟩
  · obtain rfl : r = x := by rw [h] at hx; exact Option.some.inj hx
    refine .inr ⟨by omega, ?_, r, h, rfl⟩
    have hss : s = r.2 := by omega
    rw [take_snoc_get h, hss]
    exact Merge.first (fun p => by simp [cov]) hxo
  · refine .inr ⟨by omega, ?_, y, hy, he⟩
    rw [take_snoc_get hx]
    exact hm.grow hxo hr (by omega) hq
theorem RowAt.merge {L : List Sp} {k : Nat} {r : Sp} (h : RowAt L k r) (hk : 1 ≤ k) : Merge (L.take k) [] r := by
  rcases h with ⟨h0, _⟩ | ⟨_, h, _⟩
  · omega
  · exact h

/-- What first tells. -/
def FirstPost (L : List Sp) (w : World) (e : Ending) (w' : World) : Prop := ∃ (r : Sp) (k : Nat), e = .returned (.tuple #[.agg #[.int .i64 r.1, .int .i64 r.2], .int .i64 k]) ∧ 1 ≤ k ∧ k ≤ L.length ∧ Merge (L.take k) [] r ∧ (∀ x, L[k]? = some x → r.1 + r.2 < x.1) ∧ Only nob w w'

theorem fits_step {r x : Sp} (hr : r.ok) (hx : x.ok) : 0 ≤ r.1 ∧ r.1 ≤ 1099511627776 ∧ 1 ≤ r.2 ∧ r.2 ≤ 1099511627776 ∧ 0 ≤ x.1 ∧ x.1 ≤ 1099511627776 ∧ 1 ≤ x.2 ∧ x.2 ≤ 1099511627776 := by unfold Sp.ok most at hr hx; omega

set_option maxRecDepth 100000 in
set_option maxHeartbeats 4000000 in
theorem first_any (v : Value) (L : List Sp) (B : Nat) (w : World) (h : Sl w B 2 v L.length (spc L)) (hB : B ≤ w.heap.size) (hlen : L.length ≤ 1000000) (hn : 0 < L.length) (hs : Sorted L) (hL : ∀ x ∈ L, Sp.ok x) :
    Calls Tryd.prog 77 #[v] w (FirstPost L w) := by
  have HA := Lib.hid h
  have HS := Lib.hid hs
  have HL := Lib.hid hL
  obtain ⟨A, ca, rfl, hac, ham, -⟩ := h
  unfold maxLen at ham
  obtain ⟨x0, hx0⟩ : ∃ x, L[0]? = some x := ⟨_, List.getElem?_eq_getElem hn⟩
  have R0 := Lib.hid (show RowAt L 0 x0 from .inl ⟨rfl, hx0⟩)
  obtain ⟨b, o, rfl, hb, c0, c1⟩ := sl_span HA.out (Below.refl _ _) hx0
  have hbw : b < w.heap.size := Nat.lt_of_lt_of_le hb hB
  rw [Nat.zero_mul, Nat.add_zero] at c0 c1
  clear hs hL hx0
  go_enter Tryd.func77, Tryd.ntmps77
  go_wp2
  have K0 : ∃ W0, ((w.alloc (.cells #[.int .i64 0, .int .i64 0] 25)).alloc (.cells #[.int .i64 x0.1, .int .i64 x0.2] 25)) = W0 ∧ Hid (Only nob w W0 ∧ Blk W0 w.heap.size 25 #[.int .i64 0, .int .i64 0] ∧ Blk W0 (w.heap.size + 1) 25 #[.int .i64 x0.1, .int .i64 x0.2]) := by
    refine ⟨_, rfl, ((Only.refl nob w).alloc _).alloc _, (Blk.new w _ _).alloc _, ?_⟩
    exact Blk.newAt _ _ _ _ (by simp)
  obtain ⟨W0, hW0, H0⟩ := K0
  rw [hW0]
  clear hW0 c0 c1
  go_loopw [12] (fun i wr => ∃ (k : Nat) (r : Sp), i = .int .i64 k ∧ k ≤ L.length ∧ Hid (RowAt L k r) ∧ Hid (Only nob w wr ∧ Blk wr w.heap.size 25 #[.int .i64 0, .int .i64 0] ∧ Blk wr (w.heap.size + 1) 25 #[.int .i64 r.1, .int .i64 r.2])) (fun i _ => L.length - (intOf i).toNat)
  case atStart => exact ⟨0, x0, rfl, by omega, R0, H0⟩
  case round =>
    clear R0 H0
    obtain ⟨k, r, rfl, hk, R1, H1⟩ := hrel
    have RO := Lib.hid (R1.out.ok HL.out)
    by_cases hlt : k < L.length
    · obtain ⟨x, hx⟩ : ∃ x, L[k]? = some x := ⟨_, List.getElem?_eq_getElem hlt⟩
      obtain ⟨b', o', e', hb', c0, c1⟩ := sl_span HA.out (H1.out.1.below hB fun _ h => h.elim) hx
      obtain ⟨rfl, rfl⟩ : b = b' ∧ o = o' := by simpa using e'
      have HX := Lib.hid hx
      have XO := Lib.hid (HL.out x (List.mem_of_getElem? hx))
      have hnum := fits_step RO.out XO.out
      clear hx hb' e'
      go_upto_region 5 with fail
      have K1 : ∃ W1, (wr.alloc (.cells #[.int .i64 x.1, .int .i64 x.2] 25)) = W1 ∧ Hid (Only nob w W1 ∧ Blk W1 w.heap.size 25 #[.int .i64 0, .int .i64 0] ∧ Blk W1 (w.heap.size + 1) 25 #[.int .i64 r.1, .int .i64 r.2] ∧ Blk W1 wr.heap.size 25 #[.int .i64 x.1, .int .i64 x.2]) :=
        ⟨_, rfl, H1.out.1.alloc _, H1.out.2.1.alloc _, H1.out.2.2.alloc _, Blk.new _ _ _⟩
      obtain ⟨W1, hW1, H2⟩ := K1
      rw [hW1]
      clear hW1 c0 c1
      have d0 : ∀ n os, (grow (W1.drewN n) os).cell? ⟨wr.heap.size, 0, none⟩ = some (.int .i64 x.1) := fun n os => (grw_grow n os).only.keeps (H2.out.2.2.2.cell 0)
      have e0 : ∀ n os, (grow (W1.drewN n) os).cell? ⟨w.heap.size + 1, 0, none⟩ = some (.int .i64 r.1) := fun n os => (grw_grow n os).only.keeps (H2.out.2.2.1.cell 0)
      have e1 : ∀ n os, (grow (W1.drewN n) os).cell? ⟨w.heap.size + 1, 1, none⟩ = some (.int .i64 r.2) := fun n os => (grw_grow n os).only.keeps (H2.out.2.2.1.cell 1)
      have mixed := mixed_
      by_cases hcut : r.1 + r.2 < x.1
      · have k1 : 1 ≤ k := by
          rcases R1.out with ⟨h0, h1⟩ | ⟨h0, _⟩
          · subst h0
            have := HX.out
            rw [h1] at this
            obtain rfl := Option.some.inj this
            omega
          · exact h0
        go_quiet_grown (first | (go_at_call 62; with_reducible refine grw_of (end_any _ _ RO.out)))
        obtain ⟨W3, hW3, HG⟩ := grown_name W1 nq osq
        rw [hW3]
        clear hW3 d0 e0 e1 mixed
        have f0 : W3.cell? ⟨w.heap.size + 1, 0, none⟩ = some (.int .i64 r.1) := HG.out.only.keeps (H2.out.2.2.1.cell 0)
        have f1 : W3.cell? ⟨w.heap.size + 1, 1, none⟩ = some (.int .i64 r.2) := HG.out.only.keeps (H2.out.2.2.1.cell 1)
        have B2 := Lib.hid (H2.out.2.1.keep HG.out.only id)
        have g0 : W3.cell? ⟨w.heap.size, 0, none⟩ = some (.int .i64 0) := B2.out.cell 0
        have g1 : W3.cell? ⟨w.heap.size, 1, none⟩ = some (.int .i64 0) := B2.out.cell 1
        have g2 := B2.out.free 0
        have g3 := B2.out.free 1
        have HO := Lib.hid (H2.out.1.trans HG.out.only)
        go_wp2
        have K4 : ∃ W4, ((W3.setCell ⟨w.heap.size, 0, none⟩ (.int .i64 r.1)).setCell ⟨w.heap.size, 1, none⟩ (.int .i64 r.2)) = W4 ∧ Only nob w W4 ∧ Blk W4 w.heap.size 25 #[.int .i64 r.1, .int .i64 r.2] :=
          ⟨_, rfl, (HO.out.setCell (p := ⟨w.heap.size, 0, none⟩) (fun h => absurd h (Nat.lt_irrefl _)) _).setCell (p := ⟨w.heap.size, 1, none⟩) (fun h => absurd h (Nat.lt_irrefl _)) _, by simpa using (B2.out.put 0 (.int .i64 r.1)).put 1 (.int .i64 r.2)⟩
        obtain ⟨W4, hW4, O4, B4⟩ := K4
        rw [hW4]
        have h0 := B4.cell 0
        have h1 := B4.cell 1
        simp at h0 h1
        refine bodyPost_ret (v := .tuple #[.agg #[.int .i64 r.1, .int .i64 r.2], .int .i64 k]) (by simp [results, Tryd.results77, go_sem, h0, h1]) rfl ⟨r, k, rfl, k1, hk, R1.out.merge k1, fun y hy => ?_, O4⟩
        have := HX.out
        rw [hy] at this
        obtain rfl := Option.some.inj this
        exact hcut
      · have hcut' : decide (r.1 + r.2 < x.1) = false := decide_eq_false hcut
        go_quiet_grown (first | (go_at_call 62; with_reducible refine grw_of (end_any _ _ RO.out)))
        obtain ⟨W3, hW3, HG⟩ := grown_name W1 nq osq
        rw [hW3]
        clear hW3 d0 e0 e1 hcut'
        have d0 : ∀ n os, (grow (W3.drewN n) os).cell? ⟨wr.heap.size, 0, none⟩ = some (.int .i64 x.1) := fun n os => (grw_grow n os).only.keeps (HG.out.only.keeps (H2.out.2.2.2.cell 0))
        have d1 : ∀ n os, (grow (W3.drewN n) os).cell? ⟨wr.heap.size, 1, none⟩ = some (.int .i64 x.2) := fun n os => (grw_grow n os).only.keeps (HG.out.only.keeps (H2.out.2.2.2.cell 1))
        have e0 : ∀ n os, (grow (W3.drewN n) os).cell? ⟨w.heap.size + 1, 0, none⟩ = some (.int .i64 r.1) := fun n os => (grw_grow n os).only.keeps (HG.out.only.keeps (H2.out.2.2.1.cell 0))
        have e1 : ∀ n os, (grow (W3.drewN n) os).cell? ⟨w.heap.size + 1, 1, none⟩ = some (.int .i64 r.2) := fun n os => (grw_grow n os).only.keeps (HG.out.only.keeps (H2.out.2.2.1.cell 1))
        have hw7 : IntKind.i64.wrap (max (r.1 + r.2) (x.1 + x.2) - r.1) = max (r.1 + r.2) (x.1 + x.2) - r.1 := by rw [IntKind.wrap_i64]; omega
        go_wp2_with fail
        refine wp_region_grown_tail 9 mixed_ (by kernel_rfl) ?_
        simp only [List.take_succ_cons, List.take_zero, List.drop_succ_cons, List.drop_zero]
        repeat (quiet_step (first | (go_at_call 62; with_reducible refine grw_of (end_any _ _ RO.out)) | (go_at_call 62; with_reducible refine grw_of (end_any _ _ XO.out))))
        refine wpQuiet_nil ?_
        rintro w' ⟨⟨nq, osq⟩, rfl⟩
        obtain ⟨W5, hW5, HG5⟩ := grown_name W3 nq osq
        rw [hW5]
        clear hW5 d0 d1 e0 e1
        have B5 := Lib.hid ((H2.out.2.2.1.keep HG.out.only id).keep HG5.out.only id)
        have f1 : W5.cell? ⟨w.heap.size + 1, 1, none⟩ = some (.int .i64 r.2) := B5.out.cell 1
        have f2 := B5.out.free 1
        have HS5 := Lib.hid (show Only nob w W5 ∧ Blk W5 w.heap.size 25 #[.int .i64 0, .int .i64 0] from ⟨(H2.out.1.trans HG.out.only).trans HG5.out.only, (H2.out.2.1.keep HG.out.only id).keep HG5.out.only id⟩)
        have HR := Lib.hid (R1.out.next (s := max (r.1 + r.2) (x.1 + x.2) - r.1) HS.out HL.out HX.out (by omega) rfl)
        have HF := Lib.hid (show Only nob w (W5.setCell ⟨w.heap.size + 1, 1, none⟩ (.int .i64 (max (r.1 + r.2) (x.1 + x.2) - r.1))) ∧ Blk (W5.setCell ⟨w.heap.size + 1, 1, none⟩ (.int .i64 (max (r.1 + r.2) (x.1 + x.2) - r.1))) w.heap.size 25 #[.int .i64 0, .int .i64 0] ∧ Blk (W5.setCell ⟨w.heap.size + 1, 1, none⟩ (.int .i64 (max (r.1 + r.2) (x.1 + x.2) - r.1))) (w.heap.size + 1) 25 #[.int .i64 r.1, .int .i64 (max (r.1 + r.2) (x.1 + x.2) - r.1)] from
          ⟨HS5.out.1.setCell (p := ⟨w.heap.size + 1, 1, none⟩) (fun h => absurd h (by simp)) _, HS5.out.2.other (p := ⟨w.heap.size + 1, 1, none⟩) (by simp) _, by simpa using B5.out.put 1 (.int .i64 (max (r.1 + r.2) (x.1 + x.2) - r.1))⟩)
        clear mixed hw7
        go_wp2
        go_roundw
        case rel => exact ⟨k + 1, _, by go_num, by omega, HR, HF⟩
        case measure => simp [intOf]; omega
    · obtain rfl : k = L.length := by omega
      have HM := Lib.hid (R1.out.merge (by omega))
      have f0 := H1.out.2.2.cell 0
      have f1 := H1.out.2.2.cell 1
      have g0 := H1.out.2.1.cell 0
      have g1 := H1.out.2.1.cell 1
      have g2 := H1.out.2.1.free 0
      have g3 := H1.out.2.1.free 1
      simp at f0 f1 g0 g1
      go_wp2
      have K4 : ∃ W4, ((wr.setCell ⟨w.heap.size, 0, none⟩ (.int .i64 r.1)).setCell ⟨w.heap.size, 1, none⟩ (.int .i64 r.2)) = W4 ∧ Only nob w W4 ∧ Blk W4 w.heap.size 25 #[.int .i64 r.1, .int .i64 r.2] :=
        ⟨_, rfl, (H1.out.1.setCell (p := ⟨w.heap.size, 0, none⟩) (fun h => absurd h (Nat.lt_irrefl _)) _).setCell (p := ⟨w.heap.size, 1, none⟩) (fun h => absurd h (Nat.lt_irrefl _)) _, by simpa using (H1.out.2.1.put 0 (.int .i64 r.1)).put 1 (.int .i64 r.2)⟩
      obtain ⟨W4, hW4, O4, B4⟩ := K4
      rw [hW4]
      have h0 := B4.cell 0
      have h1 := B4.cell 1
      simp at h0 h1
      refine bodyPost_ret (v := .tuple #[.agg #[.int .i64 r.1, .int .i64 r.2], .int .i64 L.length]) (by simp [results, Tryd.results77, go_sem, h0, h1]) rfl ⟨r, L.length, rfl, hn, Nat.le_refl _, HM.out, fun y hy => ?_, O4⟩
      rw [List.getElem?_eq_none (Nat.le_refl _)] at hy
      cases hy
end Go.Proofs.YtoeccbbjncgmlaaDoor
