/- Contracts of package span: Total, Apart. -/
import Derived.Test.YtmlpppcdammelaaSpanI
namespace Go.Proofs.Ytmlpppcdammelaa
open Go.RowKit Go.Sort

set_option maxHeartbeats 2000000 in
theorem spTotal : SpTotal := by
  intro v l B w h hB hlen hf
  have HA := Lib.hid h
  obtain ⟨A, ca, rfl, hac, ham, -⟩ := h
  unfold maxLen at ham
  go_enter Try.func25, Try.ntmps25
  go_wp2_with fail
  go_loopw [3, 8] (fun n i wr => ∃ k : Nat, k ≤ l.length ∧ i = .int .i64 k ∧ n = .int .i64 (total (l.take k)) ∧ Only nob w wr) (fun _ i _ => l.length - (intOf i).toNat)
  case atStart => exact ⟨0, Nat.zero_le _, rfl, rfl, Only.refl _ _⟩
  case round =>
    obtain ⟨k, hk, rfl, rfl, hO⟩ := hrel
    have HX := Lib.hid hO
    by_cases hlt : k < l.length
    · obtain ⟨x, hx⟩ : ∃ x, l[k]? = some x := ⟨_, List.getElem?_eq_getElem hlt⟩
      obtain ⟨b, o, rfl, hb, c0, c1⟩ := sl_span HA.out (hO.below hB fun _ h => h.elim) hx
      have HXX := Lib.hid hx
      have hfx := hf.get hx
      have hr := total_range (l.take k)
      obtain ⟨T, hT⟩ : ∃ T, T = total (l.take k) := ⟨_, rfl⟩
      rw [← hT] at hr ⊢
      have HT := Lib.hid hT
      clear hO hx hT
      by_cases hp : x.ok
      · have HP := Lib.hid hp
        have hb1 : 1 ≤ x.2 ∧ x.2 ≤ 1099511627776 := by unfold Sp.ok most at hp; omega
        have HS := Lib.hid (total_yes HXX.out hp)
        have HE := Lib.hid (show total (l.take (k + 1)) = min (T + x.2) 4611686018427387904 by
          by_cases hc : 4611686018427387904 < T + x.2
          · rw [HS.out.2 (by rw [← HT.out]; exact hc)]; unfold cap62; omega
          · rw [HS.out.1 (by rw [← HT.out]; unfold cap62; omega), ← HT.out]; omega)
        clear hp
        go_wp2_with fail
        refine (may_yes HP.out _).mono ?_
        rintro e w1 ⟨rfl, g⟩
        have HB := Lib.hid ((BoxAt.new wr x).grw g)
        have HO := Lib.hid ((HX.out.alloc _).trans g.only)
        clear g
        obtain ⟨b0, b1⟩ := HB.out
        go_wp2
        go_roundw
        case rel => exact ⟨k + 1, by omega, by go_num, by rw [HE.out], HO.out⟩
        case measure => simp [intOf]; omega
      · have HP := Lib.hid hp
        have HE := Lib.hid (total_none HXX.out hp)
        clear hp
        go_wp2_with fail
        refine (may_no hfx HP.out _).mono ?_
        rintro e w1 ⟨rfl, g⟩
        have HO := Lib.hid ((HX.out.alloc _).trans g.only)
        clear g
        go_wp2
        go_roundw
        case rel => exact ⟨k + 1, by omega, by go_num, by rw [HE.out, HT.out], HO.out⟩
        case measure => simp [intOf]; omega
    · obtain rfl : k = l.length := by omega
      have HE := Lib.hid (show l.take l.length = l from List.take_length)
      clear hO
      go_wp2
      go_ret
      exact ⟨by show Ending.returned (Value.int .i64 (total (l.take l.length))) = _; rw [HE.out], HX.out⟩

/-- The first k spans in order lie apart, and end at or below z. -/
structure Up2 (L : List Sp) (k : Nat) (z : Int) : Prop where
  apart : ApartL (L.take k)
  ends : ∀ y ∈ L.take k, y.1 + y.2 ≤ z
  last : z = 0 ∨ ∃ (j : Nat) (y : Sp), j < k ∧ L[j]? = some y ∧ y.1 + y.2 = z
  lo : 0 ≤ z
  hi : z ≤ 1099511627776
theorem Up2.start (L : List Sp) : Up2 L 0 0 := ⟨by simp [ApartL], by simp, .inl rfl, by omega, by omega⟩
theorem Up2.next {L : List Sp} {k : Nat} {z : Int} {x : Sp} (h : Up2 L k z) (hx : L[k]? = some x) (hok : x.ok) (hz : z ≤ x.1) : Up2 L (k + 1) (x.1 + x.2) := by
  have hb := hok
  unfold Sp.ok most at hb
  refine ⟨?_, fun y hy => ?_, .inr ⟨k, x, by omega, hx, rfl⟩, by omega, by omega⟩
  · rw [take_snoc_get hx]
    exact apart_next h.apart hok fun y hy => Int.le_trans (h.ends y hy) hz
  · rw [take_snoc_get hx] at hy
    rcases List.mem_append.1 hy with hy | hy
    · have := h.ends y hy; omega
    · rw [List.mem_singleton.1 hy]; omega
theorem Up2.not {L : List Sp} {k : Nat} {z : Int} {x : Sp} (h : Up2 L k z) (hs : Sorted L) (hx : L[k]? = some x) (hok : x.ok) (hz : x.1 < z) : ¬ ApartL L := by
  rcases h.last with h0 | ⟨j, y, hj, hy, he⟩
  · have := hok.1; omega
  · have hle : Sp.le y x := by
      obtain ⟨h1, rfl⟩ := List.getElem?_eq_some_iff.1 hx
      obtain ⟨h2, rfl⟩ := List.getElem?_eq_some_iff.1 hy
      exact List.pairwise_iff_getElem.1 hs j k _ _ hj
    exact apart_not hx hy hj (by unfold Sp.le at hle; omega) (by omega)

set_option maxHeartbeats 2000000 in
theorem spApart : SpApart := by
  intro v l B w h hB hlen hf
  obtain ⟨r, hr⟩ : ∃ r, decide (ApartL l) = r := ⟨_, rfl⟩
  rw [hr]
  have HR := Lib.hid hr
  have HA := Lib.hid h
  have HF := Lib.hid hf
  clear h hr hf
  go_enter Try.func22, Try.ntmps22
  go_wp2_with fail
  go_at_call 30
  refine (sort_any v l B w HA.out hB (by omega)).mono ?_
  rintro e w1 ⟨v1, L, rfl, hL, hown, o⟩
  have hll : L.length = l.length := by rw [hL.2.length_eq, List.take_length]
  have hperm : L.Perm l := by have := hL.2; rwa [List.take_length] at this
  have HS := Lib.hid (Sl.of_own hown hown.1)
  have HSO := Lib.hid hL.1
  have HRL := Lib.hid (show ∀ b : Bool, (ApartL L ↔ b = true) → r = b from fun b hb => by
    rw [← HR.out]
    cases b with
    | true => exact decide_eq_true ((apart_perm hperm).1 (hb.2 rfl))
    | false => exact decide_eq_false fun hh => by have := hb.1 ((apart_perm hperm).2 hh); cases this)
  have HFL := Lib.hid (show Fits L from fun x hx => HF.out x (hperm.mem_iff.1 hx))
  have O1 := Lib.hid o
  obtain ⟨A, ca, rfl, hac, ham⟩ := own_len hown
  unfold maxLen at ham
  have hln : L.length ≤ 40000 := by omega
  clear hL hown o hperm hll HR HF
  have hU := Lib.hid (Up2.start L)
  go_wp2
  go_loopw [3, 9] (fun n i wr => ∃ (k : Nat) (z : Int), k ≤ L.length ∧ i = .int .i64 k ∧ n = .int .i64 z ∧ Only nob w1 wr ∧ Hid (Up2 L k z)) (fun _ i _ => L.length - (intOf i).toNat)
  case atStart => exact ⟨0, 0, Nat.zero_le _, rfl, rfl, Only.refl _ _, hU⟩
  case round =>
    clear hU
    obtain ⟨k, z, hk, rfl, rfl, hO, HU⟩ := hrel
    have HX := Lib.hid hO
    by_cases hlt : k < L.length
    · obtain ⟨x, hx⟩ : ∃ x, L[k]? = some x := ⟨_, List.getElem?_eq_getElem hlt⟩
      obtain ⟨b, o, rfl, hb, c0, c1⟩ := sl_span HS.out hO.whole hx
      have HXX := Lib.hid hx
      have hfx := HFL.out.get hx
      clear hO hx
      by_cases hp : x.ok
      · have HP := Lib.hid hp
        have hb1 : 0 ≤ x.1 ∧ x.1 ≤ 1099511627776 ∧ 1 ≤ x.2 ∧ x.2 ≤ 1099511627776 := by unfold Sp.ok most at hp; omega
        clear hp
        by_cases hz : x.1 < z
        · have HE := Lib.hid (HRL.out false ⟨fun h => absurd h (HU.out.not HSO.out HXX.out HP.out hz), fun h => by cases h⟩)
          go_wp2_with fail
          refine (may_yes HP.out _).mono ?_
          rintro e w2 ⟨rfl, g⟩
          have HB := Lib.hid ((BoxAt.new wr x).grw g)
          have HO := Lib.hid ((HX.out.alloc _).trans g.only)
          clear g
          obtain ⟨b0, b1⟩ := HB.out
          go_wp2
          go_ret
          exact ⟨ret_bool HE.out.symm, O1.out.trans HO.out⟩
        · have HE := Lib.hid (HU.out.next HXX.out HP.out (by omega))
          go_wp2_with fail
          refine (may_yes HP.out _).mono ?_
          rintro e w2 ⟨rfl, g⟩
          have HB := Lib.hid ((BoxAt.new wr x).grw g)
          have HO := Lib.hid ((HX.out.alloc _).trans g.only)
          clear g
          obtain ⟨b0, b1⟩ := HB.out
          go_wp2_with fail
          go_at_call 29
          refine (end_any x _ HP.out).mono ?_
          rintro e w3 ⟨rfl, g⟩
          have HO2 := Lib.hid (HO.out.trans g.only)
          clear g b0 b1
          go_wp2
          go_roundw
          case rel => exact ⟨k + 1, x.1 + x.2, by omega, by go_num, rfl, HO2.out, HE⟩
          case measure => simp [intOf]; omega
      · have HP := Lib.hid hp
        have HE := Lib.hid (HRL.out false ⟨fun h => absurd h (apart_no1 HXX.out hp), fun h => by cases h⟩)
        clear hp
        go_wp2_with fail
        refine (may_no hfx HP.out _).mono ?_
        rintro e w2 ⟨rfl, g⟩
        have HO := Lib.hid ((HX.out.alloc _).trans g.only)
        clear g
        go_wp2
        go_ret
        exact ⟨ret_bool HE.out.symm, O1.out.trans HO.out⟩
    · obtain rfl : k = L.length := by omega
      have HE := Lib.hid (HRL.out true ⟨fun _ => rfl, fun _ => by have := HU.out.apart; rwa [List.take_length] at this⟩)
      clear hO
      go_wp2
      go_ret
      exact ⟨ret_bool HE.out.symm, O1.out.trans HX.out⟩
end Go.Proofs.Ytmlpppcdammelaa
