/- The walk of SpanParts, out of the contracts of package span. -/
import Derived.Test.YtkakimbklhmbcaaSpanLaw2
namespace Go.Proofs.Ytkakimbklhmbcaa
open Go.RowKit

/-- How many of a list have p. -/
def hits (l : List Sp) (p : Int) : Nat := (l.filter fun x => decide (Sp.has x p)).length
theorem hits_le (l : List Sp) (p : Int) : hits l p ≤ l.length := List.length_filter_le _ _
theorem hits_yes {l : List Sp} {k : Nat} {x : Sp} {p : Int} (h : l[k]? = some x) (hp : x.has p) : hits (l.take (k + 1)) p = hits (l.take k) p + 1 := by
  unfold hits; rw [take_snoc_get h, List.filter_append, List.length_append]; simp [hp]
theorem hits_no {l : List Sp} {k : Nat} {x : Sp} {p : Int} (h : l[k]? = some x) (hp : ¬ x.has p) : hits (l.take (k + 1)) p = hits (l.take k) p := by
  unfold hits; rw [take_snoc_get h, List.filter_append, List.length_append]; simp [hp]
theorem hits_none {l : List Sp} {p : Int} (h : ¬ cov l p) : hits l p = 0 := by
  unfold hits
  rw [List.length_eq_zero_iff, List.filter_eq_nil_iff]
  intro x hx hp
  exact h ⟨x, hx, by simpa using hp⟩
theorem hits_joined {l : List Sp} {p : Int} (hj : Joined l) (h : cov l p) : hits l p = 1 := by
  induction l with
  | nil => exact absurd h (cov_nil p)
  | cons x l ih =>
    by_cases hx : x.has p
    · have hn : ¬ cov l p := by
        rintro ⟨y, hy, hp⟩
        have := hj.lt y hy
        have := hp.2.1
        have := hx.2.2
        omega
      have := hits_none hn
      unfold hits at this ⊢
      simp [hx, this]
    · have := ih hj.tail ((cov_cons.1 h).resolve_left hx)
      unfold hits at this ⊢
      simp [hx, this]
theorem joined_apart {l : List Sp} (hj : Joined l) : ApartL l := by
  refine ⟨hj.1, hj.2.imp fun {x y} hlt hm => ?_⟩
  rcases hm.2.2 with h | h
  · have := h.2.1; have := hm.2.1.2.1; have := h.2.2; omega
  · have := h.2.2; have := h.2.1; omega
/-- A list without a repetition, whose members are another one's, is no longer. -/
theorem len_of_sub {l m : List Int} (hl : l.Pairwise (· ≠ ·)) (h : ∀ x ∈ l, x ∈ m) : l.length ≤ m.length := by
  induction l generalizing m with
  | nil => simp
  | cons x l ih =>
    have hx : x ∈ m := h x List.mem_cons_self
    have hp := List.pairwise_cons.1 hl
    have := ih (m := m.erase x) hp.2 fun y hy => (List.mem_erase_of_ne fun e => hp.1 y hy e.symm).2 (h y (List.mem_cons_of_mem _ hy))
    rw [List.length_erase_of_mem hx] at this
    have hpos : 0 < m.length := List.length_pos_of_mem hx
    simp only [List.length_cons]
    omega
/-- What is left of a span by n others has no more than n + 1 pieces. -/
theorem gaps_len {x : Sp} {l O : List Sp} (hj : Joined O) (hc : ∀ p, cov O p ↔ (x.has p ∧ ¬ cov l p)) : O.length ≤ l.length + 1 := by
  have hp : (O.map (·.1)).Pairwise (· ≠ ·) := by
    rw [List.pairwise_map, List.pairwise_iff_getElem]
    intro i j hi hj' hlt
    have h1 := List.pairwise_iff_getElem.1 hj.2 i j hi hj' hlt
    have h2 := (hj.1 _ (List.getElem_mem hi)).2.1
    omega
  have hs : ∀ a ∈ O.map (·.1), a ∈ x.1 :: l.map fun z => z.1 + z.2 := by
    intro a ha
    obtain ⟨y, hy, rfl⟩ := List.mem_map.1 ha
    have hok := hj.1 y hy
    have h1 := (hc y.1).1 ⟨y, hy, hok, Int.le_refl _, by have := hok.2.1; omega⟩
    have h0 : ¬ cov O (y.1 - 1) := by
      rintro ⟨z, hz, hp⟩
      obtain ⟨i, hi, rfl⟩ := List.getElem_of_mem hy
      obtain ⟨j, hj', rfl⟩ := List.getElem_of_mem hz
      have hp1 := hp.2.1
      have hp2 := hp.2.2
      rcases Nat.lt_trichotomy i j with hlt | rfl | hgt
      · have := List.pairwise_iff_getElem.1 hj.2 i j hi hj' hlt; have := hok.2.1; omega
      · omega
      · have := List.pairwise_iff_getElem.1 hj.2 j i hj' hi hgt; omega
    have h2 := fun h => h0 ((hc (y.1 - 1)).2 h)
    have hxok := h1.1.1
    by_cases hx : x.has (y.1 - 1)
    · have : cov l (y.1 - 1) := by
        by_cases h : cov l (y.1 - 1)
        · exact h
        · exact absurd ⟨hx, h⟩ h2
      obtain ⟨z, hz, hzp⟩ := this
      have hzn : ¬ z.has y.1 := fun h => h1.2 ⟨z, hz, h⟩
      have : z.1 + z.2 = y.1 := by
        have g1 := hzp.2.1
        have g2 := hzp.2.2
        rcases Int.lt_or_le y.1 (z.1 + z.2) with h | h
        · exact absurd ⟨hzp.1, by omega, h⟩ hzn
        · omega
      exact List.mem_cons_of_mem _ (List.mem_map.2 ⟨z, hz, this⟩)
    · have g1 := h1.1.2.1
      have g2 := h1.1.2.2
      have : x.1 = y.1 := by
        rcases Int.lt_or_le x.1 y.1 with h | h
        · exact absurd ⟨hxok, by omega, by omega⟩ hx
        · omega
      rw [this]
      exact List.mem_cons_self
  have := len_of_sub hp hs
  simpa using this

/-- 1 if one of l has p. -/
def outI (l : List Sp) (p : Int) : Int := if cov l p then 1 else 0
theorem cov_take {l : List Sp} {k : Nat} {x : Sp} {p : Int} (h : l[k]? = some x) : cov (l.take (k + 1)) p ↔ cov (l.take k) p ∨ x.has p := by rw [take_snoc_get h, cov_append, cov_one]
theorem outI_yes {l : List Sp} {k : Nat} {x : Sp} {p : Int} (h : l[k]? = some x) (hp : x.has p) : outI (l.take (k + 1)) p = 1 := by
  unfold outI; rw [if_pos ((cov_take h).2 (.inr hp))]
theorem outI_no {l : List Sp} {k : Nat} {x : Sp} {p : Int} (h : l[k]? = some x) (hp : ¬ x.has p) : outI (l.take (k + 1)) p = outI (l.take k) p := by
  unfold outI
  by_cases hc : cov (l.take k) p
  · rw [if_pos hc, if_pos ((cov_take h).2 (.inl hc))]
  · rw [if_neg hc, if_neg fun hh => hc (((cov_take h).1 hh).resolve_right hp)]

set_option maxRecDepth 100000 in
set_option maxHeartbeats 4000000 in
theorem spanParts_small (hH : SpHas) (hA : SpApart) (hJ : SpJoin) (hG : SpGaps) (hAw : AwSaid) (x : Sp) (v : Value) (l : List Sp) (p : Int) (hp : -9223372036854775808 ≤ p) (hp' : p ≤ 9223372036854775807) (w : World) (h : Sl w w.heap.size 2 v l.length (spc l)) (hx : Fit x) (hf : Fits l) (hl : l.length ≤ 100) :
    Calls Try.prog 6 #[.agg #[.int .i64 x.1, .int .i64 x.2], v, .int .i64 p] w fun e w' => e = .returned (.bool true) ∧ Below w.heap.size w w' := by
  have HA := Lib.hid h
  obtain ⟨A, ca, rfl, hac, ham, -⟩ := h
  unfold maxLen at ham
  have hbx := Blk.new w 23 #[.int .i64 x.1, .int .i64 x.2]
  have HBX := Lib.hid hbx
  clear hbx
  go_enter Try.func6, Try.ntmps6
  go_wp2_with fail
  go_at_call 25
  refine (hG x _ l w.heap.size (w.alloc (.cells #[.int .i64 x.1, .int .i64 x.2] 23)) (HA.out.below ((Only.refl nob w).alloc _).whole) (by simp) (by omega) hf hx).mono ?_
  rintro e w1 ⟨v1, O, rfl, hj, hc, hsl, o⟩
  have HJ := Lib.hid (And.intro hj hc)
  have HS1 := Lib.hid hsl
  have O1 := Lib.hid (((Only.refl nob w).alloc _).trans o)
  have HB1 := Lib.hid (HBX.out.keep o id)
  have hOl := gaps_len hj hc
  obtain ⟨A1, c1, rfl, hc1, hm1⟩ := hsl.form
  unfold maxLen at hm1
  have hs1 : w.heap.size ≤ w1.heap.size := O1.out.size
  clear hj hc hsl o
  go_wp2_with fail
  go_loopw [8, 10] (fun n i wr => ∃ k : Nat, k ≤ O.length ∧ i = .int .i64 k ∧ n = .int .i64 (hits (O.take k) p : Nat) ∧ Only nob w1 wr) (fun _ i _ => O.length - (intOf i).toNat)
  case atStart => exact ⟨0, Nat.zero_le _, rfl, rfl, Only.refl _ _⟩
  case round =>
    obtain ⟨k, hk, rfl, rfl, hO⟩ := hrel
    have HX := Lib.hid hO
    have hle : hits (O.take k) p ≤ k := Nat.le_trans (hits_le _ _) (by simp; omega)
    obtain ⟨T, hT⟩ : ∃ T, T = hits (O.take k) p := ⟨_, rfl⟩
    rw [← hT] at hle ⊢
    have HT := Lib.hid hT
    clear hT
    by_cases hlt : k < O.length
    · obtain ⟨y, hy⟩ : ∃ y, O[k]? = some y := ⟨_, List.getElem?_eq_getElem hlt⟩
      obtain ⟨b, q, rfl, hb, d0, d1⟩ := sl_span HS1.out hO.whole hy
      have HY := Lib.hid hy
      clear hO hy
      by_cases hh : y.has p
      · have HH := Lib.hid (decide_eq_true hh)
        have HE := Lib.hid (hits_yes HY.out hh)
        clear hh
        go_wp2_with fail
        refine (hH y p _ ((Fits.joined HJ.out.1).get HY.out) hp hp').mono ?_
        rw [HH.out]
        rintro e w2 ⟨rfl, o⟩
        have HO := Lib.hid (HX.out.trans o)
        clear o d0 d1
        go_wp2
        go_roundw
        case rel => exact ⟨k + 1, by omega, by go_num, by rw [HE.out, ← HT.out]; go_num, HO.out⟩
        case measure => simp [intOf]; omega
      · have HH := Lib.hid (decide_eq_false hh)
        have HE := Lib.hid (hits_no HY.out hh)
        clear hh
        go_wp2_with fail
        refine (hH y p _ ((Fits.joined HJ.out.1).get HY.out) hp hp').mono ?_
        rw [HH.out]
        rintro e w2 ⟨rfl, o⟩
        have HO := Lib.hid (HX.out.trans o)
        clear o d0 d1
        go_wp2
        go_roundw
        case rel => exact ⟨k + 1, by omega, by go_num, by rw [HE.out, ← HT.out], HO.out⟩
        case measure => simp [intOf]; omega
    · obtain rfl : k = O.length := by omega
      have HTT := Lib.hid (show T = hits O p by rw [HT.out, List.take_length])
      obtain ⟨wo, rfl⟩ : ∃ wo : World, wo = wr := ⟨_, rfl⟩
      clear hO
      go_wp2_with fail
      go_loopw [9, 11] (fun n i wr => ∃ k : Nat, k ≤ l.length ∧ i = .int .i64 k ∧ n = .int .i64 (outI (l.take k) p) ∧ Only nob w1 wr) (fun _ i _ => l.length - (intOf i).toNat)
      case atStart => exact ⟨0, Nat.zero_le _, rfl, congrArg (Value.int .i64) (show (0 : Int) = outI [] p by unfold outI; rw [if_neg (cov_nil p)]), HX.out⟩
      case round =>
        obtain ⟨k, hk, rfl, rfl, hO⟩ := hrel
        have HY := Lib.hid hO
        obtain ⟨U, hU⟩ : ∃ U, U = outI (l.take k) p := ⟨_, rfl⟩
        rw [← hU]
        have HU := Lib.hid hU
        clear hU
        by_cases hlt : k < l.length
        · obtain ⟨y, hy⟩ : ∃ y, l[k]? = some y := ⟨_, List.getElem?_eq_getElem hlt⟩
          obtain ⟨b, q, rfl, hb, d0, d1⟩ := sl_span HA.out (O1.out.trans hO).whole hy
          have HYY := Lib.hid hy
          clear hO hy
          by_cases hh : y.has p
          · have HH := Lib.hid (decide_eq_true hh)
            have HE := Lib.hid (outI_yes HYY.out hh)
            clear hh
            go_wp2_with fail
            refine (hH y p _ (hf.get HYY.out) hp hp').mono ?_
            rw [HH.out]
            rintro e w2 ⟨rfl, o⟩
            have HO := Lib.hid (HY.out.trans o)
            clear o d0 d1
            go_wp2
            go_roundw
            case rel => exact ⟨k + 1, by omega, by go_num, by rw [HE.out], HO.out⟩
            case measure => simp [intOf]; omega
          · have HH := Lib.hid (decide_eq_false hh)
            have HE := Lib.hid (outI_no HYY.out hh)
            clear hh
            go_wp2_with fail
            refine (hH y p _ (hf.get HYY.out) hp hp').mono ?_
            rw [HH.out]
            rintro e w2 ⟨rfl, o⟩
            have HO := Lib.hid (HY.out.trans o)
            clear o d0 d1
            go_wp2
            go_roundw
            case rel => exact ⟨k + 1, by omega, by go_num, by rw [HE.out, HU.out], HO.out⟩
            case measure => simp [intOf]; omega
        · obtain rfl : k = l.length := by omega
          have HUU := Lib.hid (show U = outI l p by rw [HU.out, List.take_length])
          obtain ⟨wq, rfl⟩ : ∃ wq : World, wq = wr := ⟨_, rfl⟩
          have hb2 := HB1.out.keep hO id
          have x0 := hb2.cell 0
          have x1 := hb2.cell 1
          simp at x0 x1
          clear hO hb2
          have ways : (Hid (decide (x.has p) = true) ∧ U = 0 ∧ T = 1) ∨ (Hid (decide (x.has p) = true) ∧ U = 1 ∧ T = 0) ∨ (Hid (decide (x.has p) = false) ∧ T = 0) := by
            rw [HTT.out, HUU.out]
            have hcc := HJ.out.2 p
            by_cases h1 : x.has p
            · by_cases h2 : cov l p
              · exact .inr (.inl ⟨decide_eq_true h1, by unfold outI; rw [if_pos h2], hits_none fun hh => (hcc.1 hh).2 h2⟩)
              · exact .inl ⟨decide_eq_true h1, by unfold outI; rw [if_neg h2], hits_joined HJ.out.1 (hcc.2 ⟨h1, h2⟩)⟩
            · exact .inr (.inr ⟨decide_eq_false h1, hits_none fun hh => h1 (hcc.1 hh).1⟩)
          clear HTT HUU HT HU
          rcases ways with ⟨HH, rfl, rfl⟩ | ⟨HH, rfl, rfl⟩ | ⟨HH, rfl⟩
          all_goals
            go_wp2_with fail
            refine (hH x p _ hx hp hp').mono ?_
            rw [HH.out]
            rintro e w2 ⟨rfl, o⟩
            have O2 := Lib.hid (HY.out.trans o)
            clear o x0 x1
            go_wp2_with fail
            go_at_call 21
            refine (hA _ O w1.heap.size _ (HS1.out.below O2.out.whole) O2.out.size (by omega) (Fits.joined HJ.out.1)).mono ?_
            rw [decide_eq_true (joined_apart HJ.out.1)]
            rintro e w3 ⟨rfl, o⟩
            have O3 := Lib.hid (O2.out.trans o)
            clear o
            go_wp2_with fail
            go_at_call 23
            refine (hJ _ O w1.heap.size _ (HS1.out.below O3.out.whole) O3.out.size (by omega) (Fits.joined HJ.out.1)).mono ?_
            rintro e w4 ⟨v4, O4, rfl, hj, hc, hsl, o⟩
            obtain rfl := joined_unique HJ.out.1 hj fun p => (hc p).symm
            have HS4 := Lib.hid hsl
            have O4 := Lib.hid (O3.out.trans o)
            clear hj hc hsl o
            go_wp2_with fail
            go_at_call 16
            refine (refSameS_any _ _ O _ _ _ HS4.out (HS1.out.below O4.out.whole)).mono ?_
            rintro e w5 ⟨rfl, m, rfl⟩
            go_wp2_with fail
            go_at_call 15
            refine (hAw _).mono ?_
            rintro e w6 ⟨rfl, o⟩
            have O6 := Lib.hid (O1.out.trans ((O4.out.drewN m).trans o))
            clear o
            go_wp2
            go_ret
            exact ⟨rfl, O6.out.whole⟩

set_option maxHeartbeats 400000 in
theorem spanParts_big (hAw : AwSaid) (x : Sp) (A : Option Addr) (n c : Nat) (p : Int) (w : World) (hn : 100 < n) :
    Calls Try.prog 6 #[.agg #[.int .i64 x.1, .int .i64 x.2], .slice A n c, .int .i64 p] w fun e w' => e = .returned (.bool true) ∧ Below w.heap.size w w' := by
  go_enter Try.func6, Try.ntmps6
  go_wp2_with fail
  go_at_call 15
  refine (hAw _).mono ?_
  rintro e w1 ⟨rfl, o⟩
  have O1 := Lib.hid (((Only.refl nob w).alloc _).trans o)
  clear o
  go_wp2
  go_ret
  exact ⟨rfl, O1.out.whole⟩
theorem spanParts_walk (hH : SpHas) (hA : SpApart) (hJ : SpJoin) (hG : SpGaps) (hAw : AwSaid) (x : Sp) (v : Value) (l : List Sp) (p : Int) (hp : -9223372036854775808 ≤ p) (hp' : p ≤ 9223372036854775807) (w : World) (h : Sl w w.heap.size 2 v l.length (spc l)) (hx : Fit x) (hf : Fits l) :
    Calls Try.prog 6 #[.agg #[.int .i64 x.1, .int .i64 x.2], v, .int .i64 p] w fun e w' => e = .returned (.bool true) ∧ Below w.heap.size w w' := by
  by_cases hl : l.length ≤ 100
  · exact spanParts_small hH hA hJ hG hAw x v l p hp hp' w h hx hf hl
  · obtain ⟨A, c, rfl, -⟩ := h
    exact spanParts_big hAw x A _ c p w (by omega)
end Go.Proofs.Ytkakimbklhmbcaa
