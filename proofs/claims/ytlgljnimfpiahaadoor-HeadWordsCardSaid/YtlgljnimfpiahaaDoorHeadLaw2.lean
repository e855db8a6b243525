/- The walks of HeadWords and HeadApart. -/
import Derived.Test.YtlgljnimfpiahaaDoorHeadLaw1
namespace Go.Proofs.YtlgljnimfpiahaaDoor
open Go.RowKit

theorem dE_of_head {n : Nat} (h : wOk n = true) : dK n = 0 ∧ dE n = 3 := by
  unfold wOk at h
  rw [Bool.and_eq_true, beq_iff_eq] at h
  obtain ⟨a, _, c⟩ := d_none (w := n) (by omega) (by omega) (by omega)
  exact ⟨a, c⟩
theorem nat_word {a : Int} (h : 0 ≤ a ∧ a < 18446744073709551616) : ∃ n : Nat, a = n ∧ n < full := ⟨a.toNat, by omega, by unfold full; omega⟩
theorem word_int {n : Nat} (h : n < full) : 0 ≤ (n : Int) ∧ (n : Int) < 18446744073709551616 := by unfold full at h; omega

/-- The answers to a word, named. -/
theorem hDec_is {n : Nat} (hn : n < full) {k f r c e : Int} {m : Bool} (h1 : oK n = k) (h2 : oF n = f) (h3 : oR n = r) (h4 : oM n = m) (h5 : oC n = c) (h6 : oE n = e) (w : World) (hp : Par w) : Calls Tryd.prog 8 #[.int .u64 n] w fun e' w' => e' = .returned (.tuple #[.agg #[.int .i64 k, .int .i64 f, .int .i64 r, .bool m, .int .i64 c], .int .i64 e]) ∧ Only nob w w' := by
  subst h1 h2 h3 h4 h5 h6; exact hDec_any hn w hp
theorem vDec_is {n k x ee : Int} (hn : 0 ≤ n ∧ n < 18446744073709551616) (hk : dK n = k) (hx : dX n = x) (he : dE n = ee) (w : World) : Calls Tryd.prog 17 #[.int .u64 n] w fun e w' => e = .returned (.tuple #[.agg #[.int .i64 k, .int .i64 x], .int .i64 ee]) ∧ Only nob w w' := by
  subst hk hx he; exact dec_any hn w
theorem hTo_is {n x : Int} {b : Bool} (hn : 0 ≤ n ∧ n < 18446744073709551616) (hx : rX n = x) (hb : rB n = b) (w : World) : Calls Tryd.prog 12 #[.int .u64 n] w fun e w' => e = .returned (.tuple #[.int .i64 x, .bool b]) ∧ Only nob w w' := by
  subst hx hb; exact hForwarded_any hn w

theorem refDec_is {n : Nat} (hn : n < full) {k f r c e : Int} {m : Bool} (h1 : oK n = k) (h2 : oF n = f) (h3 : oR n = r) (h4 : oM n = m) (h5 : oC n = c) (h6 : oE n = e) (w : World) : Calls Tryd.prog 9 #[.int .u64 n] w fun e' w' => e' = .returned (.tuple #[.agg #[.int .i64 k, .int .i64 f, .int .i64 r, .bool m, .int .i64 c], .int .i64 e]) ∧ Only nob w w' := by
  subst h1 h2 h3 h4 h5 h6; exact refDec07_any hn w
theorem dE_none {n : Int} (h : dE n = 3) : dK n = 0 := by
  by_cases h0 : n = 0
  · subst h0; exact absurd h (by decide)
  by_cases h1 : n % 4 = 1
  · unfold dE at h; rw [if_pos (.inr (.inl h1))] at h; cases h
  by_cases h2 : n % 4 = 2 ∧ n / 4 ≤ 1099511627776
  · unfold dE at h; rw [if_pos (.inr (.inr h2))] at h; cases h
  · exact (d_none h0 h1 h2).1

set_option maxRecDepth 100000 in
set_option maxHeartbeats 2000000 in
/-- HeadApart, where the three answers are known. -/
theorem apart_any {n : Nat} (hn : n < full) {e : Int} {k x d : Int} {t : Int} {b : Bool} (h6 : oE n = e) (hk : dK n = k) (hx : dX n = x) (hd : dE n = d) (ht : rX n = t) (hb : rB n = b)
    (hw : (e = 0 ∧ d = 3 ∧ k = 0 ∧ b = false) ∨ (e = 3 ∧ d = 3 ∧ k = 0 ∧ b = false) ∨ (e = 3 ∧ d = 0 ∧ k = 2 ∧ b = true ∧ t = x) ∨ (e = 3 ∧ d = 0 ∧ k ≠ 2 ∧ b = false)) (w : World) (hp : Par w) : Calls Tryd.prog 5 #[.int .u64 n] w fun e w' => e = .returned (.bool true) ∧ Only nob w w' := by
  have HP := Lib.hid hp
  have HN := Lib.hid hn
  have HW := Lib.hid hp
  have H6 := Lib.hid h6
  have HK := Lib.hid hk
  have HX := Lib.hid hx
  have HD := Lib.hid hd
  have HT := Lib.hid ht
  have HB := Lib.hid hb
  obtain ⟨k', hk'⟩ : ∃ k', oK n = k' := ⟨_, rfl⟩
  obtain ⟨f', hf'⟩ : ∃ f', oF n = f' := ⟨_, rfl⟩
  obtain ⟨r', hr'⟩ : ∃ r', oR n = r' := ⟨_, rfl⟩
  obtain ⟨m', hm'⟩ : ∃ m', oM n = m' := ⟨_, rfl⟩
  obtain ⟨c', hc'⟩ : ∃ c', oC n = c' := ⟨_, rfl⟩
  have HH := Lib.hid (And.intro hk' (And.intro hf' (And.intro hr' (And.intro hm' hc'))))
  clear hp hn h6 hk hx hd ht hb hk' hf' hr' hm' hc'
  rcases hw with ⟨rfl, rfl, rfl, rfl⟩ | ⟨rfl, rfl, rfl, rfl⟩ | ⟨rfl, rfl, rfl, rfl, htx⟩ | ⟨rfl, rfl, hk2, rfl⟩
  case' inr.inr.inl => obtain rfl : x = t := htx.symm
  all_goals
    go_enter Tryd.func5, Tryd.ntmps5
    go_wp2_with fail
    go_at_call 8
    refine (hDec_is HN.out HH.out.1 HH.out.2.1 HH.out.2.2.1 HH.out.2.2.2.1 HH.out.2.2.2.2 H6.out _ HP.out).mono ?_
    rintro e w1 ⟨rfl, o⟩
    have O1 := Lib.hid o
    obtain ⟨W2, hW2, HB2⟩ := box_head w1 k' f' r' m' c'
    have HW2 := Lib.hid hW2
    clear o hW2
    go_wp2_with fail
    rw [HW2.out]
    have O2 := Lib.hid (O1.out.trans HB2.out.1)
    go_at_call 17
    refine (vDec_is (word_int HN.out) HK.out HX.out HD.out _).mono ?_
    rintro e w3 ⟨rfl, o⟩
    have O3 := Lib.hid (O2.out.trans o)
    clear o
  · obtain ⟨W4, hW4, HB4⟩ := box_val w3 2 x
    have HW4 := Lib.hid hW4
    clear hW4
    go_wp2_with fail
    rw [HW4.out]
    have O4 := Lib.hid (O3.out.trans HB4.out.1)
    go_at_call 12
    refine (hTo_is (word_int HN.out) HT.out HB.out _).mono ?_
    rintro e w5 ⟨rfl, o⟩
    have O5 := Lib.hid (O4.out.trans o)
    have c0 := o.keeps HB4.out.2.1
    have c1 := o.keeps HB4.out.2.2
    clear o
    go_wp2_with fail
    go_at_call 16
    refine (awake07_any _ (HP.out.old O5.out)).mono ?_
    rintro e w6 ⟨rfl, o⟩
    have O6 := Lib.hid (O5.out.trans o)
    clear o
    go_wp2
    go_ret
    exact ⟨rfl, O6.out⟩
  · obtain ⟨W4, hW4, HB4⟩ := box_val w3 0 x
    have HW4 := Lib.hid hW4
    clear hW4
    go_wp2_with fail
    rw [HW4.out]
    have O4 := Lib.hid (O3.out.trans HB4.out.1)
    go_at_call 12
    refine (hTo_is (word_int HN.out) HT.out HB.out _).mono ?_
    rintro e w5 ⟨rfl, o⟩
    have O5 := Lib.hid (O4.out.trans o)
    have c0 := o.keeps HB4.out.2.1
    have c1 := o.keeps HB4.out.2.2
    clear o
    go_wp2_with fail
    go_at_call 16
    refine (awake07_any _ (HP.out.old O5.out)).mono ?_
    rintro e w6 ⟨rfl, o⟩
    have O6 := Lib.hid (O5.out.trans o)
    clear o
    go_wp2
    go_ret
    exact ⟨rfl, O6.out⟩
  · obtain ⟨W4, hW4, HB4⟩ := box_val w3 0 x
    have HW4 := Lib.hid hW4
    clear hW4
    go_wp2_with fail
    rw [HW4.out]
    have O4 := Lib.hid (O3.out.trans HB4.out.1)
    go_at_call 12
    refine (hTo_is (word_int HN.out) HT.out HB.out _).mono ?_
    rintro e w5 ⟨rfl, o⟩
    have O5 := Lib.hid (O4.out.trans o)
    have c0 := o.keeps HB4.out.2.1
    have c1 := o.keeps HB4.out.2.2
    clear o
    go_wp2_with fail
    go_at_call 16
    refine (awake07_any _ (HP.out.old O5.out)).mono ?_
    rintro e w6 ⟨rfl, o⟩
    have O6 := Lib.hid (O5.out.trans o)
    clear o
    go_wp2
    go_ret
    exact ⟨rfl, O6.out⟩
  · have hk3 : (k == 2) = false := beq_eq_false_iff_ne.2 hk2
    obtain ⟨W4, hW4, HB4⟩ := box_val w3 k x
    have HW4 := Lib.hid hW4
    clear hW4
    go_wp2_with fail
    rw [HW4.out]
    have O4 := Lib.hid (O3.out.trans HB4.out.1)
    go_at_call 12
    refine (hTo_is (word_int HN.out) HT.out HB.out _).mono ?_
    rintro e w5 ⟨rfl, o⟩
    have O5 := Lib.hid (O4.out.trans o)
    have c0 := o.keeps HB4.out.2.1
    have c1 := o.keeps HB4.out.2.2
    clear o
    go_wp2_with fail
    go_at_call 16
    refine (awake07_any _ (HP.out.old O5.out)).mono ?_
    rintro e w6 ⟨rfl, o⟩
    have O6 := Lib.hid (O5.out.trans o)
    clear o
    go_wp2
    go_ret
    exact ⟨rfl, O6.out⟩
theorem headApart_walk {n : Nat} (hn : n < full) (w : World) (hp : Par w) : Calls Tryd.prog 5 #[.int .u64 n] w fun e w' => e = .returned (.bool true) ∧ Below w.heap.size w w' := by
  refine Calls.mono (R := fun e w' => e = .returned (.bool true) ∧ Only nob w w') ?_ fun e w' h => ⟨h.1, h.2.whole⟩
  refine apart_any hn rfl rfl rfl rfl rfl rfl ?_ w hp
  rcases h : wOk n with _ | _
  · have h6 := (o_no h).2.2.2.2.2
    by_cases hk : dK n = 2
    · refine .inr (.inr (.inl ⟨h6, e_of_ref hk, hk, ?_, ?_⟩))
      · unfold rB; rw [decide_eq_true hk]
      · unfold rX; rw [if_pos hk]
    · rcases e_two n with hd | hd
      · refine .inr (.inr (.inr ⟨h6, hd, hk, ?_⟩))
        unfold rB; rw [decide_eq_false hk]
      · refine .inr (.inl ⟨h6, hd, (dE_none hd), ?_⟩)
        unfold rB; rw [decide_eq_false hk]
  · obtain ⟨hk, hd⟩ := dE_of_head h
    refine .inl ⟨(o_yes h).2.2.2.2.2, hd, hk, ?_⟩
    unfold rB; rw [hk]; rfl

set_option maxRecDepth 100000 in
set_option maxHeartbeats 4000000 in
theorem headWords_walk (k f r : Int) (m : Bool) (c : Int) {n : Nat} (hn : n < full) (x : Int) (w : World) (hp : Par w) : Calls Tryd.prog 3 #[.agg #[.int .i64 k, .int .i64 f, .int .i64 r, .bool m, .int .i64 c], .int .u64 n, .int .i64 x] w fun e w' => e = .returned (.bool true) ∧ Below w.heap.size w w' := by
  have mixed : Tryd.prog.follows .mixedOrders = true := by kernel_rfl
  have HP := Lib.hid hp
  have HN := Lib.hid hn
  obtain ⟨k', hk'⟩ : ∃ k', oK n = k' := ⟨_, rfl⟩
  obtain ⟨f', hf'⟩ : ∃ f', oF n = f' := ⟨_, rfl⟩
  obtain ⟨r', hr'⟩ : ∃ r', oR n = r' := ⟨_, rfl⟩
  obtain ⟨m', hm'⟩ : ∃ m', oM n = m' := ⟨_, rfl⟩
  obtain ⟨c', hc'⟩ : ∃ c', oC n = c' := ⟨_, rfl⟩
  have HH := Lib.hid (And.intro hk' (And.intro hf' (And.intro hr' (And.intro hm' hc'))))
  obtain ⟨W, hW0, HB⟩ := box_head w k f r m c
  have HWE := Lib.hid hW0
  obtain ⟨c0, c1, c2, c3, c4⟩ := cells5 HB.out.2
  clear hp hn hk' hf' hr' hm' hc' hW0
  go_enter Tryd.func3, Tryd.ntmps3
  go_wp2_with fail
  rw [HWE.out]
  go_at_call 6
  refine (hEnc_any k f r m c _ (HP.out.old HB.out.1)).mono ?_
  rintro e w1 ⟨rfl, o⟩
  have O1 := Lib.hid (HB.out.1.trans o)
  have B1 := Lib.hid (HB.out.2.keep o id)
  clear o c0 c1 c2 c3 c4
  obtain ⟨c0, c1, c2, c3, c4⟩ := cells5 B1.out
  go_wp2_with fail
  go_at_call 7
  refine (refEnc07_any k f r m c _).mono ?_
  rintro e w2 ⟨rfl, o⟩
  have O2 := Lib.hid (O1.out.trans o)
  have B2 := Lib.hid (B1.out.keep o id)
  clear o c0 c1 c2 c3 c4
  go_wp2_with fail
  go_at_call 8
  refine (hDec_is HN.out HH.out.1 HH.out.2.1 HH.out.2.2.1 HH.out.2.2.2.1 HH.out.2.2.2.2 rfl _ (HP.out.old O2.out)).mono ?_
  rintro e w3 ⟨rfl, o⟩
  have O3 := Lib.hid (O2.out.trans o)
  have B3 := Lib.hid (B2.out.keep o id)
  obtain ⟨W4, hW4, HB4⟩ := box_head w3 k' f' r' m' c'
  have HW4 := Lib.hid hW4
  clear o hW4
  go_wp2_with fail
  rw [HW4.out]
  have O4 := Lib.hid (O3.out.trans HB4.out.1)
  go_at_call 9
  refine (refDec_is HN.out HH.out.1 HH.out.2.1 HH.out.2.2.1 HH.out.2.2.2.1 HH.out.2.2.2.2 rfl _).mono ?_
  rintro e w5 ⟨rfl, o⟩
  have O5 := Lib.hid (O4.out.trans o)
  have B5 := Lib.hid (B3.out.keep (HB4.out.1.trans o) id)
  have C5 := Lib.hid (HB4.out.2.keep o id)
  obtain ⟨W6, hW6, HB6⟩ := box_head w5 k' f' r' m' c'
  have HW6 := Lib.hid hW6
  clear o hW6
  go_wp2_with fail
  rw [HW6.out]
  have O6 := Lib.hid (O5.out.trans HB6.out.1)
  go_at_call 10
  refine (hForward_any x _).mono ?_
  rintro e w7 ⟨rfl, o⟩
  have O7 := Lib.hid (O6.out.trans o)
  have B7 := Lib.hid (B5.out.keep (HB6.out.1.trans o) id)
  have C7 := Lib.hid (C5.out.keep (HB6.out.1.trans o) id)
  have D7 := Lib.hid (HB6.out.2.keep o id)
  clear o
  go_wp2_with fail
  go_at_call 11
  refine (refForward07_any x _).mono ?_
  rintro e w8 ⟨rfl, o⟩
  have O8 := Lib.hid (O7.out.trans o)
  have B8 := Lib.hid (B7.out.keep o id)
  have C8 := Lib.hid (C7.out.keep o id)
  have D8 := Lib.hid (D7.out.keep o id)
  clear o
  go_wp2_with fail
  go_at_call 12
  refine (hForwarded_any (word_int HN.out) _).mono ?_
  rintro e w9 ⟨rfl, o⟩
  have O9 := Lib.hid (O8.out.trans o)
  have B9 := Lib.hid (B8.out.keep o id)
  have C9 := Lib.hid (C8.out.keep o id)
  have D9 := Lib.hid (D8.out.keep o id)
  clear o
  go_wp2_with fail
  go_at_call 13
  refine (refRef_any (word_int HN.out) _).mono ?_
  rintro e w10 ⟨rfl, o⟩
  have O10 := Lib.hid (O9.out.trans o)
  have B10 := Lib.hid (B9.out.keep o id)
  have C10 := Lib.hid (C9.out.keep o id)
  have D10 := Lib.hid (D9.out.keep o id)
  clear o
  have HS := Lib.hid (show ∀ n os, Calls Tryd.prog 14 #[.agg #[.int .i64 k, .int .i64 f, .int .i64 r, .bool m, .int .i64 c]] (wat w10 n os) fun e w' => e = .returned (.int .i64 (hSz k f r c)) ∧ Only nob (wat w10 n os) w' from fun n os => hSize_any k f r m c _ ((HP.out.old O10.out).old (only_wat w10 n os)))
  have HR := Lib.hid (show ∀ n os, Calls Tryd.prog 15 #[.agg #[.int .i64 k, .int .i64 f, .int .i64 r, .bool m, .int .i64 c]] (wat w10 n os) fun e w' => e = .returned (.int .i64 (hSz k f r c)) ∧ Only nob (wat w10 n os) w' from fun n os => refSize07_any k f r m c _)
  have HK := Lib.hid (show ∀ n os, Calls Tryd.prog 16 #[] (wat w10 n os) fun e w' => e = .returned (.bool true) ∧ Only nob (wat w10 n os) w' from fun n os => awake07_any _ ((HP.out.old O10.out).old (only_wat w10 n os)))
  obtain ⟨b0, b1, b2, b3, b4⟩ := cells5 B10.out
  replace b0 := wat_cell b0
  replace b1 := wat_cell b1
  replace b2 := wat_cell b2
  replace b3 := wat_cell b3
  replace b4 := wat_cell b4
  obtain ⟨c0, c1, c2, c3, c4⟩ := cells5 C10.out
  replace c0 := wat_cell c0
  replace c1 := wat_cell c1
  replace c2 := wat_cell c2
  replace c3 := wat_cell c3
  replace c4 := wat_cell c4
  obtain ⟨d0, d1, d2, d3, d4⟩ := cells5 D10.out
  replace d0 := wat_cell d0
  replace d1 := wat_cell d1
  replace d2 := wat_cell d2
  replace d3 := wat_cell d3
  replace d4 := wat_cell d4
  go_wp2_with fail
  refine wp_region_only mixed (by kernel_rfl) ?_
  repeat (quiet_step (first
    | (go_at_call 14; with_reducible refine wat_call (HS.out _ _))
    | (go_at_call 15; with_reducible refine wat_call (HR.out _ _))
    | (go_at_call 16; with_reducible refine wat_call (HK.out _ _))))
  refine wpQuiet_nil ?_
  rintro w' ⟨⟨nq, osq⟩, rfl⟩
  obtain ⟨W3, hW3, O3'⟩ := wat_name w10 nq osq
  rw [hW3]
  clear b0 b1 b2 b3 b4 c0 c1 c2 c3 c4 d0 d1 d2 d3 d4
  go_wp2
  go_ret
  exact ⟨rfl, (O10.out.trans O3'.out).whole⟩
end Go.Proofs.YtlgljnimfpiahaaDoor
