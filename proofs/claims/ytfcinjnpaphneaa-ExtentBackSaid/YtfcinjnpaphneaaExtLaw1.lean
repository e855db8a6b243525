/- What awake of layer 10 answers. -/
import Derived.Test.YtfcinjnpaphneaaExtProg2
import Derived.Test.YtfcinjnpaphneaaRef10
namespace Go.Proofs.Ytfcinjnpaphneaa
set_option maxRecDepth 100000
open Go.RowKit Go.Lib

def l10 : List Sp := [(0, 2), (4, 5)]
theorem l10_take3 : takeT l10 3 = ([(0, 2), (7, 2)], 4, 0) := by decide
theorem l10_take6 : takeT l10 6 = (l10, 0, 9) := by decide
theorem l10_largest : largest l10 = 5 := by decide
theorem l10_right : decide (RightP (0, 9) l10) = true := by decide
theorem l10_wrong : decide (RightP (0, 8) l10) = false := by decide
theorem l10_give {O : List Sp} {e : Int} (h : GaveT [(0, 2), (7, 2)] (2, 2) O e) : O = [(0, 4), (7, 2)] ∧ e = 0 := by
  rcases h with ⟨h, -⟩ | ⟨-, h, -⟩ | ⟨-, -, hj, hc, he⟩
  · exact absurd (by decide) h
  · exact absurd h (by decide)
  · refine ⟨joined_unique hj (show Joined [(0, 4), (7, 2)] by decide) fun p => ?_, he⟩
    rw [hc]
    simp only [List.cons_append, List.nil_append, cov_cons, cov_nil, or_false, Sp.has, Sp.ok, most]
    omega
theorem l10_twice {O : List Sp} {e : Int} (h : GaveT [(0, 4), (7, 2)] (8, 1) O e) : e = 16 := by
  rcases h with ⟨h, -⟩ | ⟨-, -, -, h⟩ | ⟨-, h, -⟩
  · exact absurd (by decide) h
  · exact h
  · exact absurd h (by decide)
theorem fits_of_ok {l : List Sp} (h : ∀ x ∈ l, Sp.ok x) : Fits l := fun x hx => .of_ok (h x hx)
theorem fit_of_ok {x : Sp} (h : x.ok) : Fit x := .of_ok h

set_option maxHeartbeats 4000000 in
theorem awake10_any (w : World) : Calls Try.prog 5 #[] w fun e w' => e = .returned (.bool true) ∧ Only nob w w' := by
  have HB := Lib.hid (Blk.new w 23 #[.int .i64 0, .int .i64 2, .int .i64 4, .int .i64 5])
  have O0 := Lib.hid ((Only.refl nob w).alloc (.cells #[.int .i64 0, .int .i64 2, .int .i64 4, .int .i64 5] 23))
  have S0 := Lib.hid (show Sl (w.alloc (.cells #[.int .i64 0, .int .i64 2, .int .i64 4, .int .i64 5] 23)) (w.heap.size + 1) 2 (.slice (some ⟨w.heap.size, 0, none⟩) l10.length 2) l10.length (spc l10) by
    have := Sl.of_blk (size := 2) (n := 2) (c := 2) HB.out rfl (Nat.le_refl _) (by decide)
    have h2 : Sl (w.alloc (.cells #[.int .i64 0, .int .i64 2, .int .i64 4, .int .i64 5] 23)) (w.heap.size + 1) 2 (.slice (some ⟨w.heap.size, 0, none⟩) 2 2) 2 [.int .i64 0, .int .i64 2, .int .i64 4, .int .i64 5] := by simpa using this
    exact h2)
  go_enter Try.func5, Try.ntmps5
  go_wp2_with fail
  go_at_call 10
  refine (spTake _ l10 3 _ _ S0.out (by simp) (by decide) (fits_of_ok (by decide)) (by decide) (by decide)).mono ?_
  rw [l10_take3]
  rintro e w1 ⟨va, rfl, hs, o⟩
  have SA := Lib.hid hs
  have O1 := Lib.hid (O0.out.trans o)
  have hz1 : w.heap.size + 1 ≤ w1.heap.size := by simpa using o.size
  have S1 := Lib.hid (S0.out.below (o.below (by simp) fun _ h => h.elim))
  obtain ⟨ba, oa, ca, rfl, -, hca, -⟩ := Sl.at_ (n := 2) hs (by decide)
  unfold maxLen at hca
  clear hs o
  go_wp2_with fail
  go_at_call 13
  refine (spGive _ _ (2, 2) _ w1 SA.out (Nat.le_refl _) (by decide) (fits_of_ok (by decide)) (fit_of_ok (by decide))).mono ?_
  rintro e w2 ⟨vb, Ob, eb, rfl, hg, hs, o⟩
  obtain ⟨rfl, rfl⟩ := l10_give hg
  have SB := Lib.hid hs
  have O2 := Lib.hid (O1.out.trans o)
  have hz2 : w.heap.size + 1 ≤ w2.heap.size := Nat.le_trans hz1 o.size
  have S2 := Lib.hid (S1.out.below (o.below hz1 fun _ h => h.elim))
  have SA2 := Lib.hid (SA.out.below (o.below (Nat.le_refl _) fun _ h => h.elim))
  have hza : w1.heap.size ≤ w2.heap.size := o.size
  obtain ⟨bb, ob, cb, rfl, -, hcb, -⟩ := Sl.at_ (n := 2) hs (by decide)
  unfold maxLen at hcb
  clear hs o hg
  go_wp2_with fail
  go_at_call 13
  refine (spGive _ _ (8, 1) _ w2 SB.out (Nat.le_refl _) (by decide) (fits_of_ok (by decide)) (fit_of_ok (by decide))).mono ?_
  rintro e w3 ⟨vc, Oc, ec, rfl, hg, hs, o⟩
  obtain rfl := l10_twice hg
  have O3 := Lib.hid (O2.out.trans o)
  have hz3 : w.heap.size + 1 ≤ w3.heap.size := Nat.le_trans hz2 o.size
  have hzb : w1.heap.size ≤ w3.heap.size := Nat.le_trans hza o.size
  have hzc : w2.heap.size ≤ w3.heap.size := o.size
  have S3 := Lib.hid (S2.out.below (o.below hz2 fun _ h => h.elim))
  have SA3 := Lib.hid (SA2.out.below (o.below hza fun _ h => h.elim))
  have SB3 := Lib.hid (SB.out.below (o.below (Nat.le_refl _) fun _ h => h.elim))
  clear hs o hg
  go_wp2_with fail
  go_at_call 10
  refine (spTake _ l10 6 _ w3 S3.out hz3 (by decide) (fits_of_ok (by decide)) (by decide) (by decide)).mono ?_
  rw [l10_take6]
  rintro e w4 ⟨vd, rfl, hs, o⟩
  have O4 := Lib.hid (O3.out.trans o)
  have hz4 : w.heap.size + 1 ≤ w4.heap.size := Nat.le_trans hz3 o.size
  have S4 := Lib.hid (S3.out.below (o.below hz3 fun _ h => h.elim))
  obtain ⟨b', o', c', e', -, -, -, hA⟩ := (SA3.out.below (o.below hzb fun _ h => h.elim)).at_ (by decide)
  obtain ⟨⟨rfl, rfl⟩, -⟩ : (b' = ba ∧ o' = oa) ∧ c' = ca := by simpa [eq_comm] using e'
  obtain ⟨b'', o'', c'', e'', -, -, -, hB⟩ := (SB3.out.below (o.below hzc fun _ h => h.elim)).at_ (by decide)
  obtain ⟨⟨rfl, rfl⟩, -⟩ : (b'' = bb ∧ o'' = ob) ∧ c'' = cb := by simpa [eq_comm] using e''
  have a2 : w4.cell? ⟨b', o' + 2, none⟩ = some (.int .i64 7) := hA 2 _ rfl
  have a3 : w4.cell? ⟨b', o' + 3, none⟩ = some (.int .i64 2) := hA 3 _ rfl
  have b0 : w4.cell? ⟨b'', o'', none⟩ = some (.int .i64 0) := hB 0 _ rfl
  have b1 : w4.cell? ⟨b'', o'' + 1, none⟩ = some (.int .i64 4) := hB 1 _ rfl
  clear hs o hA hB e' e''
  go_wp2_with fail
  go_at_call 8
  refine (spLargest _ l10 _ w4 S4.out hz4 (by decide) (fits_of_ok (by decide))).mono ?_
  rw [l10_largest]
  rintro e w5 ⟨rfl, o⟩
  have O5 := Lib.hid (O4.out.trans o)
  have hz5 : w.heap.size + 1 ≤ w5.heap.size := Nat.le_trans hz4 o.size
  have S5 := Lib.hid (S4.out.below (o.below hz4 fun _ h => h.elim))
  clear o a2 a3 b0 b1
  go_wp2_with fail
  go_at_call 6
  refine (spRight (0, 9) _ l10 _ w5 S5.out hz5 (by decide) (fits_of_ok (by decide)) (fit_of_ok (by decide))).mono ?_
  rw [l10_right]
  rintro e w6 ⟨rfl, o⟩
  have O6 := Lib.hid (O5.out.trans o)
  have hz6 : w.heap.size + 1 ≤ w6.heap.size := Nat.le_trans hz5 o.size
  have S6 := Lib.hid (S5.out.below (o.below hz5 fun _ h => h.elim))
  clear o
  go_wp2_with fail
  go_at_call 6
  refine (spRight (0, 8) _ l10 _ w6 S6.out hz6 (by decide) (fits_of_ok (by decide)) (fit_of_ok (by decide))).mono ?_
  rw [l10_wrong]
  rintro e w7 ⟨rfl, o⟩
  have O7 := Lib.hid (O6.out.trans o)
  clear o
  go_wp2
  go_ret
  exact ⟨rfl, O7.out⟩
end Go.Proofs.Ytfcinjnpaphneaa
