/- What awake of layer 11 answers. -/
import Derived.Test.YtlpndkmhdnpifaaLedProg2
import Derived.Test.YtlpndkmhdnpifaaRef11B
namespace Go.Proofs.Ytlpndkmhdnpifaa
set_option maxRecDepth 100000
open Go.RowKit Go.Lib

def l11 : List Sp := [(0, 3), (4, 2)]
theorem l11_add : addT [(4, 2)] (0, 3) = (l11, 0) := by decide
theorem l11_twice : addT l11 (5, 1) = (l11, 16) := by decide
theorem l11_drop4 : dropT l11 4 = ([(0, 3)], (4, 2), 0) := by decide
theorem l11_drop5 : dropT l11 5 = (l11, (0, 0), 2) := by decide
theorem l11_of : ofT l11 5 = 1 := by decide
theorem l11_find : findT l11 5 = -1 := by decide
theorem l11_cov (p : Int) : cov [(3, 1)] p ↔ Sp.has (0, 6) p ∧ ¬ cov l11 p := by
  unfold l11
  simp only [cov_cons, cov_nil, or_false, Sp.has, Sp.ok, most]
  omega
theorem l11_right : decide (TableP (0, 6) l11 [(3, 1)]) = true :=
  decide_eq_true ⟨by decide, by decide, by decide, by decide, l11_cov⟩
theorem l11_wrong : decide (TableP (0, 6) l11 []) = false :=
  decide_eq_false fun h => absurd ((h.2.2.2.2 3).2 ((l11_cov 3).1 (by decide))) (by decide)
theorem fits_of_ok11 {l : List Sp} (h : ∀ x ∈ l, Sp.ok x) : Fits l := fun x hx => .of_ok (h x hx)
theorem fit_of_ok11 {x : Sp} (h : x.ok) : Fit x := .of_ok h

set_option maxHeartbeats 4000000 in
theorem awake11_any (w : World) : Calls Try.prog 6 #[] w fun e w' => e = .returned (.bool true) ∧ Only nob w w' := by
  have HB := Lib.hid (Blk.new w 24 #[.int .i64 4, .int .i64 2])
  have O0 := Lib.hid ((Only.refl nob w).alloc (.cells #[.int .i64 4, .int .i64 2] 24))
  have S0 := Lib.hid (show Sl (w.alloc (.cells #[.int .i64 4, .int .i64 2] 24)) (w.heap.size + 1) 2 (.slice (some ⟨w.heap.size, 0, none⟩) 1 1) [((4 : Int), (2 : Int))].length (spc [(4, 2)]) by
    have := Sl.of_blk (size := 2) (n := 1) (c := 1) HB.out rfl (Nat.le_refl _) (by decide)
    have h2 : Sl (w.alloc (.cells #[.int .i64 4, .int .i64 2] 24)) (w.heap.size + 1) 2 (.slice (some ⟨w.heap.size, 0, none⟩) 1 1) 1 [.int .i64 4, .int .i64 2] := by simpa using this
    exact h2)
  go_enter Try.func6, Try.ntmps6
  go_wp2_with fail
  go_at_call 7
  refine (spAdd _ [(4, 2)] (0, 3) _ _ S0.out (by simp) (by decide) (fits_of_ok11 (by decide)) (fit_of_ok11 (by decide))).mono ?_
  rw [l11_add]
  rintro e w1 ⟨va, rfl, hs, o⟩
  have SA := Lib.hid (show Sl w1 w1.heap.size 2 va l11.length (spc l11) from hs)
  have O1 := Lib.hid (O0.out.trans o)
  obtain ⟨ba, oa, ca, rfl, -, hca, -⟩ := Sl.at_ (n := 2) hs (by decide)
  unfold maxLen at hca
  clear hs o
  go_wp2_with fail
  go_at_call 7
  refine (spAdd _ l11 (5, 1) _ w1 SA.out (Nat.le_refl _) (by decide) (fits_of_ok11 (by decide)) (fit_of_ok11 (by decide))).mono ?_
  rw [l11_twice]
  rintro e w2 ⟨vb, rfl, -, o⟩
  have O2 := Lib.hid (O1.out.trans o)
  have hz2 : w1.heap.size ≤ w2.heap.size := o.size
  have SA2 := Lib.hid (SA.out.below (o.below (Nat.le_refl _) fun _ h => h.elim))
  clear o
  go_wp2_with fail
  go_at_call 9
  refine (spDrop _ l11 4 _ w2 SA2.out hz2 (by decide) (fits_of_ok11 (by decide))).mono ?_
  rw [l11_drop4]
  rintro e w3 ⟨vc, rfl, hs, o⟩
  obtain ⟨bc, oc, cc, rfl, -, hcc, -⟩ := Sl.at_ (n := 1) hs (by decide)
  unfold maxLen at hcc
  obtain ⟨W3, hW3⟩ : ∃ W3, W3 = w3.alloc (.cells #[.int .i64 4, .int .i64 2] 24) := ⟨_, rfl⟩
  have HWE := Lib.hid hW3
  have o3 : Only nob w2 W3 := by rw [hW3]; exact o.alloc _
  have HBX := Lib.hid (show Blk W3 w3.heap.size 24 #[.int .i64 4, .int .i64 2] by rw [hW3]; exact Blk.new w3 _ _)
  have O3 := Lib.hid (O2.out.trans o3)
  have hz3 : w1.heap.size ≤ W3.heap.size := Nat.le_trans hz2 o3.size
  have SA3 := Lib.hid (SA2.out.below (o3.below hz2 fun _ h => h.elim))
  clear hs o o3 hW3
  go_wp2_with fail
  go_at_call 9
  rw [← HWE.out]
  refine (spDrop _ l11 5 _ W3 SA3.out hz3 (by decide) (fits_of_ok11 (by decide))).mono ?_
  rw [l11_drop5]
  rintro e w4 ⟨vd, rfl, -, o⟩
  obtain ⟨W4, hW4⟩ : ∃ W4, W4 = w4.alloc (.cells #[.int .i64 0, .int .i64 0] 24) := ⟨_, rfl⟩
  have HWE4 := Lib.hid hW4
  have o4 : Only nob W3 W4 := by rw [hW4]; exact o.alloc _
  have O4 := Lib.hid (O3.out.trans o4)
  have hz4 : w1.heap.size ≤ W4.heap.size := Nat.le_trans hz3 o4.size
  have SA4 := Lib.hid (SA3.out.below (o4.below hz3 fun _ h => h.elim))
  have x1 := (HBX.out.keep o4 id).cell 1
  simp at x1
  obtain ⟨b', o', c', e', -, -, -, hA⟩ := SA4.out.at_ (by decide)
  obtain ⟨⟨rfl, rfl⟩, -⟩ : (b' = ba ∧ o' = oa) ∧ c' = ca := by simpa [eq_comm, l11] using e'
  have a1 : W4.cell? ⟨b', o' + 1, none⟩ = some (.int .i64 3) := hA 1 _ rfl
  clear o o4 hW4 hA e'
  go_upto_region 5 with fail
  rw [← HWE4.out]
  go_wp2_with fail
  go_at_call 14
  refine (spOf _ l11 5 _ W4 SA4.out hz4 (fits_of_ok11 (by decide)) (by decide) (by decide)).mono ?_
  rw [l11_of]
  rintro e w5 ⟨rfl, o⟩
  have O5 := Lib.hid (O4.out.trans o)
  have hz5 : w1.heap.size ≤ w5.heap.size := Nat.le_trans hz4 o.size
  have SA5 := Lib.hid (SA4.out.below (o.below hz4 fun _ h => h.elim))
  clear o x1 a1
  go_wp2_with fail
  go_at_call 12
  refine (spFind _ l11 5 _ w5 SA5.out hz5 (fits_of_ok11 (by decide))).mono ?_
  rw [l11_find]
  rintro e w6 ⟨rfl, o⟩
  have O6 := Lib.hid (O5.out.trans o)
  have hz6 : w1.heap.size ≤ w6.heap.size := Nat.le_trans hz5 o.size
  have SA6 := Lib.hid (SA5.out.below (o.below hz5 fun _ h => h.elim))
  clear o
  go_wp2_with fail
  go_at_call 16
  have HQ := Lib.hid (Blk.new w6 24 #[.int .i64 3, .int .i64 1])
  have O6b := Lib.hid ((Only.refl nob w6).alloc (.cells #[.int .i64 3, .int .i64 1] 24))
  have SQ := Lib.hid (show Sl (w6.alloc (.cells #[.int .i64 3, .int .i64 1] 24)) (w6.alloc (.cells #[.int .i64 3, .int .i64 1] 24)).heap.size 2 (.slice (some ⟨w6.heap.size, 0, none⟩) 1 1) [((3 : Int), (1 : Int))].length (spc [(3, 1)]) from
    Sl.of_blk (size := 2) (n := 1) (c := 1) HQ.out rfl (Nat.le_refl _) (by decide))
  have SA7 := Lib.hid ((SA6.out.below (O6b.out.below hz6 fun _ h => h.elim)).more (Nat.le_trans hz6 O6b.out.size))
  refine (spTable (0, 6) _ _ l11 [(3, 1)] _ _ SA7.out SQ.out (Nat.le_refl _) (by decide) (fits_of_ok11 (by decide)) (fit_of_ok11 (by decide))).mono ?_
  rw [l11_right]
  rintro e w7 ⟨rfl, o⟩
  have o7 := O6b.out.trans o
  have O7 := Lib.hid (O6.out.trans o7)
  have hz7 : w1.heap.size ≤ w7.heap.size := Nat.le_trans hz6 o7.size
  have SA8 := Lib.hid (SA6.out.below (o7.below hz6 fun _ h => h.elim))
  clear o o7
  go_wp2_with fail
  go_at_call 16
  refine (spTable (0, 6) _ _ l11 [] _ _ SA8.out Sl.nil_ hz7 (by decide) (fits_of_ok11 (by decide)) (fit_of_ok11 (by decide))).mono ?_
  rw [l11_wrong]
  rintro e w8 ⟨rfl, o⟩
  have O8 := Lib.hid (O7.out.trans o)
  clear o
  go_wp2
  go_ret
  exact ⟨rfl, O8.out⟩
end Go.Proofs.Ytlpndkmhdnpifaa
