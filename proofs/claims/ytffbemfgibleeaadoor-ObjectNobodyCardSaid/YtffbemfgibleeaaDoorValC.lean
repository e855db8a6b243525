/- The values of words: Dec and Ref of package value and of the document's own answer. -/
import Derived.Test.YtffbemfgibleeaaDoorValB
namespace Go.Proofs.YtffbemfgibleeaaDoor
open Go.RowKit

/-- What kind, number and error a word tells. -/
def dK (w : Int) : Int := if w % 4 = 1 then 1 else if w % 4 = 2 ∧ w / 4 ≤ 1099511627776 then 2 else 0
def dX (w : Int) : Int := if w % 4 = 1 then (if w / 4 < 2305843009213693952 then w / 4 else w / 4 - 4611686018427387904) else if w % 4 = 2 ∧ w / 4 ≤ 1099511627776 then w / 4 else 0
def dE (w : Int) : Int := if w = 0 ∨ w % 4 = 1 ∨ (w % 4 = 2 ∧ w / 4 ≤ 1099511627776) then 0 else 3
theorem d_zero : dK 0 = 0 ∧ dX 0 = 0 ∧ dE 0 = 0 := by decide
theorem d_up {w : Int} (h : w % 4 = 1) (h1 : w / 4 < 2305843009213693952) : dK w = 1 ∧ dX w = w / 4 ∧ dE w = 0 := by
  unfold dK dX dE; rw [if_pos h, if_pos h, if_pos h1, if_pos (.inr (.inl h))]; exact ⟨rfl, rfl, rfl⟩
theorem d_down {w : Int} (h : w % 4 = 1) (h1 : ¬ w / 4 < 2305843009213693952) : dK w = 1 ∧ dX w = w / 4 - 4611686018427387904 ∧ dE w = 0 := by
  unfold dK dX dE; rw [if_pos h, if_pos h, if_neg h1, if_pos (.inr (.inl h))]; exact ⟨rfl, rfl, rfl⟩
theorem d_ref {w : Int} (h : w % 4 = 2) (h1 : w / 4 ≤ 1099511627776) : dK w = 2 ∧ dX w = w / 4 ∧ dE w = 0 := by
  unfold dK dX dE; rw [if_neg (by omega), if_pos ⟨h, h1⟩, if_neg (by omega), if_pos ⟨h, h1⟩, if_pos (.inr (.inr ⟨h, h1⟩))]; exact ⟨rfl, rfl, rfl⟩
theorem d_none {w : Int} (h0 : w ≠ 0) (h1 : w % 4 ≠ 1) (h2 : ¬ (w % 4 = 2 ∧ w / 4 ≤ 1099511627776)) : dK w = 0 ∧ dX w = 0 ∧ dE w = 3 := by
  unfold dK dX dE; rw [if_neg h1, if_neg h2, if_neg h1, if_neg h2, if_neg (by omega)]; exact ⟨rfl, rfl, rfl⟩

/-- A value handed back out of a cell of the call's own. -/
theorem res_val {w W : World} (o : Only nob w W) {b : Nat} (hb : w.heap.size ≤ b) (B : Blk W b 65 #[.int .i64 0, .int .i64 0]) (k x : Int) :
    ∃ W4, ((W.setCell ⟨b, 0, none⟩ (.int .i64 k)).setCell ⟨b, 1, none⟩ (.int .i64 x)) = W4 ∧ Only nob w W4 ∧ W4.cell? ⟨b, 0, none⟩ = some (.int .i64 k) ∧ W4.cell? ⟨b, 1, none⟩ = some (.int .i64 x) := by
  have B4 : Blk ((W.setCell ⟨b, 0, none⟩ (.int .i64 k)).setCell ⟨b, 1, none⟩ (.int .i64 x)) b 65 #[.int .i64 k, .int .i64 x] := by simpa using (B.put 0 (.int .i64 k)).put 1 (.int .i64 x)
  exact ⟨_, rfl, (o.setCell (p := ⟨b, 0, none⟩) (fun h => absurd h (Nat.not_lt_of_le hb)) _).setCell (p := ⟨b, 1, none⟩) (fun h => absurd h (Nat.not_lt_of_le hb)) _, B4.cell 0, B4.cell 1⟩
/-- The new cell of the result. -/
theorem new_val (w : World) : ∃ W, w.alloc (.cells #[.int .i64 0, .int .i64 0] 65) = W ∧ Hid (Only nob w W ∧ Blk W w.heap.size 65 #[.int .i64 0, .int .i64 0]) :=
  ⟨_, rfl, Lib.hid ⟨(Only.refl nob w).alloc _, Blk.new w 65 #[.int .i64 0, .int .i64 0]⟩⟩

theorem refDec_zero (w : World) : Calls Tryd.prog 43 #[.int .u64 0] w fun e w' => e = .returned (.tuple #[.agg #[.int .i64 (0), .int .i64 (0)], .int .i64 0]) ∧ Only nob w w' := by
  go_enter Tryd.func43, Tryd.ntmps43
  go_wp2
  obtain ⟨W4, hW4, H4⟩ := box_val w (0) (0)
  rw [hW4]
  have h0 := H4.out.2.1
  have h1 := H4.out.2.2
  exact bodyPost_ret (v := .tuple #[.agg #[.int .i64 (0), .int .i64 (0)], .int .i64 0]) (by simp [results, Tryd.results43, go_sem, h0, h1]) rfl ⟨rfl, H4.out.1⟩
theorem refDec_up {n : Int} (hn : 0 ≤ n ∧ n < 18446744073709551616) (h : n % 4 = 1) (h1 : n / 4 < 2305843009213693952) (w : World) : Calls Tryd.prog 43 #[.int .u64 n] w fun e w' => e = .returned (.tuple #[.agg #[.int .i64 (1), .int .i64 (n / 4)], .int .i64 0]) ∧ Only nob w w' := by
  go_enter Tryd.func43, Tryd.ntmps43
  go_wp2
  obtain ⟨W4, hW4, H4⟩ := box_val w (1) (n / 4)
  rw [hW4]
  have h0 := H4.out.2.1
  have h1 := H4.out.2.2
  exact bodyPost_ret (v := .tuple #[.agg #[.int .i64 (1), .int .i64 (n / 4)], .int .i64 0]) (by simp [results, Tryd.results43, go_sem, h0, h1]) rfl ⟨rfl, H4.out.1⟩
theorem refDec_down {n : Int} (hn : 0 ≤ n ∧ n < 18446744073709551616) (h : n % 4 = 1) (h1 : ¬ n / 4 < 2305843009213693952) (w : World) : Calls Tryd.prog 43 #[.int .u64 n] w fun e w' => e = .returned (.tuple #[.agg #[.int .i64 (1), .int .i64 (n / 4 - 4611686018427387904)], .int .i64 0]) ∧ Only nob w w' := by
  go_enter Tryd.func43, Tryd.ntmps43
  go_wp2
  obtain ⟨W4, hW4, H4⟩ := box_val w (1) (-(4611686018427387904 - n / 4))
  rw [hW4]
  have h0 := H4.out.2.1
  have h1 := H4.out.2.2
  exact bodyPost_ret (v := .tuple #[.agg #[.int .i64 (1), .int .i64 (-(4611686018427387904 - n / 4))], .int .i64 0]) (by simp [results, Tryd.results43, go_sem, h0, h1]) rfl ⟨by rw [show -(4611686018427387904 - n / 4) = n / 4 - 4611686018427387904 by omega], H4.out.1⟩
theorem refDec_ref {n : Int} (hn : 0 ≤ n ∧ n < 18446744073709551616) (h : n % 4 = 2) (h1 : n / 4 ≤ 1099511627776) (w : World) : Calls Tryd.prog 43 #[.int .u64 n] w fun e w' => e = .returned (.tuple #[.agg #[.int .i64 (2), .int .i64 (n / 4)], .int .i64 0]) ∧ Only nob w w' := by
  go_enter Tryd.func43, Tryd.ntmps43
  go_wp2
  obtain ⟨W4, hW4, H4⟩ := box_val w (2) (n / 4)
  rw [hW4]
  have h0 := H4.out.2.1
  have h1 := H4.out.2.2
  exact bodyPost_ret (v := .tuple #[.agg #[.int .i64 (2), .int .i64 (n / 4)], .int .i64 0]) (by simp [results, Tryd.results43, go_sem, h0, h1]) rfl ⟨rfl, H4.out.1⟩
theorem refDec_far {n : Int} (hn : 0 ≤ n ∧ n < 18446744073709551616) (h : n % 4 = 2) (h1 : ¬ n / 4 ≤ 1099511627776) (w : World) : Calls Tryd.prog 43 #[.int .u64 n] w fun e w' => e = .returned (.tuple #[.agg #[.int .i64 (0), .int .i64 (0)], .int .i64 3]) ∧ Only nob w w' := by
  go_enter Tryd.func43, Tryd.ntmps43
  go_wp2
  obtain ⟨W4, hW4, H4⟩ := box_val w (0) (0)
  rw [hW4]
  have h0 := H4.out.2.1
  have h1 := H4.out.2.2
  exact bodyPost_ret (v := .tuple #[.agg #[.int .i64 (0), .int .i64 (0)], .int .i64 3]) (by simp [results, Tryd.results43, go_sem, h0, h1]) rfl ⟨rfl, H4.out.1⟩
theorem refDec_other {n : Int} (hn : 0 < n ∧ n < 18446744073709551616) (h : ¬ n % 4 = 2) (h1 : ¬ n % 4 = 1) (w : World) : Calls Tryd.prog 43 #[.int .u64 n] w fun e w' => e = .returned (.tuple #[.agg #[.int .i64 (0), .int .i64 (0)], .int .i64 3]) ∧ Only nob w w' := by
  go_enter Tryd.func43, Tryd.ntmps43
  go_wp2
  obtain ⟨W4, hW4, H4⟩ := box_val w (0) (0)
  rw [hW4]
  have h0 := H4.out.2.1
  have h1 := H4.out.2.2
  exact bodyPost_ret (v := .tuple #[.agg #[.int .i64 (0), .int .i64 (0)], .int .i64 3]) (by simp [results, Tryd.results43, go_sem, h0, h1]) rfl ⟨rfl, H4.out.1⟩
theorem refDec_any {n : Int} (hn : 0 ≤ n ∧ n < 18446744073709551616) (w : World) : Calls Tryd.prog 43 #[.int .u64 n] w fun e w' => e = .returned (.tuple #[.agg #[.int .i64 (dK n), .int .i64 (dX n)], .int .i64 (dE n)]) ∧ Only nob w w' := by
  by_cases h0 : n = 0
  · subst h0
    rw [d_zero.1, d_zero.2.1, d_zero.2.2]
    exact refDec_zero w
  by_cases h1 : n % 4 = 1
  · by_cases h2 : n / 4 < 2305843009213693952
    · rw [(d_up h1 h2).1, (d_up h1 h2).2.1, (d_up h1 h2).2.2]
      exact refDec_up hn h1 h2 w
    · rw [(d_down h1 h2).1, (d_down h1 h2).2.1, (d_down h1 h2).2.2]
      exact refDec_down hn h1 h2 w
  by_cases h2 : n % 4 = 2
  · by_cases h3 : n / 4 ≤ 1099511627776
    · rw [(d_ref h2 h3).1, (d_ref h2 h3).2.1, (d_ref h2 h3).2.2]
      exact refDec_ref hn h2 h3 w
    · have hd := d_none h0 h1 fun h => h3 h.2
      rw [hd.1, hd.2.1, hd.2.2]
      exact refDec_far hn h2 h3 w
  · have hd := d_none h0 h1 fun h => h2 h.1
    rw [hd.1, hd.2.1, hd.2.2]
    exact refDec_other (by omega) h2 h1 w

theorem untag_1 {n : Int} (hn : 0 ≤ n ∧ n < 18446744073709551616) (ht : n % 4 = 1) (w : World) : Calls Tryd.prog 50 #[.int .u64 n] w fun e w' => e = .returned (.agg #[.int .i64 1, .int .i64 (wrap64 n / 4)]) ∧ Only nob w w' := by
  have ha : bits .and .u64 n 3 = 1 := (and_three n hn).trans ht
  clear ht
  go_enter Tryd.func50, Tryd.ntmps50
  go_wp2
  obtain ⟨W4, hW4, H4⟩ := box_val w 1 (wrap64 n / 4)
  rw [hW4]
  have h0 := H4.out.2.1
  have h1 := H4.out.2.2
  exact bodyPost_ret (v := .agg #[.int .i64 1, .int .i64 (wrap64 n / 4)]) (by simp [results, Tryd.results50, go_sem, h0, h1]) rfl ⟨rfl, H4.out.1⟩
theorem untag_2 {n : Int} (hn : 0 ≤ n ∧ n < 18446744073709551616) (ht : n % 4 = 2) (w : World) : Calls Tryd.prog 50 #[.int .u64 n] w fun e w' => e = .returned (.agg #[.int .i64 2, .int .i64 (wrap64 n / 4)]) ∧ Only nob w w' := by
  have ha : bits .and .u64 n 3 = 2 := (and_three n hn).trans ht
  clear ht
  go_enter Tryd.func50, Tryd.ntmps50
  go_wp2
  obtain ⟨W4, hW4, H4⟩ := box_val w 2 (wrap64 n / 4)
  rw [hW4]
  have h0 := H4.out.2.1
  have h1 := H4.out.2.2
  exact bodyPost_ret (v := .agg #[.int .i64 2, .int .i64 (wrap64 n / 4)]) (by simp [results, Tryd.results50, go_sem, h0, h1]) rfl ⟨rfl, H4.out.1⟩
theorem untag_0 {n : Int} (hn : 0 ≤ n ∧ n < 18446744073709551616) (h1 : ¬ n % 4 = 1) (h2 : ¬ n % 4 = 2) (w : World) : Calls Tryd.prog 50 #[.int .u64 n] w fun e w' => e = .returned (.agg #[.int .i64 0, .int .i64 (0)]) ∧ Only nob w w' := by
  have ha := and_three n hn
  obtain ⟨m, hm⟩ : ∃ m, n % 4 = m := ⟨_, rfl⟩
  rw [hm] at ha h1 h2
  clear hm
  go_enter Tryd.func50, Tryd.ntmps50
  go_wp2
  obtain ⟨W4, hW4, H4⟩ := box_val w 0 (0)
  rw [hW4]
  have h0 := H4.out.2.1
  have h1 := H4.out.2.2
  exact bodyPost_ret (v := .agg #[.int .i64 0, .int .i64 (0)]) (by simp [results, Tryd.results50, go_sem, h0, h1]) rfl ⟨rfl, H4.out.1⟩

/-- What untag answers at n. -/
def Untag (n k s : Int) : Prop := ∀ w, Calls Tryd.prog 50 #[.int .u64 n] w fun e w' => e = .returned (.agg #[.int .i64 k, .int .i64 s]) ∧ Only nob w w'
theorem dec_yes {n k s : Int} (hu : Untag n k s) (hw : encW k s = n) (he : encE k s = 0) (w : World) : Calls Tryd.prog 37 #[.int .u64 n] w fun e w' => e = .returned (.tuple #[.agg #[.int .i64 k, .int .i64 s], .int .i64 0]) ∧ Only nob w w' := by
  have HU := Lib.hid hu
  have HW := Lib.hid hw
  have HE := Lib.hid he
  obtain ⟨W0, hW0, HB0⟩ := new_val w
  have HWE := Lib.hid hW0
  clear hu hw he hW0
  go_enter Tryd.func37, Tryd.ntmps37
  go_wp2_with fail
  rw [HWE.out]
  go_at_call 50
  refine (HU.out _).mono ?_
  rintro e w1 ⟨rfl, o⟩
  have B1 := Lib.hid (HB0.out.2.keep o id)
  have O1 := Lib.hid (HB0.out.1.trans o)
  obtain ⟨W2, hW2, HB2⟩ := box_val w1 k s
  have HW2 := Lib.hid hW2
  clear o hW2
  go_wp2_with fail
  rw [HW2.out]
  go_at_call 51
  refine (enc_any k s _).mono ?_
  rw [HW.out, HE.out]
  rintro e w3 ⟨rfl, o⟩
  have B3 := Lib.hid (B1.out.keep (HB2.out.1.trans o) id)
  have O3 := Lib.hid (O1.out.trans (HB2.out.1.trans o))
  have c0 := o.keeps HB2.out.2.1
  have c1 := o.keeps HB2.out.2.2
  have g0 : w3.cell? ⟨w.heap.size, 0, none⟩ = some (.int .i64 0) := B3.out.cell 0
  have g1 : w3.cell? ⟨w.heap.size, 1, none⟩ = some (.int .i64 0) := B3.out.cell 1
  have g2 := B3.out.free 0
  have g3 := B3.out.free 1
  clear o
  go_wp2
  obtain ⟨W4, hW4, O4, h0, h1⟩ := res_val O3.out (Nat.le_refl _) B3.out (k) (s)
  rw [hW4]
  exact bodyPost_ret (v := .tuple #[.agg #[.int .i64 k, .int .i64 s], .int .i64 0]) (by simp [results, Tryd.results37, go_sem, h0, h1]) rfl ⟨rfl, O4⟩
theorem dec_err {n k s : Int} (hu : Untag n k s) (hw : encW k s = 0) (he : encE k s = 1) (w : World) : Calls Tryd.prog 37 #[.int .u64 n] w fun e w' => e = .returned (.tuple #[.agg #[.int .i64 0, .int .i64 0], .int .i64 3]) ∧ Only nob w w' := by
  have HU := Lib.hid hu
  have HW := Lib.hid hw
  have HE := Lib.hid he
  obtain ⟨W0, hW0, HB0⟩ := new_val w
  have HWE := Lib.hid hW0
  clear hu hw he hW0
  go_enter Tryd.func37, Tryd.ntmps37
  go_wp2_with fail
  rw [HWE.out]
  go_at_call 50
  refine (HU.out _).mono ?_
  rintro e w1 ⟨rfl, o⟩
  have B1 := Lib.hid (HB0.out.2.keep o id)
  have O1 := Lib.hid (HB0.out.1.trans o)
  obtain ⟨W2, hW2, HB2⟩ := box_val w1 k s
  have HW2 := Lib.hid hW2
  clear o hW2
  go_wp2_with fail
  rw [HW2.out]
  go_at_call 51
  refine (enc_any k s _).mono ?_
  rw [HW.out, HE.out]
  rintro e w3 ⟨rfl, o⟩
  have B3 := Lib.hid (B1.out.keep (HB2.out.1.trans o) id)
  have O3 := Lib.hid (O1.out.trans (HB2.out.1.trans o))
  have c0 := o.keeps HB2.out.2.1
  have c1 := o.keeps HB2.out.2.2
  have g0 : w3.cell? ⟨w.heap.size, 0, none⟩ = some (.int .i64 0) := B3.out.cell 0
  have g1 : w3.cell? ⟨w.heap.size, 1, none⟩ = some (.int .i64 0) := B3.out.cell 1
  have g2 := B3.out.free 0
  have g3 := B3.out.free 1
  clear o
  go_wp2
  obtain ⟨W4, hW4, O4, h0, h1⟩ := res_val O3.out (Nat.le_refl _) B3.out (0) (0)
  rw [hW4]
  exact bodyPost_ret (v := .tuple #[.agg #[.int .i64 0, .int .i64 0], .int .i64 3]) (by simp [results, Tryd.results37, go_sem, h0, h1]) rfl ⟨rfl, O4⟩
theorem dec_ne {n k s : Int} (hu : Untag n k s) {m : Int} (hw : encW k s = m) (he : encE k s = 0) (hne : m ≠ n) (w : World) : Calls Tryd.prog 37 #[.int .u64 n] w fun e w' => e = .returned (.tuple #[.agg #[.int .i64 0, .int .i64 0], .int .i64 3]) ∧ Only nob w w' := by
  have HU := Lib.hid hu
  have HW := Lib.hid hw
  have HE := Lib.hid he
  obtain ⟨W0, hW0, HB0⟩ := new_val w
  have HWE := Lib.hid hW0
  clear hu hw he hW0
  go_enter Tryd.func37, Tryd.ntmps37
  go_wp2_with fail
  rw [HWE.out]
  go_at_call 50
  refine (HU.out _).mono ?_
  rintro e w1 ⟨rfl, o⟩
  have B1 := Lib.hid (HB0.out.2.keep o id)
  have O1 := Lib.hid (HB0.out.1.trans o)
  obtain ⟨W2, hW2, HB2⟩ := box_val w1 k s
  have HW2 := Lib.hid hW2
  clear o hW2
  go_wp2_with fail
  rw [HW2.out]
  go_at_call 51
  refine (enc_any k s _).mono ?_
  rw [HW.out, HE.out]
  rintro e w3 ⟨rfl, o⟩
  have B3 := Lib.hid (B1.out.keep (HB2.out.1.trans o) id)
  have O3 := Lib.hid (O1.out.trans (HB2.out.1.trans o))
  have c0 := o.keeps HB2.out.2.1
  have c1 := o.keeps HB2.out.2.2
  have g0 : w3.cell? ⟨w.heap.size, 0, none⟩ = some (.int .i64 0) := B3.out.cell 0
  have g1 : w3.cell? ⟨w.heap.size, 1, none⟩ = some (.int .i64 0) := B3.out.cell 1
  have g2 := B3.out.free 0
  have g3 := B3.out.free 1
  clear o
  go_wp2
  obtain ⟨W4, hW4, O4, h0, h1⟩ := res_val O3.out (Nat.le_refl _) B3.out (0) (0)
  rw [hW4]
  exact bodyPost_ret (v := .tuple #[.agg #[.int .i64 0, .int .i64 0], .int .i64 3]) (by simp [results, Tryd.results37, go_sem, h0, h1]) rfl ⟨rfl, O4⟩

theorem dec_any {n : Int} (hn : 0 ≤ n ∧ n < 18446744073709551616) (w : World) : Calls Tryd.prog 37 #[.int .u64 n] w fun e w' => e = .returned (.tuple #[.agg #[.int .i64 (dK n), .int .i64 (dX n)], .int .i64 (dE n)]) ∧ Only nob w w' := by
  by_cases h0 : n = 0
  · subst h0
    rw [d_zero.1, d_zero.2.1, d_zero.2.2]
    exact dec_yes (fun w => untag_0 (by decide) (by decide) (by decide) w) rfl rfl w
  by_cases h1 : n % 4 = 1
  · have hx : wrap64 n / 4 = dX n := by
      unfold wrap64 dX; rw [if_pos h1]; split <;> omega
    have hk : dK n = 1 ∧ dE n = 0 := by unfold dK dE; rw [if_pos h1, if_pos (.inr (.inl h1))]; exact ⟨rfl, rfl⟩
    have hm : vmay 1 (dX n) = true := vin_yes (by rw [← hx]; unfold wrap64; omega) (by rw [← hx]; unfold wrap64; omega)
    rw [hk.1, hk.2]
    refine dec_yes (fun w => hx ▸ untag_1 hn h1 w) ?_ (encE_yes hm) w
    rw [encW_yes hm, ← hx]
    show (4 * (wrap64 n / 4) + 1) % _ = _
    unfold wrap64
    omega
  by_cases h2 : n % 4 = 2
  · by_cases h3 : n / 4 ≤ 1099511627776
    · have hx : wrap64 n / 4 = n / 4 := by unfold wrap64; omega
      have hm : vmay 2 (n / 4) = true := vin_yes (by omega) h3
      rw [(d_ref h2 h3).1, (d_ref h2 h3).2.1, (d_ref h2 h3).2.2]
      refine dec_yes (fun w => hx ▸ untag_2 hn h2 w) ?_ (encE_yes hm) w
      rw [encW_yes hm]
      show (4 * (n / 4) + 2) % _ = _
      omega
    · have hd := d_none h0 h1 fun h => h3 h.2
      have hm : vmay 2 (wrap64 n / 4) = false := by
        rcases hb : vmay 2 (wrap64 n / 4) with _ | _
        · rfl
        · have := vin_iff.1 hb; exfalso; unfold wrap64 at this; omega
      rw [hd.1, hd.2.1, hd.2.2]
      exact dec_err (fun w => untag_2 hn h2 w) (encW_no hm) (encE_no hm) w
  · have hd := d_none h0 h1 fun h => h2 h.1
    rw [hd.1, hd.2.1, hd.2.2]
    exact dec_ne (m := 0) (fun w => untag_0 hn h1 h2 w) rfl rfl (fun h => h0 h.symm) w
end Go.Proofs.YtffbemfgibleeaaDoor
