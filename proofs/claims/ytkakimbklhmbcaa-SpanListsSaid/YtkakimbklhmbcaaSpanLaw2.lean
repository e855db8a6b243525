/- The walks of SpanLists and SpanGaps, out of the contracts of package span. -/
import Derived.Test.YtkakimbklhmbcaaSpanLaw1
import Derived.Test.YtkakimbklhmbcaaRef03H
namespace Go.Proofs.Ytkakimbklhmbcaa
open Go.RowKit

theorem sorted_same {l L M : List Sp} {k : Nat} (h : SortedOf l k L) (h' : SortedOf l k M) : L = M := sorted_unique h.1 h'.1 (h.2.trans h'.2.symm)

set_option maxRecDepth 100000 in
set_option maxHeartbeats 4000000 in
theorem spanLists_small (hA : SpApart) (hT : SpTotal) (hS : SpSort) (hJ : SpJoin) (hAw : AwSaid) (v : Value) (l : List Sp) (w : World) (h : Sl w w.heap.size 2 v l.length (spc l)) (hf : Fits l) (hl : l.length ≤ 100) :
    Calls Try.prog 4 #[v] w fun e w' => e = .returned (.bool true) ∧ Below w.heap.size w w' := by
  obtain ⟨i0, hi0, hz0, hz1, hz2⟩ := info_parts info_span
  have HA := Lib.hid h
  obtain ⟨A, ca, rfl, hac, ham, -⟩ := h
  unfold maxLen at ham
  go_enter Try.func4, Try.ntmps4
  go_wp2_with (with_reducible refine wpList_append_sl (o := ⟨some 11, _, _, _, _, _⟩) _ rfl (.tmp 9) (.tmp 10) _ rfl w.heap.size 23 i0 _ 2 16 Try.underlying29 hi0 hz0 hz1 hz2 rfl (by decide) (.slice (some ⟨w.heap.size, 0, none⟩) 0 0) 0 [] rfl ?c1 w.heap.size (.slice A l.length ca) l.length (spc l) rfl ?c6 (spc_one _) ?c2 ?c3 ?c4 ?c5)
  case c1 => exact lit_own w _ _
  case c6 => exact HA.out.below ((Only.refl nob w).alloc _).whole
  case c2 => unfold maxLen; omega
  case c3 => omega
  case c4 => simp
  case c5 =>
    intro v1 w1 H1 o1 _
    have O1 := Lib.hid (lit_only o1)
    have HS1 := Lib.hid (show Sl w1 w1.heap.size 2 v1 l.length (spc l) by have := Sl.of_own H1.out H1.out.1; simpa using this)
    have HA1 := Lib.hid (HA.out.below (lit_only o1).whole)
    have hs1 : w.heap.size ≤ w1.heap.size := (lit_only o1).size
    clear H1 o1
    go_wp2_with fail
    go_at_call 17
    refine (hS _ l _ _ HS1.out (Nat.le_refl _) (by omega)).mono ?_
    rintro e w2 ⟨v2, L, rfl, hL, hsl, o⟩
    have HL := Lib.hid hL
    have HS2 := Lib.hid hsl
    have O2 := Lib.hid (O1.out.trans o)
    have HSL := Lib.hid (HS1.out.below o.whole)
    have hs2 : w1.heap.size ≤ w2.heap.size := o.size
    clear hL hsl o
    go_wp2_with fail
    go_at_call 18
    refine (refSort_any _ l w.heap.size _ (HA.out.below O2.out.whole) (by omega) (by omega)).mono ?_
    rintro e w3 ⟨v3, M, rfl, hM, hown, o⟩
    obtain rfl := sorted_same HL.out hM
    have HS3 := Lib.hid (Sl.of_own hown hown.1)
    have HS2' := Lib.hid (HS2.out.below o.whole)
    have O3 := Lib.hid (O2.out.trans o)
    have HSL3 := Lib.hid (HSL.out.below (o.below hs2 fun _ h => h.elim))
    have hs3 : w2.heap.size ≤ w3.heap.size := o.size
    clear hM hown o
    go_wp2_with fail
    go_at_call 16
    refine (refSameS_any _ _ L _ _ _ HS2'.out HS3.out).mono ?_
    rintro e w4 ⟨rfl, m, rfl⟩
    go_wp2_with fail
    go_at_call 19
    refine (hT _ l w1.heap.size (w3.drewN m) (HSL3.out.heap rfl) (by show w1.heap.size ≤ w3.heap.size; omega) (by omega) hf).mono ?_
    rintro e w5 ⟨rfl, o⟩
    have O5 := Lib.hid ((O3.out.drewN m).trans o)
    have HSL5 := Lib.hid ((show Sl (w3.drewN m) w1.heap.size 2 v1 l.length (spc l) from HSL3.out.heap rfl).below (o.below (by show w1.heap.size ≤ w3.heap.size; omega) fun _ h => h.elim))
    have hs5 : w3.heap.size ≤ w5.heap.size := o.size
    clear o
    go_wp2_with fail
    go_at_call 20
    refine (refTotal_any _ l w.heap.size _ (HA.out.below O5.out.whole) (by omega)).mono ?_
    rintro e w6 ⟨rfl, o⟩
    have O6 := Lib.hid (O5.out.trans o)
    have HSL6 := Lib.hid (HSL5.out.below (o.below (by omega) fun _ h => h.elim))
    have hs6 : w5.heap.size ≤ w6.heap.size := o.size
    clear o
    go_wp2_with fail
    go_at_call 21
    refine (hA _ l w1.heap.size _ HSL6.out (by omega) (by omega) hf).mono ?_
    rintro e w7 ⟨rfl, o⟩
    have O7 := Lib.hid (O6.out.trans o)
    have HSL7 := Lib.hid (HSL6.out.below (o.below (by omega) fun _ h => h.elim))
    have hs7 : w6.heap.size ≤ w7.heap.size := o.size
    clear o
    go_wp2_with fail
    go_at_call 22
    refine (refApart_any _ l w.heap.size _ (HA.out.below O7.out.whole) (by omega)).mono ?_
    rintro e w8 ⟨rfl, o⟩
    have O8 := Lib.hid (O7.out.trans o)
    have HSL8 := Lib.hid (HSL7.out.below (o.below (by omega) fun _ h => h.elim))
    have hs8 : w7.heap.size ≤ w8.heap.size := o.size
    clear o
    go_wp2_with fail
    go_at_call 23
    refine (hJ _ l w1.heap.size _ HSL8.out (by omega) (by omega) hf).mono ?_
    rintro e w9 ⟨v9, O, rfl, hj, hc, hsl, o⟩
    have HJ9 := Lib.hid (And.intro hj hc)
    have HS9 := Lib.hid hsl
    have O9 := Lib.hid (O8.out.trans o)
    have HSL9 := Lib.hid (HSL8.out.below (o.below (by omega) fun _ h => h.elim))
    have hs9 : w8.heap.size ≤ w9.heap.size := o.size
    clear o hsl hj hc
    go_wp2_with fail
    go_at_call 24
    refine (refJoin_any _ l w.heap.size _ (HA.out.below O9.out.whole) (by omega) (by omega)).mono ?_
    rintro e w10 ⟨v10, O', rfl, hj, hc, hown, o⟩
    obtain rfl := joined_unique HJ9.out.1 hj fun p => (HJ9.out.2 p).trans (hc p).symm
    have HS10 := Lib.hid (Sl.of_own hown hown.1)
    have HS9' := Lib.hid (HS9.out.below o.whole)
    have O10 := Lib.hid (O9.out.trans o)
    have HSL10 := Lib.hid (HSL9.out.below (o.below (by omega) fun _ h => h.elim))
    have HA10 := Lib.hid (HA.out.below (O9.out.trans o).whole)
    clear o hown hj hc
    go_wp2_with fail
    go_at_call 16
    refine (refSameS_any _ _ O _ _ _ HS9'.out HS10.out).mono ?_
    rintro e w11 ⟨rfl, m1, rfl⟩
    go_wp2_with fail
    go_at_call 16
    refine (refSameS_any _ _ l w1.heap.size w.heap.size (w10.drewN m1) (HSL10.out.heap rfl) (HA10.out.heap rfl)).mono ?_
    rintro e w12 ⟨rfl, m2, rfl⟩
    go_wp2_with fail
    go_at_call 15
    refine (hAw _).mono ?_
    rintro e w13 ⟨rfl, o⟩
    have O13 := Lib.hid ((O10.out.drewN (m1 + m2)).trans o)
    clear o
    go_wp2
    go_ret
    exact ⟨rfl, O13.out.whole⟩

set_option maxHeartbeats 400000 in
theorem spanLists_big (hAw : AwSaid) (A : Option Addr) (n c : Nat) (w : World) (hn : 100 < n) :
    Calls Try.prog 4 #[.slice A n c] w fun e w' => e = .returned (.bool true) ∧ Below w.heap.size w w' := by
  go_enter Try.func4, Try.ntmps4
  go_wp2_with fail
  go_at_call 15
  refine (hAw _).mono ?_
  rintro e w1 ⟨rfl, o⟩
  have O1 := Lib.hid o
  clear o
  go_wp2
  go_ret
  exact ⟨rfl, O1.out.whole⟩
theorem spanLists_walk (hA : SpApart) (hT : SpTotal) (hS : SpSort) (hJ : SpJoin) (hAw : AwSaid) (v : Value) (l : List Sp) (w : World) (h : Sl w w.heap.size 2 v l.length (spc l)) (hf : Fits l) :
    Calls Try.prog 4 #[v] w fun e w' => e = .returned (.bool true) ∧ Below w.heap.size w w' := by
  by_cases hl : l.length ≤ 100
  · exact spanLists_small hA hT hS hJ hAw v l w h hf hl
  · obtain ⟨A, c, rfl, -⟩ := h
    exact spanLists_big hAw A _ c w (by omega)

set_option maxRecDepth 100000 in
set_option maxHeartbeats 4000000 in
theorem spanGaps_small (hG : SpGaps) (hAw : AwSaid) (x : Sp) (v : Value) (l : List Sp) (w : World) (h : Sl w w.heap.size 2 v l.length (spc l)) (hx : Fit x) (hf : Fits l) (hl : l.length ≤ 100) :
    Calls Try.prog 5 #[.agg #[.int .i64 x.1, .int .i64 x.2], v] w fun e w' => e = .returned (.bool true) ∧ Below w.heap.size w w' := by
  have HA := Lib.hid h
  obtain ⟨A, ca, rfl, hac, ham, -⟩ := h
  unfold maxLen at ham
  have o0 := (Only.refl nob w).alloc (.cells #[.int .i64 x.1, .int .i64 x.2] 23)
  have hbx := Blk.new w 23 #[.int .i64 x.1, .int .i64 x.2]
  obtain ⟨wz, hwz⟩ : ∃ wz, wz = w.alloc (.cells #[.int .i64 x.1, .int .i64 x.2] 23) := ⟨_, rfl⟩
  rw [← hwz] at o0 hbx
  have x0 := hbx.cell 0
  have x1 := hbx.cell 1
  simp at x0 x1
  have HO := Lib.hid o0
  have HWZ := Lib.hid hwz
  clear hbx o0 hwz
  go_enter Try.func5, Try.ntmps5
  go_upto_region 3 with fail
  rw [← HWZ.out]
  go_region_held3 (fun w' => w'.cell? ⟨w.heap.size, 0, none⟩ = some (.int .i64 x.1) ∧ w'.cell? ⟨w.heap.size, 1, none⟩ = some (.int .i64 x.2))
    (first | go_keep | exact C1.out | exact C2.out | exact C3.out | exact C4.out)
    (first
      | (go_at_call 25; refine (hG x _ l w.heap.size (World.drew wz) (HA.out.below (show Below w.heap.size w (World.drew wz) from (HO.out.drewN 1).whole)) HO.out.size (by omega) hf hx).mono ?_; rintro e w1 ⟨v1, O, rfl, hj, hc, hsl, o⟩; have C1 := Lib.hid (And.intro (o.drewL.keeps x0) (o.drewL.keeps x1)); have O1 := Lib.hid (HO.out.trans o.drewL); have J1 := Lib.hid (And.intro hj hc); have S1 := Lib.hid hsl; clear o hj hc hsl)
      | (go_at_call 26; refine (refGaps_any x _ l w.heap.size _ (HA.out.below O1.out.whole) O1.out.size (by omega)).mono ?_; rintro e w2 ⟨v2, O', rfl, hj, hc, hown, o⟩; obtain rfl := joined_unique J1.out.1 hj (fun p => (J1.out.2 p).trans (hc p).symm); have C2 := Lib.hid (And.intro (o.keeps C1.out.1) (o.keeps C1.out.2)); have O2 := Lib.hid (O1.out.trans o); have S2 := Lib.hid (Sl.of_own hown hown.1); have S1' := Lib.hid (S1.out.below o.whole); clear o hj hc hown)
      | (go_at_call 16; refine (refSameS_any _ _ O _ _ _ S1'.out S2.out).mono ?_; rintro e w3 ⟨rfl, m, rfl⟩; have C3 := Lib.hid C2.out; have O3 := Lib.hid (O2.out.drewN m))
      | (go_at_call 15; refine (hAw _).mono ?_; rintro e w4 ⟨rfl, o⟩; have C4 := Lib.hid (And.intro (o.keeps C3.out.1) (o.keeps C3.out.2)); have O4 := Lib.hid (O3.out.trans o); clear o))
  go_wp2_with fail
  go_ret
  exact ⟨rfl, O4.out.whole⟩

set_option maxHeartbeats 400000 in
theorem spanGaps_big (hAw : AwSaid) (x : Sp) (A : Option Addr) (n c : Nat) (w : World) (hn : 100 < n) :
    Calls Try.prog 5 #[.agg #[.int .i64 x.1, .int .i64 x.2], .slice A n c] w fun e w' => e = .returned (.bool true) ∧ Below w.heap.size w w' := by
  go_enter Try.func5, Try.ntmps5
  go_wp2_with fail
  go_at_call 15
  refine (hAw _).mono ?_
  rintro e w1 ⟨rfl, o⟩
  have O1 := Lib.hid (((Only.refl nob w).alloc _).trans o)
  clear o
  go_wp2
  go_ret
  exact ⟨rfl, O1.out.whole⟩
theorem spanGaps_walk (hG : SpGaps) (hAw : AwSaid) (x : Sp) (v : Value) (l : List Sp) (w : World) (h : Sl w w.heap.size 2 v l.length (spc l)) (hx : Fit x) (hf : Fits l) :
    Calls Try.prog 5 #[.agg #[.int .i64 x.1, .int .i64 x.2], v] w fun e w' => e = .returned (.bool true) ∧ Below w.heap.size w w' := by
  by_cases hl : l.length ≤ 100
  · exact spanGaps_small hG hAw x v l w h hx hf hl
  · obtain ⟨A, c, rfl, -⟩ := h
    exact spanGaps_big hAw x A _ c w (by omega)
end Go.Proofs.Ytkakimbklhmbcaa
