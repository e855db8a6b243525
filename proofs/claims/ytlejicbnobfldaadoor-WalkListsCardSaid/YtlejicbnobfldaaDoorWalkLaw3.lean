/- The walk of WalkLists. -/
import Derived.Test.YtlejicbnobfldaaDoorWalkLaw2
namespace Go.Proofs.YtlejicbnobfldaaDoor
open Go.RowKit
set_option maxRecDepth 100000

set_option maxHeartbeats 4000000 in
theorem walkLists_big (v vp : Value) (n m : Nat) (x : Sp) (top z : Int) (w : World) (ht : Par w) (hv : ∃ A c, v = .slice A n c) (hp : ∃ A c, vp = .slice A m c) (hb : 200 < n ∨ 200 < m) :
    Calls Tryd.prog 3 #[v, .agg #[.int .i64 x.1, .int .i64 x.2], .int .i64 top, vp, .int .i64 z] w fun e w' => e = .returned (.bool true) ∧ Below w.heap.size w w' := by
  obtain ⟨W, hW, HB⟩ := box_span w x
  have HWE := Lib.hid hW
  have HTab := Lib.hid ht
  obtain ⟨A, c, rfl⟩ := hv
  obtain ⟨A', c', rfl⟩ := hp
  clear hW ht
  by_cases h1 : 200 < n
  · clear hb
    go_enter Tryd.func3, Tryd.ntmps3
    go_wp2_with (first | (with_reducible rw [HWE.out]) | fail)
    go_at_call 6
    refine (awake09_any _ (HTab.out.old HB.out.1)).mono ?_
    rintro e w4 ⟨rfl, o⟩
    have O4 := Lib.hid (HB.out.1.trans o)
    clear o
    go_wp2
    go_ret
    exact ⟨rfl, O4.out.whole⟩
  · have h2 : 200 < m := by omega
    clear hb
    go_enter Tryd.func3, Tryd.ntmps3
    go_wp2_with (first | (with_reducible rw [HWE.out]) | fail)
    go_at_call 6
    refine (awake09_any _ (HTab.out.old HB.out.1)).mono ?_
    rintro e w4 ⟨rfl, o⟩
    have O4 := Lib.hid (HB.out.1.trans o)
    clear o
    go_wp2
    go_ret
    exact ⟨rfl, O4.out.whole⟩

set_option maxHeartbeats 4000000 in
theorem walkLists_few (v : Value) (l : List Nat) (x : Sp) (top : Int) (vp : Value) (ps : List Int) (z : Int) (w : World) (ht : Par w) (hs : Sl w w.heap.size 1 v l.length (u64s l)) (hw : Words l) (hx : Fit x) (hp : Sl w w.heap.size 1 vp ps.length (i64s ps)) (hl : l.length ≤ 200) (hm : ps.length ≤ 200) :
    Calls Tryd.prog 3 #[v, .agg #[.int .i64 x.1, .int .i64 x.2], .int .i64 top, vp, .int .i64 z] w fun e w' => e = .returned (.bool true) ∧ Below w.heap.size w w' := by
  obtain ⟨W, hW, HB⟩ := box_span w x
  have HWE := Lib.hid hW
  have HTab := Lib.hid ht
  have HA := Lib.hid hs
  have HW := Lib.hid hw
  have HX := Lib.hid hx
  have HPS := Lib.hid hp
  have HFEW := Lib.hid (show (walkL (hAr l) x top).length ≤ 1000000 by have := walkL_few l x top; omega)
  have HOK := Lib.hid (hAr_ok l)
  obtain ⟨A, ca, rfl, hac, ham, -⟩ := hs
  obtain ⟨A', cb, rfl, hbc, hbm, -⟩ := hp
  unfold maxLen at ham hbm
  clear hW ht hw hx
  obtain ⟨L, hL⟩ : ∃ L, L = wkL (walkL (hAr l) x top) := ⟨_, rfl⟩
  obtain ⟨pe, hpe⟩ : ∃ pe, pe = wkE (walkL (hAr l) x top) := ⟨_, rfl⟩
  obtain ⟨pp, hpp⟩ : ∃ pp, pp = wkP (walkL (hAr l) x top) top := ⟨_, rfl⟩
  obtain ⟨sw, hsw⟩ : ∃ sw, sw = suW (hAr l) L := ⟨_, rfl⟩
  obtain ⟨sf, hsf⟩ : ∃ sf, sf = suF (hAr l) L := ⟨_, rfl⟩
  have H1 := Lib.hid hL
  have H2 := Lib.hid hpe
  have H3 := Lib.hid hpp
  have H4 := Lib.hid hsw
  have H5 := Lib.hid hsf
  clear hL hpe hpp hsw hsf
  obtain ⟨c0, c1⟩ := cells2 HB.out.2
  go_enter Tryd.func3, Tryd.ntmps3
  go_wp2_with (first | (with_reducible rw [HWE.out]) | fail)
  go_at_call 7
  refine (of_any _ l _ ((HA.out.only HB.out.1 (Nat.le_refl _) (fun _ h => h.elim)).more HB.out.1.size) (by omega) HW.out).mono ?_
  rintro e w1 ⟨b, g, rfl, hb, hg, hR, o⟩
  have O1 := Lib.hid (HB.out.1.trans o)
  have A1 := Lib.hid hR
  have B1 := Lib.hid (HB.out.2.keep o id)
  clear hR o hb hg c0 c1
  obtain ⟨c0, c1⟩ := cells2 B1.out
  go_wp2_with fail
  go_at_call 8
  refine (wList _ (hAr l) x top w1 (heads_of A1.out (HTab.out.old O1.out)) HX.out HFEW.out).mono ?_
  rw [← H1.out, ← H2.out]
  rintro e w2 ⟨v2, rfl, own2, o⟩
  obtain ⟨A2, c2, rfl, -, -⟩ := own_len own2
  have O2 := Lib.hid (O1.out.trans o)
  have A2' := Lib.hid (A1.out.keep o id id)
  have B2 := Lib.hid (B1.out.keep o id)
  have R2 := Lib.hid own2
  clear o own2 c0 c1
  obtain ⟨c0, c1⟩ := cells2 B2.out
  go_wp2_with fail
  go_at_call 9
  refine (wStop _ (hAr l) x top w2 (heads_of A2'.out (HTab.out.old O2.out)) HX.out).mono ?_
  rw [← H2.out, ← H3.out]
  rintro e w3 ⟨rfl, o⟩
  have O3 := Lib.hid (O2.out.trans o)
  have A3 := Lib.hid (A2'.out.keep o id id)
  have B3 := Lib.hid (B2.out.keep o id)
  have R3 := Lib.hid (own_only R2.out o fun _ _ h => h)
  clear o c0 c1
  obtain ⟨c0, c1⟩ := cells2 B3.out
  go_wp2_with fail
  go_at_call 10
  refine (rWalk (.slice A l.length ca) w.heap.size l x top w3 (HA.out.only O3.out (Nat.le_refl _) (fun _ h => h.elim)) O3.out.size HW.out (by omega)).mono ?_
  rw [← H1.out, ← H2.out, ← H3.out]
  rintro e w4 ⟨v4, rfl, own4, o⟩
  obtain ⟨A4, c4, rfl, -, -⟩ := own_len own4
  have O4 := Lib.hid (O3.out.trans o)
  have A4' := Lib.hid (A3.out.keep o id id)
  have B4 := Lib.hid (B3.out.keep o id)
  have R4 := Lib.hid (own_only R3.out o fun _ _ h => h)
  have T4 := Lib.hid own4
  clear o own4 c0 c1
  obtain ⟨c0, c1⟩ := cells2 B4.out
  go_wp2_with fail
  go_at_call 11
  refine (wSums _ (hAr l) x top w4 (heads_of A4'.out (HTab.out.old O4.out)) HX.out HFEW.out).mono ?_
  rw [← H1.out, ← H2.out, ← H4.out, ← H5.out]
  rintro e w5 ⟨rfl, o⟩
  have O5 := Lib.hid (O4.out.trans o)
  have B5 := Lib.hid (B4.out.keep o id)
  have R5 := Lib.hid (own_only R4.out o fun _ _ h => h)
  have T5 := Lib.hid (own_only T4.out o fun _ _ h => h)
  clear o c0 c1
  obtain ⟨c0, c1⟩ := cells2 B5.out
  go_wp2_with fail
  go_at_call 12
  refine (rSums (.slice A l.length ca) w.heap.size l x top w5 (HA.out.only O5.out (Nat.le_refl _) (fun _ h => h.elim)) O5.out.size HW.out (by omega)).mono ?_
  rw [← H1.out, ← H2.out, ← H4.out, ← H5.out]
  rintro e w6 ⟨rfl, o⟩
  have O6 := Lib.hid (O5.out.trans o)
  have R6 := Lib.hid (own_only R5.out o fun _ _ h => h)
  have T6 := Lib.hid (own_only T5.out o fun _ _ h => h)
  have SR := Lib.hid (Sl.of_own R6.out (by rw [i64s_len, Nat.mul_one]))
  have ST := Lib.hid (Sl.of_own T6.out (by rw [i64s_len, Nat.mul_one]))
  clear o c0 c1
  go_wp2_with fail
  go_at_call 13
  refine (rInts _ _ L _ _ _ SR.out ST.out).mono ?_
  rintro e w7 ⟨rfl, mq, rfl⟩
  obtain ⟨w7, hw7⟩ : ∃ w7, w6.drewN mq = w7 := ⟨_, rfl⟩
  have O7 := Lib.hid (show Only nob w w7 from hw7 ▸ O6.out.drewN mq)
  rw [hw7]
  clear hw7
  have SP := Lib.hid (HPS.out.only O7.out (Nat.le_refl _) (fun _ h => h.elim))
  go_wp2_with fail
  go_at_call 14
  refine (wStarts _ ps z _ _ SP.out).mono ?_
  rintro e w8 ⟨rfl, rfl⟩
  go_wp2_with fail
  go_at_call 15
  refine (rStarts _ ps z _ _ SP.out).mono ?_
  rintro e w8 ⟨rfl, rfl⟩
  go_wp2_with fail
  go_at_call 6
  refine (awake09_any _ (HTab.out.old O7.out)).mono ?_
  rintro e w9 ⟨rfl, o⟩
  have O9 := Lib.hid (O7.out.trans o)
  clear o
  go_wp2
  go_ret
  exact ⟨rfl, O9.out.whole⟩
theorem walkLists_walk (v : Value) (l : List Nat) (x : Sp) (top : Int) (vp : Value) (ps : List Int) (z : Int) (w : World) (ht : Par w) (hs : Sl w w.heap.size 1 v l.length (u64s l)) (hw : Words l) (hx : Fit x) (hp : Sl w w.heap.size 1 vp ps.length (i64s ps)) :
    Calls Tryd.prog 3 #[v, .agg #[.int .i64 x.1, .int .i64 x.2], .int .i64 top, vp, .int .i64 z] w fun e w' => e = .returned (.bool true) ∧ Below w.heap.size w w' := by
  by_cases h1 : 200 < l.length ∨ 200 < ps.length
  · obtain ⟨A, c, e, -⟩ := hs.form
    obtain ⟨A', c', e', -⟩ := hp.form
    exact walkLists_big v vp l.length ps.length x top z w ht ⟨A, c, e⟩ ⟨A', c', e'⟩ h1
  · exact walkLists_few v l x top vp ps z w ht hs hw hx hp (by omega) (by omega)
end Go.Proofs.YtlejicbnobfldaaDoor
