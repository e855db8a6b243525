/- The laws ReachPlans and ReachOrders: walked. (Printed by wip/tools/gen_law17.py.) -/
import Derived.Test.YtkjdnccnfnhkoaaReAws
import Derived.Test.YtkjdnccnfnhkoaaGrLaw
namespace Go.Proofs.Ytkjdnccnfnhkoaa
open Go.RowKit Go.Lib
set_option maxRecDepth 100000
set_option linter.unusedSimpArgs false
set_option linter.unusedVariables false

/-- Rows of numbers that are the same. -/
theorem ints17 {V W : World} {base base' n : Nat} {v u : Value} {l : List Int} (h : OwR V base 3 v n (i64s l)) (k : OwR W base' 3 u n (i64s l)) (o : Only nob V W) (W' : World) (o' : Only nob W W') :
    Calls Try.prog 10 #[v, u] W' fun e w' => e = .returned (.bool true) ∧ Only nob W' w' := by
  have hl : l.length = n := by simpa [i64s] using h.len
  subst hl
  refine (rInts16 v u l _ _ W' ((h.only (o.trans o') fun _ _ h => h).sl) ((k.only o' fun _ _ h => h).sl)).mono ?_
  rintro e w' ⟨rfl, m, rfl⟩
  exact ⟨rfl, (Only.refl nob W').drewN m⟩
set_option maxHeartbeats 8000000 in
theorem reachPlans_walk (g : Gr) (vn vr : Value) (hs : List (Value × Value)) (lim order block : Int) (w : World) (h : RdG w w.heap.size g vn vr hs) (hfit : GrFit g) (hblk : block ≤ 9223372036854775807) :
    Calls Try.prog 3 #[.agg #[vn, vr], .int .i64 lim, .int .i64 order, .int .i64 block] w fun e w' => e = .returned (.bool true) ∧ Only nob w w' := by
  have HR := Lib.hid h
  obtain ⟨A, c, rfl, hac, hcm⟩ := h.nodes.form
  obtain ⟨Ar, cr, rfl, harc, hcrm⟩ := h.roots.form
  obtain ⟨W, hW, HB⟩ := box_graph w (.slice A g.nd.length c) (.slice Ar g.rt.length cr)
  have HW := Lib.hid hW
  obtain ⟨p, hp⟩ : ∃ p, p = w.heap.size := ⟨_, rfl⟩
  have HP := Lib.hid hp
  rw [← hp] at HB
  have RW := Lib.hid (HR.out.only HB.out.1 (Nat.le_refl _))
  have hBW := Lib.hid HB.out.1.size
  have c0 := HB.out.2.2.1
  have c1 := HB.out.2.2.2
  unfold maxLen at hcm hcrm
  clear hW hp h
  go_enter Try.func3, Try.ntmps3
  go_upto_region 1 with fail
  rw [HW.out, ← HP.out]
  go_wp2_with fail
  go_at_call 6
  refine (large_call g _ _ hs _ W RW.out hBW.out).mono ?_
  rintro e w1 (⟨rfl, o⟩ | ⟨rfl, hsz, o⟩)
  · have O1 := Lib.hid (HB.out.1.trans o)
    clear o c0 c1
    go_wp2_with fail
    go_at_call 7
    refine (awake17 _).mono ?_
    rintro e w9 ⟨rfl, o9⟩
    have O9 := Lib.hid (O1.out.trans o9)
    clear o9
    go_wp2
    go_ret
    exact ⟨rfl, O9.out⟩
  · have O1 := Lib.hid (HB.out.1.trans o)
    have hbd : GrBd g := ⟨by omega, by omega⟩
    have HG := Lib.hid (fun (W' : World) (o : Only nob w W') => (HR.out.only o (Nat.le_refl w.heap.size) : RdG W' w.heap.size g _ _ hs))
    have HC := Lib.hid (fun (W' : World) (o : Only nob W W') => And.intro (o.keeps c0) (o.keeps c1))
    have OC := Lib.hid o
    have d0 := o.keeps c0
    have d1 := o.keeps c1
    clear o c0 c1
    have HP1 := Lib.hid (fun (W' : World) (o : Only nob w W') => plan_any17 g _ _ hs _ W' lim order block (HG.out W' o) o.size hfit hbd hblk)
    have HP2 := Lib.hid (fun (W' : World) (o : Only nob w W') => rPlan17 g _ _ hs _ W' lim order block (HG.out W' o) o.size hfit hbd hblk)
    obtain ⟨E, hE⟩ : ∃ E, E = planE g lim order block := ⟨_, rfl⟩
    rw [← hE] at HP1 HP2
    clear hE hsz hbd hfit hblk
    have OW := O1
    go_wp2_with fail
    go_at_call 8
    refine (HP1.out w1 O1.out).mono ?_
    rintro e w2 ⟨v1, v2, rfl, h1, h2, o⟩
    have R1 := Lib.hid h1
    have R2 := Lib.hid h2
    obtain ⟨A1, k1, rfl, -, -⟩ := h1.form
    obtain ⟨A2, k2, rfl, -, -⟩ := h2.form
    clear h1 h2
    have O2 := Lib.hid (O1.out.trans o)
    have OC := Lib.hid (OC.out.trans o)
    clear o d0 d1
    obtain ⟨d0, d1⟩ := HC.out w2 OC.out
    go_wp2_with fail
    go_at_call 9
    refine (HP2.out w2 O2.out).mono ?_
    rintro e w3 ⟨v3, v4, rfl, h1, h2, o⟩
    have F1 := Lib.hid (ints17 R1.out h1 o)
    have F2 := Lib.hid (ints17 R2.out h2 o)
    obtain ⟨A3, k3, rfl, -, -⟩ := h1.form
    obtain ⟨A4, k4, rfl, -, -⟩ := h2.form
    clear h1 h2
    have O3 := Lib.hid (O2.out.trans o)
    have OC := Lib.hid (OC.out.trans o)
    clear o d0 d1
    obtain ⟨d0, d1⟩ := HC.out w3 OC.out
    clear d0 d1
    have Z0 := Lib.hid (Only.refl nob w3)
    go_wp2_with fail
    go_at_call 10
    refine (F1.out w3 Z0.out).mono ?_
    rintro e w4 ⟨rfl, o⟩
    have O4 := Lib.hid (O3.out.trans o)
    have Z1 := Lib.hid (Z0.out.trans o)
    clear o
    go_wp2_with fail
    go_at_call 10
    refine (F2.out w4 Z1.out).mono ?_
    rintro e w5 ⟨rfl, o⟩
    have O5 := Lib.hid (O4.out.trans o)
    have Z2 := Lib.hid (Z1.out.trans o)
    clear o
    go_wp2_with fail
    go_at_call 7
    refine (awake17 _).mono ?_
    rintro e w9 ⟨rfl, o9⟩
    have O9 := Lib.hid (O5.out.trans o9)
    clear o9
    go_wp2
    go_ret
    exact ⟨rfl, O9.out⟩
set_option maxHeartbeats 8000000 in
theorem reachOrders_walk (g : Gr) (vn vr : Value) (hs : List (Value × Value)) (lim : Int) (w : World) (h : RdG w w.heap.size g vn vr hs) (hfit : GrFit g) :
    Calls Try.prog 4 #[.agg #[vn, vr], .int .i64 lim] w fun e w' => e = .returned (.bool true) ∧ Only nob w w' := by
  have HR := Lib.hid h
  obtain ⟨A, c, rfl, hac, hcm⟩ := h.nodes.form
  obtain ⟨Ar, cr, rfl, harc, hcrm⟩ := h.roots.form
  obtain ⟨W, hW, HB⟩ := box_graph w (.slice A g.nd.length c) (.slice Ar g.rt.length cr)
  have HW := Lib.hid hW
  obtain ⟨p, hp⟩ : ∃ p, p = w.heap.size := ⟨_, rfl⟩
  have HP := Lib.hid hp
  rw [← hp] at HB
  have RW := Lib.hid (HR.out.only HB.out.1 (Nat.le_refl _))
  have hBW := Lib.hid HB.out.1.size
  have c0 := HB.out.2.2.1
  have c1 := HB.out.2.2.2
  unfold maxLen at hcm hcrm
  clear hW hp h
  go_enter Try.func4, Try.ntmps4
  go_upto_region 1 with fail
  rw [HW.out, ← HP.out]
  go_wp2_with fail
  go_at_call 6
  refine (large_call g _ _ hs _ W RW.out hBW.out).mono ?_
  rintro e w1 (⟨rfl, o⟩ | ⟨rfl, hsz, o⟩)
  · have O1 := Lib.hid (HB.out.1.trans o)
    clear o c0 c1
    go_wp2_with fail
    go_at_call 7
    refine (awake17 _).mono ?_
    rintro e w9 ⟨rfl, o9⟩
    have O9 := Lib.hid (O1.out.trans o9)
    clear o9
    go_wp2
    go_ret
    exact ⟨rfl, O9.out⟩
  · have O1 := Lib.hid (HB.out.1.trans o)
    have hbd : GrBd g := ⟨by omega, by omega⟩
    have HG := Lib.hid (fun (W' : World) (o : Only nob w W') => (HR.out.only o (Nat.le_refl w.heap.size) : RdG W' w.heap.size g _ _ hs))
    have HC := Lib.hid (fun (W' : World) (o : Only nob W W') => And.intro (o.keeps c0) (o.keeps c1))
    have OC := Lib.hid o
    have d0 := o.keeps c0
    have d1 := o.keeps c1
    clear o c0 c1
    have HB1 := Lib.hid (fun (W' : World) (o : Only nob w W') => breadth17 g _ _ hs _ W' (HG.out W' o) o.size hfit hbd)
    have HB2 := Lib.hid (fun (W' : World) (o : Only nob w W') => rFlat17_0 g _ _ hs _ W' (HG.out W' o) o.size hfit hbd)
    have HD1 := Lib.hid (fun (W' : World) (o : Only nob w W') => depth17 g _ _ hs _ W' (HG.out W' o) o.size hfit hbd)
    have HD2 := Lib.hid (fun (W' : World) (o : Only nob w W') => rFlat17_1 g _ _ hs _ W' (HG.out W' o) o.size hfit hbd)
    have HR1 := Lib.hid (fun (W' : World) (o : Only nob w W') => reach17 g _ _ hs _ W' (HG.out W' o) o.size hfit hbd)
    have HR2 := Lib.hid (fun (W' : World) (o : Only nob w W') => rReach17 g _ _ hs _ W' (HG.out W' o) o.size hfit hbd)
    have HL1 := Lib.hid (fun (W' : World) (o : Only nob w W') => live17 g _ _ hs _ W' lim (HG.out W' o) o.size hfit hbd hsz.1)
    have HL2 := Lib.hid (fun (W' : World) (o : Only nob w W') => rLive17 g _ _ hs _ W' lim (HG.out W' o) o.size hfit hbd hsz.1)
    obtain ⟨E, hE⟩ : ∃ E, E = flatE g := ⟨_, rfl⟩
    rw [← hE] at HB1 HB2 HD1 HD2 HR1 HR2
    obtain ⟨a1, ha1⟩ : ∃ z, z = sumW g (planSm g lim 0 1) := ⟨_, rfl⟩
    obtain ⟨a2, ha2⟩ : ∃ z, z = sumW g (planLg g lim 0 1) := ⟨_, rfl⟩
    obtain ⟨a3, ha3⟩ : ∃ z, z = wrap64 (sumF g (planSm g lim 0 1) + sumF g (planLg g lim 0 1)) := ⟨_, rfl⟩
    obtain ⟨a4, ha4⟩ : ∃ z, z = planE g lim 0 1 := ⟨_, rfl⟩
    rw [← ha1, ← ha2, ← ha3, ← ha4] at HL1 HL2
    clear hE ha1 ha2 ha3 ha4 hsz hbd hfit
    go_wp2_with fail
    go_at_call 11
    refine (HB1.out w1 O1.out).mono ?_
    rintro e w2 ⟨v1, rfl, h1, o⟩
    have R1 := Lib.hid h1
    obtain ⟨A1, k1, rfl, -, -⟩ := h1.form
    clear h1
    have O2 := Lib.hid (O1.out.trans o)
    have OC := Lib.hid (OC.out.trans o)
    clear o d0 d1
    obtain ⟨d0, d1⟩ := HC.out w2 OC.out
    go_wp2_with fail
    go_at_call 12
    refine (HB2.out w2 O2.out).mono ?_
    rintro e w3 ⟨v1, rfl, h1, o⟩
    have F1 := Lib.hid (ints17 R1.out h1 o)
    have Z1 := Lib.hid (Only.refl nob w3)
    obtain ⟨B1, m1, rfl, -, -⟩ := h1.form
    clear h1
    have O3 := Lib.hid (O2.out.trans o)
    have OC := Lib.hid (OC.out.trans o)
    clear o d0 d1
    obtain ⟨d0, d1⟩ := HC.out w3 OC.out
    go_wp2_with fail
    go_at_call 13
    refine (HD1.out w3 O3.out).mono ?_
    rintro e w4 ⟨v1, rfl, h1, o⟩
    have R2 := Lib.hid h1
    obtain ⟨A2, k2, rfl, -, -⟩ := h1.form
    clear h1
    have O4 := Lib.hid (O3.out.trans o)
    have Z1 := Lib.hid (Z1.out.trans o)
    have OC := Lib.hid (OC.out.trans o)
    clear o d0 d1
    obtain ⟨d0, d1⟩ := HC.out w4 OC.out
    go_wp2_with fail
    go_at_call 12
    refine (HD2.out w4 O4.out).mono ?_
    rintro e w5 ⟨v1, rfl, h1, o⟩
    have F2 := Lib.hid (ints17 R2.out h1 o)
    have Z2 := Lib.hid (Only.refl nob w5)
    obtain ⟨B2, m2, rfl, -, -⟩ := h1.form
    clear h1
    have O5 := Lib.hid (O4.out.trans o)
    have Z1 := Lib.hid (Z1.out.trans o)
    have OC := Lib.hid (OC.out.trans o)
    clear o d0 d1
    obtain ⟨d0, d1⟩ := HC.out w5 OC.out
    go_wp2_with fail
    go_at_call 14
    refine (HR1.out w5 O5.out).mono ?_
    rintro e w6 ⟨v1, rfl, h1, o⟩
    have R3 := Lib.hid h1
    obtain ⟨A3, k3, rfl, -, -⟩ := h1.form
    clear h1
    have O6 := Lib.hid (O5.out.trans o)
    have Z1 := Lib.hid (Z1.out.trans o)
    have Z2 := Lib.hid (Z2.out.trans o)
    have OC := Lib.hid (OC.out.trans o)
    clear o d0 d1
    obtain ⟨d0, d1⟩ := HC.out w6 OC.out
    go_wp2_with fail
    go_at_call 15
    refine (HR2.out w6 O6.out).mono ?_
    rintro e w7 ⟨v1, rfl, h1, o⟩
    have F3 := Lib.hid (ints17 R3.out h1 o)
    have Z3 := Lib.hid (Only.refl nob w7)
    obtain ⟨B3, m3, rfl, -, -⟩ := h1.form
    clear h1
    have O7 := Lib.hid (O6.out.trans o)
    have Z1 := Lib.hid (Z1.out.trans o)
    have Z2 := Lib.hid (Z2.out.trans o)
    have OC := Lib.hid (OC.out.trans o)
    clear o d0 d1
    obtain ⟨d0, d1⟩ := HC.out w7 OC.out
    go_wp2_with fail
    go_at_call 16
    refine (HL1.out w7 O7.out).mono ?_
    rintro e w8 ⟨rfl, o⟩
    have O8 := Lib.hid (O7.out.trans o)
    have Z1 := Lib.hid (Z1.out.trans o)
    have Z2 := Lib.hid (Z2.out.trans o)
    have Z3 := Lib.hid (Z3.out.trans o)
    have OC := Lib.hid (OC.out.trans o)
    clear o d0 d1
    obtain ⟨d0, d1⟩ := HC.out w8 OC.out
    go_wp2_with fail
    go_at_call 17
    refine (HL2.out w8 O8.out).mono ?_
    rintro e w9a ⟨rfl, o⟩
    have O9a := Lib.hid (O8.out.trans o)
    have Z1 := Lib.hid (Z1.out.trans o)
    have Z2 := Lib.hid (Z2.out.trans o)
    have Z3 := Lib.hid (Z3.out.trans o)
    have OC := Lib.hid (OC.out.trans o)
    clear o d0 d1
    obtain ⟨d0, d1⟩ := HC.out w9a OC.out
    clear d0 d1
    go_wp2_with fail
    go_at_call 10
    refine (F1.out w9a Z1.out).mono ?_
    rintro e wa ⟨rfl, o⟩
    have Oa := Lib.hid (O9a.out.trans o)
    have Z1 := Lib.hid (Z1.out.trans o)
    have Z2 := Lib.hid (Z2.out.trans o)
    have Z3 := Lib.hid (Z3.out.trans o)
    clear o
    go_wp2_with fail
    go_at_call 10
    refine (F2.out wa Z2.out).mono ?_
    rintro e wb ⟨rfl, o⟩
    have Ob := Lib.hid (Oa.out.trans o)
    have Z1 := Lib.hid (Z1.out.trans o)
    have Z2 := Lib.hid (Z2.out.trans o)
    have Z3 := Lib.hid (Z3.out.trans o)
    clear o
    go_wp2_with fail
    go_at_call 10
    refine (F3.out wb Z3.out).mono ?_
    rintro e wc ⟨rfl, o⟩
    have Oc := Lib.hid (Ob.out.trans o)
    have Z1 := Lib.hid (Z1.out.trans o)
    have Z2 := Lib.hid (Z2.out.trans o)
    have Z3 := Lib.hid (Z3.out.trans o)
    clear o
    go_wp2_with fail
    go_at_call 7
    refine (awake17 _).mono ?_
    rintro e w9 ⟨rfl, o9⟩
    have O9 := Lib.hid (Oc.out.trans o9)
    clear o9
    go_wp2
    go_ret
    exact ⟨rfl, O9.out⟩
end Go.Proofs.Ytkjdnccnfnhkoaa
