/- The walk of SpanTells, out of the contracts of package span. -/
import Derived.Test.YtkakimbklhmbcaaSpanSaid
import Derived.Deep.RegionHeld3
import Derived.Deep.DeepCutAuto
namespace Go.Proofs.Ytkakimbklhmbcaa
open Go.RowKit

def AwSaid : Prop := ∀ w : World, Calls Try.prog 15 #[] w fun e w' => e = .returned (.bool true) ∧ Only nob w w'

structure TwoC (w : World) (b c : Nat) (x y : Sp) : Prop where
  x0 : w.cell? ⟨b, 0, none⟩ = some (.int .i64 x.1)
  x1 : w.cell? ⟨b, 1, none⟩ = some (.int .i64 x.2)
  y0 : w.cell? ⟨c, 0, none⟩ = some (.int .i64 y.1)
  y1 : w.cell? ⟨c, 1, none⟩ = some (.int .i64 y.2)
theorem TwoC.keep {w w' : World} {b c : Nat} {x y : Sp} (h : TwoC w b c x y) (ho : Only nob w w') : TwoC w' b c x y := ⟨ho.keeps h.x0, ho.keeps h.x1, ho.keeps h.y0, ho.keeps h.y1⟩
theorem TwoC.all {w : World} {b c : Nat} {x y : Sp} (h : TwoC w b c x y) : w.cell? ⟨b, 0, none⟩ = some (.int .i64 x.1) ∧ w.cell? ⟨b, 1, none⟩ = some (.int .i64 x.2) ∧ w.cell? ⟨c, 0, none⟩ = some (.int .i64 y.1) ∧ w.cell? ⟨c, 1, none⟩ = some (.int .i64 y.2) := ⟨h.x0, h.x1, h.y0, h.y1⟩

set_option maxRecDepth 100000 in
set_option maxHeartbeats 8000000 in
theorem spanTells_walk (hM : SpMay) (hH : SpHas) (hMe : SpMeets) (hWi : SpWithin) (hAw : AwSaid) (x y : Sp) (hx : Fit x) (hy : Fit y) (p : Int) (hp : -9223372036854775808 ≤ p) (hp' : p ≤ 9223372036854775807) (w : World) :
    Calls Try.prog 3 #[.agg #[.int .i64 x.1, .int .i64 x.2], .agg #[.int .i64 y.1, .int .i64 y.2], .int .i64 p] w fun e w' => e = .returned (.bool true) ∧ Below w.heap.size w w' := by
  have A1 : ∀ w, Calls Try.prog 7 #[.agg #[.int .i64 x.1, .int .i64 x.2]] w fun e w' => e = .returned (.bool (decide x.ok)) ∧ Only nob w w' := hM x hx
  have A2 : ∀ w, Calls Try.prog 8 #[.agg #[.int .i64 x.1, .int .i64 x.2]] w fun e w' => e = .returned (.bool (decide x.ok)) ∧ Only nob w w' := refMay_any x
  have B1 : ∀ w, Calls Try.prog 9 #[.agg #[.int .i64 x.1, .int .i64 x.2], .int .i64 p] w fun e w' => e = .returned (.bool (decide (x.has p))) ∧ Only nob w w' := fun w => hH x p w hx hp hp'
  have B2 : ∀ w, Calls Try.prog 10 #[.agg #[.int .i64 x.1, .int .i64 x.2], .int .i64 p] w fun e w' => e = .returned (.bool (decide (x.has p))) ∧ Only nob w w' := refHas_any x p
  have C1 : ∀ w, Calls Try.prog 11 #[.agg #[.int .i64 x.1, .int .i64 x.2], .agg #[.int .i64 y.1, .int .i64 y.2]] w fun e w' => e = .returned (.bool (decide (Sp.meets x y))) ∧ Only nob w w' := hMe x y hx hy
  have C2 : ∀ w, Calls Try.prog 12 #[.agg #[.int .i64 x.1, .int .i64 x.2], .agg #[.int .i64 y.1, .int .i64 y.2]] w fun e w' => e = .returned (.bool (decide (Sp.meets x y))) ∧ Only nob w w' := refMeets_any x y
  have D1 : ∀ w, Calls Try.prog 13 #[.agg #[.int .i64 x.1, .int .i64 x.2], .agg #[.int .i64 y.1, .int .i64 y.2]] w fun e w' => e = .returned (.bool (decide (Sp.within x y))) ∧ Only nob w w' := hWi x y hx hy
  have D2 : ∀ w, Calls Try.prog 14 #[.agg #[.int .i64 x.1, .int .i64 x.2], .agg #[.int .i64 y.1, .int .i64 y.2]] w fun e w' => e = .returned (.bool (decide (Sp.within x y))) ∧ Only nob w w' := refWithin_any x y
  generalize decide x.ok = b1 at *
  generalize decide (x.has p) = b2 at *
  generalize decide (Sp.meets x y) = b3 at *
  generalize decide (Sp.within x y) = b4 at *
  replace A1 := Lib.hid A1
  replace A2 := Lib.hid A2
  replace B1 := Lib.hid B1
  replace B2 := Lib.hid B2
  replace C1 := Lib.hid C1
  replace C2 := Lib.hid C2
  replace D1 := Lib.hid D1
  replace D2 := Lib.hid D2
  have o0 := ((Only.refl nob w).alloc (.cells #[.int .i64 x.1, .int .i64 x.2] 23)).alloc (.cells #[.int .i64 y.1, .int .i64 y.2] 23)
  have hbx := (Blk.new w 23 #[.int .i64 x.1, .int .i64 x.2]).alloc (.cells #[.int .i64 y.1, .int .i64 y.2] 23)
  have hby : Blk ((w.alloc (.cells #[.int .i64 x.1, .int .i64 x.2] 23)).alloc (.cells #[.int .i64 y.1, .int .i64 y.2] 23)) (w.heap.size + 1) 23 #[.int .i64 y.1, .int .i64 y.2] := Blk.newAt _ _ _ _ (by simp)
  have x0 := hbx.cell 0
  have x1 := hbx.cell 1
  have y0 := hby.cell 0
  have y1 := hby.cell 1
  obtain ⟨wz, hwz⟩ : ∃ wz, wz = (w.alloc (.cells #[.int .i64 x.1, .int .i64 x.2] 23)).alloc (.cells #[.int .i64 y.1, .int .i64 y.2] 23) := ⟨_, rfl⟩
  rw [← hwz] at o0 x0 x1 y0 y1
  have HC := Lib.hid (TwoC.mk (b := w.heap.size) (c := w.heap.size + 1) (x := x) (y := y) (by simpa using x0) (by simpa using x1) (by simpa using y0) (by simpa using y1))
  have HO := Lib.hid o0
  have HWZ := Lib.hid hwz
  clear hbx hby x0 x1 y0 y1 o0 hwz
  go_enter Try.func3, Try.ntmps3
  go_upto_region 1 with fail
  rw [← HWZ.out]
  obtain ⟨x0, x1, y0, y1⟩ := HC.out
  go_region_held3 (fun w' => w'.cell? ⟨w.heap.size, 0, none⟩ = some (.int .i64 x.1) ∧ w'.cell? ⟨w.heap.size, 1, none⟩ = some (.int .i64 x.2) ∧ w'.cell? ⟨w.heap.size + 1, 0, none⟩ = some (.int .i64 y.1) ∧ w'.cell? ⟨w.heap.size + 1, 1, none⟩ = some (.int .i64 y.2))
    (first | go_keep | exact HC1.out.all | exact HC2.out.all | exact HC3.out.all | exact HC4.out.all | exact HC5.out.all | exact HC6.out.all | exact HC7.out.all | exact HC8.out.all | exact HC9.out.all)
    (first
      | (go_at_call 7; refine (A1.out _).mono ?_; rintro e w1 ⟨rfl, o⟩; have HC1 := Lib.hid (HC.out.keep o.drewL); have HO1 := Lib.hid (HO.out.trans o.drewL); clear o)
      | (go_at_call 8; refine (A2.out _).mono ?_; rintro e w2 ⟨rfl, o⟩; have HC2 := Lib.hid (HC1.out.keep o); have HO2 := Lib.hid (HO1.out.trans o); clear o)
      | (go_at_call 9; refine (B1.out _).mono ?_; rintro e w3 ⟨rfl, o⟩; have HC3 := Lib.hid (HC2.out.keep o); have HO3 := Lib.hid (HO2.out.trans o); clear o)
      | (go_at_call 10; refine (B2.out _).mono ?_; rintro e w4 ⟨rfl, o⟩; have HC4 := Lib.hid (HC3.out.keep o); have HO4 := Lib.hid (HO3.out.trans o); clear o)
      | (go_at_call 11; refine (C1.out _).mono ?_; rintro e w5 ⟨rfl, o⟩; have HC5 := Lib.hid (HC4.out.keep o); have HO5 := Lib.hid (HO4.out.trans o); clear o)
      | (go_at_call 12; refine (C2.out _).mono ?_; rintro e w6 ⟨rfl, o⟩; have HC6 := Lib.hid (HC5.out.keep o); have HO6 := Lib.hid (HO5.out.trans o); clear o)
      | (go_at_call 13; refine (D1.out _).mono ?_; rintro e w7 ⟨rfl, o⟩; have HC7 := Lib.hid (HC6.out.keep o); have HO7 := Lib.hid (HO6.out.trans o); clear o)
      | (go_at_call 14; refine (D2.out _).mono ?_; rintro e w8 ⟨rfl, o⟩; have HC8 := Lib.hid (HC7.out.keep o); have HO8 := Lib.hid (HO7.out.trans o); clear o)
      | (go_at_call 15; refine (hAw _).mono ?_; rintro e w9 ⟨rfl, o⟩; have HC9 := Lib.hid (HC8.out.keep o); have HO9 := Lib.hid (HO8.out.trans o); clear o))
  go_wp2_with fail
  go_ret
  exact ⟨rfl, HO9.out.whole⟩
end Go.Proofs.Ytkakimbklhmbcaa
