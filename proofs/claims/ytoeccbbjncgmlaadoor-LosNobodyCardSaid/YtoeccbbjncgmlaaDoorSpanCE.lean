/- Contracts: cmp.Compare, cmp.Or, and span's order, as the library's sort asks it. -/
import Derived.Test.YtoeccbbjncgmlaaDoorSpanAB
import Derived.Test.YtoeccbbjncgmlaaDoorSymMath
import Derived.Deep.RegionHeld3
import Derived.Deep.DeepCutAuto
import Derived.Shelf.SlSortCmp.KitK
import Derived.Shelf.RegionOpenPlain
import Derived.BigRegion
namespace Go.Proofs.YtoeccbbjncgmlaaDoor
set_option maxRecDepth 100000
open Go.RowKit Go.Sort

def cmpI (a b : Int) : Int := if a < b then -1 else if b < a then 1 else 0
theorem cmpI_lt {a b : Int} (h : a < b) : cmpI a b = -1 := by unfold cmpI; rw [if_pos h]
theorem cmpI_gt {a b : Int} (h : b < a) : cmpI a b = 1 := by unfold cmpI; rw [if_neg (by omega), if_pos h]
theorem cmpI_eq {a b : Int} (h1 : ¬ a < b) (h2 : ¬ b < a) : cmpI a b = 0 := by unfold cmpI; rw [if_neg h1, if_neg h2]

theorem isNaN_any (a : Int) (w : World) : Calls Tryd.prog 78 #[.int .i64 a] w fun e w' => e = .returned (.bool false) ∧ w = w' := by
  go_enter Tryd.func78, Tryd.ntmps78
  go_wp2
  go_ret
  exact ⟨rfl, rfl⟩
set_option maxHeartbeats 1000000 in
theorem compare_any (a b : Int) (w : World) : Calls Tryd.prog 63 #[.int .i64 a, .int .i64 b] w fun e w' => e = .returned (.int .i64 (cmpI a b)) ∧ w = w' := by
  by_cases h1 : a < b
  · rw [cmpI_lt h1]
    go_enter Tryd.func63, Tryd.ntmps63
    go_wp2_with (go_at_call 78; refine (isNaN_any _ _).mono ?_; rintro e w' ⟨rfl, rfl⟩)
    go_ret
    exact ⟨rfl, rfl⟩
  · by_cases h2 : b < a
    · rw [cmpI_gt h2]
      go_enter Tryd.func63, Tryd.ntmps63
      go_wp2_with (go_at_call 78; refine (isNaN_any _ _).mono ?_; rintro e w' ⟨rfl, rfl⟩)
      go_ret
      exact ⟨rfl, rfl⟩
    · rw [cmpI_eq h1 h2]
      go_enter Tryd.func63, Tryd.ntmps63
      go_wp2_with (go_at_call 78; refine (isNaN_any _ _).mono ?_; rintro e w' ⟨rfl, rfl⟩)
      go_ret
      exact ⟨rfl, rfl⟩

def orI (a b : Int) : Int := if a = 0 then b else a
set_option maxHeartbeats 1000000 in
theorem or_any (g : Nat) (a b : Int) (w : World) (h0 : w.cell? ⟨g, 0, none⟩ = some (.int .i64 a)) (h1 : w.cell? ⟨g, 1, none⟩ = some (.int .i64 b)) :
    Calls Tryd.prog 86 #[.slice (some ⟨g, 0, none⟩) 2 2] w fun e w' => e = .returned (.int .i64 (orI a b)) ∧ w = w' := by
  obtain ⟨r, hr⟩ : ∃ r, orI a b = r := ⟨_, rfl⟩
  rw [hr]
  have HR := Lib.hid hr
  clear hr
  go_enter Tryd.func86, Tryd.ntmps86
  go_wp2
  go_loop [8] (fun i => ∃ k : Nat, i = .int .i64 k ∧ k ≤ 2 ∧ (1 ≤ k → a = 0) ∧ (2 ≤ k → b = 0)) (fun i => 2 - (intOf i).toNat)
  case atStart => exact ⟨0, rfl, by omega, by omega, by omega⟩
  case round =>
    obtain ⟨k, rfl, hk, ka, kb⟩ := hrel
    have ways : k = 0 ∨ k = 1 ∨ k = 2 := by omega
    rcases ways with rfl | rfl | rfl
    · clear ka kb
      by_cases ha : a = 0
      · have HA := Lib.hid ha
        clear ha
        obtain rfl : a = 0 := HA.out
        go_wp2
        go_round
        case rel => exact ⟨1, by go_num, by omega, fun _ => by simp, by omega⟩
        case measure => simp [intOf]
      · go_wp2
        go_ret
        exact ⟨ret_int (by rw [← HR.out]; unfold orI; rw [if_neg ha]), rfl⟩
    · obtain rfl : a = 0 := ka (by omega)
      clear ka kb
      by_cases hb : b = 0
      · obtain rfl : b = 0 := hb
        go_wp2
        go_round
        case rel => exact ⟨2, by go_num, by omega, fun _ => by simp, fun _ => by simp⟩
        case measure => simp [intOf]
      · go_wp2
        go_ret
        exact ⟨ret_int (by rw [← HR.out]; unfold orI; rw [if_pos rfl]), rfl⟩
    · obtain rfl : a = 0 := ka (by omega)
      obtain rfl : b = 0 := kb (by omega)
      clear ka kb
      go_wp2
      go_ret
      exact ⟨ret_int (by rw [← HR.out]; rfl), rfl⟩

theorem or_c0 (W : World) (a b : Int) : (World.drew (W.alloc (.cells #[.int .i64 a, .int .i64 b] 3))).cell? ⟨W.heap.size, 0, none⟩ = some (.int .i64 a) := (Blk.new W 3 #[.int .i64 a, .int .i64 b]).cell 0
theorem or_c1 (W : World) (a b : Int) : (World.drew (W.alloc (.cells #[.int .i64 a, .int .i64 b] 3))).cell? ⟨W.heap.size, 1, none⟩ = some (.int .i64 b) := (Blk.new W 3 #[.int .i64 a, .int .i64 b]).cell 1
/-- What order tells. -/
def ordI (x y : Sp) : Int := orI (cmpI x.1 y.1) (cmpI x.2 y.2)
theorem ordI_lt {x y : Sp} : ordI x y < 0 ↔ Sp.lt x y := by
  unfold ordI orI cmpI Sp.lt
  repeat' split
  all_goals omega

set_option maxHeartbeats 2000000 in
theorem order_any (x y : Sp) (w : World) : Calls Tryd.prog 80 #[.agg #[.int .i64 x.1, .int .i64 x.2], .agg #[.int .i64 y.1, .int .i64 y.2]] w fun e w' => e = .returned (.int .i64 (ordI x y)) ∧ Grw w w' := by
  obtain ⟨W, hW, HW⟩ := two_boxes w x y
  have HWE := Lib.hid hW
  clear hW
  go_enter Tryd.func80, Tryd.ntmps80
  go_wp2_with fail
  rw [HWE.out]
  obtain ⟨c0, c1⟩ := HW.out.2.1
  obtain ⟨d0, d1⟩ := HW.out.2.2
  go_region_held3 (fun w' => w'.cell? ⟨w.heap.size, 0, none⟩ = some (.int .i64 x.1) ∧ w'.cell? ⟨w.heap.size, 1, none⟩ = some (.int .i64 x.2) ∧ w'.cell? ⟨w.heap.size + 1, 0, none⟩ = some (.int .i64 y.1) ∧ w'.cell? ⟨w.heap.size + 1, 1, none⟩ = some (.int .i64 y.2))
    (first | go_keep)
    (first
      | (go_at_call 63; refine (compare_any _ _ _).mono ?_; rintro e w' ⟨rfl, rfl⟩)
      | (go_at_call 86; (with_reducible refine (or_any _ _ _ _ (or_c0 W _ _) (or_c1 W _ _)).mono ?_); rintro e w' ⟨rfl, rfl⟩))
  go_wp2
  go_ret
  exact ⟨rfl, grw_trans HW.out.1 (grw_trans (grw_drewN _ 1) (grw_alloc _ _))⟩
end Go.Proofs.YtoeccbbjncgmlaaDoor

/- Contracts: the library's swaps of ranges and rotations, over a row of spans. -/
namespace Go.Proofs.YtoeccbbjncgmlaaDoor
set_option maxRecDepth 100000
open Go.RowKit Go.Sort

def enc (x : Sp) : List Value := [.int .i64 x.1, .int .i64 x.2]
theorem enc_len (x : Sp) : (enc x).length = 2 := rfl
theorem enc_one (x : Sp) : ∀ v ∈ enc x, v.oneCell' = true := by
  intro v hv
  unfold enc at hv
  rcases List.mem_cons.1 hv with rfl | hv
  · rfl
  · rcases List.mem_cons.1 hv with rfl | hv
    · rfl
    · cases hv
/-- The row d lies in block g from o on, in world W, which has come from w: only that row has turned. -/
abbrev Sw (w : World) (g o : Nat) (d : Array Sp) (W : World) : Prop := SWK enc 2 w g o d W
/-- Element i of the row. -/
structure Cell2 (W : World) (g o i : Nat) (x : Sp) : Prop where
  c0 : W.cell? ⟨g, o + i * 2, none⟩ = some (.int .i64 x.1)
  c1 : W.cell? ⟨g, o + i * 2 + 1, none⟩ = some (.int .i64 x.2)
  f0 : W.frozen? ⟨g, o + i * 2, none⟩ = false
  f1 : W.frozen? ⟨g, o + i * 2 + 1, none⟩ = false
theorem cell2 {W : World} {g o i : Nat} {d : Array Sp} (h : HoldsK enc 2 W g o d) (hi : i < d.size) : Cell2 W g o i d[i]! := by
  have h0 := HoldsK.cell h (i := i) (c := 0) hi (by omega)
  have h1 := HoldsK.cell h (i := i) (c := 1) hi (by omega)
  exact ⟨h0.1, h1.1, h0.2, h1.2⟩

theorem sw_trans {w W W' : World} {g o : Nat} {d e : Array Sp} (h : Sw w g o d W) (hg : g < w.heap.size) (k : Sw W g o e W') (hs : e.size = d.size) : Sw w g o e W' := by
  obtain ⟨n, os, rfl⟩ := k
  exact SWK.on h hg n e os hs
theorem swapped2 {w W : World} {g o i j : Nat} {d : Array Sp} {x y : Sp} (h : Sw w g o d (World.drew ((W.setCells g (o + i * 2) (enc y)).setCells g (o + j * 2) (enc x)))) :
    Sw w g o d (World.drew ((((W.setCell ⟨g, o + i * 2, none⟩ (.int .i64 y.1)).setCell ⟨g, o + i * 2 + 1, none⟩ (.int .i64 y.2)).setCell ⟨g, o + j * 2, none⟩ (.int .i64 x.1)).setCell ⟨g, o + j * 2 + 1, none⟩ (.int .i64 x.2))) := h

set_option maxHeartbeats 4000000 in
theorem swapRange_any (F : Value) (g o cap lo hi a b n N : Nat) (d : Array Sp) (hN : d.size = N) (w : World) (hH : HoldsK enc 2 w g o d) (hg : g < w.heap.size) (hsz : d.size < 1099511627776) (h1 : lo ≤ a) (h2 : a + n ≤ b) (h3 : b + n ≤ hi) (h4 : hi ≤ d.size) :
    Calls Tryd.prog 91 #[.slice (some ⟨g, o, none⟩) N cap, .int .i64 a, .int .i64 b, .int .i64 n, F] w fun e w' => e = .returned (.tuple #[]) ∧ ∃ d', Sw w g o d' w' ∧ Swr d d' lo hi a b n := by
  subst hN
  have HH := Lib.hid hH
  have S0 := Lib.hid (show Sw w g o d w from SWK.start hH)
  have HZ := Lib.hid (Swr.start d lo hi a b)
  clear hH
  go_enter Tryd.func91, Tryd.ntmps91
  go_wp2
  go_loopw [10] (fun i wr => ∃ (k : Nat) (e : Array Sp), k ≤ n ∧ i = .int .i64 k ∧ Hid (Sw w g o e wr) ∧ Hid (Swr d e lo hi a b k)) (fun i _ => n - (intOf i).toNat)
  case atStart => exact ⟨0, d, by omega, by go_num, S0, HZ⟩
  case round =>
    clear S0 HZ
    obtain ⟨k, e, hk, rfl, S1, R1⟩ := hrel
    by_cases hlt : k < n
    · have hlz : (k : Int) < (n : Int) := by omega
      have es : e.size = d.size := R1.out.perm.1
      have HW := S1.out.holds hg HH.out es
      obtain ⟨x0, x1, fx0, fx1⟩ := cell2 HW (i := a + k) (by omega)
      obtain ⟨y0, y1, fy0, fy1⟩ := cell2 HW (i := b + k) (by omega)
      have S2 := (S1.out.swap enc_len hg (a + k) (b + k) (by omega) (by omega)).drew
      have R2 := Lib.hid (R1.out.next (by omega) (by omega) (by omega) (by omega))
      obtain ⟨x, hx⟩ : ∃ x, x = e[a + k]! := ⟨_, rfl⟩
      obtain ⟨y, hy⟩ : ∃ y, y = e[b + k]! := ⟨_, rfl⟩
      rw [← hx] at x0 x1 S2
      rw [← hy] at y0 y1 S2
      have S2 := Lib.hid (swapped2 S2)
      clear hx hy HW
      have wa : IntKind.i64.wrap ((a : Int) + k) = (a : Int) + k := by rw [IntKind.wrap_i64]; omega
      have wb : IntKind.i64.wrap ((b : Int) + k) = (b : Int) + k := by rw [IntKind.wrap_i64]; omega
      have ta : ((a : Int) + k).toNat = a + k := by omega
      have tb : ((b : Int) + k).toNat = b + k := by omega
      have pa : (0 : Int) ≤ (a : Int) + k := by omega
      have pb : (0 : Int) ≤ (b : Int) + k := by omega
      have la : (a : Int) + k < (d.size : Int) := by omega
      have lb : (b : Int) + k < (d.size : Int) := by omega
      have mixed := mixed_
      go_wp2_with fail
      go_big_region_o
      go_wp2
      go_roundw
      case rel => exact ⟨k + 1, _, by omega, by go_num, S2, R2⟩
      case measure => simp [intOf]; omega
    · obtain rfl : k = n := by omega
      go_wp2
      go_end0
      exact ⟨rfl, e, S1.out, R1.out⟩

set_option maxHeartbeats 4000000 in
theorem rotate_any (F : Value) (g o cap a m b N : Nat) (d : Array Sp) (hN : d.size = N) (w : World) (hH : HoldsK enc 2 w g o d) (hg : g < w.heap.size) (hsz : d.size < 1099511627776) (h1 : a < m) (h2 : m < b) (h3 : b ≤ d.size) :
    Calls Tryd.prog 90 #[.slice (some ⟨g, o, none⟩) N cap, .int .i64 a, .int .i64 m, .int .i64 b, F] w fun e w' => e = .returned (.tuple #[]) ∧ ∃ d', Sw w g o d' w' ∧ Rotd d d' a m b := by
  subst hN
  have HH := Lib.hid hH
  have S0 := Lib.hid (show Sw w g o d w from SWK.start hH)
  have HZ := Lib.hid (Rot.start d a m b (by omega) (by omega))
  have e1 : ((m : Int) - a) = ((m - a : Nat) : Int) := by omega
  have e2 : ((b : Int) - m) = ((b - m : Nat) : Int) := by omega
  have E1 := Lib.hid e1
  have E2 := Lib.hid e2
  clear hH e1 e2
  go_enter Tryd.func90, Tryd.ntmps90
  go_wp2
  go_loopw [10, 11] (fun i j wr => ∃ (p q : Nat) (e : Array Sp), i = .int .i64 p ∧ j = .int .i64 q ∧ 1 ≤ p ∧ 1 ≤ q ∧ p ≤ m ∧ m + q ≤ b ∧ a ≤ m - p ∧ p + q ≤ b - a ∧ Hid (Sw w g o e wr) ∧ Hid (Rot d e a m b p q)) (fun i j _ => (intOf i).toNat + (intOf j).toNat)
  case atStart => exact ⟨m - a, b - m, d, by rw [E1.out], by rw [E2.out], by omega, by omega, by omega, by omega, by omega, by omega, S0, HZ⟩
  case round =>
    clear S0 HZ E1 E2
    obtain ⟨p, q, e, rfl, rfl, p1, q1, b1, b2, b3, b4, S1, R1⟩ := hrel
    have ES := Lib.hid (show e.size = d.size from R1.out.perm.1)
    have HW := Lib.hid (S1.out.holds hg HH.out ES.out)
    have hgr : g < wr.heap.size := S1.out.lt hg
    have hse : e.size < 1099511627776 := by rw [ES.out]; exact hsz
    have hbe : b ≤ e.size := by rw [ES.out]; exact h3
    have ways : p = q ∨ q < p ∨ p < q := by omega
    rcases ways with rfl | hlt | hlt
    · go_wp2_with fail
      rw [show (m : Int) - (p : Int) = ((m - p : Nat) : Int) by omega]
      go_at_call 91
      refine (swapRange_any F g o cap a b (m - p) m p _ e ES.out _ HW.out hgr hse (by omega) (by omega) (by omega) hbe).mono ?_
      rintro e1 w1 ⟨rfl, f, S2, R2⟩
      have S3 := Lib.hid (sw_trans S1.out hg S2 (R2.perm.1.trans rfl))
      have R3 := Lib.hid (R1.out.last b1 R2)
      clear S2 R2
      go_wp2
      go_end0
      exact ⟨rfl, f, S3.out, R3.out⟩
    · have hltz : (q : Int) < (p : Int) := by omega
      have hne : ¬ p = q := by omega
      go_wp2_with fail
      rw [show (m : Int) - (p : Int) = ((m - p : Nat) : Int) by omega]
      go_at_call 91
      refine (swapRange_any F g o cap a b (m - p) m q _ e ES.out _ HW.out hgr hse (by omega) (by omega) (by omega) hbe).mono ?_
      rintro e1 w1 ⟨rfl, f, S2, R2⟩
      have S3 := Lib.hid (sw_trans S1.out hg S2 (R2.perm.1.trans rfl))
      have R3 := Lib.hid (R1.out.left hlt b1 R2)
      have E3 := Lib.hid (show (p : Int) - (q : Int) = ((p - q : Nat) : Int) by omega)
      clear S2 R2
      go_wp2
      go_roundw
      case rel => exact ⟨p - q, q, f, by rw [E3.out], rfl, by omega, by omega, by omega, by omega, by omega, by omega, S3, R3⟩
      case measure => simp [intOf]; omega
    · have hltz : (p : Int) < (q : Int) := by omega
      have hne : ¬ p = q := by omega
      have hng : ¬ (q : Int) < (p : Int) := by omega
      go_wp2_with fail
      rw [show (m : Int) - (p : Int) = ((m - p : Nat) : Int) by omega, show (m : Int) + (q : Int) - (p : Int) = ((m + q - p : Nat) : Int) by omega]
      go_at_call 91
      refine (swapRange_any F g o cap a b (m - p) (m + q - p) p _ e ES.out _ HW.out hgr hse (by omega) (by omega) (by omega) hbe).mono ?_
      rintro e1 w1 ⟨rfl, f, S2, R2⟩
      have S3 := Lib.hid (sw_trans S1.out hg S2 (R2.perm.1.trans rfl))
      have R3 := Lib.hid (R1.out.right hlt b1 R2)
      have E3 := Lib.hid (show (q : Int) - (p : Int) = ((q - p : Nat) : Int) by omega)
      clear S2 R2
      go_wp2
      go_roundw
      case rel => exact ⟨p, q - p, f, rfl, by rw [E3.out], by omega, by omega, by omega, by omega, by omega, by omega, S3, R3⟩
      case measure => simp [intOf]; omega
end Go.Proofs.YtoeccbbjncgmlaaDoor

/- Contract: the library's insertion sort, over a row of spans. -/
namespace Go.Proofs.YtoeccbbjncgmlaaDoor
set_option maxRecDepth 100000
open Go.RowKit Go.Sort

def ltO (x y : Sp) : Bool := ltOf ordI x y
theorem ltO_iff {x y : Sp} : ltO x y = true ↔ Sp.lt x y := by unfold ltO ltOf; rw [decide_eq_true_iff, ordI_lt]
theorem ltO_not {x y : Sp} : ltO x y = false ↔ Sp.le y x := by
  rw [← Sp.not_lt, ← ltO_iff]
  cases ltO x y <;> simp
theorem swo : SWO ltO where
  irrefl x := ltO_not.2 (by unfold Sp.le; omega)
  trans x y z h1 h2 := ltO_iff.2 (by have := ltO_iff.1 h1; have := ltO_iff.1 h2; unfold Sp.lt at *; omega)
  ntrans x y z h1 h2 := ltO_not.2 (by have := ltO_not.1 h1; have := ltO_not.1 h2; unfold Sp.le at *; omega)
/-- order, as a value. -/
abbrev ordV : Value := .func (.func 80) #[] #[]

theorem sw_grw {w W W' : World} {g o : Nat} {d : Array Sp} (h : Sw w g o d W) (k : Grw W W') : Sw w g o d W' := by
  obtain ⟨n, os, rfl⟩ := k
  exact SWK.grown h n os
theorem Cell2.all {W : World} {g o i : Nat} {x : Sp} (h : Cell2 W g o i x) :
    (∀ n os, (grow (W.drewN n) os).cell? ⟨g, o + i * 2, none⟩ = some (.int .i64 x.1)) ∧ (∀ n os, (grow (W.drewN n) os).cell? ⟨g, o + i * 2 + 1, none⟩ = some (.int .i64 x.2)) :=
  ⟨fun n os => (grw_grow n os).only.keeps h.c0, fun n os => (grw_grow n os).only.keeps h.c1⟩

set_option maxHeartbeats 8000000 in
theorem insertion_any (g o cap a b N : Nat) (d : Array Sp) (hN : d.size = N) (w : World) (hH : HoldsK enc 2 w g o d) (hg : g < w.heap.size) (hsz : d.size < 1099511627776) (hab : a ≤ b) (hb : b ≤ d.size) :
    Calls Tryd.prog 88 #[.slice (some ⟨g, o, none⟩) N cap, .int .i64 a, .int .i64 b, ordV] w fun e w' => e = .returned (.tuple #[]) ∧ ∃ d', Sw w g o d' w' ∧ PermIn a b d d' ∧ SortedIn ltO a b d' := by
  subst hN
  have HH := Lib.hid hH
  have S0 := Lib.hid (show Sw w g o d w from SWK.start hH)
  have HEND := Lib.hid (insertionSort_holds (lt := ltO) swo d a b hab hb)
  clear hH
  go_enter Tryd.func88, Tryd.ntmps88
  go_wp2
  go_loopw [8] (fun vi wr => ∃ (i : Nat) (dk : Array Sp), vi = .int .i64 i ∧ a < i ∧ i ≤ b + 1 ∧ Hid (dk.size = d.size) ∧ Hid (Sw w g o dk wr) ∧ Hid (insOuter ltO a b i dk = insOuter ltO a b (a + 1) d)) (fun vi _ => b + 1 - (intOf vi).toNat)
  case atStart => exact ⟨a + 1, d, by go_num, by omega, by omega, rfl, S0, rfl⟩
  case round =>
    clear S0
    obtain ⟨i, dk, rfl, hai, hib, hsk, S1, HO⟩ := hrel
    by_cases hlt : i < b
    · have hltz : (i : Int) < (b : Int) := by omega
      obtain ⟨wo, rfl⟩ : ∃ wo : World, wo = wr := ⟨_, rfl⟩
      go_wp2
      go_loopw [9] (fun vj wr2 => ∃ (j : Nat) (dj : Array Sp), vj = .int .i64 j ∧ a ≤ j ∧ j ≤ i ∧ Hid (dj.size = d.size) ∧ Hid (Sw w g o dj wr2) ∧ Hid (insInner ltO a j dj = insInner ltO a i dk)) (fun vj _ => (intOf vj).toNat)
      case atStart => exact ⟨i, dk, rfl, by omega, Nat.le_refl _, hsk, S1, rfl⟩
      case round =>
        clear S1
        obtain ⟨j, dj, rfl, haj, hji, hsj, S2, HI⟩ := hrel
        have out : (j ≤ a ∨ ltO dj[j]! dj[j - 1]! = false) → Hid (insOuter ltO a b (i + 1) dj = insOuter ltO a b (a + 1) d) := fun hs => by
          show _ = _
          rw [← HO.out, Go.Proofs.insOuter_go _ _ _ _ _ hlt, ← HI.out, Go.Proofs.insInner_stop _ _ _ _ hs]
        have OUT : Aside _ := out
        clear out
        by_cases hja : a < j
        · have hjaz : (a : Int) < (j : Int) := by omega
          obtain ⟨jp, rfl⟩ : ∃ jp, j = jp + 1 := ⟨j - 1, by omega⟩
          have HW := S2.out.holds hg HH.out hsj.out
          have hszj := hsj.out
          have xall := (cell2 HW (i := jp + 1) (by omega)).all
          have yall := (cell2 HW (i := jp) (by omega)).all
          clear HW
          obtain ⟨x, hx⟩ : ∃ x, x = dj[jp + 1]! := ⟨_, rfl⟩
          obtain ⟨y, hy⟩ : ∃ y, y = dj[jp]! := ⟨_, rfl⟩
          rw [← hx] at xall
          rw [← hy] at yall
          have HX := Lib.hid hx
          have HY := Lib.hid hy
          obtain ⟨x0, x1⟩ := xall
          obtain ⟨y0, y1⟩ := yall
          have jz : (jp : Int) + 1 < (d.size : Int) := by omega
          have jz1 : (jp : Int) < (d.size : Int) := by omega
          have hjaz' : (a : Int) < (jp : Int) + 1 := by omega
          have p0 : (0 : Int) ≤ (jp : Int) + 1 := by omega
          have e0 : ((jp : Int) + 1).toNat = jp + 1 := by omega
          have hwp : IntKind.i64.wrap (jp : Int) = (jp : Int) := by rw [IntKind.wrap_i64]; omega
          have mixed := mixed_
          clear hx hy hszj
          by_cases hlv : ordI x y < 0
          · go_wp2_with fail
            go_quiet_grown (first | (go_at_call 80; with_reducible refine grw_of (order_any _ _ _)))
            obtain ⟨W3, hW3, HG⟩ := grown_name wr nq osq
            rw [hW3]
            clear hW3 x0 x1 y0 y1
            have S3 := Lib.hid (sw_grw S2.out HG.out)
            have HW := S3.out.holds hg HH.out hsj.out
            have hszj := hsj.out
            have xc := cell2 HW (i := jp + 1) (by omega)
            have yc := cell2 HW (i := jp) (by omega)
            have S4 := (S3.out.swap enc_len hg (jp + 1) jp (by omega) (by omega)).drew
            rw [← HX.out] at xc S4
            rw [← HY.out] at yc S4
            have S5 := Lib.hid (swapped2 S4)
            obtain ⟨x0, x1, fx0, fx1⟩ := xc
            obtain ⟨y0, y1, fy0, fy1⟩ := yc
            clear S4 HW hszj
            have hwp2 : IntKind.i64.wrap (jp : Int) = (jp : Int) := by rw [IntKind.wrap_i64]; omega
            have LT := Lib.hid (show ltO dj[jp + 1]! dj[jp]! = true by rw [← HX.out, ← HY.out]; exact decide_eq_true hlv)
            clear hlv
            go_wp2_with fail
            go_big_region_o
            go_wp2
            go_roundw
            case rel =>
              refine ⟨jp, swp dj (jp + 1) jp, by first | rfl | go_num, by omega, by omega, by rw [size_swp]; exact hsj, S5, ?_⟩
              show _ = _
              have := Go.Proofs.insInner_go (lt := ltO) a (jp + 1) dj hja (by simp only [Nat.add_sub_cancel]; exact LT.out)
              simp only [Nat.add_sub_cancel] at this
              rw [← HI.out, this]
            case measure => simp [intOf]
          · have O2 := OUT.out (Or.inr (by simp only [Nat.add_sub_cancel]; rw [← HX.out, ← HY.out]; exact decide_eq_false hlv))
            go_wp2_with fail
            go_quiet_grown (first | (go_at_call 80; with_reducible refine grw_of (order_any _ _ _)))
            obtain ⟨W3, hW3, HG⟩ := grown_name wr nq osq
            rw [hW3]
            clear hW3 x0 x1 y0 y1
            have S3 := Lib.hid (sw_grw S2.out HG.out)
            go_wp2
            go_roundw
            case rel => exact ⟨i + 1, dj, by go_num, by omega, by omega, hsj, S3, O2⟩
            case measure => simp [intOf]; omega
        · obtain rfl : j = a := by omega
          have hjaz : decide ((j : Int) > (j : Int)) = false := decide_eq_false (by omega)
          have hjaz' : ¬ (j : Int) < (j : Int) := by omega
          have O2 := OUT.out (Or.inl (by omega))
          have S3 := Lib.hid (S2.out.drew)
          have mixed := mixed_
          go_wp2_with fail
          go_big_region_o
          go_wp2
          go_roundw
          case rel => exact ⟨i + 1, dj, by go_num, by omega, by omega, hsj, S3, O2⟩
          case measure => simp [intOf]; omega
    · have hltz : ¬ (i : Int) < (b : Int) := by omega
      have hfin := HEND.out
      unfold insertionSort at hfin
      rw [← HO.out, Go.Proofs.insOuter_stop _ _ _ _ _ hlt] at hfin
      have HFIN := Lib.hid hfin
      clear hfin
      go_wp2
      go_end0
      exact ⟨rfl, dk, S1.out, HFIN.out⟩
end Go.Proofs.YtoeccbbjncgmlaaDoor
