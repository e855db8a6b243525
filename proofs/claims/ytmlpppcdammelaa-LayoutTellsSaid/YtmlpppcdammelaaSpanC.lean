/- Contracts: cmp.Compare, cmp.Or, and span's order, as the library's sort asks it. -/
import Derived.Test.YtmlpppcdammelaaSpanB
import Derived.Test.YtmlpppcdammelaaSymMath
import Derived.Deep.RegionHeld3
import Derived.Deep.DeepCutAuto
namespace Go.Proofs.Ytmlpppcdammelaa
open Go.RowKit Go.Sort

def cmpI (a b : Int) : Int := if a < b then -1 else if b < a then 1 else 0
theorem cmpI_lt {a b : Int} (h : a < b) : cmpI a b = -1 := by unfold cmpI; rw [if_pos h]
theorem cmpI_gt {a b : Int} (h : b < a) : cmpI a b = 1 := by unfold cmpI; rw [if_neg (by omega), if_pos h]
theorem cmpI_eq {a b : Int} (h1 : ¬ a < b) (h2 : ¬ b < a) : cmpI a b = 0 := by unfold cmpI; rw [if_neg h1, if_neg h2]

theorem isNaN_any (a : Int) (w : World) : Calls Try.prog 42 #[.int .i64 a] w fun e w' => e = .returned (.bool false) ∧ w = w' := by
  go_enter Try.func42, Try.ntmps42
  go_wp2
  go_ret
  exact ⟨rfl, rfl⟩
set_option maxHeartbeats 1000000 in
theorem compare_any (a b : Int) (w : World) : Calls Try.prog 39 #[.int .i64 a, .int .i64 b] w fun e w' => e = .returned (.int .i64 (cmpI a b)) ∧ w = w' := by
  by_cases h1 : a < b
  · rw [cmpI_lt h1]
    go_enter Try.func39, Try.ntmps39
    go_wp2_with (go_at_call 42; refine (isNaN_any _ _).mono ?_; rintro e w' ⟨rfl, rfl⟩)
    go_ret
    exact ⟨rfl, rfl⟩
  · by_cases h2 : b < a
    · rw [cmpI_gt h2]
      go_enter Try.func39, Try.ntmps39
      go_wp2_with (go_at_call 42; refine (isNaN_any _ _).mono ?_; rintro e w' ⟨rfl, rfl⟩)
      go_ret
      exact ⟨rfl, rfl⟩
    · rw [cmpI_eq h1 h2]
      go_enter Try.func39, Try.ntmps39
      go_wp2_with (go_at_call 42; refine (isNaN_any _ _).mono ?_; rintro e w' ⟨rfl, rfl⟩)
      go_ret
      exact ⟨rfl, rfl⟩

def orI (a b : Int) : Int := if a = 0 then b else a
set_option maxHeartbeats 1000000 in
theorem or_any (g : Nat) (a b : Int) (w : World) (h0 : w.cell? ⟨g, 0, none⟩ = some (.int .i64 a)) (h1 : w.cell? ⟨g, 1, none⟩ = some (.int .i64 b)) :
    Calls Try.prog 38 #[.slice (some ⟨g, 0, none⟩) 2 2] w fun e w' => e = .returned (.int .i64 (orI a b)) ∧ w = w' := by
  obtain ⟨r, hr⟩ : ∃ r, orI a b = r := ⟨_, rfl⟩
  rw [hr]
  have HR := Lib.hid hr
  clear hr
  go_enter Try.func38, Try.ntmps38
  go_wp2
  go_loop [8] (fun i => ∃ k : Nat, i = .int .i64 k ∧ k ≤ 2 ∧ (1 ≤ k → a = 0) ∧ (2 ≤ k → b = 0)) (fun i => 2 - (intOf i).toNat)
  case atStart => exact ⟨0, rfl, by omega, by omega, by omega⟩
  case round =>
    obtain ⟨k, rfl, hk, ka, kb⟩ := hrel
    have ways : k = 0 ∨ k = 1 ∨ k = 2 := by omega
    rcases ways with rfl | rfl | rfl
    · clear ka kb
      by_cases ha : a = 0
      · have HA := Lib.hid ha
        clear ha
        obtain rfl : a = 0 := HA.out
        go_wp2
        go_round
        case rel => exact ⟨1, by go_num, by omega, fun _ => by simp, by omega⟩
        case measure => simp [intOf]
      · go_wp2
        go_ret
        exact ⟨ret_int (by rw [← HR.out]; unfold orI; rw [if_neg ha]), rfl⟩
    · obtain rfl : a = 0 := ka (by omega)
      clear ka kb
      by_cases hb : b = 0
      · obtain rfl : b = 0 := hb
        go_wp2
        go_round
        case rel => exact ⟨2, by go_num, by omega, fun _ => by simp, fun _ => by simp⟩
        case measure => simp [intOf]
      · go_wp2
        go_ret
        exact ⟨ret_int (by rw [← HR.out]; unfold orI; rw [if_pos rfl]), rfl⟩
    · obtain rfl : a = 0 := ka (by omega)
      obtain rfl : b = 0 := kb (by omega)
      clear ka kb
      go_wp2
      go_ret
      exact ⟨ret_int (by rw [← HR.out]; rfl), rfl⟩

theorem or_c0 (W : World) (a b : Int) : (World.drew (W.alloc (.cells #[.int .i64 a, .int .i64 b] 3))).cell? ⟨W.heap.size, 0, none⟩ = some (.int .i64 a) := (Blk.new W 3 #[.int .i64 a, .int .i64 b]).cell 0
theorem or_c1 (W : World) (a b : Int) : (World.drew (W.alloc (.cells #[.int .i64 a, .int .i64 b] 3))).cell? ⟨W.heap.size, 1, none⟩ = some (.int .i64 b) := (Blk.new W 3 #[.int .i64 a, .int .i64 b]).cell 1
/-- What order tells. -/
def ordI (x y : Sp) : Int := orI (cmpI x.1 y.1) (cmpI x.2 y.2)
theorem ordI_lt {x y : Sp} : ordI x y < 0 ↔ Sp.lt x y := by
  unfold ordI orI cmpI Sp.lt
  repeat' split
  all_goals omega

set_option maxHeartbeats 2000000 in
theorem order_any (x y : Sp) (w : World) : Calls Try.prog 36 #[.agg #[.int .i64 x.1, .int .i64 x.2], .agg #[.int .i64 y.1, .int .i64 y.2]] w fun e w' => e = .returned (.int .i64 (ordI x y)) ∧ Grw w w' := by
  obtain ⟨W, hW, HW⟩ := two_boxes w x y
  have HWE := Lib.hid hW
  clear hW
  go_enter Try.func36, Try.ntmps36
  go_wp2_with fail
  rw [HWE.out]
  obtain ⟨c0, c1⟩ := HW.out.2.1
  obtain ⟨d0, d1⟩ := HW.out.2.2
  go_region_held3 (fun w' => w'.cell? ⟨w.heap.size, 0, none⟩ = some (.int .i64 x.1) ∧ w'.cell? ⟨w.heap.size, 1, none⟩ = some (.int .i64 x.2) ∧ w'.cell? ⟨w.heap.size + 1, 0, none⟩ = some (.int .i64 y.1) ∧ w'.cell? ⟨w.heap.size + 1, 1, none⟩ = some (.int .i64 y.2))
    (first | go_keep)
    (first
      | (go_at_call 39; refine (compare_any _ _ _).mono ?_; rintro e w' ⟨rfl, rfl⟩)
      | (go_at_call 38; (with_reducible refine (or_any _ _ _ _ (or_c0 W _ _) (or_c1 W _ _)).mono ?_); rintro e w' ⟨rfl, rfl⟩))
  go_wp2
  go_ret
  exact ⟨rfl, grw_trans HW.out.1 (grw_trans (grw_drewN _ 1) (grw_alloc _ _))⟩
end Go.Proofs.Ytmlpppcdammelaa
