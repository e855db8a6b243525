/- Headers as words: pack of package head. -/
import Derived.Test.YtffbemfgibleeaaDoorHeadA
namespace Go.Proofs.YtffbemfgibleeaaDoor
open Go.RowKit

theorem put_only (w0 a n x : Nat) (w : World) (hw0 : w0 < full) (h1 : 1 ≤ n) (h2 : a + n ≤ 64) (hx : x ≤ on n) :
    Calls Tryd.prog 54 #[.int .u64 w0, .int .i64 a, .int .i64 n, .int .u64 x] w fun e w' => e = .returned (.tuple #[.int .u64 (pt w0 a n x), .bool true]) ∧ Only nob w w' :=
  (put_any w0 a n x w hw0 h1 h2 hx).mono fun _ _ ⟨he, _, hm⟩ => ⟨he, hm ▸ (Only.refl _ _).drewN _⟩
theorem get_only (x a n : Nat) (w : World) (hx : x < full) (h1 : 1 ≤ n) (h2 : a + n ≤ 64) :
    Calls Tryd.prog 52 #[.int .u64 x, .int .i64 a, .int .i64 n] w fun e w' => e = .returned (.tuple #[.int .u64 (gt x a n), .bool true]) ∧ Only nob w w' :=
  (get_any x a n w hx h1 h2).mono fun _ _ ⟨he, _, hm⟩ => ⟨he, hm ▸ (Only.refl _ _).drewN _⟩

/-- Six numbers in a block of the call's own. -/
theorem box_six (w : World) (x0 x1 x2 x3 x4 x5 : Int) : ∃ W, w.alloc (.cells #[.int .i64 x0, .int .i64 x1, .int .i64 x2, .int .i64 x3, .int .i64 x4, .int .i64 x5] 72) = W ∧
    Hid (Only nob w W ∧ ∀ k, k < 6 → W.cell? ⟨w.heap.size, k, none⟩ = some (.int .i64 (num6 x0 x1 x2 x3 x4 x5 k))) := by
  refine ⟨_, rfl, Lib.hid ⟨(Only.refl nob w).alloc _, fun k hk => ?_⟩⟩
  rw [(Blk.new w 72 #[.int .i64 x0, .int .i64 x1, .int .i64 x2, .int .i64 x3, .int .i64 x4, .int .i64 x5]).cell k]
  rcases lt_six hk with rfl | rfl | rfl | rfl | rfl | rfl <;> rfl
/-- A part in a block of the call's own. -/
theorem box_part (w : World) (a n l u : Int) : ∃ W, w.alloc (.cells #[.int .i64 a, .int .i64 n, .int .i64 l, .int .i64 u] 84) = W ∧
    Hid (Only nob w W ∧ W.cell? ⟨w.heap.size, 0, none⟩ = some (.int .i64 a) ∧ W.cell? ⟨w.heap.size, 1, none⟩ = some (.int .i64 n) ∧ W.cell? ⟨w.heap.size, 2, none⟩ = some (.int .i64 l) ∧ W.cell? ⟨w.heap.size, 3, none⟩ = some (.int .i64 u)) := by
  have B := Blk.new w 84 #[.int .i64 a, .int .i64 n, .int .i64 l, .int .i64 u]
  exact ⟨_, rfl, Lib.hid ⟨(Only.refl nob w).alloc _, B.cell 0, B.cell 1, B.cell 2, B.cell 3⟩⟩

/-- What pack answers. -/
def PackSaid (v : Nat → Int) (w : World) (e : Ending) (w' : World) : Prop :=
  (MayTo v 6 → e = .returned (.tuple #[.int .u64 (accW v 6 : Nat), .bool true])) ∧ (¬ MayTo v 6 → e = .returned (.tuple #[.int .u64 0, .bool false])) ∧ Only nob w w'

set_option maxRecDepth 100000 in
set_option maxHeartbeats 1000000 in
theorem pack_said (x0 x1 x2 x3 x4 x5 : Int) (w : World) (hp : Par w) :
    Calls Tryd.prog 46 #[.agg #[.int .i64 x0, .int .i64 x1, .int .i64 x2, .int .i64 x3, .int .i64 x4, .int .i64 x5]] w (PackSaid (num6 x0 x1 x2 x3 x4 x5) w) := by
  have mixed : Tryd.prog.follows .mixedOrders = true := by kernel_rfl
  obtain ⟨W, hW, HB⟩ := box_six w x0 x1 x2 x3 x4 x5
  obtain ⟨t, fr, hP⟩ := hp.old (hW ▸ HB.out.1 : Only nob w (w.alloc (.cells #[.int .i64 x0, .int .i64 x1, .int .i64 x2, .int .i64 x3, .int .i64 x4, .int .i64 x5] 72)))
  have HWE := Lib.hid hW
  obtain ⟨v, hv⟩ : ∃ v, num6 x0 x1 x2 x3 x4 x5 = v := ⟨_, rfl⟩
  rw [hv] at HB ⊢
  clear hW hp hv
  go_enter Tryd.func46, Tryd.ntmps46
  go_wp2_with (refine wpList_load_row rfl 85 _ rfl 0 rfl t parC fr _ hP Tryd.underlying85 rfl (by kernel_rfl) ?_)
  clear hP
  rw [HWE.out]
  go_loopw [4, 8] (fun u i wr => ∃ k : Nat, k ≤ 6 ∧ i = .int .i64 k ∧ u = .int .u64 (accW v k : Nat) ∧ MayTo v k ∧ Only nob W wr) (fun _ i _ => 6 - (intOf i).toNat)
  case atStart => exact ⟨0, Nat.zero_le _, rfl, rfl, MayTo.zero _, Only.refl _ _⟩
  case round =>
    obtain ⟨k, hk, rfl, rfl, hM, hO⟩ := hrel
    have HM := Lib.hid hM
    have HO := Lib.hid hO
    clear hM hO
    by_cases hlt : k < 6
    · obtain ⟨W2, hW2, HB2⟩ := box_part wr (pA k : Nat) (pN k : Nat) (pL k) (pU k)
      have HW2 := Lib.hid hW2
      have hx := part_at k hlt
      clear hW2
      obtain ⟨y, hy⟩ : ∃ y, v k = y := ⟨_, rfl⟩
      have c0 := wat_cell HB2.out.2.1
      have c1 := wat_cell HB2.out.2.2.1
      have c2 := wat_cell HB2.out.2.2.2.1
      have c3 := wat_cell HB2.out.2.2.2.2
      have c4 := wat_cell (HB2.out.1.keeps (HO.out.keeps (hy ▸ HB.out.2 k hlt)))
      have HY := Lib.hid hy
      clear hy
      by_cases hm : vin y (pL k) (pU k) = true
      · have HC := Lib.hid (show ∀ n os, Calls Tryd.prog 53 #[.agg #[.int .i64 (pA k : Nat), .int .i64 (pN k : Nat), .int .i64 (pL k), .int .i64 (pU k)], .int .i64 y] (wat W2 n os) fun e w' => e = .returned (.bool true) ∧ Only nob (wat W2 n os) w' from fun n os => hm ▸ partMay_any _ _ _ _ _ _)
        go_wp2_with fail
        rw [HW2.out]
        refine wp_region_only mixed (by kernel_rfl) ?_
        repeat (quiet_step ((go_at_call 53; with_reducible refine wat_call (HC.out _ _))))
        refine wpQuiet_nil ?_
        rintro w' ⟨⟨nq, osq⟩, rfl⟩
        obtain ⟨W3, hW3, O3⟩ := wat_name W2 nq osq
        rw [hW3]
        clear c0 c1 c2 c3 c4
        obtain ⟨y0, y1, y2⟩ := part_on k hlt hm
        obtain ⟨z, rfl⟩ : ∃ z : Nat, y = z := ⟨y.toNat, by omega⟩
        rw [Int.toNat_natCast] at y1 y2
        have c0 := wat_cell (O3.out.keeps HB2.out.2.1)
        have c1 := wat_cell (O3.out.keeps HB2.out.2.2.1)
        have c4 := wat_cell (O3.out.keeps (HB2.out.1.keeps (HO.out.keeps (HY.out ▸ HB.out.2 k hlt))))
        have HF := Lib.hid (part_fits k hlt)
        have HL := Lib.hid (accW_lt v k hk HM.out)
        have HD := Lib.hid (show ∀ n os, Calls Tryd.prog 54 #[.int .u64 (accW v k : Nat), .int .i64 (pA k : Nat), .int .i64 (pN k : Nat), .int .u64 (z : Nat)] (wat W3 n os) fun e w' => e = .returned (.tuple #[.int .u64 (pt (accW v k) (pA k) (pN k) z : Nat), .bool true]) ∧ Only nob (wat W3 n os) w' from fun n os => put_only _ _ _ _ _ HL.out HF.out.1 HF.out.2 y1)
        have HZ : IntKind.u64.wrap (z : Int) = (z : Int) := wrap_id z (Nat.lt_of_lt_of_le y2 (pow_le_full (by have := HF.out.2; omega)))
        clear y0 y1 y2
        go_wp2_with fail
        refine wp_region_only mixed (by kernel_rfl) ?_
        repeat (quiet_step ((go_at_call 54; with_reducible refine wat_call (HD.out _ _))))
        refine wpQuiet_nil ?_
        rintro w' ⟨⟨nq2, osq2⟩, rfl⟩
        obtain ⟨W4, hW4, O4⟩ := wat_name W3 nq2 osq2
        rw [hW4]
        have HA := Lib.hid (show accW v (k + 1) = pt (accW v k) (pA k) (pN k) z by show pt _ _ _ (v k).toNat = _; rw [HY.out]; rfl)
        clear c0 c1 c4 HZ
        go_wp2
        go_roundw
        case rel => exact ⟨k + 1, by omega, by go_num, by rw [HA.out], HM.out.succ (HY.out ▸ hm), HO.out.trans (HB2.out.1.trans (O3.out.trans O4.out))⟩
        case measure => simp [intOf]; omega
      · have hm' : vin y (pL k) (pU k) = false := by simpa using hm
        have HC := Lib.hid (show ∀ n os, Calls Tryd.prog 53 #[.agg #[.int .i64 (pA k : Nat), .int .i64 (pN k : Nat), .int .i64 (pL k), .int .i64 (pU k)], .int .i64 y] (wat W2 n os) fun e w' => e = .returned (.bool false) ∧ Only nob (wat W2 n os) w' from fun n os => hm' ▸ partMay_any _ _ _ _ _ _)
        clear hm'
        go_wp2_with fail
        rw [HW2.out]
        refine wp_region_only mixed (by kernel_rfl) ?_
        repeat (quiet_step ((go_at_call 53; with_reducible refine wat_call (HC.out _ _))))
        refine wpQuiet_nil ?_
        rintro w' ⟨⟨nq, osq⟩, rfl⟩
        obtain ⟨W3, hW3, O3⟩ := wat_name W2 nq osq
        rw [hW3]
        clear c0 c1 c2 c3 c4
        go_wp2
        go_ret2
        exact ⟨fun h => absurd (HY.out ▸ h k hlt) hm, fun _ => rfl, HB.out.1.trans (HO.out.trans (HB2.out.1.trans O3.out))⟩
    · obtain rfl : k = 6 := by omega
      go_wp2
      go_ret2
      exact ⟨fun _ => rfl, fun h => absurd HM.out h, HB.out.1.trans HO.out⟩
end Go.Proofs.YtffbemfgibleeaaDoor
