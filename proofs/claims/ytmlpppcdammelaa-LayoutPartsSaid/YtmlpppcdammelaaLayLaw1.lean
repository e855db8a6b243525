/- The walk of LayoutTells, out of the contracts of package layout. -/
import Derived.Test.YtmlpppcdammelaaRef04B
namespace Go.Proofs.Ytmlpppcdammelaa
open Go.RowKit Go.Sort

theorem CBox.all {W : World} {b : Nat} {c : Cf} (h : CBox W b c) : (∀ n os, (wat W n os).cell? ⟨b, 0, none⟩ = some (.int .i64 c.semi)) ∧ (∀ n os, (wat W n os).cell? ⟨b, 1, none⟩ = some (.int .i64 c.large)) ∧ (∀ n os, (wat W n os).cell? ⟨b, 2, none⟩ = some (.int .i64 c.slots)) ∧ (∀ n os, (wat W n os).cell? ⟨b, 3, none⟩ = some (.int .i64 c.limit)) :=
  ⟨wat_cell h.c0, wat_cell h.c1, wat_cell h.c2, wat_cell h.c3⟩
theorem mixedL : Try.prog.follows .mixedOrders = true := by kernel_rfl

set_option maxRecDepth 100000 in
set_option maxHeartbeats 8000000 in
theorem layoutTells_walk (hC : LyCheck) (hW : LyWords) (hF : LyFrom) (hT : LyTo) (hL : LyLarge) (hWh : LyWhere) (hS : LySmall) (hAw : LyAwake) (c : Cf) (s : Bool) (p : Int) (hc : CFit c) (hp : I64 p) (w : World) :
    Calls Try.prog 3 #[.agg #[.int .i64 c.semi, .int .i64 c.large, .int .i64 c.slots, .int .i64 c.limit], .bool s, .int .i64 p] w fun e w' => e = .returned (.bool true) ∧ Below w.heap.size w w' := by
  have A1 := fun w => hC c w hc
  have A2 := refCheck_any c
  have B1 := fun w => hW c w hc
  have B2 := refWords_any c
  have C1 := fun w => hF c s w hc
  have C2 := refFrom_any c s
  have D1 := fun w => hT c s w hc
  have D2 := refTo_any c s
  have E1 := fun w => hL c w hc
  have E2 := refLarge_any c
  have F1 := fun w => hWh c s p w hc hp
  have F2 := refWhere_any c s p
  have G1 := fun w => hS c p w hc hp
  have G2 := refSmall_any c p
  have HAW := Lib.hid (show ∀ w : World, Calls Try.prog 19 #[] w fun e w' => e = .returned (.bool true) ∧ Only nob w w' from hAw)
  generalize decide c.ok = b1 at *
  generalize cWords c = b2 at *
  generalize cFrom c s = b3 at *
  generalize cTo c s = b4 at *
  generalize cLarge c = b5 at *
  generalize cWhere c s p = b6 at *
  generalize cSmall c p = b7 at *
  replace A1 := Lib.hid A1
  replace A2 := Lib.hid A2
  replace B1 := Lib.hid B1
  replace B2 := Lib.hid B2
  replace C1 := Lib.hid C1
  replace C2 := Lib.hid C2
  replace D1 := Lib.hid D1
  replace D2 := Lib.hid D2
  replace E1 := Lib.hid E1
  replace E2 := Lib.hid E2
  replace F1 := Lib.hid F1
  replace F2 := Lib.hid F2
  replace G1 := Lib.hid G1
  replace G2 := Lib.hid G2
  obtain ⟨W, hWn, HB⟩ : ∃ W, (w.alloc (.cells #[.int .i64 c.semi, .int .i64 c.large, .int .i64 c.slots, .int .i64 c.limit] 23)) = W ∧ Hid (Only nob w W ∧ CBox W w.heap.size c) := ⟨_, rfl, only_box w c, CBox.new w c⟩
  have HWN := Lib.hid hWn
  clear hWn hc hp hC hW hF hT hL hWh hS hAw
  go_enter Try.func3, Try.ntmps3
  go_wp2_with fail
  rw [HWN.out]
  obtain ⟨c0, c1, c2, c3⟩ := HB.out.2.all
  refine wp_region_only mixedL (by kernel_rfl) ?_
  repeat (quiet_step (first
    | (go_at_call 5; with_reducible refine wat_call (A1.out _))
    | (go_at_call 6; with_reducible refine wat_call (A2.out _))
    | (go_at_call 7; with_reducible refine wat_call (B1.out _))
    | (go_at_call 8; with_reducible refine wat_call (B2.out _))
    | (go_at_call 9; with_reducible refine wat_call (C1.out _))
    | (go_at_call 10; with_reducible refine wat_call (C2.out _))
    | (go_at_call 11; with_reducible refine wat_call (D1.out _))
    | (go_at_call 12; with_reducible refine wat_call (D2.out _))))
  refine wpQuiet_nil ?_
  rintro w' ⟨⟨nq, osq⟩, rfl⟩
  obtain ⟨W3, hW3, O3⟩ := wat_name W nq osq
  rw [hW3]
  clear hW3 c0 c1 c2 c3
  have HB3 := Lib.hid (And.intro (HB.out.1.trans O3.out) (HB.out.2.keep O3.out))
  go_wp2_with fail
  obtain ⟨c0, c1, c2, c3⟩ := HB3.out.2.all
  refine wp_region_only mixedL (by kernel_rfl) ?_
  repeat (quiet_step (first
    | (go_at_call 13; with_reducible refine wat_call (E1.out _))
    | (go_at_call 14; with_reducible refine wat_call (E2.out _))
    | (go_at_call 15; with_reducible refine wat_call (F1.out _))
    | (go_at_call 16; with_reducible refine wat_call (F2.out _))
    | (go_at_call 17; with_reducible refine wat_call (G1.out _))
    | (go_at_call 18; with_reducible refine wat_call (G2.out _))
    | (go_at_call 19; with_reducible refine wat_call (HAW.out _))))
  refine wpQuiet_nil ?_
  rintro w' ⟨⟨nq, osq⟩, rfl⟩
  obtain ⟨W5, hW5, O5⟩ := wat_name W3 nq osq
  rw [hW5]
  clear hW5 c0 c1 c2 c3
  go_wp2
  go_ret
  exact ⟨rfl, (HB3.out.1.trans O5.out).whole⟩
end Go.Proofs.Ytmlpppcdammelaa
