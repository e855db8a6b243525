/- The contract of awake of the statements of word (stage 1), and what a listed table gives the walks. -/
import Derived.Test.YthbodadmnhodfaaDoorWordE
namespace Go.Proofs.YthbodadmnhodfaaDoor
open Go.RowKit

def ffT : ByteArray := { data := #[48, 48, 48, 48, 48, 48, 48, 48, 48, 48, 48, 48, 48, 48, 102, 102] }
def ffS : ByteArray := { data := #[102, 102] }

theorem aw1 (w : World) : Calls Tryd.prog 6 #[.int .u64 2748, .int .i64 4, .int .i64 4] w fun e w' => e = .returned (.tuple #[.int .u64 11, .bool true]) ∧ ∃ m, w' = w.drewN m :=
  get_any 2748 4 4 w (by decide) (by decide) (by decide)
theorem aw2 (w : World) : Calls Tryd.prog 8 #[.int .u64 2748, .int .i64 0, .int .i64 4, .int .u64 1] w fun e w' => e = .returned (.tuple #[.int .u64 2737, .bool true]) ∧ ∃ m, w' = w.drewN m :=
  put_any 2748 0 4 1 w (by decide) (by decide) (by decide) (by decide)
theorem aw3 (w : World) : Calls Tryd.prog 8 #[.int .u64 0, .int .i64 60, .int .i64 4, .int .u64 16] w fun e w' => e = .returned (.tuple #[.int .u64 0, .bool false]) ∧ ∃ m, w' = w.drewN m :=
  put_big 0 60 4 16 w (by decide) (by decide) (by decide)
theorem aw4 (w : World) (hD : Dig w) : Calls Tryd.prog 11 #[.string ffT] w fun e w' => e = .returned (.tuple #[.int .u64 255, .int .i64 0]) ∧ Below w.heap.size w w' :=
  read_any ffT w hD
theorem aw5 (w : World) (hD : Dig w) : Calls Tryd.prog 11 #[.string ffS] w fun e w' => e = .returned (.tuple #[.int .u64 0, .int .i64 4]) ∧ Below w.heap.size w w' :=
  read_any ffS w hD
theorem aw6 (w : World) : Calls Tryd.prog 17 #[.int .u64 8] w fun e w' => e = .returned (.int .i64 3) ∧ Below w.heap.size w w' :=
  high_any 8 w (by decide)
theorem aw7 (w : World) : Calls Tryd.prog 15 #[.int .u64 12] w fun e w' => e = .returned (.int .i64 2) ∧ Below w.heap.size w w' :=
  low_any 12 w (by decide)
theorem aw8 (w : World) : Calls Tryd.prog 15 #[.int .u64 0] w fun e w' => e = .returned (.int .i64 (-1)) ∧ Below w.heap.size w w' :=
  low_any 0 w (by decide)
theorem aw9 (w : World) : Calls Tryd.prog 13 #[.int .u64 7] w fun e w' => e = .returned (.int .i64 3) ∧ w = w' :=
  ones_count 7 w (by decide)
theorem aw10 (w : World) (hD : Dig w) : Calls Tryd.prog 19 #[.int .u64 255] w fun e w' => e = .returned (.string ffT) ∧ Below w.heap.size w w' :=
  hex_any 255 w (by decide) hD
/-- What stands below w is the same in W. -/
def Kept (w W : World) : Prop := Below w.heap.size w W
theorem Kept.refl (w : World) : Kept w w := Below.refl _ _
theorem Kept.dig {w W : World} (h : Kept w W) (hD : Dig w) : Dig W := hD.below hD.size h
theorem Kept.size {w W : World} (h : Kept w W) : w.heap.size ≤ W.heap.size := Below.size h
theorem Kept.then {w W w' : World} (h : Kept w W) (hb : Below W.heap.size W w') : Kept w w' := Below.trans h (hb.mono h.size)
theorem Kept.thenDrew {w W w' : World} (h : Kept w W) (hb : ∃ m, w' = W.drewN m) : Kept w w' := by
  obtain ⟨m, rfl⟩ := hb
  exact h.then (below_drewN' W m)

set_option maxRecDepth 100000 in
set_option maxHeartbeats 1000000 in
theorem awake_any (w W : World) (hD : Dig w) (hk : Kept w W) :
    Calls Tryd.prog 10 #[] W fun e w' => e = .returned (.bool true) ∧ Kept w w' := by
  have HD := Lib.hid hD
  have HK := Lib.hid hk
  clear hD hk
  go_enter Tryd.func10, Tryd.ntmps10
  go_wp2_with fail
  go_at_call 6
  refine (aw1 _).mono ?_
  rintro e w1 ⟨rfl, h1⟩
  have K1 := Lib.hid (HK.out.thenDrew h1)
  clear h1
  go_wp2_with fail
  go_at_call 8
  refine (aw2 _).mono ?_
  rintro e w2 ⟨rfl, h2⟩
  have K2 := Lib.hid (K1.out.thenDrew h2)
  clear h2
  go_wp2_with fail
  go_at_call 8
  refine (aw3 _).mono ?_
  rintro e w3 ⟨rfl, h3⟩
  have K3 := Lib.hid (K2.out.thenDrew h3)
  clear h3
  go_wp2_with fail
  go_at_call 11
  refine (aw4 _ (K3.out.dig HD.out)).mono ?_
  rintro e w4 ⟨rfl, h4⟩
  have K4 := Lib.hid (K3.out.then h4)
  clear h4
  go_wp2_with fail
  go_at_call 11
  refine (aw5 _ (K4.out.dig HD.out)).mono ?_
  rintro e w5 ⟨rfl, h5⟩
  have K5 := Lib.hid (K4.out.then h5)
  clear h5
  go_wp2_with fail
  go_at_call 17
  refine (aw6 _).mono ?_
  rintro e w6 ⟨rfl, h6⟩
  have K6 := Lib.hid (K5.out.then h6)
  clear h6
  go_wp2_with fail
  go_at_call 15
  refine (aw7 _).mono ?_
  rintro e w7 ⟨rfl, h7⟩
  have K7 := Lib.hid (K6.out.then h7)
  clear h7
  go_wp2_with fail
  go_at_call 15
  refine (aw8 _).mono ?_
  rintro e w8 ⟨rfl, h8⟩
  have K8 := Lib.hid (K7.out.then h8)
  clear h8
  go_wp2_with fail
  go_at_call 13
  refine (aw9 _).mono ?_
  rintro e w9 ⟨rfl, rfl⟩
  go_wp2_with fail
  go_at_call 19
  refine (aw10 _ (K8.out.dig HD.out)).mono ?_
  rintro e w10 ⟨rfl, h10⟩
  have K10 := Lib.hid (K8.out.then h10)
  clear h10
  unfold ffT
  go_wp2
  go_ret
  exact ⟨rfl, K10.out⟩
end Go.Proofs.YthbodadmnhodfaaDoor
