/- What awake of the arena's statements answers. -/
import Derived.Test.YtdaopgcfddlimaaArenaC
namespace Go.Proofs.Ytdaopgcfddlimaa
open Go.RowKit

theorem words123 : Words [1, 2, 3] := by
  intro x hx
  have : x = 1 ∨ x = 2 ∨ x = 3 := by simpa using hx
  unfold full; omega
theorem sl123 (w : World) : Sl (w.alloc (.cells #[.int .u64 1, .int .u64 2, .int .u64 3] 29)) (w.alloc (.cells #[.int .u64 1, .int .u64 2, .int .u64 3] 29)).heap.size 1 (.slice (some ⟨w.heap.size, 0, none⟩) 3 3) 3 (u64s [1, 2, 3]) :=
  Sl.of_blk (size := 1) (n := 3) (c := 3) (Blk.new w 29 #[.int .u64 1, .int .u64 2, .int .u64 3]) rfl (Nat.le_refl _) (by decide)

set_option maxRecDepth 100000 in
set_option maxHeartbeats 1000000 in
theorem awake_any (w : World) : Calls Try.prog 6 #[] w fun e w' => e = .returned (.bool true) ∧ Only nob w w' := by
  go_enter Try.func6, Try.ntmps6
  go_wp2_with fail
  go_at_call 7
  refine (of_any _ [1, 2, 3] _ (sl123 w) (by decide) words123).mono ?_
  rintro e w1 ⟨b, g, rfl, hb, hg, hA, ho⟩
  have HA := Lib.hid hA
  have hb1 : w.heap.size ≤ b := by simp at hb; omega
  have hg1 : w.heap.size ≤ g := by simp at hg; omega
  have HO := Lib.hid (((Only.refl nob w).alloc _).andThen ho fun _ _ h => h)
  clear hA ho hb hg
  go_wp2_with fail
  go_at_call 10
  refine (move_ar b g [1, 2, 3] 1 0 2 _ HA.out (by decide) (by decide)).mono ?_
  rintro e w2 ⟨rfl, hA, ho⟩
  have HA2 := Lib.hid (show Ar w2 b g [1, 1, 2] from hA)
  have HO2 := Lib.hid (HO.out.andThen ho fun i hi e => by unfold isb at e; omega)
  clear hA ho HA HO
  go_wp2_with fail
  go_at_call 8
  refine (read_ar b g [1, 1, 2] 2 _ HA2.out (by decide)).mono ?_
  rintro e w3 ⟨rfl, rfl⟩
  go_wp2_with fail
  go_at_call 8
  refine (read_ar_no b g [1, 1, 2] 3 _ HA2.out (by decide) (by decide)).mono ?_
  rintro e w3 ⟨rfl, rfl⟩
  go_wp2_with fail
  go_at_call 12
  refine (fill_ar_no b g [1, 1, 2] 0 4 7 _ HA2.out (by decide) (by unfold Fits; decide)).mono ?_
  rintro e w3 ⟨rfl, rfl⟩
  go_wp2_with fail
  go_at_call 17
  refine (new_any 2 _ (by decide)).mono ?_
  rintro e w3 ⟨b2, g2, rfl, -, -, hA, ho⟩
  have HB := Lib.hid hA
  have HA3 := Lib.hid (HA2.out.keep ho id id)
  have HO3 := Lib.hid (HO2.out.andThen ho fun _ _ h => h)
  clear hA ho HA2 HO2
  go_wp2_with fail
  go_at_call 17
  refine (new_no (-1) _ (by decide)).mono ?_
  rintro e w4 ⟨rfl, rfl⟩
  go_wp2_with (first
    | (go_at_call_of 16 (Value.pointer (some (⟨b, 0, none⟩ : Addr))); refine (len_ar b g [1, 1, 2] _ HA3.out).mono ?_; rintro e w' ⟨rfl, rfl⟩)
    | (go_at_call_of 16 (Value.pointer (some (⟨b2, 0, none⟩ : Addr))); refine (len_ar b2 g2 _ _ HB.out).mono ?_; rintro e w' ⟨rfl, rfl⟩)
    | (go_at_call_of 16 (Value.pointer none); refine (len_none _ _ (.inl rfl)).mono ?_; rintro e w' ⟨rfl, rfl⟩)
    | (go_at_call 9; refine (write_none _ 0 1 _ (.inl rfl)).mono ?_; rintro e w' ⟨rfl, rfl⟩))
  go_ret
  exact ⟨rfl, HO3.out⟩
end Go.Proofs.Ytdaopgcfddlimaa
