/- The walk of ArenaNobody. -/
import Derived.Test.YtdaopgcfddlimaaAwake02
namespace Go.Proofs.Ytdaopgcfddlimaa
open Go.RowKit

set_option maxRecDepth 100000 in
set_option maxHeartbeats 1000000 in
theorem arenaNobody_walk (a n x : Int) (w : World) :
    Calls Try.prog 5 #[.int .i64 a, .int .i64 n, .int .u64 x] w fun e w' => e = .returned (.bool true) ∧ Below w.heap.size w w' := by
  go_enter Try.func5, Try.ntmps5
  go_wp2_with fail
  go_loopw [7] (fun i wr => ∃ k : Nat, k ≤ 2 ∧ i = .int .i64 k ∧ Only nob w wr) (fun i _ => 2 - (intOf i).toNat)
  case atStart => exact ⟨0, by omega, rfl, Only.refl _ _⟩
  case round =>
    obtain ⟨k, hk, rfl, hO⟩ := hrel
    have HO := Lib.hid hO
    clear hO
    obtain rfl | rfl | rfl : k = 0 ∨ k = 1 ∨ k = 2 := by omega
    · have hN : NoAr wr (.pointer none) := .inl rfl
      go_wp2_with (first
        | (go_at_call 8; refine (read_none _ a _ hN).mono ?_; rintro e w' ⟨rfl, rfl⟩)
        | (go_at_call 9; refine (write_none _ a x _ hN).mono ?_; rintro e w' ⟨rfl, rfl⟩)
        | (go_at_call 10; refine (move_none _ a a n _ hN).mono ?_; rintro e w' ⟨rfl, rfl⟩)
        | (go_at_call 12; refine (fill_none _ a n x _ hN).mono ?_; rintro e w' ⟨rfl, rfl⟩)
        | (go_at_call 16; refine (len_none _ _ hN).mono ?_; rintro e w' ⟨rfl, rfl⟩)
        | (go_at_call 15; refine (words_none _ _ hN).mono ?_; rintro e w' ⟨rfl, rfl⟩))
      go_roundw
      case rel => exact ⟨1, by omega, rfl, HO.out⟩
      case measure => simp [intOf]
    · have hN : NoAr (wr.alloc (.cells #[.bool false, .slice none 0 0] 47)) (.pointer (some ⟨wr.heap.size, 0, none⟩)) := .inr ⟨_, rfl, Blk.new _ _ _⟩
      go_wp2_with (first
        | (go_at_call 8; refine (read_none _ a _ hN).mono ?_; rintro e w' ⟨rfl, rfl⟩)
        | (go_at_call 9; refine (write_none _ a x _ hN).mono ?_; rintro e w' ⟨rfl, rfl⟩)
        | (go_at_call 10; refine (move_none _ a a n _ hN).mono ?_; rintro e w' ⟨rfl, rfl⟩)
        | (go_at_call 12; refine (fill_none _ a n x _ hN).mono ?_; rintro e w' ⟨rfl, rfl⟩)
        | (go_at_call 16; refine (len_none _ _ hN).mono ?_; rintro e w' ⟨rfl, rfl⟩)
        | (go_at_call 15; refine (words_none _ _ hN).mono ?_; rintro e w' ⟨rfl, rfl⟩))
      go_roundw
      case rel => exact ⟨2, by omega, rfl, HO.out.alloc _⟩
      case measure => simp [intOf]
    · go_wp2_with fail
      go_at_call 6
      refine (awake_any _).mono ?_
      rintro e w1 ⟨rfl, ho⟩
      have HO2 := Lib.hid (HO.out.trans ho)
      clear ho
      go_wp2
      go_ret
      exact ⟨rfl, HO2.out.whole⟩
end Go.Proofs.Ytdaopgcfddlimaa
