/- The walk of LosNobody. -/
import Derived.Test.YtoeccbbjncgmlaaDoorLosLaw1
namespace Go.Proofs.YtoeccbbjncgmlaaDoor
open Go.RowKit
set_option maxRecDepth 100000

set_option maxHeartbeats 4000000 in
theorem losNobody_walk (a k f r : Int) (m : Bool) (c : Int) (x : Sp) (w : World) (ht : Par w) :
    Calls Tryd.prog 3 #[.int .i64 a, .agg #[.int .i64 k, .int .i64 f, .int .i64 r, .bool m, .int .i64 c], .agg #[.int .i64 x.1, .int .i64 x.2]] w fun e w' => e = .returned (.bool true) ∧ Below w.heap.size w w' := by
  have HP := Lib.hid ht
  clear ht
  obtain ⟨W1, hW1, HB1⟩ := box_head w k f r m c
  have HW1 := Lib.hid hW1
  have hz1 : W1.heap.size = w.heap.size + 1 := by rw [← hW1]; simp
  obtain ⟨W2, hW2, HB2⟩ : ∃ W2, W1.alloc (.cells #[.int .i64 x.1, .int .i64 x.2] 25) = W2 ∧ Hid (Only nob w W2 ∧ Blk W2 (w.heap.size + 1) 25 #[.int .i64 x.1, .int .i64 x.2] ∧ Blk W2 w.heap.size 23 #[.int .i64 k, .int .i64 f, .int .i64 r, .bool m, .int .i64 c]) :=
    ⟨_, rfl, Lib.hid ⟨HB1.out.1.alloc _, Blk.newAt _ _ _ _ hz1, HB1.out.2.alloc _⟩⟩
  have HW2 := Lib.hid hW2
  have s0 := HB2.out.2.1.cell 0
  have s1 := HB2.out.2.1.cell 1
  simp at s0 s1
  clear hW1 hW2 hz1
  go_enter Tryd.func3, Tryd.ntmps3
  go_upto_region 1 with fail
  rw [HW1.out, HW2.out]
  go_wp2_with fail
  go_at_call 4
  refine (lNew_none (.pointer none) x _ _ _ (fun _ => .inl rfl)).mono ?_
  rintro e w3 ⟨rfl, o⟩
  have O3 := Lib.hid (HB2.out.1.trans o)
  have H3 := Lib.hid (HB2.out.2.2.keep o id)
  clear o s0 s1
  go_wp2_with fail
  go_loopw [9] (fun i wr => ∃ q : Nat, q ≤ 2 ∧ i = .int .i64 q ∧ Hid (Only nob w wr ∧ Blk wr w.heap.size 23 #[.int .i64 k, .int .i64 f, .int .i64 r, .bool m, .int .i64 c])) (fun i _ => 2 - (intOf i).toNat)
  case atStart => exact ⟨0, by omega, rfl, Lib.hid ⟨O3.out, H3.out⟩⟩
  case round =>
    clear O3 H3
    obtain ⟨q, hq, rfl, HR⟩ := hrel
    by_cases hlt : q < 2
    · rcases (show q = 0 ∨ q = 1 by omega) with rfl | rfl
      · have N0 := Lib.hid (show NoLo wr (.pointer none) from .inl rfl)
        have O0 := Lib.hid HR.out.1
        have H0 := Lib.hid HR.out.2
        obtain ⟨h0, h1, h2, h3, h4⟩ := cells5 H0.out
        go_wp2_with fail
        go_at_call 5
        refine (lPut_none (.pointer none) k f r m c _ N0.out).mono ?_
        rintro e w6 ⟨rfl, o⟩
        have O6 := Lib.hid (O0.out.trans o)
        have H6 := Lib.hid (H0.out.keep o id)
        have N6 := Lib.hid (N0.out.keep o)
        clear o h0 h1 h2 h3 h4
        go_wp2_with fail
        go_at_call 6
        refine (lMark_none (.pointer none) a _ N6.out).mono ?_
        rintro e w7 ⟨rfl, rfl⟩
        go_wp2_with fail
        go_at_call 7
        refine (lPop_noLo (.pointer none) _ N6.out).mono ?_
        rintro e w7 ⟨rfl, rfl⟩
        go_wp2_with fail
        go_at_call 8
        refine (lSweep_none (.pointer none) _ N6.out).mono ?_
        rintro e w7 ⟨rfl, rfl⟩
        go_wp2_with fail
        go_at_call 9
        refine (lTable_none (.pointer none) _ N6.out).mono ?_
        rintro e w7 ⟨rfl, rfl⟩
        go_wp2_with fail
        go_at_call 10
        refine (lFree_none (.pointer none) _ N6.out).mono ?_
        rintro e w7 ⟨rfl, rfl⟩
        go_wp2
        go_roundw
        case rel => exact ⟨1, by omega, by first | rfl | go_num, Lib.hid ⟨O6.out, H6.out⟩⟩
        case measure => simp [intOf]
      · obtain ⟨W5, hW5, HB5⟩ : ∃ W5, wr.alloc (.cells #[.pointer none, .slice none 0 0, .slice none 0 0, .int .i64 0] 33) = W5 ∧ Hid (Only nob wr W5 ∧ Blk W5 wr.heap.size 33 #[.pointer none, .slice none 0 0, .slice none 0 0, .int .i64 0]) := ⟨_, rfl, Lib.hid ⟨(Only.refl nob wr).alloc _, Blk.new _ _ _⟩⟩
        have HW5 := Lib.hid hW5
        have N0 := Lib.hid (show NoLo W5 (.pointer (some ⟨wr.heap.size, 0, none⟩)) from .inr ⟨_, rfl, HB5.out.2⟩)
        have O0 := Lib.hid (HR.out.1.trans HB5.out.1)
        have H0 := Lib.hid (HR.out.2.keep HB5.out.1 id)
        clear hW5
        go_upto_region 10 with fail
        rw [HW5.out]
        obtain ⟨h0, h1, h2, h3, h4⟩ := cells5 H0.out
        go_wp2_with fail
        go_at_call 5
        refine (lPut_none (.pointer (some ⟨wr.heap.size, 0, none⟩)) k f r m c _ N0.out).mono ?_
        rintro e w6 ⟨rfl, o⟩
        have O6 := Lib.hid (O0.out.trans o)
        have H6 := Lib.hid (H0.out.keep o id)
        have N6 := Lib.hid (N0.out.keep o)
        clear o h0 h1 h2 h3 h4
        go_wp2_with fail
        go_at_call 6
        refine (lMark_none (.pointer (some ⟨wr.heap.size, 0, none⟩)) a _ N6.out).mono ?_
        rintro e w7 ⟨rfl, rfl⟩
        go_wp2_with fail
        go_at_call 7
        refine (lPop_noLo (.pointer (some ⟨wr.heap.size, 0, none⟩)) _ N6.out).mono ?_
        rintro e w7 ⟨rfl, rfl⟩
        go_wp2_with fail
        go_at_call 8
        refine (lSweep_none (.pointer (some ⟨wr.heap.size, 0, none⟩)) _ N6.out).mono ?_
        rintro e w7 ⟨rfl, rfl⟩
        go_wp2_with fail
        go_at_call 9
        refine (lTable_none (.pointer (some ⟨wr.heap.size, 0, none⟩)) _ N6.out).mono ?_
        rintro e w7 ⟨rfl, rfl⟩
        go_wp2_with fail
        go_at_call 10
        refine (lFree_none (.pointer (some ⟨wr.heap.size, 0, none⟩)) _ N6.out).mono ?_
        rintro e w7 ⟨rfl, rfl⟩
        go_wp2
        go_roundw
        case rel => exact ⟨2, by omega, by first | rfl | go_num, Lib.hid ⟨O6.out, H6.out⟩⟩
        case measure => simp [intOf]
    · obtain rfl : q = 2 := by omega
      go_wp2_with fail
      go_at_call 11
      refine (awake13_any _ (HP.out.old HR.out.1)).mono ?_
      rintro e w4 ⟨rfl, o⟩
      have O4 := Lib.hid (HR.out.1.trans o)
      clear o
      go_wp2
      go_ret
      exact ⟨rfl, O4.out.whole⟩
end Go.Proofs.YtoeccbbjncgmlaaDoor
