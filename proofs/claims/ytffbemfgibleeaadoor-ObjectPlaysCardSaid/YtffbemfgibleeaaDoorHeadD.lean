/- Headers as words: numbersOf, headOf, Enc, Dec, Size, Forward, Forwarded of package head. -/
import Derived.Test.YtffbemfgibleeaaDoorHeadC
import Derived.Test.YtffbemfgibleeaaDoorValRef
import Derived.Deep.Cut
namespace Go.Proofs.YtffbemfgibleeaaDoor
open Go.RowKit

/-- A header in a block of the call's own. -/
theorem box_head (w : World) (k f r : Int) (m : Bool) (c : Int) : ∃ W, w.alloc (.cells #[.int .i64 k, .int .i64 f, .int .i64 r, .bool m, .int .i64 c] 30) = W ∧ Hid (Only nob w W ∧ Blk W w.heap.size 30 #[.int .i64 k, .int .i64 f, .int .i64 r, .bool m, .int .i64 c]) :=
  ⟨_, rfl, Lib.hid ⟨(Only.refl nob w).alloc _, Blk.new w _ _⟩⟩

theorem bi_t : bi true = 1 := rfl
theorem bi_f : bi false = 0 := rfl
/-- The world in which numbersOf hands back. -/
theorem numbers_world (w : World) (o : Obj) (x0 x1 x2 x3 x4 x5 : Int) : ∃ W, (((w.alloc o).alloc (.cells #[.int .i64 0, .int .i64 0, .int .i64 0, .int .i64 0, .int .i64 0, .int .i64 0] 72)).alloc (.cells #[.int .i64 x0, .int .i64 x1, .int .i64 x2, .int .i64 x3, .int .i64 x4, .int .i64 x5] 72)) = W ∧
    Hid (Only nob w W ∧ Blk W (w.heap.size + 1) 72 #[.int .i64 0, .int .i64 0, .int .i64 0, .int .i64 0, .int .i64 0, .int .i64 0] ∧ Blk W (w.heap.size + 1 + 1) 72 #[.int .i64 x0, .int .i64 x1, .int .i64 x2, .int .i64 x3, .int .i64 x4, .int .i64 x5]) :=
  ⟨_, rfl, (((Only.refl nob w).alloc _).alloc _).alloc _, (Blk.newAt _ _ _ _ (by simp)).alloc _, Blk.newAt _ _ _ _ (by simp)⟩
set_option maxRecDepth 100000 in
set_option maxHeartbeats 1000000 in
theorem numbersOf_any (k f r : Int) (m : Bool) (c : Int) (w : World) : Calls Tryd.prog 47 #[.agg #[.int .i64 k, .int .i64 f, .int .i64 r, .bool m, .int .i64 c]] w fun e w' => e = .returned (numV k f r m c) ∧ Only nob w w' := by
  obtain ⟨W, hW, HB⟩ := numbers_world w (.cells #[.int .i64 k, .int .i64 f, .int .i64 r, .bool m, .int .i64 c] 30) 3 (bi m) k f r c
  have HWE := Lib.hid hW
  obtain ⟨s0, s1, s2, s3, s4, s5⟩ := cells6 HB.out.2.1
  obtain ⟨r0, r1, r2, r3, r4, r5⟩ := frees6 HB.out.2.1
  obtain ⟨q0, q1, q2, q3, q4, q5⟩ := cells6 HB.out.2.2
  clear hW
  cases m
  · rw [bi_f] at HWE q1
    go_enter Tryd.func47, Tryd.ntmps47
    go_upto_region 4 with fail
    rw [HWE.out]
    go_wp2
    clear s0 s1 s2 s3 s4 s5 r0 r1 r2 r3 r4 r5 q0 q1 q2 q3 q4 q5
    obtain ⟨W6, hW6, O6, B6⟩ := puts6 HB.out.1 (by omega) HB.out.2.1 (.int .i64 3) (.int .i64 0) (.int .i64 k) (.int .i64 f) (.int .i64 r) (.int .i64 c)
    with_reducible rw [hW6]
    obtain ⟨h0, h1, h2, h3, h4, h5⟩ := cells6 B6
    exact bodyPost_ret (v := .agg #[.int .i64 3, .int .i64 0, .int .i64 k, .int .i64 f, .int .i64 r, .int .i64 c]) (by simp [results, Tryd.results47, go_sem, h0, h1, h2, h3, h4, h5]) rfl ⟨rfl, O6⟩
  · rw [bi_t] at HWE q1
    go_enter Tryd.func47, Tryd.ntmps47
    go_upto_region 4 with fail
    rw [HWE.out]
    go_wp2
    clear s0 s1 s2 s3 s4 s5 r0 r1 r2 r3 r4 r5 q0 q1 q2 q3 q4 q5
    obtain ⟨W6, hW6, O6, B6⟩ := puts6 HB.out.1 (by omega) HB.out.2.1 (.int .i64 3) (.int .i64 1) (.int .i64 k) (.int .i64 f) (.int .i64 r) (.int .i64 c)
    with_reducible rw [hW6]
    obtain ⟨h0, h1, h2, h3, h4, h5⟩ := cells6 B6
    exact bodyPost_ret (v := .agg #[.int .i64 3, .int .i64 1, .int .i64 k, .int .i64 f, .int .i64 r, .int .i64 c]) (by simp [results, Tryd.results47, go_sem, h0, h1, h2, h3, h4, h5]) rfl ⟨rfl, O6⟩

theorem headOf_any (x0 x1 x2 x3 x4 x5 : Int) (w : World) : Calls Tryd.prog 45 #[.agg #[.int .i64 x0, .int .i64 x1, .int .i64 x2, .int .i64 x3, .int .i64 x4, .int .i64 x5]] w fun e w' => e = .returned (.agg #[.int .i64 x2, .int .i64 x3, .int .i64 x4, .bool (x1 == 1), .int .i64 x5]) ∧ Only nob w w' := by
  go_enter Tryd.func45, Tryd.ntmps45
  go_wp2
  obtain ⟨W4, hW4, H4⟩ := box_head (w.alloc (.cells #[.int .i64 x0, .int .i64 x1, .int .i64 x2, .int .i64 x3, .int .i64 x4, .int .i64 x5] 72)) x2 x3 x4 (x1 == 1) x5
  rw [hW4]
  obtain ⟨h0, h1, h2, h3, h4⟩ := cells5 H4.out.2
  have O4 := ((Only.refl nob w).alloc _).trans H4.out.1
  simp at h0 h1 h2 h3 h4
  exact bodyPost_ret (v := .agg #[.int .i64 x2, .int .i64 x3, .int .i64 x4, .bool (x1 == 1), .int .i64 x5]) (by simp [results, Tryd.results45, go_sem, h0, h1, h2, h3, h4]) rfl ⟨rfl, O4⟩
end Go.Proofs.YtffbemfgibleeaaDoor
