/- Headers as words: the document's own answers. -/
import Derived.Test.YtoeccbbjncgmlaaDoorHead
namespace Go.Proofs.YtoeccbbjncgmlaaDoor
open Go.RowKit

theorem ret_pair {a b : Int} {y : Value} (h : a = b) : Ending.returned (.tuple #[.int .u64 a, y]) = .returned (.tuple #[.int .u64 b, y]) := by rw [h]
theorem hmay_no {k f r c : Int} (h : ¬ ((0 ≤ k ∧ k ≤ 31) ∧ (0 ≤ f ∧ f ≤ 4096) ∧ (0 ≤ r ∧ r ≤ 4096) ∧ 0 ≤ c ∧ c ≤ 1048576)) : hmay k f r c = false := by
  rcases hb : hmay k f r c with _ | _
  · rfl
  · exact absurd (hmay_iff.1 hb) h
/-- The numbers of a word, as the document's own answer computes them. -/
theorem u_div {n : Nat} (hn : n < full) (d : Nat) : IntKind.u64.wrap ((n : Int) / (d : Int)) = ((n / d : Nat) : Int) := by
  rw [← Int.natCast_ediv, wrap_id _ (Nat.lt_of_le_of_lt (Nat.div_le_self _ _) hn)]
theorem u_mod (a b : Nat) : ((a : Nat) : Int).tmod (b : Nat) = ((a % b : Nat) : Int) := by rw [Int.tmod_eq_emod_of_nonneg (by omega)]; rfl
theorem i_small {a : Nat} (h : a < 16777217) : wrap64 (a : Int) = (a : Int) := by unfold wrap64; omega
theorem ref_M {n : Nat} (hn : n < full) : ((IntKind.u64.wrap ((n : Int) / 4)).tmod 2 == 1) = wM n := by
  have e := u_div hn 4
  rw [show ((4 : Nat) : Int) = 4 from rfl] at e
  rw [e, show (2 : Int) = ((2 : Nat) : Int) from rfl, u_mod]
  unfold wM
  rw [Bool.eq_iff_iff]
  simp only [beq_iff_eq]
  omega
theorem ref_K {n : Nat} (hn : n < full) : wrap64 ((IntKind.u64.wrap ((n : Int) / 8)).tmod 32) = wK n := by
  have e := u_div hn 8
  rw [show ((8 : Nat) : Int) = 8 from rfl] at e
  rw [e, show (32 : Int) = ((32 : Nat) : Int) from rfl, u_mod, i_small (by omega)]
  rfl
theorem ref_F {n : Nat} (hn : n < full) : wrap64 ((IntKind.u64.wrap ((n : Int) / 256)).tmod 65536) = wF n := by
  have e := u_div hn 256
  rw [show ((256 : Nat) : Int) = 256 from rfl] at e
  rw [e, show (65536 : Int) = ((65536 : Nat) : Int) from rfl, u_mod, i_small (by omega)]
  rfl
theorem ref_R {n : Nat} (hn : n < full) : wrap64 ((IntKind.u64.wrap ((n : Int) / 16777216)).tmod 65536) = wR n := by
  have e := u_div hn 16777216
  rw [show ((16777216 : Nat) : Int) = 16777216 from rfl] at e
  rw [e, show (65536 : Int) = ((65536 : Nat) : Int) from rfl, u_mod, i_small (by omega)]
  rfl
theorem ref_C {n : Nat} (hn : n < full) : wrap64 (IntKind.u64.wrap ((n : Int) / 1099511627776)) = wC n := by
  have e := u_div hn 1099511627776
  rw [show ((1099511627776 : Nat) : Int) = 1099511627776 from rfl] at e
  rw [e, i_small (by unfold full at hn; omega)]
  rfl
theorem ref_t (n : Nat) : ((n : Int)).tmod 4 = ((n % 4 : Nat) : Int) := u_mod n 4
/-- The world in which the document's Dec has made its header. -/
theorem dec_world (w : World) (k f r : Int) (m : Bool) (c : Int) : ∃ W, ((w.alloc (.cells #[.int .i64 0, .int .i64 0, .int .i64 0, .bool false, .int .i64 0] 23)).alloc (.cells #[.int .i64 k, .int .i64 f, .int .i64 r, .bool m, .int .i64 c] 23)) = W ∧
    Hid (Only nob w W ∧ Blk W w.heap.size 23 #[.int .i64 0, .int .i64 0, .int .i64 0, .bool false, .int .i64 0] ∧ Blk W (w.heap.size + 1) 23 #[.int .i64 k, .int .i64 f, .int .i64 r, .bool m, .int .i64 c]) :=
  ⟨_, rfl, ((Only.refl nob w).alloc _).alloc _, (Blk.newAt _ _ _ _ rfl).alloc _, Blk.newAt _ _ _ _ (by simp)⟩

end Go.Proofs.YtoeccbbjncgmlaaDoor
