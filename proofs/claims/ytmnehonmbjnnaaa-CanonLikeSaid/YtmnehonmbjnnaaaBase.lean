/- The smallest words of all texts: an answer's number, 2^64 behind a name. -/
import Derived.WalkKit
import Derived.Lib.Hide
namespace Go.Proofs.Ytmnehonmbjnnaaa
open Go.RowKit

theorem ret_u64 {a b : Int} (h : a = b) : Ending.returned (.int .u64 a) = .returned (.int .u64 b) := by rw [h]
theorem ret_i64 {a b : Int} (h : a = b) : Ending.returned (.int .i64 a) = .returned (.int .i64 b) := by rw [h]
theorem ret_bool {a b : Bool} (h : a = b) : Ending.returned (.bool a) = .returned (.bool b) := by rw [h]

/-- 2^64, behind a name. -/
def full : Nat := 18446744073709551616
theorem full_eq : full = 2 ^ 64 := rfl
theorem pow_le_full {n : Nat} (h : n ≤ 64) : 2 ^ n ≤ full := Nat.pow_le_pow_right (by decide) h
theorem pow_lt_full {n : Nat} (h : n < 64) : 2 ^ n < full := Nat.pow_lt_pow_right (by decide) h
/-- A small number stays as it is. Said of any whole number: with a sum of a Nat in it the kernel reckons the remainder by unfolding. -/
theorem wrap64_id (z : Int) (h0 : -4611686018427387904 ≤ z) (h1 : z ≤ 4611686018427387904) : wrap64 z = z := by unfold wrap64; omega
theorem ret_int {k : IntKind} {a b : Int} (h : a = b) : Ending.returned (.int k a) = .returned (.int k b) := by rw [h]
end Go.Proofs.Ytmnehonmbjnnaaa
