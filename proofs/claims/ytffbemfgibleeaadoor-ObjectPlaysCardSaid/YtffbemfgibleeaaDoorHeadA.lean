/- Headers as words: plain words; the parts of a header's word; what part.may, numbersOf and headOf of package head tell. -/
import Derived.Test.YtffbemfgibleeaaDoorMem
import Derived.Test.YtffbemfgibleeaaDoorWordA
import Derived.Test.YtffbemfgibleeaaDoorValA
import Derived.Test.YtffbemfgibleeaaDoorQuiet
import Derived.Test.YtffbemfgibleeaaDoorChecked
namespace Go.Proofs.YtffbemfgibleeaaDoor
open Go.RowKit

/-- The parts: where a number's bits begin, how many they are, and from what to what the number may be. -/
def pA : Nat → Nat | 0 => 0 | 1 => 2 | 2 => 3 | 3 => 8 | 4 => 24 | _ => 40
def pN : Nat → Nat | 0 => 2 | 1 => 1 | 2 => 5 | 3 => 16 | 4 => 16 | _ => 24
def pL : Nat → Int | 0 => 3 | _ => 0
def pU : Nat → Int | 0 => 3 | 1 => 1 | 2 => 31 | 3 => 4096 | 4 => 4096 | _ => 1048576
/-- The table's cells. -/
def parC : Array Value := #[.int .i64 0, .int .i64 2, .int .i64 3, .int .i64 3, .int .i64 2, .int .i64 1, .int .i64 0, .int .i64 1, .int .i64 3, .int .i64 5, .int .i64 0, .int .i64 31, .int .i64 8, .int .i64 16, .int .i64 0, .int .i64 4096, .int .i64 24, .int .i64 16, .int .i64 0, .int .i64 4096, .int .i64 40, .int .i64 24, .int .i64 0, .int .i64 1048576]
/-- The table is laid. -/
def Par (w : World) : Prop := ∃ t fr, w.heap[0]? = some (.cells parC t fr)
theorem Par.lt {w : World} (h : Par w) : 0 < w.heap.size := by
  obtain ⟨t, fr, h⟩ := h
  rcases Nat.lt_or_ge 0 w.heap.size with g | g
  · exact g
  · rw [Array.getElem?_eq_none g] at h; cases h
theorem Par.old {w w' : World} (h : Par w) (o : Only nob w w') : Par w' := by
  obtain ⟨t, fr, hh⟩ := h
  exact ⟨t, fr, (o.block _ (Par.lt ⟨t, fr, hh⟩) id).trans hh⟩
theorem lt_six {k : Nat} (h : k < 6) : k = 0 ∨ k = 1 ∨ k = 2 ∨ k = 3 ∨ k = 4 ∨ k = 5 := by omega
theorem part_at (k : Nat) (h : k < 6) : ∀ w : World, (Instr.index 85 (.agg parC) (.int .i64 k)).run Tryd.prog w = .ok (.agg #[.int .i64 (pA k : Nat), .int .i64 (pN k : Nat), .int .i64 (pL k), .int .i64 (pU k)]) w := by
  rcases lt_six h with rfl | rfl | rfl | rfl | rfl | rfl <;> exact fun _ => by kernel_rfl
theorem part_fits (k : Nat) (h : k < 6) : 1 ≤ pN k ∧ pA k + pN k ≤ 64 := by
  rcases lt_six h with rfl | rfl | rfl | rfl | rfl | rfl <;> decide
theorem part_on (k : Nat) (h : k < 6) {x : Int} (hx : vin x (pL k) (pU k) = true) : 0 ≤ x ∧ x.toNat ≤ on (pN k) ∧ x.toNat < 2 ^ pN k := by
  have hx' := vin_iff.1 hx
  rcases lt_six h with rfl | rfl | rfl | rfl | rfl | rfl <;> (simp only [pL, pU, pN, on] at hx' ⊢; omega)

/-- Six numbers. -/
def num6 (x0 x1 x2 x3 x4 x5 : Int) : Nat → Int | 0 => x0 | 1 => x1 | 2 => x2 | 3 => x3 | 4 => x4 | _ => x5
/-- May the first k of them be? -/
def MayTo (v : Nat → Int) (k : Nat) : Prop := ∀ i, i < k → vin (v i) (pL i) (pU i) = true
theorem MayTo.zero (v : Nat → Int) : MayTo v 0 := fun _ h => absurd h (Nat.not_lt_zero _)
theorem MayTo.succ {v : Nat → Int} {k : Nat} (h : MayTo v k) (hk : vin (v k) (pL k) (pU k) = true) : MayTo v (k + 1) := fun i hi => by
  rcases Nat.lt_or_ge i k with h' | h'
  · exact h i h'
  · obtain rfl : i = k := by omega
    exact hk
/-- The word of the first k of them. -/
def accW (v : Nat → Int) : Nat → Nat
  | 0 => 0
  | k + 1 => pt (accW v k) (pA k) (pN k) (v k).toNat
theorem accW_lt (v : Nat → Int) (k : Nat) (hk : k ≤ 6) (h : MayTo v k) : accW v k < full := by
  induction k with
  | zero => exact (by decide : (0 : Nat) < full)
  | succ k ih => exact pt_lt _ _ _ _ (ih (by omega) fun i hi => h i (by omega)) (part_on k (by omega) (h k (by omega))).2.2 (part_fits k (by omega)).2

/-- May a header of kind k, fields f, raws r, cursor c be? -/
def hmay (k f r c : Int) : Bool := vin k 0 31 && (vin f 0 4096 && (vin r 0 4096 && vin c 0 1048576))
theorem hmay_iff {k f r c : Int} : hmay k f r c = true ↔ (0 ≤ k ∧ k ≤ 31) ∧ (0 ≤ f ∧ f ≤ 4096) ∧ (0 ≤ r ∧ r ≤ 4096) ∧ 0 ≤ c ∧ c ≤ 1048576 := by
  unfold hmay; rw [Bool.and_eq_true, Bool.and_eq_true, Bool.and_eq_true, vin_iff, vin_iff, vin_iff, vin_iff]
/-- 1 of a mark. -/
def bi (m : Bool) : Int := if m then 1 else 0
theorem bi_in (m : Bool) : 0 ≤ bi m ∧ bi m ≤ 1 := by cases m <;> decide
/-- A header's numbers. -/
def numH (k f r : Int) (m : Bool) (c : Int) : Nat → Int := num6 3 (bi m) k f r c
theorem mayTo_iff (k f r : Int) (m : Bool) (c : Int) : MayTo (numH k f r m c) 6 ↔ hmay k f r c = true := by
  rw [hmay_iff]
  constructor
  · intro h
    exact ⟨vin_iff.1 (h 2 (by decide)), vin_iff.1 (h 3 (by decide)), vin_iff.1 (h 4 (by decide)), vin_iff.1 (h 5 (by decide))⟩
  · rintro ⟨h1, h2, h3, h4⟩ i hi
    rcases lt_six hi with rfl | rfl | rfl | rfl | rfl | rfl
    · exact vin_yes (Int.le_refl 3) (Int.le_refl 3)
    · exact vin_yes (bi_in m).1 (bi_in m).2
    · exact vin_yes h1.1 h1.2
    · exact vin_yes h2.1 h2.2
    · exact vin_yes h3.1 h3.2
    · exact vin_yes h4.1 h4.2
/-- Its word. -/
def hW (k f r : Int) (m : Bool) (c : Int) : Int := c * 1099511627776 + r * 16777216 + f * 256 + k * 8 + 3 + 4 * bi m
theorem pt_over (w a n x : Nat) (hw : w < 2 ^ a) : pt w a n x = w + 2 ^ a * x := by
  unfold pt
  rw [Nat.mod_eq_of_lt hw, Nat.div_eq_of_lt (Nat.lt_of_lt_of_le hw (Nat.pow_le_pow_right (by decide) (Nat.le_add_right a n)))]
  simp
theorem accW_is {k f r c : Int} (m : Bool) (h : hmay k f r c = true) : (accW (numH k f r m c) 6 : Int) = hW k f r m c := by
  have h' := hmay_iff.1 h
  have hb := bi_in m
  have e1 : accW (numH k f r m c) 1 = 3 := (by decide : pt 0 0 2 3 = 3)
  have e2 : accW (numH k f r m c) 2 = 3 + 4 * (bi m).toNat := by
    show pt (accW (numH k f r m c) 1) 2 1 (bi m).toNat = _
    rw [e1, pt_over _ _ _ _ (by decide)]
  have e3 : accW (numH k f r m c) 3 = 3 + 4 * (bi m).toNat + 8 * k.toNat := by
    show pt (accW (numH k f r m c) 2) 3 5 k.toNat = _
    rw [e2, pt_over _ _ _ _ (by omega)]
  have e4 : accW (numH k f r m c) 4 = 3 + 4 * (bi m).toNat + 8 * k.toNat + 256 * f.toNat := by
    show pt (accW (numH k f r m c) 3) 8 16 f.toNat = _
    rw [e3, pt_over _ _ _ _ (by omega)]
  have e5 : accW (numH k f r m c) 5 = 3 + 4 * (bi m).toNat + 8 * k.toNat + 256 * f.toNat + 16777216 * r.toNat := by
    show pt (accW (numH k f r m c) 4) 24 16 r.toNat = _
    rw [e4, pt_over _ _ _ _ (by omega)]
  have e6 : accW (numH k f r m c) 6 = 3 + 4 * (bi m).toNat + 8 * k.toNat + 256 * f.toNat + 16777216 * r.toNat + 1099511627776 * c.toNat := by
    show pt (accW (numH k f r m c) 5) 40 24 c.toNat = _
    rw [e5, pt_over _ _ _ _ (by omega)]
  rw [e6]
  unfold hW
  omega

/-- Does a number lie in its part's bounds. -/
theorem partMay_any (a n l u x : Int) (w : World) : Calls Tryd.prog 53 #[.agg #[.int .i64 a, .int .i64 n, .int .i64 l, .int .i64 u], .int .i64 x] w fun e w' => e = .returned (.bool (vin x l u)) ∧ Only nob w w' := by
  by_cases h1 : l ≤ x
  · by_cases h2 : x ≤ u
    case' pos => have HK := Lib.hid (vin_yes h1 h2)
    case' neg => have HK := Lib.hid (vin_hi (l := l) h2)
    all_goals
      go_enter Tryd.func53, Tryd.ntmps53
      go_wp2
      go_ret
      exact ⟨ret_bool (by rw [HK.out]), (Only.refl _ _).alloc _⟩
  · have HK := Lib.hid (vin_lo (m := u) h1)
    go_enter Tryd.func53, Tryd.ntmps53
    go_wp2
    go_ret
    exact ⟨ret_bool (by rw [HK.out]), (Only.refl _ _).alloc _⟩

def numV (k f r : Int) (m : Bool) (c : Int) : Value := .agg #[.int .i64 3, .int .i64 (bi m), .int .i64 k, .int .i64 f, .int .i64 r, .int .i64 c]
end Go.Proofs.YtffbemfgibleeaaDoor
