/- The reference of words: Ref of package value and of the document's own answer. -/
import Derived.Test.YtffbemfgibleeaaDoorValC
namespace Go.Proofs.YtffbemfgibleeaaDoor
open Go.RowKit

/-- Where a word leads, and whether it does. -/
def rX (n : Int) : Int := if dK n = 2 then dX n else 0
def rB (n : Int) : Bool := decide (dK n = 2)
theorem e_of_ref {n : Int} (h : dK n = 2) : dE n = 0 := by
  unfold dK at h; unfold dE
  split at h
  · cases h
  · split at h
    · rw [if_pos (.inr (.inr ‹_›))]
    · cases h
theorem e_two (n : Int) : dE n = 0 ∨ dE n = 3 := by unfold dE; split <;> simp
end Go.Proofs.YtffbemfgibleeaaDoor
