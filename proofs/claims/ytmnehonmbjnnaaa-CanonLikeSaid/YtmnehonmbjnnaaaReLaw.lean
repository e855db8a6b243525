/- The laws ReachPlans and ReachOrders: walked. (Printed by wip/tools/gen_law17.py.) -/
import Derived.Test.YtmnehonmbjnnaaaReAws
import Derived.Test.YtmnehonmbjnnaaaGrLaw
namespace Go.Proofs.Ytmnehonmbjnnaaa
open Go.RowKit Go.Lib
set_option maxRecDepth 100000
set_option linter.unusedSimpArgs false
set_option linter.unusedVariables false

/-- Rows of numbers that are the same. -/
theorem ints17 {V W : World} {base base' n : Nat} {v u : Value} {l : List Int} (h : OwR V base 3 v n (i64s l)) (k : OwR W base' 3 u n (i64s l)) (o : Only nob V W) (W' : World) (o' : Only nob W W') :
    Calls Try.prog 12 #[v, u] W' fun e w' => e = .returned (.bool true) ∧ Only nob W' w' := by
  have hl : l.length = n := by simpa [i64s] using h.len
  subst hl
  refine (rInts16 v u l _ _ W' ((h.only (o.trans o') fun _ _ h => h).sl) ((k.only o' fun _ _ h => h).sl)).mono ?_
  rintro e w' ⟨rfl, m, rfl⟩
  exact ⟨rfl, (Only.refl nob W').drewN m⟩
end Go.Proofs.Ytmnehonmbjnnaaa
