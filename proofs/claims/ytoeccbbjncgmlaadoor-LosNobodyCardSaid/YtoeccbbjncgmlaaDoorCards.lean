/-
  DERIVED. GIVEN WITH THE SEED: THE CARDS: each row of YtoeccbbjncgmlaaDoorRows.lean that lists a variable, with what it lists TIED to the program's text (the seventh form; the later family's looks); each row that meets fmt, with fmt's text TOLD by the authors' own Lean function (tested against real Go, not proved from fmt's source: count such statements apart). THE CARD IS WHAT COUNTS. Prove the row's statement (the work); the ties are given (YtoeccbbjncgmlaaDoorTie.lean); close each card by the builder's one call (the guide's Derived/Test/ToyasCard.lean, 'card_holds'). Laid BY PROGRAM, IN A SANDBOX (cutbox-door.mjs). By AI agents, Wed Nov 11 2026. No macro, syntax, notation, axiom, sorry.
-/
import Derived.Test.YtoeccbbjncgmlaaDoorRows
import GoSem.ClaimSeven
namespace Go.Proofs.YtoeccbbjncgmlaaDoor
namespace Rows

/-- THE TIED CARD OF 'triforiumlaw13.LosNobody'. -/
def losNobodyCard : Claim7 := { stood := { row := losNobodyRow, standIns := [], harness := (true, "edb2c28c1e080854969700f5eb7f9513e1d43d81fd2076fdba55c20ae5c890ab"), looks := false }, kinds := [], alts := [], laidByText := true, laidKinds := [.data], laidTests := true, laidLooks := .later }
def LosNobodyCardSaid : Prop := Claim7.holds Tryd.pinned (.plain (OpenSpec.ofChange losNobodySpec)) losNobodyCard

/-- THE SECOND FORM's CARD OF 'triforiumlaw13.LosNobody'. -/
def losNobodyUptoCard : Claim7 := { stood := { row := losNobodyUptoRow, standIns := [], harness := (true, "edb2c28c1e080854969700f5eb7f9513e1d43d81fd2076fdba55c20ae5c890ab"), looks := false }, kinds := [], alts := [], laidByText := true, laidKinds := [.data], laidTests := true, laidLooks := .later }
def LosNobodyUptoCardSaid : Prop := Claim7.holds Tryd.pinned (.plain (OpenSpec.upto losNobodySpec)) losNobodyUptoCard
end Rows
end Go.Proofs.YtoeccbbjncgmlaaDoor
