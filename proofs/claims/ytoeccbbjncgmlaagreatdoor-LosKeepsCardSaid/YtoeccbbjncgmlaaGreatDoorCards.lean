/-
  DERIVED. GIVEN WITH THE SEED: THE CARDS: each row of YtoeccbbjncgmlaaGreatDoorRows.lean that lists a variable, with what it lists TIED to the program's text (the seventh form; the later family's looks); each row that meets fmt, with fmt's text TOLD by the authors' own Lean function (tested against real Go, not proved from fmt's source: count such statements apart). THE CARD IS WHAT COUNTS. Prove the row's statement (the work); the ties are given (YtoeccbbjncgmlaaGreatDoorTie.lean); close each card by the builder's one call (the guide's Derived/Test/ToyasCard.lean, 'card_holds'). Laid BY PROGRAM, IN A SANDBOX (cutbox-door.mjs). By AI agents, Wed Nov 11 2026. No macro, syntax, notation, axiom, sorry.
-/
import Derived.Test.YtoeccbbjncgmlaaGreatDoorRows
import GoSem.ClaimSeven
namespace Go.Proofs.YtoeccbbjncgmlaaGreatDoor
namespace Rows

/-- THE TIED CARD OF 'triforiumlaw13.LosKeeps'. -/
def losKeepsCard : Claim7 := { stood := { row := losKeepsRow, standIns := [], harness := (true, "1ce3b664650f2489de2a5dce034d350c0ebe023581e8c8e61fbda7a0dfc00a21"), looks := false }, kinds := [], alts := [], laidByText := true, laidKinds := [.data], laidTests := true, laidLooks := .later }
def LosKeepsCardSaid : Prop := Claim7.holds Tryz.pinned (.plain (OpenSpec.ofChange losKeepsSpec)) losKeepsCard

/-- THE SECOND FORM's CARD OF 'triforiumlaw13.LosKeeps'. -/
def losKeepsUptoCard : Claim7 := { stood := { row := losKeepsUptoRow, standIns := [], harness := (true, "1ce3b664650f2489de2a5dce034d350c0ebe023581e8c8e61fbda7a0dfc00a21"), looks := false }, kinds := [], alts := [], laidByText := true, laidKinds := [.data], laidTests := true, laidLooks := .later }
def LosKeepsUptoCardSaid : Prop := Claim7.holds Tryz.pinned (.plain (OpenSpec.upto losKeepsSpec)) losKeepsUptoCard
end Rows
end Go.Proofs.YtoeccbbjncgmlaaGreatDoor
