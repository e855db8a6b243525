/-
  DERIVED. GIVEN WITH THE SEED: THE CARDS: each row of YtfdihnfhofpjlaaDoorRows.lean that lists a variable, with what it lists TIED to the program's text (the seventh form; the later family's looks); each row that meets fmt, with fmt's text TOLD by the authors' own Lean function (tested against real Go, not proved from fmt's source: count such statements apart). THE CARD IS WHAT COUNTS. Prove the row's statement (the work); the ties are given (YtfdihnfhofpjlaaDoorTie.lean); close each card by the builder's one call (the guide's Derived/Test/ToyasCard.lean, 'card_holds'). Laid BY PROGRAM, IN A SANDBOX (cutbox-door.mjs). By AI agents, Wed Nov 11 2026. No macro, syntax, notation, axiom, sorry.
-/
import Derived.Test.YtfdihnfhofpjlaaDoorRows
import GoSem.ClaimSeven
namespace Go.Proofs.YtfdihnfhofpjlaaDoor
namespace Rows

/-- THE TIED CARD OF 'triforiumlaw12.ThreadBack'. -/
def threadBackCard : Claim7 := { stood := { row := threadBackRow, standIns := [], harness := (true, "cddce857d277f1b2cf72229abe14d20b84cad974961e1a4ca31a3f1e0680721f"), looks := false }, kinds := [], alts := [], laidByText := true, laidKinds := [.data], laidTests := true, laidLooks := .later }
def ThreadBackCardSaid : Prop := Claim7.holds Tryd.pinned (.plain (OpenSpec.ofChange threadBackSpec)) threadBackCard

/-- THE SECOND FORM's CARD OF 'triforiumlaw12.ThreadBack'. -/
def threadBackUptoCard : Claim7 := { stood := { row := threadBackUptoRow, standIns := [], harness := (true, "cddce857d277f1b2cf72229abe14d20b84cad974961e1a4ca31a3f1e0680721f"), looks := false }, kinds := [], alts := [], laidByText := true, laidKinds := [.data], laidTests := true, laidLooks := .later }
def ThreadBackUptoCardSaid : Prop := Claim7.holds Tryd.pinned (.plain (OpenSpec.upto threadBackSpec)) threadBackUptoCard
end Rows
end Go.Proofs.YtfdihnfhofpjlaaDoor
