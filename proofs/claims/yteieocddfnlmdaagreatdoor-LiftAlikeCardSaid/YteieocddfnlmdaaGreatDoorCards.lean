/-
  DERIVED. GIVEN WITH THE SEED: THE CARDS: each row of YteieocddfnlmdaaGreatDoorRows.lean that lists a variable, with what it lists TIED to the program's text (the seventh form; the later family's looks); each row that meets fmt, with fmt's text TOLD by the authors' own Lean function (tested against real Go, not proved from fmt's source: count such statements apart). THE CARD IS WHAT COUNTS. Prove the row's statement (the work); the ties are given (YteieocddfnlmdaaGreatDoorTie.lean); close each card by the builder's one call (the guide's Derived/Test/ToyasCard.lean, 'card_holds'). Laid BY PROGRAM, IN A SANDBOX (cutbox-door.mjs). By AI agents, Wed Nov 11 2026. No macro, syntax, notation, axiom, sorry.
-/
import Derived.Test.YteieocddfnlmdaaGreatDoorRows
import GoSem.ClaimSeven
namespace Go.Proofs.YteieocddfnlmdaaGreatDoor
namespace Rows

/-- THE TIED CARD OF 'triforiumlaw19.LiftLifts'. -/
def liftLiftsCard : Claim7 := { stood := { row := liftLiftsRow, standIns := [], harness := (true, "db1f7c0a263b9f829ded650474302fa6f4d60dd63280958866d298b0794165d2"), looks := false }, kinds := [], alts := [], laidByText := true, laidKinds := [.data], laidTests := true, laidLooks := .later }
def LiftLiftsCardSaid : Prop := Claim7.holds Tryz.pinned (.plain (OpenSpec.ofChange liftLiftsSpec)) liftLiftsCard

/-- THE TIED CARD OF 'triforiumlaw19.LiftAlike'. -/
def liftAlikeCard : Claim7 := { stood := { row := liftAlikeRow, standIns := [], harness := (true, "db1f7c0a263b9f829ded650474302fa6f4d60dd63280958866d298b0794165d2"), looks := false }, kinds := [], alts := [], laidByText := true, laidKinds := [.data], laidTests := true, laidLooks := .later }
def LiftAlikeCardSaid : Prop := Claim7.holds Tryz.pinned (.plain (OpenSpec.ofChange liftAlikeSpec)) liftAlikeCard

/-- THE TIED CARD OF 'triforiumlaw19.LiftRight'. -/
def liftRightCard : Claim7 := { stood := { row := liftRightRow, standIns := [], harness := (true, "db1f7c0a263b9f829ded650474302fa6f4d60dd63280958866d298b0794165d2"), looks := false }, kinds := [], alts := [], laidByText := true, laidKinds := [.data], laidTests := true, laidLooks := .later }
def LiftRightCardSaid : Prop := Claim7.holds Tryz.pinned (.plain (OpenSpec.ofChange liftRightSpec)) liftRightCard

/-- THE SECOND FORM's CARD OF 'triforiumlaw19.LiftLifts'. -/
def liftLiftsUptoCard : Claim7 := { stood := { row := liftLiftsUptoRow, standIns := [], harness := (true, "db1f7c0a263b9f829ded650474302fa6f4d60dd63280958866d298b0794165d2"), looks := false }, kinds := [], alts := [], laidByText := true, laidKinds := [.data], laidTests := true, laidLooks := .later }
def LiftLiftsUptoCardSaid : Prop := Claim7.holds Tryz.pinned (.plain (OpenSpec.upto liftLiftsSpec)) liftLiftsUptoCard

/-- THE SECOND FORM's CARD OF 'triforiumlaw19.LiftAlike'. -/
def liftAlikeUptoCard : Claim7 := { stood := { row := liftAlikeUptoRow, standIns := [], harness := (true, "db1f7c0a263b9f829ded650474302fa6f4d60dd63280958866d298b0794165d2"), looks := false }, kinds := [], alts := [], laidByText := true, laidKinds := [.data], laidTests := true, laidLooks := .later }
def LiftAlikeUptoCardSaid : Prop := Claim7.holds Tryz.pinned (.plain (OpenSpec.upto liftAlikeSpec)) liftAlikeUptoCard

/-- THE SECOND FORM's CARD OF 'triforiumlaw19.LiftRight'. -/
def liftRightUptoCard : Claim7 := { stood := { row := liftRightUptoRow, standIns := [], harness := (true, "db1f7c0a263b9f829ded650474302fa6f4d60dd63280958866d298b0794165d2"), looks := false }, kinds := [], alts := [], laidByText := true, laidKinds := [.data], laidTests := true, laidLooks := .later }
def LiftRightUptoCardSaid : Prop := Claim7.holds Tryz.pinned (.plain (OpenSpec.upto liftRightSpec)) liftRightUptoCard
end Rows
end Go.Proofs.YteieocddfnlmdaaGreatDoor
