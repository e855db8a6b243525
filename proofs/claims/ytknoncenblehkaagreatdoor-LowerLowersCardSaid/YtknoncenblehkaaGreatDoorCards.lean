/-
  DERIVED. GIVEN WITH THE SEED: THE CARDS: each row of YtknoncenblehkaaGreatDoorRows.lean that lists a variable, with what it lists TIED to the program's text (the seventh form; the later family's looks); each row that meets fmt, with fmt's text TOLD by the authors' own Lean function (tested against real Go, not proved from fmt's source: count such statements apart). THE CARD IS WHAT COUNTS. Prove the row's statement (the work); the ties are given (YtknoncenblehkaaGreatDoorTie.lean); close each card by the builder's one call (the guide's Derived/Test/ToyasCard.lean, 'card_holds'). Laid BY PROGRAM, IN A SANDBOX (cutbox-door.mjs). By AI agents, Wed Nov 11 2026. No macro, syntax, notation, axiom, sorry.
-/
import Derived.Test.YtknoncenblehkaaGreatDoorRows
import GoSem.ClaimSeven
namespace Go.Proofs.YtknoncenblehkaaGreatDoor
namespace Rows

/-- THE TIED CARD OF 'triforiumlaw20.LowerLowers'. -/
def lowerLowersCard : Claim7 := { stood := { row := lowerLowersRow, standIns := [], harness := (true, "de7ebff624e34d51cd0b410a3cc24a7dcc93a585773b8e1bb266e6f5ab3e13ca"), looks := false }, kinds := [], alts := [], laidByText := true, laidKinds := [.data], laidTests := true, laidLooks := .later }
def LowerLowersCardSaid : Prop := Claim7.holds Tryz.pinned (.plain (OpenSpec.ofChange lowerLowersSpec)) lowerLowersCard

/-- THE TIED CARD OF 'triforiumlaw20.LowerBack'. -/
def lowerBackCard : Claim7 := { stood := { row := lowerBackRow, standIns := [], harness := (true, "de7ebff624e34d51cd0b410a3cc24a7dcc93a585773b8e1bb266e6f5ab3e13ca"), looks := false }, kinds := [], alts := [], laidByText := true, laidKinds := [.data], laidTests := true, laidLooks := .later }
def LowerBackCardSaid : Prop := Claim7.holds Tryz.pinned (.plain (OpenSpec.ofChange lowerBackSpec)) lowerBackCard

/-- THE TIED CARD OF 'triforiumlaw20.LowerAgain'. -/
def lowerAgainCard : Claim7 := { stood := { row := lowerAgainRow, standIns := [], harness := (true, "de7ebff624e34d51cd0b410a3cc24a7dcc93a585773b8e1bb266e6f5ab3e13ca"), looks := false }, kinds := [], alts := [], laidByText := true, laidKinds := [.data], laidTests := true, laidLooks := .later }
def LowerAgainCardSaid : Prop := Claim7.holds Tryz.pinned (.plain (OpenSpec.ofChange lowerAgainSpec)) lowerAgainCard

/-- THE SECOND FORM's CARD OF 'triforiumlaw20.LowerLowers'. -/
def lowerLowersUptoCard : Claim7 := { stood := { row := lowerLowersUptoRow, standIns := [], harness := (true, "de7ebff624e34d51cd0b410a3cc24a7dcc93a585773b8e1bb266e6f5ab3e13ca"), looks := false }, kinds := [], alts := [], laidByText := true, laidKinds := [.data], laidTests := true, laidLooks := .later }
def LowerLowersUptoCardSaid : Prop := Claim7.holds Tryz.pinned (.plain (OpenSpec.upto lowerLowersSpec)) lowerLowersUptoCard

/-- THE SECOND FORM's CARD OF 'triforiumlaw20.LowerBack'. -/
def lowerBackUptoCard : Claim7 := { stood := { row := lowerBackUptoRow, standIns := [], harness := (true, "de7ebff624e34d51cd0b410a3cc24a7dcc93a585773b8e1bb266e6f5ab3e13ca"), looks := false }, kinds := [], alts := [], laidByText := true, laidKinds := [.data], laidTests := true, laidLooks := .later }
def LowerBackUptoCardSaid : Prop := Claim7.holds Tryz.pinned (.plain (OpenSpec.upto lowerBackSpec)) lowerBackUptoCard

/-- THE SECOND FORM's CARD OF 'triforiumlaw20.LowerAgain'. -/
def lowerAgainUptoCard : Claim7 := { stood := { row := lowerAgainUptoRow, standIns := [], harness := (true, "de7ebff624e34d51cd0b410a3cc24a7dcc93a585773b8e1bb266e6f5ab3e13ca"), looks := false }, kinds := [], alts := [], laidByText := true, laidKinds := [.data], laidTests := true, laidLooks := .later }
def LowerAgainUptoCardSaid : Prop := Claim7.holds Tryz.pinned (.plain (OpenSpec.upto lowerAgainSpec)) lowerAgainUptoCard
end Rows
end Go.Proofs.YtknoncenblehkaaGreatDoor
