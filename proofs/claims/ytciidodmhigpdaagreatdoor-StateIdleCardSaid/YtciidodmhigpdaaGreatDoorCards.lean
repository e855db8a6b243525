/-
  DERIVED. GIVEN WITH THE SEED: THE CARDS: each row of YtciidodmhigpdaaGreatDoorRows.lean that lists a variable, with what it lists TIED to the program's text (the seventh form; the later family's looks); each row that meets fmt, with fmt's text TOLD by the authors' own Lean function (tested against real Go, not proved from fmt's source: count such statements apart). THE CARD IS WHAT COUNTS. Prove the row's statement (the work); the ties are given (YtciidodmhigpdaaGreatDoorTie.lean); close each card by the builder's one call (the guide's Derived/Test/ToyasCard.lean, 'card_holds'). Laid BY PROGRAM, IN A SANDBOX (cutbox-door.mjs). By AI agents, Wed Nov 11 2026. No macro, syntax, notation, axiom, sorry.
-/
import Derived.Test.YtciidodmhigpdaaGreatDoorRows
import GoSem.ClaimSeven
namespace Go.Proofs.YtciidodmhigpdaaGreatDoor
namespace Rows

/-- THE TIED CARD OF 'triforiumlaw15.StateChecks'. -/
def stateChecksCard : Claim7 := { stood := { row := stateChecksRow, standIns := [], harness := (true, "1c3970f5127e19db90d526e27029828ac1fda42c9b038bb616cf7fad3022f54e"), looks := false }, kinds := [], alts := [], laidByText := true, laidKinds := [.data], laidTests := true, laidLooks := .later }
def StateChecksCardSaid : Prop := Claim7.holds Tryz.pinned (.plain (OpenSpec.ofChange stateChecksSpec)) stateChecksCard

/-- THE TIED CARD OF 'triforiumlaw15.StateNews'. -/
def stateNewsCard : Claim7 := { stood := { row := stateNewsRow, standIns := [], harness := (true, "1c3970f5127e19db90d526e27029828ac1fda42c9b038bb616cf7fad3022f54e"), looks := false }, kinds := [], alts := [], laidByText := true, laidKinds := [.data], laidTests := true, laidLooks := .later }
def StateNewsCardSaid : Prop := Claim7.holds Tryz.pinned (.plain (OpenSpec.ofChange stateNewsSpec)) stateNewsCard

/-- THE TIED CARD OF 'triforiumlaw15.StateCopies'. -/
def stateCopiesCard : Claim7 := { stood := { row := stateCopiesRow, standIns := [], harness := (true, "1c3970f5127e19db90d526e27029828ac1fda42c9b038bb616cf7fad3022f54e"), looks := false }, kinds := [], alts := [], laidByText := true, laidKinds := [.data], laidTests := true, laidLooks := .later }
def StateCopiesCardSaid : Prop := Claim7.holds Tryz.pinned (.plain (OpenSpec.ofChange stateCopiesSpec)) stateCopiesCard

/-- THE TIED CARD OF 'triforiumlaw15.StateIdle'. -/
def stateIdleCard : Claim7 := { stood := { row := stateIdleRow, standIns := [], harness := (true, "1c3970f5127e19db90d526e27029828ac1fda42c9b038bb616cf7fad3022f54e"), looks := false }, kinds := [], alts := [], laidByText := true, laidKinds := [.data], laidTests := true, laidLooks := .later }
def StateIdleCardSaid : Prop := Claim7.holds Tryz.pinned (.plain (OpenSpec.ofChange stateIdleSpec)) stateIdleCard

/-- THE SECOND FORM's CARD OF 'triforiumlaw15.StateChecks'. -/
def stateChecksUptoCard : Claim7 := { stood := { row := stateChecksUptoRow, standIns := [], harness := (true, "1c3970f5127e19db90d526e27029828ac1fda42c9b038bb616cf7fad3022f54e"), looks := false }, kinds := [], alts := [], laidByText := true, laidKinds := [.data], laidTests := true, laidLooks := .later }
def StateChecksUptoCardSaid : Prop := Claim7.holds Tryz.pinned (.plain (OpenSpec.upto stateChecksSpec)) stateChecksUptoCard

/-- THE SECOND FORM's CARD OF 'triforiumlaw15.StateNews'. -/
def stateNewsUptoCard : Claim7 := { stood := { row := stateNewsUptoRow, standIns := [], harness := (true, "1c3970f5127e19db90d526e27029828ac1fda42c9b038bb616cf7fad3022f54e"), looks := false }, kinds := [], alts := [], laidByText := true, laidKinds := [.data], laidTests := true, laidLooks := .later }
def StateNewsUptoCardSaid : Prop := Claim7.holds Tryz.pinned (.plain (OpenSpec.upto stateNewsSpec)) stateNewsUptoCard

/-- THE SECOND FORM's CARD OF 'triforiumlaw15.StateCopies'. -/
def stateCopiesUptoCard : Claim7 := { stood := { row := stateCopiesUptoRow, standIns := [], harness := (true, "1c3970f5127e19db90d526e27029828ac1fda42c9b038bb616cf7fad3022f54e"), looks := false }, kinds := [], alts := [], laidByText := true, laidKinds := [.data], laidTests := true, laidLooks := .later }
def StateCopiesUptoCardSaid : Prop := Claim7.holds Tryz.pinned (.plain (OpenSpec.upto stateCopiesSpec)) stateCopiesUptoCard

/-- THE SECOND FORM's CARD OF 'triforiumlaw15.StateIdle'. -/
def stateIdleUptoCard : Claim7 := { stood := { row := stateIdleUptoRow, standIns := [], harness := (true, "1c3970f5127e19db90d526e27029828ac1fda42c9b038bb616cf7fad3022f54e"), looks := false }, kinds := [], alts := [], laidByText := true, laidKinds := [.data], laidTests := true, laidLooks := .later }
def StateIdleUptoCardSaid : Prop := Claim7.holds Tryz.pinned (.plain (OpenSpec.upto stateIdleSpec)) stateIdleUptoCard
end Rows
end Go.Proofs.YtciidodmhigpdaaGreatDoor
