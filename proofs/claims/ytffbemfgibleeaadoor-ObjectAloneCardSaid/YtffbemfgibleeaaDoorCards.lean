/-
  DERIVED. GIVEN WITH THE SEED: THE CARDS: each row of YtffbemfgibleeaaDoorRows.lean that lists a variable, with what it lists TIED to the program's text (the seventh form; the later family's looks); each row that meets fmt, with fmt's text TOLD by the authors' own Lean function (tested against real Go, not proved from fmt's source: count such statements apart). THE CARD IS WHAT COUNTS. Prove the row's statement (the work); the ties are given (YtffbemfgibleeaaDoorTie.lean); close each card by the builder's one call (the guide's Derived/Test/ToyasCard.lean, 'card_holds'). Laid BY PROGRAM, IN A SANDBOX (cutbox-door.mjs). By AI agents, Wed Nov 11 2026. No macro, syntax, notation, axiom, sorry.
-/
import Derived.Test.YtffbemfgibleeaaDoorRows
import GoSem.ClaimSeven
namespace Go.Proofs.YtffbemfgibleeaaDoor
namespace Rows

/-- THE TIED CARD OF 'triforiumlaw08.ObjectPlays'. -/
def objectPlaysCard : Claim7 := { stood := { row := objectPlaysRow, standIns := [], harness := (true, "c56a578ede896764a3a713f633aac741f0dda9a0e144686f4e013713fb58a00c"), looks := false }, kinds := [], alts := [], laidByText := true, laidKinds := [.data], laidTests := true, laidLooks := .later }
def ObjectPlaysCardSaid : Prop := Claim7.holds Tryd.pinned (.plain (OpenSpec.ofChange objectPlaysSpec)) objectPlaysCard

/-- THE TIED CARD OF 'triforiumlaw08.ObjectAlone'. -/
def objectAloneCard : Claim7 := { stood := { row := objectAloneRow, standIns := [], harness := (true, "c56a578ede896764a3a713f633aac741f0dda9a0e144686f4e013713fb58a00c"), looks := false }, kinds := [], alts := [], laidByText := true, laidKinds := [.data], laidTests := true, laidLooks := .later }
def ObjectAloneCardSaid : Prop := Claim7.holds Tryd.pinned (.plain (OpenSpec.ofChange objectAloneSpec)) objectAloneCard

/-- THE TIED CARD OF 'triforiumlaw08.ObjectNobody'. -/
def objectNobodyCard : Claim7 := { stood := { row := objectNobodyRow, standIns := [], harness := (true, "c56a578ede896764a3a713f633aac741f0dda9a0e144686f4e013713fb58a00c"), looks := false }, kinds := [], alts := [], laidByText := true, laidKinds := [.data], laidTests := true, laidLooks := .later }
def ObjectNobodyCardSaid : Prop := Claim7.holds Tryd.pinned (.plain (OpenSpec.ofChange objectNobodySpec)) objectNobodyCard

/-- THE SECOND FORM's CARD OF 'triforiumlaw08.ObjectPlays'. -/
def objectPlaysUptoCard : Claim7 := { stood := { row := objectPlaysUptoRow, standIns := [], harness := (true, "c56a578ede896764a3a713f633aac741f0dda9a0e144686f4e013713fb58a00c"), looks := false }, kinds := [], alts := [], laidByText := true, laidKinds := [.data], laidTests := true, laidLooks := .later }
def ObjectPlaysUptoCardSaid : Prop := Claim7.holds Tryd.pinned (.plain (OpenSpec.upto objectPlaysSpec)) objectPlaysUptoCard

/-- THE SECOND FORM's CARD OF 'triforiumlaw08.ObjectAlone'. -/
def objectAloneUptoCard : Claim7 := { stood := { row := objectAloneUptoRow, standIns := [], harness := (true, "c56a578ede896764a3a713f633aac741f0dda9a0e144686f4e013713fb58a00c"), looks := false }, kinds := [], alts := [], laidByText := true, laidKinds := [.data], laidTests := true, laidLooks := .later }
def ObjectAloneUptoCardSaid : Prop := Claim7.holds Tryd.pinned (.plain (OpenSpec.upto objectAloneSpec)) objectAloneUptoCard

/-- THE SECOND FORM's CARD OF 'triforiumlaw08.ObjectNobody'. -/
def objectNobodyUptoCard : Claim7 := { stood := { row := objectNobodyUptoRow, standIns := [], harness := (true, "c56a578ede896764a3a713f633aac741f0dda9a0e144686f4e013713fb58a00c"), looks := false }, kinds := [], alts := [], laidByText := true, laidKinds := [.data], laidTests := true, laidLooks := .later }
def ObjectNobodyUptoCardSaid : Prop := Claim7.holds Tryd.pinned (.plain (OpenSpec.upto objectNobodySpec)) objectNobodyUptoCard
end Rows
end Go.Proofs.YtffbemfgibleeaaDoor
