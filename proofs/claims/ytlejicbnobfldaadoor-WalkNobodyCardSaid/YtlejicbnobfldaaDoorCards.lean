/-
  DERIVED. GIVEN WITH THE SEED: THE CARDS: each row of YtlejicbnobfldaaDoorRows.lean that lists a variable, with what it lists TIED to the program's text (the seventh form; the later family's looks); each row that meets fmt, with fmt's text TOLD by the authors' own Lean function (tested against real Go, not proved from fmt's source: count such statements apart). THE CARD IS WHAT COUNTS. Prove the row's statement (the work); the ties are given (YtlejicbnobfldaaDoorTie.lean); close each card by the builder's one call (the guide's Derived/Test/ToyasCard.lean, 'card_holds'). Laid BY PROGRAM, IN A SANDBOX (cutbox-door.mjs). By AI agents, Wed Nov 11 2026. No macro, syntax, notation, axiom, sorry.
-/
import Derived.Test.YtlejicbnobfldaaDoorRows
import GoSem.ClaimSeven
namespace Go.Proofs.YtlejicbnobfldaaDoor
namespace Rows

/-- THE TIED CARD OF 'triforiumlaw09.WalkLists'. -/
def walkListsCard : Claim7 := { stood := { row := walkListsRow, standIns := [], harness := (true, "068140c5fbfdb7ce75f68ccc24682cd6cb6cf92e96e09b4dd979117d9dc4443c"), looks := false }, kinds := [], alts := [], laidByText := true, laidKinds := [.data], laidTests := true, laidLooks := .later }
def WalkListsCardSaid : Prop := Claim7.holds Tryd.pinned (.plain (OpenSpec.ofChange walkListsSpec)) walkListsCard

/-- THE TIED CARD OF 'triforiumlaw09.WalkParts'. -/
def walkPartsCard : Claim7 := { stood := { row := walkPartsRow, standIns := [], harness := (true, "068140c5fbfdb7ce75f68ccc24682cd6cb6cf92e96e09b4dd979117d9dc4443c"), looks := false }, kinds := [], alts := [], laidByText := true, laidKinds := [.data], laidTests := true, laidLooks := .later }
def WalkPartsCardSaid : Prop := Claim7.holds Tryd.pinned (.plain (OpenSpec.ofChange walkPartsSpec)) walkPartsCard

/-- THE TIED CARD OF 'triforiumlaw09.WalkNobody'. -/
def walkNobodyCard : Claim7 := { stood := { row := walkNobodyRow, standIns := [], harness := (true, "068140c5fbfdb7ce75f68ccc24682cd6cb6cf92e96e09b4dd979117d9dc4443c"), looks := false }, kinds := [], alts := [], laidByText := true, laidKinds := [.data], laidTests := true, laidLooks := .later }
def WalkNobodyCardSaid : Prop := Claim7.holds Tryd.pinned (.plain (OpenSpec.ofChange walkNobodySpec)) walkNobodyCard

/-- THE SECOND FORM's CARD OF 'triforiumlaw09.WalkLists'. -/
def walkListsUptoCard : Claim7 := { stood := { row := walkListsUptoRow, standIns := [], harness := (true, "068140c5fbfdb7ce75f68ccc24682cd6cb6cf92e96e09b4dd979117d9dc4443c"), looks := false }, kinds := [], alts := [], laidByText := true, laidKinds := [.data], laidTests := true, laidLooks := .later }
def WalkListsUptoCardSaid : Prop := Claim7.holds Tryd.pinned (.plain (OpenSpec.upto walkListsSpec)) walkListsUptoCard

/-- THE SECOND FORM's CARD OF 'triforiumlaw09.WalkParts'. -/
def walkPartsUptoCard : Claim7 := { stood := { row := walkPartsUptoRow, standIns := [], harness := (true, "068140c5fbfdb7ce75f68ccc24682cd6cb6cf92e96e09b4dd979117d9dc4443c"), looks := false }, kinds := [], alts := [], laidByText := true, laidKinds := [.data], laidTests := true, laidLooks := .later }
def WalkPartsUptoCardSaid : Prop := Claim7.holds Tryd.pinned (.plain (OpenSpec.upto walkPartsSpec)) walkPartsUptoCard

/-- THE SECOND FORM's CARD OF 'triforiumlaw09.WalkNobody'. -/
def walkNobodyUptoCard : Claim7 := { stood := { row := walkNobodyUptoRow, standIns := [], harness := (true, "068140c5fbfdb7ce75f68ccc24682cd6cb6cf92e96e09b4dd979117d9dc4443c"), looks := false }, kinds := [], alts := [], laidByText := true, laidKinds := [.data], laidTests := true, laidLooks := .later }
def WalkNobodyUptoCardSaid : Prop := Claim7.holds Tryd.pinned (.plain (OpenSpec.upto walkNobodySpec)) walkNobodyUptoCard
end Rows
end Go.Proofs.YtlejicbnobfldaaDoor
