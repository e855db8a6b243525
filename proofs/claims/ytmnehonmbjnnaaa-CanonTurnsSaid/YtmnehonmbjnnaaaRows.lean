/-
  No cell of these rows narrows 'for every input' (looked for: loops, veiled, ifaces, maps, wideKeys, modest, calm, conditions, laid).
  DERIVED. THE GIVEN ROWS OF THIS SEAT. 3 by the template 'for every input the law returns true; each argument reads behind the call as it read before'; 0 by the template 'total and deterministic' (their statements: YtmnehonmbjnnaaaTotals.lean).
  GIVEN WITH THE SEED: the statements are not yours to turn. If you find one false, say at which input.
  Laid BY PROGRAM, IN A SANDBOX (cutbox-rows.mjs): the forced cells as the released guide's own fill.sh prints them over the translation 978c38081e06bd86… (all of the seat's roots in one cut). By AI agents, Wed Nov 11 2026. No macro, syntax, notation, axiom, sorry.
-/
import Derived.Test.YtmnehonmbjnnaaaChecked
import GoSem.Claim
import GoSem.ClaimJoined
import GoSem.ClaimMapViews
import Derived.JoinedTies
import Derived.KernelRfl
namespace Go.Proofs.Ytmnehonmbjnnaaa
/- THE CELL 'sum', in the pinned program and in every row, IS THE sha256 OF THE DUMP (.gsa) THAT YtmnehonmbjnnaaaProg.lean LOADS. Nothing in Lean hashes anything: it is a label: what it is worth is what the hold of that sum in a sandbox is worth. -/
noncomputable def Try.pinned : Pinned := { name := "ytmnehonmbjnnaaa", sum := "978c38081e06bd8655b0bbe4a4eead0b03045cb9d24a2c615fde7fc63b0f7750", checked := Try.checked }
namespace Rows
def none {H : Type} : Left H := { results := [], args := [] }

/-- 'triforiumlaw18.CanonMatches': WHATEVER THE INPUT: true; the input reads as it did. -/
def canonMatchesSpec : ChangeSpec := { name := "canonMatches", fn := fun _ => fun
  | [d1, d2] => { results := [.lit (.bool true)], args := [d1, d2] }
  | _ => none }
def canonMatchesRow : OpenClaim := { program := "ytmnehonmbjnnaaa", sum := "978c38081e06bd8655b0bbe4a4eead0b03045cb9d24a2c615fde7fc63b0f7750", func := "triforium/triforiumlaw18.CanonMatches", spec := "canonMatches", unfollowed := true, recurses := true, apart := false }
def CanonMatchesSaid : Prop := canonMatchesRow.holds Try.pinned (OpenSpec.ofChange canonMatchesSpec)

/-- ITS FALSE NEIGHBOUR: 'it returns false'. Refute it at one input. -/
def canonMatchesWrong : ChangeSpec := { name := "canonMatches", fn := fun _ => fun
  | [d1, d2] => { results := [.lit (.bool false)], args := [d1, d2] }
  | _ => none }
def CanonMatchesWrongFalsely : Prop := canonMatchesRow.holds Try.pinned (OpenSpec.ofChange canonMatchesWrong)

/-- 'triforiumlaw18.CanonTurns': WHATEVER THE INPUT: true; the input reads as it did. -/
def canonTurnsSpec : ChangeSpec := { name := "canonTurns", fn := fun _ => fun
  | [d1, d2] => { results := [.lit (.bool true)], args := [d1, d2] }
  | _ => none }
def canonTurnsRow : OpenClaim := { program := "ytmnehonmbjnnaaa", sum := "978c38081e06bd8655b0bbe4a4eead0b03045cb9d24a2c615fde7fc63b0f7750", func := "triforium/triforiumlaw18.CanonTurns", spec := "canonTurns", unfollowed := true, recurses := true, apart := false }
def CanonTurnsSaid : Prop := canonTurnsRow.holds Try.pinned (OpenSpec.ofChange canonTurnsSpec)

/-- ITS FALSE NEIGHBOUR: 'it returns false'. Refute it at one input. -/
def canonTurnsWrong : ChangeSpec := { name := "canonTurns", fn := fun _ => fun
  | [d1, d2] => { results := [.lit (.bool false)], args := [d1, d2] }
  | _ => none }
def CanonTurnsWrongFalsely : Prop := canonTurnsRow.holds Try.pinned (OpenSpec.ofChange canonTurnsWrong)

/-- 'triforiumlaw18.CanonLike': WHATEVER THE INPUT: true; the input reads as it did. -/
def canonLikeSpec : ChangeSpec := { name := "canonLike", fn := fun _ => fun
  | [d1, d2, d3] => { results := [.lit (.bool true)], args := [d1, d2, d3] }
  | _ => none }
def canonLikeRow : OpenClaim := { program := "ytmnehonmbjnnaaa", sum := "978c38081e06bd8655b0bbe4a4eead0b03045cb9d24a2c615fde7fc63b0f7750", func := "triforium/triforiumlaw18.CanonLike", spec := "canonLike", unfollowed := true, recurses := true, apart := false }
def CanonLikeSaid : Prop := canonLikeRow.holds Try.pinned (OpenSpec.ofChange canonLikeSpec)

/-- ITS FALSE NEIGHBOUR: 'it returns false'. Refute it at one input. -/
def canonLikeWrong : ChangeSpec := { name := "canonLike", fn := fun _ => fun
  | [d1, d2, d3] => { results := [.lit (.bool false)], args := [d1, d2, d3] }
  | _ => none }
def CanonLikeWrongFalsely : Prop := canonLikeRow.holds Try.pinned (OpenSpec.ofChange canonLikeWrong)

/- THE SECOND FORM. 'bulk': how many values and letters a reading holds, each counted each time it is reached (what is shared counts as often as it is met; a slice's spare places count too). A statement '..UptoSaid' is the law's where the arguments, and the package variables that the reading takes, are together of bulk at most 1048576: NARROWER than '..Said'. Prove '..Said' where nothing that the law and all that it calls make is longer than what came in: it says more and counts as full. Else prove '..UptoSaid'. A law counts once. -/
mutual
def uptoBulk {H : Type} : DataW H → Nat
  | .lit (.string bytes) => bytes.length + 1
  | .lit _ => 1
  | .nil => 1
  | .ptr d => uptoBulk d + 1
  | .slice elems spare => uptoBulkAll elems + uptoBulkAll spare + 1
  | .agg parts => uptoBulkAll parts + 1
  | .iface _ d => uptoBulk d + 1
  | .map entries => uptoBulkEntries entries + 1
  | .held _ => 1
def uptoBulkAll {H : Type} : List (DataW H) → Nat
  | [] => 0
  | d :: r => uptoBulk d + uptoBulkAll r
def uptoBulkEntries {H : Type} : List (Lit × DataW H) → Nat
  | [] => 0
  | x :: r => uptoBulkEntry x + uptoBulkEntries r
def uptoBulkEntry {H : Type} : Lit × DataW H → Nat
  | (.string bytes, d) => bytes.length + uptoBulk d + 1
  | (_, d) => uptoBulk d + 1
 end
def uptoSmall : (H : Type) → List (DataW H) → Bool := fun _ ds => decide (uptoBulkAll ds ≤ 1048576)
def OpenSpec.upto (s : _root_.Go.ChangeSpec) : _root_.Go.OpenSpec := { _root_.Go.OpenSpec.ofChange s with cond := some uptoSmall }

/-- 'triforiumlaw18.CanonMatches', WHERE WHAT IT READS IS OF BULK AT MOST 1048576: true; the input reads as it did. -/
def canonMatchesUptoRow : OpenClaim := { program := "ytmnehonmbjnnaaa", sum := "978c38081e06bd8655b0bbe4a4eead0b03045cb9d24a2c615fde7fc63b0f7750", func := "triforium/triforiumlaw18.CanonMatches", spec := "canonMatches", unfollowed := true, recurses := true, apart := false, narrowed := true }
def CanonMatchesUptoSaid : Prop := canonMatchesUptoRow.holds Try.pinned (OpenSpec.upto canonMatchesSpec)

/-- 'triforiumlaw18.CanonTurns', WHERE WHAT IT READS IS OF BULK AT MOST 1048576: true; the input reads as it did. -/
def canonTurnsUptoRow : OpenClaim := { program := "ytmnehonmbjnnaaa", sum := "978c38081e06bd8655b0bbe4a4eead0b03045cb9d24a2c615fde7fc63b0f7750", func := "triforium/triforiumlaw18.CanonTurns", spec := "canonTurns", unfollowed := true, recurses := true, apart := false, narrowed := true }
def CanonTurnsUptoSaid : Prop := canonTurnsUptoRow.holds Try.pinned (OpenSpec.upto canonTurnsSpec)

/-- 'triforiumlaw18.CanonLike', WHERE WHAT IT READS IS OF BULK AT MOST 1048576: true; the input reads as it did. -/
def canonLikeUptoRow : OpenClaim := { program := "ytmnehonmbjnnaaa", sum := "978c38081e06bd8655b0bbe4a4eead0b03045cb9d24a2c615fde7fc63b0f7750", func := "triforium/triforiumlaw18.CanonLike", spec := "canonLike", unfollowed := true, recurses := true, apart := false, narrowed := true }
def CanonLikeUptoSaid : Prop := canonLikeUptoRow.holds Try.pinned (OpenSpec.upto canonLikeSpec)

end Rows
end Go.Proofs.Ytmnehonmbjnnaaa
