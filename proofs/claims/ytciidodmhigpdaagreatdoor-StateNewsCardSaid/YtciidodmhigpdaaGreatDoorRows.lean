/-
  NARROWER THAN 'FOR EVERY INPUT', by the rows' own cells (each row's printed sentence says how): StateChecks: laid · StateNews: laid · StateCopies: laid · StateIdle: laid.
  DERIVED. THE GIVEN ROWS OF THIS SEAT. 4 by the template 'for every input the law returns true; each argument reads behind the call as it read before'; 0 by the template 'total and deterministic' (their statements: YtciidodmhigpdaaGreatDoorTotals.lean).
  GIVEN WITH THE SEED: the statements are not yours to turn. If you find one false, say at which input.
  Laid BY PROGRAM, IN A SANDBOX (cutbox-rows.mjs): the forced cells as the released guide's own fill.sh prints them over the translation c77c49db31859063… (all of the seat's roots in one cut). By AI agents, Wed Nov 11 2026. No macro, syntax, notation, axiom, sorry.
-/
import Derived.Test.YtciidodmhigpdaaGreatDoorChecked
import GoSem.Claim
import GoSem.ClaimJoined
import GoSem.ClaimMapViews
import Derived.JoinedTies
import Derived.KernelRfl
namespace Go.Proofs.YtciidodmhigpdaaGreatDoor
/- THE CELL 'sum', in the pinned program and in every row, IS THE sha256 OF THE DUMP (.gsa) THAT YtciidodmhigpdaaGreatDoorProg.lean LOADS. Nothing in Lean hashes anything: it is a label: what it is worth is what the hold of that sum in a sandbox is worth. -/
noncomputable def Tryz.pinned : Pinned := { name := "ytciidodmhigpdaagreatdoor", sum := "c77c49db31859063b55e0c412755b3722ebfbdb441be8a71304b4e50112641a8", checked := Tryz.checked }
namespace Rows
def none {H : Type} : Left H := { results := [], args := [] }

/- WHAT THE LISTED PACKAGE-LEVEL VARIABLES READ AS WHEN THE CALL BEGINS. Each datum BY PROGRAM (the guide's laid-datum.mjs) off the statement by which the dump's own 'gosem.cut.vars' lays the variable. In a bare row this is a premise. The card (YtciidodmhigpdaaGreatDoorCards.lean) ties it to the program's text. -/
def laid_triforium_head_parts {H : Type} : DataW H := .agg [.agg [.lit (.int .i64 0), .lit (.int .i64 2), .lit (.int .i64 3), .lit (.int .i64 3)], .agg [.lit (.int .i64 2), .lit (.int .i64 1), .lit (.int .i64 0), .lit (.int .i64 1)], .agg [.lit (.int .i64 3), .lit (.int .i64 5), .lit (.int .i64 0), .lit (.int .i64 31)], .agg [.lit (.int .i64 8), .lit (.int .i64 16), .lit (.int .i64 0), .lit (.int .i64 4096)], .agg [.lit (.int .i64 24), .lit (.int .i64 16), .lit (.int .i64 0), .lit (.int .i64 4096)], .agg [.lit (.int .i64 40), .lit (.int .i64 24), .lit (.int .i64 0), .lit (.int .i64 1048576)]]

/-- 'triforiumlaw15.StateChecks': WHATEVER THE INPUT: true; the input reads as it did. -/
def stateChecksSpec : ChangeSpec := { name := "stateChecks", fn := fun _ => fun
  | [d1, d2] => { results := [.lit (.bool true)], args := [d1, d2] }
  | _ => none }
def stateChecksRow : OpenClaim := { program := "ytciidodmhigpdaagreatdoor", sum := "c77c49db31859063b55e0c412755b3722ebfbdb441be8a71304b4e50112641a8", func := "triforium/triforiumlaw15.StateChecks", spec := "stateChecks", unfollowed := true, recurses := true, named := ["triforium/head.parts"], apart := false, laid := [("triforium/head.parts", laid_triforium_head_parts)] }
def StateChecksSaid : Prop := stateChecksRow.holds Tryz.pinned (OpenSpec.ofChange stateChecksSpec)

/-- ITS FALSE NEIGHBOUR: 'it returns false'. Refute it at one input. -/
def stateChecksWrong : ChangeSpec := { name := "stateChecks", fn := fun _ => fun
  | [d1, d2] => { results := [.lit (.bool false)], args := [d1, d2] }
  | _ => none }
def StateChecksWrongFalsely : Prop := stateChecksRow.holds Tryz.pinned (OpenSpec.ofChange stateChecksWrong)

/-- 'triforiumlaw15.StateNews': WHATEVER THE INPUT: true; the input reads as it did. -/
def stateNewsSpec : ChangeSpec := { name := "stateNews", fn := fun _ => fun
  | [d] => { results := [.lit (.bool true)], args := [d] }
  | _ => none }
def stateNewsRow : OpenClaim := { program := "ytciidodmhigpdaagreatdoor", sum := "c77c49db31859063b55e0c412755b3722ebfbdb441be8a71304b4e50112641a8", func := "triforium/triforiumlaw15.StateNews", spec := "stateNews", unfollowed := true, recurses := true, named := ["triforium/head.parts"], apart := false, laid := [("triforium/head.parts", laid_triforium_head_parts)] }
def StateNewsSaid : Prop := stateNewsRow.holds Tryz.pinned (OpenSpec.ofChange stateNewsSpec)

/-- ITS FALSE NEIGHBOUR: 'it returns false'. Refute it at one input. -/
def stateNewsWrong : ChangeSpec := { name := "stateNews", fn := fun _ => fun
  | [d] => { results := [.lit (.bool false)], args := [d] }
  | _ => none }
def StateNewsWrongFalsely : Prop := stateNewsRow.holds Tryz.pinned (OpenSpec.ofChange stateNewsWrong)

/-- 'triforiumlaw15.StateCopies': WHATEVER THE INPUT: true; the input reads as it did. -/
def stateCopiesSpec : ChangeSpec := { name := "stateCopies", fn := fun _ => fun
  | [d1, d2] => { results := [.lit (.bool true)], args := [d1, d2] }
  | _ => none }
def stateCopiesRow : OpenClaim := { program := "ytciidodmhigpdaagreatdoor", sum := "c77c49db31859063b55e0c412755b3722ebfbdb441be8a71304b4e50112641a8", func := "triforium/triforiumlaw15.StateCopies", spec := "stateCopies", unfollowed := true, recurses := true, named := ["triforium/head.parts"], apart := false, laid := [("triforium/head.parts", laid_triforium_head_parts)] }
def StateCopiesSaid : Prop := stateCopiesRow.holds Tryz.pinned (OpenSpec.ofChange stateCopiesSpec)

/-- ITS FALSE NEIGHBOUR: 'it returns false'. Refute it at one input. -/
def stateCopiesWrong : ChangeSpec := { name := "stateCopies", fn := fun _ => fun
  | [d1, d2] => { results := [.lit (.bool false)], args := [d1, d2] }
  | _ => none }
def StateCopiesWrongFalsely : Prop := stateCopiesRow.holds Tryz.pinned (OpenSpec.ofChange stateCopiesWrong)

/-- 'triforiumlaw15.StateIdle': WHATEVER THE INPUT: true; the input reads as it did. -/
def stateIdleSpec : ChangeSpec := { name := "stateIdle", fn := fun _ => fun
  | [d1, d2, d3] => { results := [.lit (.bool true)], args := [d1, d2, d3] }
  | _ => none }
def stateIdleRow : OpenClaim := { program := "ytciidodmhigpdaagreatdoor", sum := "c77c49db31859063b55e0c412755b3722ebfbdb441be8a71304b4e50112641a8", func := "triforium/triforiumlaw15.StateIdle", spec := "stateIdle", unfollowed := true, recurses := true, named := ["triforium/head.parts"], apart := false, laid := [("triforium/head.parts", laid_triforium_head_parts)] }
def StateIdleSaid : Prop := stateIdleRow.holds Tryz.pinned (OpenSpec.ofChange stateIdleSpec)

/-- ITS FALSE NEIGHBOUR: 'it returns false'. Refute it at one input. -/
def stateIdleWrong : ChangeSpec := { name := "stateIdle", fn := fun _ => fun
  | [d1, d2, d3] => { results := [.lit (.bool false)], args := [d1, d2, d3] }
  | _ => none }
def StateIdleWrongFalsely : Prop := stateIdleRow.holds Tryz.pinned (OpenSpec.ofChange stateIdleWrong)

/- THE SECOND FORM. 'bulk': how many values and letters a reading holds, each counted each time it is reached (what is shared counts as often as it is met; a slice's spare places count too). A statement '..UptoSaid' is the law's where the arguments, and the package variables that the reading takes, are together of bulk at most 1048576: NARROWER than '..Said'. Prove '..Said' where nothing that the law and all that it calls make is longer than what came in: it says more and counts as full. Else prove '..UptoSaid'. A law counts once. -/
mutual
def uptoBulk {H : Type} : DataW H → Nat
  | .lit (.string bytes) => bytes.length + 1
  | .lit _ => 1
  | .nil => 1
  | .ptr d => uptoBulk d + 1
  | .slice elems spare => uptoBulkAll elems + uptoBulkAll spare + 1
  | .agg parts => uptoBulkAll parts + 1
  | .iface _ d => uptoBulk d + 1
  | .map entries => uptoBulkEntries entries + 1
  | .held _ => 1
def uptoBulkAll {H : Type} : List (DataW H) → Nat
  | [] => 0
  | d :: r => uptoBulk d + uptoBulkAll r
def uptoBulkEntries {H : Type} : List (Lit × DataW H) → Nat
  | [] => 0
  | x :: r => uptoBulkEntry x + uptoBulkEntries r
def uptoBulkEntry {H : Type} : Lit × DataW H → Nat
  | (.string bytes, d) => bytes.length + uptoBulk d + 1
  | (_, d) => uptoBulk d + 1
 end
def uptoSmall : (H : Type) → List (DataW H) → Bool := fun _ ds => decide (uptoBulkAll ds ≤ 1048576)
def OpenSpec.upto (s : _root_.Go.ChangeSpec) : _root_.Go.OpenSpec := { _root_.Go.OpenSpec.ofChange s with cond := some uptoSmall }

/-- 'triforiumlaw15.StateChecks', WHERE WHAT IT READS IS OF BULK AT MOST 1048576: true; the input reads as it did. -/
def stateChecksUptoRow : OpenClaim := { program := "ytciidodmhigpdaagreatdoor", sum := "c77c49db31859063b55e0c412755b3722ebfbdb441be8a71304b4e50112641a8", func := "triforium/triforiumlaw15.StateChecks", spec := "stateChecks", unfollowed := true, recurses := true, named := ["triforium/head.parts"], apart := false, laid := [("triforium/head.parts", laid_triforium_head_parts)], narrowed := true }
def StateChecksUptoSaid : Prop := stateChecksUptoRow.holds Tryz.pinned (OpenSpec.upto stateChecksSpec)

/-- 'triforiumlaw15.StateNews', WHERE WHAT IT READS IS OF BULK AT MOST 1048576: true; the input reads as it did. -/
def stateNewsUptoRow : OpenClaim := { program := "ytciidodmhigpdaagreatdoor", sum := "c77c49db31859063b55e0c412755b3722ebfbdb441be8a71304b4e50112641a8", func := "triforium/triforiumlaw15.StateNews", spec := "stateNews", unfollowed := true, recurses := true, named := ["triforium/head.parts"], apart := false, laid := [("triforium/head.parts", laid_triforium_head_parts)], narrowed := true }
def StateNewsUptoSaid : Prop := stateNewsUptoRow.holds Tryz.pinned (OpenSpec.upto stateNewsSpec)

/-- 'triforiumlaw15.StateCopies', WHERE WHAT IT READS IS OF BULK AT MOST 1048576: true; the input reads as it did. -/
def stateCopiesUptoRow : OpenClaim := { program := "ytciidodmhigpdaagreatdoor", sum := "c77c49db31859063b55e0c412755b3722ebfbdb441be8a71304b4e50112641a8", func := "triforium/triforiumlaw15.StateCopies", spec := "stateCopies", unfollowed := true, recurses := true, named := ["triforium/head.parts"], apart := false, laid := [("triforium/head.parts", laid_triforium_head_parts)], narrowed := true }
def StateCopiesUptoSaid : Prop := stateCopiesUptoRow.holds Tryz.pinned (OpenSpec.upto stateCopiesSpec)

/-- 'triforiumlaw15.StateIdle', WHERE WHAT IT READS IS OF BULK AT MOST 1048576: true; the input reads as it did. -/
def stateIdleUptoRow : OpenClaim := { program := "ytciidodmhigpdaagreatdoor", sum := "c77c49db31859063b55e0c412755b3722ebfbdb441be8a71304b4e50112641a8", func := "triforium/triforiumlaw15.StateIdle", spec := "stateIdle", unfollowed := true, recurses := true, named := ["triforium/head.parts"], apart := false, laid := [("triforium/head.parts", laid_triforium_head_parts)], narrowed := true }
def StateIdleUptoSaid : Prop := stateIdleUptoRow.holds Tryz.pinned (OpenSpec.upto stateIdleSpec)

end Rows
end Go.Proofs.YtciidodmhigpdaaGreatDoor
