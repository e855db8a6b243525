/-
  NARROWER THAN 'FOR EVERY INPUT', by the rows' own cells (each row's printed sentence says how): LowerLowers: laid · LowerBack: laid · LowerAgain: laid.
  DERIVED. THE GIVEN ROWS OF THIS SEAT. 3 by the template 'for every input the law returns true; each argument reads behind the call as it read before'; 0 by the template 'total and deterministic' (their statements: YtknoncenblehkaaGreatDoorTotals.lean).
  GIVEN WITH THE SEED: the statements are not yours to turn. If you find one false, say at which input.
  Laid BY PROGRAM, IN A SANDBOX (cutbox-rows.mjs): the forced cells as the released guide's own fill.sh prints them over the translation d125198ff6cba2a4… (all of the seat's roots in one cut). By AI agents, Wed Nov 11 2026. No macro, syntax, notation, axiom, sorry.
-/
import Derived.Test.YtknoncenblehkaaGreatDoorChecked
import GoSem.Claim
import GoSem.ClaimJoined
import GoSem.ClaimMapViews
import Derived.JoinedTies
import Derived.KernelRfl
namespace Go.Proofs.YtknoncenblehkaaGreatDoor
/- THE CELL 'sum', in the pinned program and in every row, IS THE sha256 OF THE DUMP (.gsa) THAT YtknoncenblehkaaGreatDoorProg.lean LOADS. Nothing in Lean hashes anything: it is a label: what it is worth is what the hold of that sum in a sandbox is worth. -/
noncomputable def Tryz.pinned : Pinned := { name := "ytknoncenblehkaagreatdoor", sum := "d125198ff6cba2a4a8cbc589cb3b20c6ff746123ecd68ee0d7f95457ea38c470", checked := Tryz.checked }
namespace Rows
def none {H : Type} : Left H := { results := [], args := [] }

/- WHAT THE LISTED PACKAGE-LEVEL VARIABLES READ AS WHEN THE CALL BEGINS. Each datum BY PROGRAM (the guide's laid-datum.mjs) off the statement by which the dump's own 'gosem.cut.vars' lays the variable. In a bare row this is a premise. The card (YtknoncenblehkaaGreatDoorCards.lean) ties it to the program's text. -/
def laid_triforium_head_parts {H : Type} : DataW H := .agg [.agg [.lit (.int .i64 0), .lit (.int .i64 2), .lit (.int .i64 3), .lit (.int .i64 3)], .agg [.lit (.int .i64 2), .lit (.int .i64 1), .lit (.int .i64 0), .lit (.int .i64 1)], .agg [.lit (.int .i64 3), .lit (.int .i64 5), .lit (.int .i64 0), .lit (.int .i64 31)], .agg [.lit (.int .i64 8), .lit (.int .i64 16), .lit (.int .i64 0), .lit (.int .i64 4096)], .agg [.lit (.int .i64 24), .lit (.int .i64 16), .lit (.int .i64 0), .lit (.int .i64 4096)], .agg [.lit (.int .i64 40), .lit (.int .i64 24), .lit (.int .i64 0), .lit (.int .i64 1048576)]]

/-- 'triforiumlaw20.LowerLowers': WHATEVER THE INPUT: true; the input reads as it did. -/
def lowerLowersSpec : ChangeSpec := { name := "lowerLowers", fn := fun _ => fun
  | [d1, d2, d3] => { results := [.lit (.bool true)], args := [d1, d2, d3] }
  | _ => none }
def lowerLowersRow : OpenClaim := { program := "ytknoncenblehkaagreatdoor", sum := "d125198ff6cba2a4a8cbc589cb3b20c6ff746123ecd68ee0d7f95457ea38c470", func := "triforium/triforiumlaw20.LowerLowers", spec := "lowerLowers", unfollowed := true, recurses := true, named := ["triforium/head.parts"], apart := false, laid := [("triforium/head.parts", laid_triforium_head_parts)] }
def LowerLowersSaid : Prop := lowerLowersRow.holds Tryz.pinned (OpenSpec.ofChange lowerLowersSpec)

/-- ITS FALSE NEIGHBOUR: 'it returns false'. Refute it at one input. -/
def lowerLowersWrong : ChangeSpec := { name := "lowerLowers", fn := fun _ => fun
  | [d1, d2, d3] => { results := [.lit (.bool false)], args := [d1, d2, d3] }
  | _ => none }
def LowerLowersWrongFalsely : Prop := lowerLowersRow.holds Tryz.pinned (OpenSpec.ofChange lowerLowersWrong)

/-- 'triforiumlaw20.LowerBack': WHATEVER THE INPUT: true; the input reads as it did. -/
def lowerBackSpec : ChangeSpec := { name := "lowerBack", fn := fun _ => fun
  | [d1, d2, d3] => { results := [.lit (.bool true)], args := [d1, d2, d3] }
  | _ => none }
def lowerBackRow : OpenClaim := { program := "ytknoncenblehkaagreatdoor", sum := "d125198ff6cba2a4a8cbc589cb3b20c6ff746123ecd68ee0d7f95457ea38c470", func := "triforium/triforiumlaw20.LowerBack", spec := "lowerBack", unfollowed := true, recurses := true, named := ["triforium/head.parts"], apart := false, laid := [("triforium/head.parts", laid_triforium_head_parts)] }
def LowerBackSaid : Prop := lowerBackRow.holds Tryz.pinned (OpenSpec.ofChange lowerBackSpec)

/-- ITS FALSE NEIGHBOUR: 'it returns false'. Refute it at one input. -/
def lowerBackWrong : ChangeSpec := { name := "lowerBack", fn := fun _ => fun
  | [d1, d2, d3] => { results := [.lit (.bool false)], args := [d1, d2, d3] }
  | _ => none }
def LowerBackWrongFalsely : Prop := lowerBackRow.holds Tryz.pinned (OpenSpec.ofChange lowerBackWrong)

/-- 'triforiumlaw20.LowerAgain': WHATEVER THE INPUT: true; the input reads as it did. -/
def lowerAgainSpec : ChangeSpec := { name := "lowerAgain", fn := fun _ => fun
  | [d1, d2, d3] => { results := [.lit (.bool true)], args := [d1, d2, d3] }
  | _ => none }
def lowerAgainRow : OpenClaim := { program := "ytknoncenblehkaagreatdoor", sum := "d125198ff6cba2a4a8cbc589cb3b20c6ff746123ecd68ee0d7f95457ea38c470", func := "triforium/triforiumlaw20.LowerAgain", spec := "lowerAgain", unfollowed := true, recurses := true, named := ["triforium/head.parts"], apart := false, laid := [("triforium/head.parts", laid_triforium_head_parts)] }
def LowerAgainSaid : Prop := lowerAgainRow.holds Tryz.pinned (OpenSpec.ofChange lowerAgainSpec)

/-- ITS FALSE NEIGHBOUR: 'it returns false'. Refute it at one input. -/
def lowerAgainWrong : ChangeSpec := { name := "lowerAgain", fn := fun _ => fun
  | [d1, d2, d3] => { results := [.lit (.bool false)], args := [d1, d2, d3] }
  | _ => none }
def LowerAgainWrongFalsely : Prop := lowerAgainRow.holds Tryz.pinned (OpenSpec.ofChange lowerAgainWrong)

/- THE SECOND FORM. 'bulk': how many values and letters a reading holds, each counted each time it is reached (what is shared counts as often as it is met; a slice's spare places count too). A statement '..UptoSaid' is the law's where the arguments, and the package variables that the reading takes, are together of bulk at most 1048576: NARROWER than '..Said'. Prove '..Said' where nothing that the law and all that it calls make is longer than what came in: it says more and counts as full. Else prove '..UptoSaid'. A law counts once. -/
mutual
def uptoBulk {H : Type} : DataW H → Nat
  | .lit (.string bytes) => bytes.length + 1
  | .lit _ => 1
  | .nil => 1
  | .ptr d => uptoBulk d + 1
  | .slice elems spare => uptoBulkAll elems + uptoBulkAll spare + 1
  | .agg parts => uptoBulkAll parts + 1
  | .iface _ d => uptoBulk d + 1
  | .map entries => uptoBulkEntries entries + 1
  | .held _ => 1
def uptoBulkAll {H : Type} : List (DataW H) → Nat
  | [] => 0
  | d :: r => uptoBulk d + uptoBulkAll r
def uptoBulkEntries {H : Type} : List (Lit × DataW H) → Nat
  | [] => 0
  | x :: r => uptoBulkEntry x + uptoBulkEntries r
def uptoBulkEntry {H : Type} : Lit × DataW H → Nat
  | (.string bytes, d) => bytes.length + uptoBulk d + 1
  | (_, d) => uptoBulk d + 1
 end
def uptoSmall : (H : Type) → List (DataW H) → Bool := fun _ ds => decide (uptoBulkAll ds ≤ 1048576)
def OpenSpec.upto (s : _root_.Go.ChangeSpec) : _root_.Go.OpenSpec := { _root_.Go.OpenSpec.ofChange s with cond := some uptoSmall }

/-- 'triforiumlaw20.LowerLowers', WHERE WHAT IT READS IS OF BULK AT MOST 1048576: true; the input reads as it did. -/
def lowerLowersUptoRow : OpenClaim := { program := "ytknoncenblehkaagreatdoor", sum := "d125198ff6cba2a4a8cbc589cb3b20c6ff746123ecd68ee0d7f95457ea38c470", func := "triforium/triforiumlaw20.LowerLowers", spec := "lowerLowers", unfollowed := true, recurses := true, named := ["triforium/head.parts"], apart := false, laid := [("triforium/head.parts", laid_triforium_head_parts)], narrowed := true }
def LowerLowersUptoSaid : Prop := lowerLowersUptoRow.holds Tryz.pinned (OpenSpec.upto lowerLowersSpec)

/-- 'triforiumlaw20.LowerBack', WHERE WHAT IT READS IS OF BULK AT MOST 1048576: true; the input reads as it did. -/
def lowerBackUptoRow : OpenClaim := { program := "ytknoncenblehkaagreatdoor", sum := "d125198ff6cba2a4a8cbc589cb3b20c6ff746123ecd68ee0d7f95457ea38c470", func := "triforium/triforiumlaw20.LowerBack", spec := "lowerBack", unfollowed := true, recurses := true, named := ["triforium/head.parts"], apart := false, laid := [("triforium/head.parts", laid_triforium_head_parts)], narrowed := true }
def LowerBackUptoSaid : Prop := lowerBackUptoRow.holds Tryz.pinned (OpenSpec.upto lowerBackSpec)

/-- 'triforiumlaw20.LowerAgain', WHERE WHAT IT READS IS OF BULK AT MOST 1048576: true; the input reads as it did. -/
def lowerAgainUptoRow : OpenClaim := { program := "ytknoncenblehkaagreatdoor", sum := "d125198ff6cba2a4a8cbc589cb3b20c6ff746123ecd68ee0d7f95457ea38c470", func := "triforium/triforiumlaw20.LowerAgain", spec := "lowerAgain", unfollowed := true, recurses := true, named := ["triforium/head.parts"], apart := false, laid := [("triforium/head.parts", laid_triforium_head_parts)], narrowed := true }
def LowerAgainUptoSaid : Prop := lowerAgainUptoRow.holds Tryz.pinned (OpenSpec.upto lowerAgainSpec)

end Rows
end Go.Proofs.YtknoncenblehkaaGreatDoor
