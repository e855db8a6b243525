/-
  NARROWER THAN 'FOR EVERY INPUT', by the rows' own cells (each row's printed sentence says how): ObjectPlays: laid · ObjectAlone: laid · ObjectNobody: laid.
  DERIVED. THE GIVEN ROWS OF THIS SEAT. 3 by the template 'for every input the law returns true; each argument reads behind the call as it read before'; 0 by the template 'total and deterministic' (their statements: YtffbemfgibleeaaDoorTotals.lean).
  GIVEN WITH THE SEED: the statements are not yours to turn. If you find one false, say at which input.
  Laid BY PROGRAM, IN A SANDBOX (cutbox-rows.mjs): the forced cells as the released guide's own fill.sh prints them over the translation ec405ee0b2c334f5… (all of the seat's roots in one cut). By AI agents, Wed Nov 11 2026. No macro, syntax, notation, axiom, sorry.
-/
import Derived.Test.YtffbemfgibleeaaDoorChecked
import GoSem.Claim
import GoSem.ClaimJoined
import GoSem.ClaimMapViews
import Derived.JoinedTies
import Derived.KernelRfl
namespace Go.Proofs.YtffbemfgibleeaaDoor
/- THE CELL 'sum', in the pinned program and in every row, IS THE sha256 OF THE DUMP (.gsa) THAT YtffbemfgibleeaaDoorProg.lean LOADS. Nothing in Lean hashes anything: it is a label: what it is worth is what the hold of that sum in a sandbox is worth. -/
noncomputable def Tryd.pinned : Pinned := { name := "ytffbemfgibleeaadoor", sum := "ec405ee0b2c334f5944e784746fd27d31dabaf75084d139c2f5e4268ad16068c", checked := Tryd.checked }
namespace Rows
def none {H : Type} : Left H := { results := [], args := [] }

/- WHAT THE LISTED PACKAGE-LEVEL VARIABLES READ AS WHEN THE CALL BEGINS. Each datum BY PROGRAM (the guide's laid-datum.mjs) off the statement by which the dump's own 'gosem.cut.vars' lays the variable. In a bare row this is a premise. The card (YtffbemfgibleeaaDoorCards.lean) ties it to the program's text. -/
def laid_triforium_head_parts {H : Type} : DataW H := .agg [.agg [.lit (.int .i64 0), .lit (.int .i64 2), .lit (.int .i64 3), .lit (.int .i64 3)], .agg [.lit (.int .i64 2), .lit (.int .i64 1), .lit (.int .i64 0), .lit (.int .i64 1)], .agg [.lit (.int .i64 3), .lit (.int .i64 5), .lit (.int .i64 0), .lit (.int .i64 31)], .agg [.lit (.int .i64 8), .lit (.int .i64 16), .lit (.int .i64 0), .lit (.int .i64 4096)], .agg [.lit (.int .i64 24), .lit (.int .i64 16), .lit (.int .i64 0), .lit (.int .i64 4096)], .agg [.lit (.int .i64 40), .lit (.int .i64 24), .lit (.int .i64 0), .lit (.int .i64 1048576)]]

/-- 'triforiumlaw08.ObjectPlays': WHATEVER THE INPUT: true; the input reads as it did. -/
def objectPlaysSpec : ChangeSpec := { name := "objectPlays", fn := fun _ => fun
  | [d1, d2] => { results := [.lit (.bool true)], args := [d1, d2] }
  | _ => none }
def objectPlaysRow : OpenClaim := { program := "ytffbemfgibleeaadoor", sum := "ec405ee0b2c334f5944e784746fd27d31dabaf75084d139c2f5e4268ad16068c", func := "triforium/triforiumlaw08.ObjectPlays", spec := "objectPlays", named := ["triforium/head.parts"], apart := false, laid := [("triforium/head.parts", laid_triforium_head_parts)] }
def ObjectPlaysSaid : Prop := objectPlaysRow.holds Tryd.pinned (OpenSpec.ofChange objectPlaysSpec)

/-- ITS FALSE NEIGHBOUR: 'it returns false'. Refute it at one input. -/
def objectPlaysWrong : ChangeSpec := { name := "objectPlays", fn := fun _ => fun
  | [d1, d2] => { results := [.lit (.bool false)], args := [d1, d2] }
  | _ => none }
def ObjectPlaysWrongFalsely : Prop := objectPlaysRow.holds Tryd.pinned (OpenSpec.ofChange objectPlaysWrong)

/-- 'triforiumlaw08.ObjectAlone': WHATEVER THE INPUT: true; the input reads as it did. -/
def objectAloneSpec : ChangeSpec := { name := "objectAlone", fn := fun _ => fun
  | [d1, d2, d3, d4, d5] => { results := [.lit (.bool true)], args := [d1, d2, d3, d4, d5] }
  | _ => none }
def objectAloneRow : OpenClaim := { program := "ytffbemfgibleeaadoor", sum := "ec405ee0b2c334f5944e784746fd27d31dabaf75084d139c2f5e4268ad16068c", func := "triforium/triforiumlaw08.ObjectAlone", spec := "objectAlone", named := ["triforium/head.parts"], apart := false, laid := [("triforium/head.parts", laid_triforium_head_parts)] }
def ObjectAloneSaid : Prop := objectAloneRow.holds Tryd.pinned (OpenSpec.ofChange objectAloneSpec)

/-- ITS FALSE NEIGHBOUR: 'it returns false'. Refute it at one input. -/
def objectAloneWrong : ChangeSpec := { name := "objectAlone", fn := fun _ => fun
  | [d1, d2, d3, d4, d5] => { results := [.lit (.bool false)], args := [d1, d2, d3, d4, d5] }
  | _ => none }
def ObjectAloneWrongFalsely : Prop := objectAloneRow.holds Tryd.pinned (OpenSpec.ofChange objectAloneWrong)

/-- 'triforiumlaw08.ObjectNobody': WHATEVER THE INPUT: true; the input reads as it did. -/
def objectNobodySpec : ChangeSpec := { name := "objectNobody", fn := fun _ => fun
  | [d1, d2, d3, d4] => { results := [.lit (.bool true)], args := [d1, d2, d3, d4] }
  | _ => none }
def objectNobodyRow : OpenClaim := { program := "ytffbemfgibleeaadoor", sum := "ec405ee0b2c334f5944e784746fd27d31dabaf75084d139c2f5e4268ad16068c", func := "triforium/triforiumlaw08.ObjectNobody", spec := "objectNobody", named := ["triforium/head.parts"], apart := false, laid := [("triforium/head.parts", laid_triforium_head_parts)] }
def ObjectNobodySaid : Prop := objectNobodyRow.holds Tryd.pinned (OpenSpec.ofChange objectNobodySpec)

/-- ITS FALSE NEIGHBOUR: 'it returns false'. Refute it at one input. -/
def objectNobodyWrong : ChangeSpec := { name := "objectNobody", fn := fun _ => fun
  | [d1, d2, d3, d4] => { results := [.lit (.bool false)], args := [d1, d2, d3, d4] }
  | _ => none }
def ObjectNobodyWrongFalsely : Prop := objectNobodyRow.holds Tryd.pinned (OpenSpec.ofChange objectNobodyWrong)

/- THE SECOND FORM. 'bulk': how many values and letters a reading holds, each counted each time it is reached (what is shared counts as often as it is met; a slice's spare places count too). A statement '..UptoSaid' is the law's where the arguments, and the package variables that the reading takes, are together of bulk at most 1048576: NARROWER than '..Said'. Prove '..Said' where nothing that the law and all that it calls make is longer than what came in: it says more and counts as full. Else prove '..UptoSaid'. A law counts once. -/
mutual
def uptoBulk {H : Type} : DataW H → Nat
  | .lit (.string bytes) => bytes.length + 1
  | .lit _ => 1
  | .nil => 1
  | .ptr d => uptoBulk d + 1
  | .slice elems spare => uptoBulkAll elems + uptoBulkAll spare + 1
  | .agg parts => uptoBulkAll parts + 1
  | .iface _ d => uptoBulk d + 1
  | .map entries => uptoBulkEntries entries + 1
  | .held _ => 1
def uptoBulkAll {H : Type} : List (DataW H) → Nat
  | [] => 0
  | d :: r => uptoBulk d + uptoBulkAll r
def uptoBulkEntries {H : Type} : List (Lit × DataW H) → Nat
  | [] => 0
  | x :: r => uptoBulkEntry x + uptoBulkEntries r
def uptoBulkEntry {H : Type} : Lit × DataW H → Nat
  | (.string bytes, d) => bytes.length + uptoBulk d + 1
  | (_, d) => uptoBulk d + 1
 end
def uptoSmall : (H : Type) → List (DataW H) → Bool := fun _ ds => decide (uptoBulkAll ds ≤ 1048576)
def OpenSpec.upto (s : _root_.Go.ChangeSpec) : _root_.Go.OpenSpec := { _root_.Go.OpenSpec.ofChange s with cond := some uptoSmall }

/-- 'triforiumlaw08.ObjectPlays', WHERE WHAT IT READS IS OF BULK AT MOST 1048576: true; the input reads as it did. -/
def objectPlaysUptoRow : OpenClaim := { program := "ytffbemfgibleeaadoor", sum := "ec405ee0b2c334f5944e784746fd27d31dabaf75084d139c2f5e4268ad16068c", func := "triforium/triforiumlaw08.ObjectPlays", spec := "objectPlays", named := ["triforium/head.parts"], apart := false, laid := [("triforium/head.parts", laid_triforium_head_parts)], narrowed := true }
def ObjectPlaysUptoSaid : Prop := objectPlaysUptoRow.holds Tryd.pinned (OpenSpec.upto objectPlaysSpec)

/-- 'triforiumlaw08.ObjectAlone', WHERE WHAT IT READS IS OF BULK AT MOST 1048576: true; the input reads as it did. -/
def objectAloneUptoRow : OpenClaim := { program := "ytffbemfgibleeaadoor", sum := "ec405ee0b2c334f5944e784746fd27d31dabaf75084d139c2f5e4268ad16068c", func := "triforium/triforiumlaw08.ObjectAlone", spec := "objectAlone", named := ["triforium/head.parts"], apart := false, laid := [("triforium/head.parts", laid_triforium_head_parts)], narrowed := true }
def ObjectAloneUptoSaid : Prop := objectAloneUptoRow.holds Tryd.pinned (OpenSpec.upto objectAloneSpec)

/-- 'triforiumlaw08.ObjectNobody', WHERE WHAT IT READS IS OF BULK AT MOST 1048576: true; the input reads as it did. -/
def objectNobodyUptoRow : OpenClaim := { program := "ytffbemfgibleeaadoor", sum := "ec405ee0b2c334f5944e784746fd27d31dabaf75084d139c2f5e4268ad16068c", func := "triforium/triforiumlaw08.ObjectNobody", spec := "objectNobody", named := ["triforium/head.parts"], apart := false, laid := [("triforium/head.parts", laid_triforium_head_parts)], narrowed := true }
def ObjectNobodyUptoSaid : Prop := objectNobodyUptoRow.holds Tryd.pinned (OpenSpec.upto objectNobodySpec)

end Rows
end Go.Proofs.YtffbemfgibleeaaDoor
