/-
  NARROWER THAN 'FOR EVERY INPUT', by the rows' own cells (each row's printed sentence says how): HeadWords: laid · HeadBack: laid · HeadApart: laid.
  DERIVED. THE GIVEN ROWS OF THIS SEAT. 3 by the template 'for every input the law returns true; each argument reads behind the call as it read before'; 0 by the template 'total and deterministic' (their statements: YtlgljnimfpiahaaDoorTotals.lean).
  GIVEN WITH THE SEED: the statements are not yours to turn. If you find one false, say at which input.
  Laid BY PROGRAM, IN A SANDBOX (cutbox-rows.mjs): the forced cells as the released guide's own fill.sh prints them over the translation 88ee82b91a0b0b46… (all of the seat's roots in one cut). By AI agents, Wed Nov 11 2026. No macro, syntax, notation, axiom, sorry.
-/
import Derived.Test.YtlgljnimfpiahaaDoorChecked
import GoSem.Claim
import GoSem.ClaimJoined
import GoSem.ClaimMapViews
import Derived.JoinedTies
import Derived.KernelRfl
namespace Go.Proofs.YtlgljnimfpiahaaDoor
/- THE CELL 'sum', in the pinned program and in every row, IS THE sha256 OF THE DUMP (.gsa) THAT YtlgljnimfpiahaaDoorProg.lean LOADS. Nothing in Lean hashes anything: it is a label: what it is worth is what the hold of that sum in a sandbox is worth. -/
noncomputable def Tryd.pinned : Pinned := { name := "ytlgljnimfpiahaadoor", sum := "88ee82b91a0b0b4650d2c5221d1c56a52bca1c035cb2481dd8946e98d35e57f6", checked := Tryd.checked }
namespace Rows
def none {H : Type} : Left H := { results := [], args := [] }

/- WHAT THE LISTED PACKAGE-LEVEL VARIABLES READ AS WHEN THE CALL BEGINS. Each datum BY PROGRAM (the guide's laid-datum.mjs) off the statement by which the dump's own 'gosem.cut.vars' lays the variable. In a bare row this is a premise. The card (YtlgljnimfpiahaaDoorCards.lean) ties it to the program's text. -/
def laid_triforium_head_parts {H : Type} : DataW H := .agg [.agg [.lit (.int .i64 0), .lit (.int .i64 2), .lit (.int .i64 3), .lit (.int .i64 3)], .agg [.lit (.int .i64 2), .lit (.int .i64 1), .lit (.int .i64 0), .lit (.int .i64 1)], .agg [.lit (.int .i64 3), .lit (.int .i64 5), .lit (.int .i64 0), .lit (.int .i64 31)], .agg [.lit (.int .i64 8), .lit (.int .i64 16), .lit (.int .i64 0), .lit (.int .i64 4096)], .agg [.lit (.int .i64 24), .lit (.int .i64 16), .lit (.int .i64 0), .lit (.int .i64 4096)], .agg [.lit (.int .i64 40), .lit (.int .i64 24), .lit (.int .i64 0), .lit (.int .i64 1048576)]]

/-- 'triforiumlaw07.HeadWords': WHATEVER THE INPUT: true; the input reads as it did. -/
def headWordsSpec : ChangeSpec := { name := "headWords", fn := fun _ => fun
  | [d1, d2, d3] => { results := [.lit (.bool true)], args := [d1, d2, d3] }
  | _ => none }
def headWordsRow : OpenClaim := { program := "ytlgljnimfpiahaadoor", sum := "88ee82b91a0b0b4650d2c5221d1c56a52bca1c035cb2481dd8946e98d35e57f6", func := "triforium/triforiumlaw07.HeadWords", spec := "headWords", named := ["triforium/head.parts"], apart := false, laid := [("triforium/head.parts", laid_triforium_head_parts)] }
def HeadWordsSaid : Prop := headWordsRow.holds Tryd.pinned (OpenSpec.ofChange headWordsSpec)

/-- ITS FALSE NEIGHBOUR: 'it returns false'. Refute it at one input. -/
def headWordsWrong : ChangeSpec := { name := "headWords", fn := fun _ => fun
  | [d1, d2, d3] => { results := [.lit (.bool false)], args := [d1, d2, d3] }
  | _ => none }
def HeadWordsWrongFalsely : Prop := headWordsRow.holds Tryd.pinned (OpenSpec.ofChange headWordsWrong)

/-- 'triforiumlaw07.HeadBack': WHATEVER THE INPUT: true; the input reads as it did. -/
def headBackSpec : ChangeSpec := { name := "headBack", fn := fun _ => fun
  | [d1, d2, d3] => { results := [.lit (.bool true)], args := [d1, d2, d3] }
  | _ => none }
def headBackRow : OpenClaim := { program := "ytlgljnimfpiahaadoor", sum := "88ee82b91a0b0b4650d2c5221d1c56a52bca1c035cb2481dd8946e98d35e57f6", func := "triforium/triforiumlaw07.HeadBack", spec := "headBack", named := ["triforium/head.parts"], apart := false, laid := [("triforium/head.parts", laid_triforium_head_parts)] }
def HeadBackSaid : Prop := headBackRow.holds Tryd.pinned (OpenSpec.ofChange headBackSpec)

/-- ITS FALSE NEIGHBOUR: 'it returns false'. Refute it at one input. -/
def headBackWrong : ChangeSpec := { name := "headBack", fn := fun _ => fun
  | [d1, d2, d3] => { results := [.lit (.bool false)], args := [d1, d2, d3] }
  | _ => none }
def HeadBackWrongFalsely : Prop := headBackRow.holds Tryd.pinned (OpenSpec.ofChange headBackWrong)

/-- 'triforiumlaw07.HeadApart': WHATEVER THE INPUT: true; the input reads as it did. -/
def headApartSpec : ChangeSpec := { name := "headApart", fn := fun _ => fun
  | [d] => { results := [.lit (.bool true)], args := [d] }
  | _ => none }
def headApartRow : OpenClaim := { program := "ytlgljnimfpiahaadoor", sum := "88ee82b91a0b0b4650d2c5221d1c56a52bca1c035cb2481dd8946e98d35e57f6", func := "triforium/triforiumlaw07.HeadApart", spec := "headApart", named := ["triforium/head.parts"], apart := false, laid := [("triforium/head.parts", laid_triforium_head_parts)] }
def HeadApartSaid : Prop := headApartRow.holds Tryd.pinned (OpenSpec.ofChange headApartSpec)

/-- ITS FALSE NEIGHBOUR: 'it returns false'. Refute it at one input. -/
def headApartWrong : ChangeSpec := { name := "headApart", fn := fun _ => fun
  | [d] => { results := [.lit (.bool false)], args := [d] }
  | _ => none }
def HeadApartWrongFalsely : Prop := headApartRow.holds Tryd.pinned (OpenSpec.ofChange headApartWrong)

/- THE SECOND FORM. 'bulk': how many values and letters a reading holds, each counted each time it is reached (what is shared counts as often as it is met; a slice's spare places count too). A statement '..UptoSaid' is the law's where the arguments, and the package variables that the reading takes, are together of bulk at most 1048576: NARROWER than '..Said'. Prove '..Said' where nothing that the law and all that it calls make is longer than what came in: it says more and counts as full. Else prove '..UptoSaid'. A law counts once. -/
mutual
def uptoBulk {H : Type} : DataW H → Nat
  | .lit (.string bytes) => bytes.length + 1
  | .lit _ => 1
  | .nil => 1
  | .ptr d => uptoBulk d + 1
  | .slice elems spare => uptoBulkAll elems + uptoBulkAll spare + 1
  | .agg parts => uptoBulkAll parts + 1
  | .iface _ d => uptoBulk d + 1
  | .map entries => uptoBulkEntries entries + 1
  | .held _ => 1
def uptoBulkAll {H : Type} : List (DataW H) → Nat
  | [] => 0
  | d :: r => uptoBulk d + uptoBulkAll r
def uptoBulkEntries {H : Type} : List (Lit × DataW H) → Nat
  | [] => 0
  | x :: r => uptoBulkEntry x + uptoBulkEntries r
def uptoBulkEntry {H : Type} : Lit × DataW H → Nat
  | (.string bytes, d) => bytes.length + uptoBulk d + 1
  | (_, d) => uptoBulk d + 1
 end
def uptoSmall : (H : Type) → List (DataW H) → Bool := fun _ ds => decide (uptoBulkAll ds ≤ 1048576)
def OpenSpec.upto (s : _root_.Go.ChangeSpec) : _root_.Go.OpenSpec := { _root_.Go.OpenSpec.ofChange s with cond := some uptoSmall }

/-- 'triforiumlaw07.HeadWords', WHERE WHAT IT READS IS OF BULK AT MOST 1048576: true; the input reads as it did. -/
def headWordsUptoRow : OpenClaim := { program := "ytlgljnimfpiahaadoor", sum := "88ee82b91a0b0b4650d2c5221d1c56a52bca1c035cb2481dd8946e98d35e57f6", func := "triforium/triforiumlaw07.HeadWords", spec := "headWords", named := ["triforium/head.parts"], apart := false, laid := [("triforium/head.parts", laid_triforium_head_parts)], narrowed := true }
def HeadWordsUptoSaid : Prop := headWordsUptoRow.holds Tryd.pinned (OpenSpec.upto headWordsSpec)

/-- 'triforiumlaw07.HeadBack', WHERE WHAT IT READS IS OF BULK AT MOST 1048576: true; the input reads as it did. -/
def headBackUptoRow : OpenClaim := { program := "ytlgljnimfpiahaadoor", sum := "88ee82b91a0b0b4650d2c5221d1c56a52bca1c035cb2481dd8946e98d35e57f6", func := "triforium/triforiumlaw07.HeadBack", spec := "headBack", named := ["triforium/head.parts"], apart := false, laid := [("triforium/head.parts", laid_triforium_head_parts)], narrowed := true }
def HeadBackUptoSaid : Prop := headBackUptoRow.holds Tryd.pinned (OpenSpec.upto headBackSpec)

/-- 'triforiumlaw07.HeadApart', WHERE WHAT IT READS IS OF BULK AT MOST 1048576: true; the input reads as it did. -/
def headApartUptoRow : OpenClaim := { program := "ytlgljnimfpiahaadoor", sum := "88ee82b91a0b0b4650d2c5221d1c56a52bca1c035cb2481dd8946e98d35e57f6", func := "triforium/triforiumlaw07.HeadApart", spec := "headApart", named := ["triforium/head.parts"], apart := false, laid := [("triforium/head.parts", laid_triforium_head_parts)], narrowed := true }
def HeadApartUptoSaid : Prop := headApartUptoRow.holds Tryd.pinned (OpenSpec.upto headApartSpec)

end Rows
end Go.Proofs.YtlgljnimfpiahaaDoor
