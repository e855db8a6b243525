/- The contracts of package layout, out of those of package span; a config that came in, opened. -/
import Derived.Test.YtmlpppcdammelaaSpanN
import Derived.Test.YtmlpppcdammelaaLayC
import Derived.Test.YtmlpppcdammelaaAwake04
import Derived.Test.YtmlpppcdammelaaOpen
import Derived.Lib.SmallJoins
namespace Go.Proofs.Ytmlpppcdammelaa
open Go.ChangeShapes Go.WideShapes Go.RowKit Go.Deep Go.Joins

theorem lyWordsAll : LyWords := lyWords spTotal
theorem lyWhereAll : LyWhere := lyWhere spHas
theorem lyAwake : LyAwake := awake04_any lyCheck lyWordsAll lyFrom lyTo lyLarge lyWhereAll lySmall

section
variable {H : Type} {enc : TypeId × Value → H} {w : World} {base b0 : Nat} {r : Reach} {sp : Nat → Bool} {held : Bool}
theorem i64_of {z : Int} (h : (Lit.int .i64 z).wf = true) : I64 z := bounds_i64 h
theorem open_config {v : Value} {d : DataW H} {p : List MemPlace} (hv : Value.okWide Try.prog w r b0 23 v) (h : DataW.Trod enc Try.prog w base sp held 23 v d p) :
    ∃ c : Cf, v = .agg #[.int .i64 c.semi, .int .i64 c.large, .int .i64 c.slots, .int .i64 c.limit] ∧ CFit c := by
  obtain ⟨c0, c1, c2, c3, y0, y1, y2, y3, m, rfl, -, -, h0, h1, h2, h3⟩ := open_agg4 Try.underlying23 (by kernel_rfl) (by kernel_rfl) hv h
  obtain ⟨a, e0, -, w0⟩ := DataW.trod_int (k := .i64) (by kernel_rfl) h0
  obtain ⟨b, e1, -, w1⟩ := DataW.trod_int (k := .i64) (by kernel_rfl) h1
  obtain ⟨s, e2, -, w2⟩ := DataW.trod_int (k := .i64) (by kernel_rfl) h2
  obtain ⟨l, e3, -, w3⟩ := DataW.trod_int (k := .i64) (by kernel_rfl) h3
  obtain rfl : c0 = .int .i64 a := by simpa using e0
  obtain rfl : c1 = .int .i64 b := by simpa using e1
  obtain rfl : c2 = .int .i64 s := by simpa using e2
  obtain rfl : c3 = .int .i64 l := by simpa using e3
  exact ⟨⟨a, b, s, l⟩, rfl, ⟨i64_of w0, i64_of w1, i64_of w2, i64_of w3⟩⟩
end
end Go.Proofs.Ytmlpppcdammelaa
