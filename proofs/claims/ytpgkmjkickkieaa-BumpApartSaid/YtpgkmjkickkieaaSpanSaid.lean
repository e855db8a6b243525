/- What is asked of package span's calls: their contracts, each said once, as a name that the walk leaves closed. -/
import Derived.Test.YtpgkmjkickkieaaSpanPlain
namespace Go.Proofs.Ytpgkmjkickkieaa
open Go.RowKit

/-- Its At is an int's: no more than the greatest. (A span's numbers are 64 bits wide; as whole numbers they might be anything.) -/
def Fit (x : Sp) : Prop := x.1 ≤ 9223372036854775807
theorem Fit.of_ok {x : Sp} (h : x.ok) : Fit x := by unfold Sp.ok most at h; unfold Fit; omega
def Fits (l : List Sp) : Prop := ∀ x ∈ l, Fit x
theorem Fits.joined {l : List Sp} (h : Joined l) : Fits l := fun x hx => .of_ok (h.1 x hx)
theorem Fits.get {l : List Sp} (h : Fits l) {k : Nat} {x : Sp} (hx : l[k]? = some x) : Fit x := h x (List.mem_of_getElem? hx)

def SpMay : Prop := ∀ (x : Sp), Fit x → ∀ (w : World), Calls Try.prog 16 #[.agg #[.int .i64 x.1, .int .i64 x.2]] w fun e w' => e = .returned (.bool (decide x.ok)) ∧ Only nob w w'
end Go.Proofs.Ytpgkmjkickkieaa
