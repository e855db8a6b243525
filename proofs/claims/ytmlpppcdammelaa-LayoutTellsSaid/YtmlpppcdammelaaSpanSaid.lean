/- What is asked of package span's calls: their contracts, each said once, as a name that the walk leaves closed. -/
import Derived.Test.YtmlpppcdammelaaSpanPlain
namespace Go.Proofs.Ytmlpppcdammelaa
open Go.RowKit

/-- Its At is an int's: no more than the greatest. (A span's numbers are 64 bits wide; as whole numbers they might be anything.) -/
def Fit (x : Sp) : Prop := x.1 ≤ 9223372036854775807
theorem Fit.of_ok {x : Sp} (h : x.ok) : Fit x := by unfold Sp.ok most at h; unfold Fit; omega
def Fits (l : List Sp) : Prop := ∀ x ∈ l, Fit x
theorem Fits.joined {l : List Sp} (h : Joined l) : Fits l := fun x hx => .of_ok (h.1 x hx)
theorem Fits.get {l : List Sp} (h : Fits l) {k : Nat} {x : Sp} (hx : l[k]? = some x) : Fit x := h x (List.mem_of_getElem? hx)

def SpMay : Prop := ∀ (x : Sp), Fit x → ∀ (w : World), Calls Try.prog 28 #[.agg #[.int .i64 x.1, .int .i64 x.2]] w fun e w' => e = .returned (.bool (decide x.ok)) ∧ Only nob w w'
def SpHas : Prop := ∀ (x : Sp) (p : Int) (w : World), Fit x → -9223372036854775808 ≤ p → p ≤ 9223372036854775807 → Calls Try.prog 21 #[.agg #[.int .i64 x.1, .int .i64 x.2], .int .i64 p] w fun e w' => e = .returned (.bool (decide (x.has p))) ∧ Only nob w w'
def SpApart : Prop := ∀ (v : Value) (l : List Sp) (B : Nat) (w : World), Sl w B 2 v l.length (spc l) → B ≤ w.heap.size → l.length ≤ 40000 → Fits l → Calls Try.prog 22 #[v] w fun e w' => e = .returned (.bool (decide (ApartL l))) ∧ Only nob w w'
def SpTotal : Prop := ∀ (v : Value) (l : List Sp) (B : Nat) (w : World), Sl w B 2 v l.length (spc l) → B ≤ w.heap.size → l.length ≤ 40000 → Fits l → Calls Try.prog 25 #[v] w fun e w' => e = .returned (.int .i64 (total l)) ∧ Only nob w w'
def SpSort : Prop := ∀ (v : Value) (l : List Sp) (B : Nat) (w : World), Sl w B 2 v l.length (spc l) → B ≤ w.heap.size → l.length ≤ 40000 →
  Calls Try.prog 30 #[v] w fun e w' => ∃ v' L, e = .returned v' ∧ SortedOf l l.length L ∧ Sl w' w'.heap.size 2 v' L.length (spc L) ∧ Only nob w w'
def SpJoin : Prop := ∀ (v : Value) (l : List Sp) (B : Nat) (w : World), Sl w B 2 v l.length (spc l) → B ≤ w.heap.size → l.length ≤ 40000 → Fits l →
  Calls Try.prog 20 #[v] w fun e w' => ∃ v' O, e = .returned v' ∧ Joined O ∧ (∀ p, cov O p ↔ cov l p) ∧ Sl w' w'.heap.size 2 v' O.length (spc O) ∧ Only nob w w'
end Go.Proofs.Ytmlpppcdammelaa
