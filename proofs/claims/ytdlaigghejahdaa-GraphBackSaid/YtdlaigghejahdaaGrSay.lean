/- A graph in memory: rows of nodes, each with two rows of its own; what is asked of package graph, and of the document's own. -/
import Derived.Test.YtdlaigghejahdaaGrMath
import Derived.Test.YtdlaigghejahdaaSmalls
import Derived.Test.YtdlaigghejahdaaSpanBase
namespace Go.Proofs.Ytdlaigghejahdaa
open Go.RowKit
set_option maxRecDepth 100000

/-- A node's two rows read. -/
structure NdR (w : World) (B : Nat) (d : Nd) (h : Value × Value) : Prop where
  fields : Sl w B 2 h.1 d.fs.length (spc d.fs)
  raws : Sl w B 1 h.2 d.rs.length (u64s d.rs)
def ndE (d : Nd) (h : Value × Value) : List Value := [.int .i64 d.kd, h.1, h.2]
def ndc : List Nd → List (Value × Value) → List Value
  | d :: l, h :: hs => .int .i64 d.kd :: h.1 :: h.2 :: ndc l hs
  | _, _ => []
theorem ndc_len : ∀ (l : List Nd) (hs : List (Value × Value)), hs.length = l.length → (ndc l hs).length = l.length * 3
  | [], [], _ => rfl
  | [], _ :: _, h => by cases h
  | _ :: _, [], h => by cases h
  | d :: l, h :: hs, e => by
    have := ndc_len l hs (by simpa using e)
    simp only [ndc, List.length_cons, this]
    omega
theorem ndc_get : ∀ (l : List Nd) (hs : List (Value × Value)) (k : Nat) (d : Nd) (h : Value × Value), l[k]? = some d → hs[k]? = some h → (ndc l hs)[k * 3]? = some (.int .i64 d.kd) ∧ (ndc l hs)[k * 3 + 1]? = some h.1 ∧ (ndc l hs)[k * 3 + 2]? = some h.2
  | [], _, _, _, _, hd, _ => by cases hd
  | _ :: _, [], _, _, _, _, hh => by cases hh
  | x :: l, y :: hs, 0, d, h, hd, hh => by
    obtain rfl : x = d := by simpa using hd
    obtain rfl : y = h := by simpa using hh
    exact ⟨rfl, rfl, rfl⟩
  | x :: l, y :: hs, k + 1, d, h, hd, hh => by
    have := ndc_get l hs k d h (by simpa using hd) (by simpa using hh)
    have e : (k + 1) * 3 = k * 3 + 3 := by omega
    rw [e]
    exact this
/-- A graph's rows read. -/
structure RdG (w : World) (B : Nat) (g : Gr) (vn vr : Value) (hs : List (Value × Value)) : Prop where
  len : hs.length = g.nd.length
  nodes : Sl w B 3 vn g.nd.length (ndc g.nd hs)
  each : ∀ (i : Nat) d h, g.nd[i]? = some d → hs[i]? = some h → NdR w B d h
  roots : Sl w B 2 vr g.rt.length (spc g.rt)
section
variable {w w' : World} {B B' : Nat} {g : Gr} {vn vr : Value} {hs : List (Value × Value)} {d : Nd} {h : Value × Value}
theorem NdR.below (H : NdR w B d h) (b : Below B w w') : NdR w' B d h := ⟨H.fields.below b, H.raws.below b⟩
theorem NdR.more (H : NdR w B d h) (b : B ≤ B') : NdR w B' d h := ⟨H.fields.more b, H.raws.more b⟩
theorem RdG.below (H : RdG w B g vn vr hs) (b : Below B w w') : RdG w' B g vn vr hs := ⟨H.len, H.nodes.below b, fun i d h h1 h2 => (H.each i d h h1 h2).below b, H.roots.below b⟩
theorem RdG.more (H : RdG w B g vn vr hs) (b : B ≤ B') : RdG w B' g vn vr hs := ⟨H.len, H.nodes.more b, fun i d h h1 h2 => (H.each i d h h1 h2).more b, H.roots.more b⟩
theorem RdG.only (H : RdG w B g vn vr hs) (o : Only nob w w') (hB : B ≤ w.heap.size) : RdG w' B g vn vr hs := H.below (o.below hB fun _ h => h.elim)
/-- A node's cells; its rows. -/
theorem RdG.at_ {A : Option Addr} {c k : Nat} (H : RdG w B g (.slice A g.nd.length c) vr hs) (b : Below B w w') (hd : g.nd[k]? = some d) :
    ∃ bb o fv rv, A = some ⟨bb, o, none⟩ ∧ bb < B ∧ hs[k]? = some (fv, rv) ∧ w'.cell? ⟨bb, o + k * 3, none⟩ = some (.int .i64 d.kd) ∧ w'.cell? ⟨bb, o + k * 3 + 1, none⟩ = some fv ∧ w'.cell? ⟨bb, o + k * 3 + 2, none⟩ = some rv ∧ NdR w' B d (fv, rv) := by
  have hk : k < g.nd.length := (List.getElem?_eq_some_iff.1 hd).1
  obtain ⟨⟨fv, rv⟩, hh⟩ : ∃ h, hs[k]? = some h := ⟨_, List.getElem?_eq_getElem (by rw [H.len]; exact hk)⟩
  obtain ⟨bb, o, c', e, _, _, hlt, hc⟩ := (H.nodes.below b).at_ (by omega)
  obtain ⟨rfl, rfl⟩ : A = some ⟨bb, o, none⟩ ∧ c = c' := by simpa using e
  obtain ⟨g0, g1, g2⟩ := ndc_get g.nd hs k d (fv, rv) hd hh
  exact ⟨bb, o, fv, rv, rfl, hlt, hh, hc _ _ g0, by have := hc _ _ g1; rwa [← Nat.add_assoc] at this, by have := hc _ _ g2; rwa [← Nat.add_assoc] at this, (H.each k d _ hd hh).below b⟩
end
/-- Numbers of 64 bits. -/
def VlOk (l : List Sp) : Prop := ∀ v ∈ l, (-9223372036854775808 ≤ v.1 ∧ v.1 ≤ 9223372036854775807) ∧ -9223372036854775808 ≤ v.2 ∧ v.2 ≤ 9223372036854775807
structure GrFit (g : Gr) : Prop where
  kd : ∀ d ∈ g.nd, -9223372036854775808 ≤ d.kd ∧ d.kd ≤ 9223372036854775807
  fs : ∀ d ∈ g.nd, VlOk d.fs
  rs : ∀ d ∈ g.nd, Words d.rs
  rt : VlOk g.rt

/-! ### What is asked of package graph, and of the document's own -/
noncomputable instance (a b : Gr) : Decidable (a = b) := Classical.propDecidable _
noncomputable def sameG (a b : Gr) : Bool := decide (a = b)
def RightGC (f : FuncId) : Prop := ∀ (g : Gr) (vn vr : Value) (hs : List (Value × Value)) (B : Nat) (w : World), RdG w B g vn vr hs → B ≤ w.heap.size → GrFit g →
  Calls Try.prog f #[.agg #[vn, vr]] w fun e w' => e = .returned (.bool (grOk g)) ∧ Only nob w w'
def SizeGC (f : FuncId) : Prop := ∀ (d : Nd) (h : Value × Value) (B : Nat) (w : World), NdR w B d h →
  Calls Try.prog f #[.agg #[.int .i64 d.kd, h.1, h.2]] w fun e w' => e = .returned (.int .i64 (ndSz d)) ∧ Only nob w w'
def LeadsGC (f : FuncId) : Prop := ∀ (g : Gr) (i : Int) (vn vr : Value) (hs : List (Value × Value)) (B : Nat) (w : World), RdG w B g vn vr hs → B ≤ w.heap.size → GrFit g →
  Calls Try.prog f #[.agg #[vn, vr], .int .i64 i] w fun e w' => ∃ v', e = .returned v' ∧ Sl w' w'.heap.size 1 v' (leadsG g i).length (i64s (leadsG g i)) ∧ Only nob w w'
def SumGC (S : Gr → List Int → Int) (f : FuncId) : Prop := ∀ (g : Gr) (l : List Int) (vn vr v : Value) (hs : List (Value × Value)) (B : Nat) (w : World), RdG w B g vn vr hs → Sl w B 1 v l.length (i64s l) → B ≤ w.heap.size → GrFit g → l.length ≤ 100 →
  Calls Try.prog f #[.agg #[vn, vr], v] w fun e w' => e = .returned (.int .i64 (S g l)) ∧ Only nob w w'
def SameGC (f : FuncId) : Prop := ∀ (g k : Gr) (vn vr un ur : Value) (hs js : List (Value × Value)) (B B' : Nat) (w : World), RdG w B g vn vr hs → RdG w B' k un ur js → B ≤ w.heap.size → B' ≤ w.heap.size → GrFit g → GrFit k →
  Calls Try.prog f #[.agg #[vn, vr], .agg #[un, ur]] w fun e w' => e = .returned (.bool (sameG g k)) ∧ Only nob w w'
def RenGC (f : FuncId) : Prop := ∀ (g : Gr) (o : List Int) (vn vr v : Value) (hs : List (Value × Value)) (B : Nat) (w : World), RdG w B g vn vr hs → Sl w B 1 v o.length (i64s o) → B ≤ w.heap.size → GrFit g → g.nd.length ≤ 60 → g.rt.length ≤ 100 → o.length ≤ 100 → (∀ x ∈ o, -9223372036854775808 ≤ x ∧ x ≤ 9223372036854775807) →
  Calls Try.prog f #[.agg #[vn, vr], v] w fun e w' => ∃ un ur js, e = .returned (.tuple #[.agg #[un, ur], .int .i64 (rnE g o)]) ∧ RdG w' w'.heap.size (rnG g o) un ur js ∧ Only nob w w'
end Go.Proofs.Ytdlaigghejahdaa
