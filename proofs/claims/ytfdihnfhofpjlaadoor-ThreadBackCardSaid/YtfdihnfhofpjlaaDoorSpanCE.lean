/- Contracts: cmp.Compare, cmp.Or, and span's order, as the library's sort asks it. -/
import Derived.Test.YtfdihnfhofpjlaaDoorSpanAB
import Derived.Test.YtfdihnfhofpjlaaDoorSymMath
import Derived.Deep.RegionHeld3
import Derived.Deep.DeepCutAuto
import Derived.Shelf.SlSortCmp.KitK
import Derived.Shelf.RegionOpenPlain
import Derived.BigRegion
namespace Go.Proofs.YtfdihnfhofpjlaaDoor
open Go.RowKit Go.Sort

def cmpI (a b : Int) : Int := if a < b then -1 else if b < a then 1 else 0
theorem cmpI_lt {a b : Int} (h : a < b) : cmpI a b = -1 := by unfold cmpI; rw [if_pos h]
theorem cmpI_gt {a b : Int} (h : b < a) : cmpI a b = 1 := by unfold cmpI; rw [if_neg (by omega), if_pos h]
theorem cmpI_eq {a b : Int} (h1 : ¬ a < b) (h2 : ¬ b < a) : cmpI a b = 0 := by unfold cmpI; rw [if_neg h1, if_neg h2]

def orI (a b : Int) : Int := if a = 0 then b else a
theorem or_c0 (W : World) (a b : Int) : (World.drew (W.alloc (.cells #[.int .i64 a, .int .i64 b] 3))).cell? ⟨W.heap.size, 0, none⟩ = some (.int .i64 a) := (Blk.new W 3 #[.int .i64 a, .int .i64 b]).cell 0
theorem or_c1 (W : World) (a b : Int) : (World.drew (W.alloc (.cells #[.int .i64 a, .int .i64 b] 3))).cell? ⟨W.heap.size, 1, none⟩ = some (.int .i64 b) := (Blk.new W 3 #[.int .i64 a, .int .i64 b]).cell 1
/-- What order tells. -/
def ordI (x y : Sp) : Int := orI (cmpI x.1 y.1) (cmpI x.2 y.2)
theorem ordI_lt {x y : Sp} : ordI x y < 0 ↔ Sp.lt x y := by
  unfold ordI orI cmpI Sp.lt
  repeat' split
  all_goals omega

end Go.Proofs.YtfdihnfhofpjlaaDoor

/- Contracts: the library's swaps of ranges and rotations, over a row of spans. -/
namespace Go.Proofs.YtfdihnfhofpjlaaDoor
open Go.RowKit Go.Sort

def enc (x : Sp) : List Value := [.int .i64 x.1, .int .i64 x.2]
theorem enc_len (x : Sp) : (enc x).length = 2 := rfl
theorem enc_one (x : Sp) : ∀ v ∈ enc x, v.oneCell' = true := by
  intro v hv
  unfold enc at hv
  rcases List.mem_cons.1 hv with rfl | hv
  · rfl
  · rcases List.mem_cons.1 hv with rfl | hv
    · rfl
    · cases hv
/-- The row d lies in block g from o on, in world W, which has come from w: only that row has turned. -/
abbrev Sw (w : World) (g o : Nat) (d : Array Sp) (W : World) : Prop := SWK enc 2 w g o d W
/-- Element i of the row. -/
structure Cell2 (W : World) (g o i : Nat) (x : Sp) : Prop where
  c0 : W.cell? ⟨g, o + i * 2, none⟩ = some (.int .i64 x.1)
  c1 : W.cell? ⟨g, o + i * 2 + 1, none⟩ = some (.int .i64 x.2)
  f0 : W.frozen? ⟨g, o + i * 2, none⟩ = false
  f1 : W.frozen? ⟨g, o + i * 2 + 1, none⟩ = false
theorem cell2 {W : World} {g o i : Nat} {d : Array Sp} (h : HoldsK enc 2 W g o d) (hi : i < d.size) : Cell2 W g o i d[i]! := by
  have h0 := HoldsK.cell h (i := i) (c := 0) hi (by omega)
  have h1 := HoldsK.cell h (i := i) (c := 1) hi (by omega)
  exact ⟨h0.1, h1.1, h0.2, h1.2⟩

theorem sw_trans {w W W' : World} {g o : Nat} {d e : Array Sp} (h : Sw w g o d W) (hg : g < w.heap.size) (k : Sw W g o e W') (hs : e.size = d.size) : Sw w g o e W' := by
  obtain ⟨n, os, rfl⟩ := k
  exact SWK.on h hg n e os hs
theorem swapped2 {w W : World} {g o i j : Nat} {d : Array Sp} {x y : Sp} (h : Sw w g o d (World.drew ((W.setCells g (o + i * 2) (enc y)).setCells g (o + j * 2) (enc x)))) :
    Sw w g o d (World.drew ((((W.setCell ⟨g, o + i * 2, none⟩ (.int .i64 y.1)).setCell ⟨g, o + i * 2 + 1, none⟩ (.int .i64 y.2)).setCell ⟨g, o + j * 2, none⟩ (.int .i64 x.1)).setCell ⟨g, o + j * 2 + 1, none⟩ (.int .i64 x.2))) := h

end Go.Proofs.YtfdihnfhofpjlaaDoor

/- Contract: the library's insertion sort, over a row of spans. -/
namespace Go.Proofs.YtfdihnfhofpjlaaDoor
open Go.RowKit Go.Sort

def ltO (x y : Sp) : Bool := ltOf ordI x y
theorem ltO_iff {x y : Sp} : ltO x y = true ↔ Sp.lt x y := by unfold ltO ltOf; rw [decide_eq_true_iff, ordI_lt]
theorem ltO_not {x y : Sp} : ltO x y = false ↔ Sp.le y x := by
  rw [← Sp.not_lt, ← ltO_iff]
  cases ltO x y <;> simp
theorem swo : SWO ltO where
  irrefl x := ltO_not.2 (by unfold Sp.le; omega)
  trans x y z h1 h2 := ltO_iff.2 (by have := ltO_iff.1 h1; have := ltO_iff.1 h2; unfold Sp.lt at *; omega)
  ntrans x y z h1 h2 := ltO_not.2 (by have := ltO_not.1 h1; have := ltO_not.1 h2; unfold Sp.le at *; omega)
theorem sw_grw {w W W' : World} {g o : Nat} {d : Array Sp} (h : Sw w g o d W) (k : Grw W W') : Sw w g o d W' := by
  obtain ⟨n, os, rfl⟩ := k
  exact SWK.grown h n os
theorem Cell2.all {W : World} {g o i : Nat} {x : Sp} (h : Cell2 W g o i x) :
    (∀ n os, (grow (W.drewN n) os).cell? ⟨g, o + i * 2, none⟩ = some (.int .i64 x.1)) ∧ (∀ n os, (grow (W.drewN n) os).cell? ⟨g, o + i * 2 + 1, none⟩ = some (.int .i64 x.2)) :=
  ⟨fun n os => (grw_grow n os).only.keeps h.c0, fun n os => (grw_grow n os).only.keeps h.c1⟩

end Go.Proofs.YtfdihnfhofpjlaaDoor
