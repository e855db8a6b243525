/- Blocks of five and six cells of the call's own: read, written whole. No program in it. -/
import Derived.Test.YtoeccbbjncgmlaaDoorMem
namespace Go.Proofs.YtoeccbbjncgmlaaDoor
open Go.RowKit

section
variable {w W : World} {b : Nat} {t : TypeId}
theorem set_new {p : Addr} (o : Only nob w W) (hp : w.heap.size ≤ p.block) (u : Value) : Only nob w (W.setCell p u) := o.setCell (fun h => absurd h (Nat.not_lt_of_le hp)) u
theorem cells5 {x0 x1 x2 x3 x4 : Value} (h : Blk w b t #[x0, x1, x2, x3, x4]) : w.cell? ⟨b, 0, none⟩ = some x0 ∧ w.cell? ⟨b, 1, none⟩ = some x1 ∧ w.cell? ⟨b, 2, none⟩ = some x2 ∧ w.cell? ⟨b, 3, none⟩ = some x3 ∧ w.cell? ⟨b, 4, none⟩ = some x4 :=
  ⟨h.cell 0, h.cell 1, h.cell 2, h.cell 3, h.cell 4⟩
theorem frees5 {cs : Array Value} (h : Blk w b t cs) : w.frozen? ⟨b, 0, none⟩ = false ∧ w.frozen? ⟨b, 1, none⟩ = false ∧ w.frozen? ⟨b, 2, none⟩ = false ∧ w.frozen? ⟨b, 3, none⟩ = false ∧ w.frozen? ⟨b, 4, none⟩ = false :=
  ⟨h.free 0, h.free 1, h.free 2, h.free 3, h.free 4⟩
theorem cells6 {x0 x1 x2 x3 x4 x5 : Value} (h : Blk w b t #[x0, x1, x2, x3, x4, x5]) : w.cell? ⟨b, 0, none⟩ = some x0 ∧ w.cell? ⟨b, 1, none⟩ = some x1 ∧ w.cell? ⟨b, 2, none⟩ = some x2 ∧ w.cell? ⟨b, 3, none⟩ = some x3 ∧ w.cell? ⟨b, 4, none⟩ = some x4 ∧ w.cell? ⟨b, 5, none⟩ = some x5 :=
  ⟨h.cell 0, h.cell 1, h.cell 2, h.cell 3, h.cell 4, h.cell 5⟩
theorem frees6 {cs : Array Value} (h : Blk w b t cs) : w.frozen? ⟨b, 0, none⟩ = false ∧ w.frozen? ⟨b, 1, none⟩ = false ∧ w.frozen? ⟨b, 2, none⟩ = false ∧ w.frozen? ⟨b, 3, none⟩ = false ∧ w.frozen? ⟨b, 4, none⟩ = false ∧ w.frozen? ⟨b, 5, none⟩ = false :=
  ⟨h.free 0, h.free 1, h.free 2, h.free 3, h.free 4, h.free 5⟩
/-- Five cells of the call's own block are written. -/
theorem puts5 (o : Only nob w W) (hb : w.heap.size ≤ b) {z0 z1 z2 z3 z4 : Value} (B : Blk W b t #[z0, z1, z2, z3, z4]) (x0 x1 x2 x3 x4 : Value) :
    ∃ W4, (((((W.setCell ⟨b, 0, none⟩ x0).setCell ⟨b, 1, none⟩ x1).setCell ⟨b, 2, none⟩ x2).setCell ⟨b, 3, none⟩ x3).setCell ⟨b, 4, none⟩ x4) = W4 ∧ Only nob w W4 ∧ Blk W4 b t #[x0, x1, x2, x3, x4] := by
  refine ⟨_, rfl, set_new (set_new (set_new (set_new (set_new o hb _) hb _) hb _) hb _) hb _, ?_⟩
  simpa using ((((B.put 0 x0).put 1 x1).put 2 x2).put 3 x3).put 4 x4
/-- Six cells of the call's own block are written. -/
theorem puts6 (o : Only nob w W) (hb : w.heap.size ≤ b) {z0 z1 z2 z3 z4 z5 : Value} (B : Blk W b t #[z0, z1, z2, z3, z4, z5]) (x0 x1 x2 x3 x4 x5 : Value) :
    ∃ W4, ((((((W.setCell ⟨b, 0, none⟩ x0).setCell ⟨b, 1, none⟩ x1).setCell ⟨b, 2, none⟩ x2).setCell ⟨b, 3, none⟩ x3).setCell ⟨b, 4, none⟩ x4).setCell ⟨b, 5, none⟩ x5) = W4 ∧ Only nob w W4 ∧ Blk W4 b t #[x0, x1, x2, x3, x4, x5] := by
  refine ⟨_, rfl, set_new (set_new (set_new (set_new (set_new (set_new o hb _) hb _) hb _) hb _) hb _) hb _, ?_⟩
  simpa using (((((B.put 0 x0).put 1 x1).put 2 x2).put 3 x3).put 4 x4).put 5 x5
/-- A cell of the call's own block is written, one that was there last. -/
theorem put_new {cs : Array Value} (o : Only nob w W) (hb : w.heap.size ≤ b) (B : Blk W b t cs) (i : Nat) (x : Value) :
    ∃ W4, W.setCell ⟨b, i, none⟩ x = W4 ∧ Hid (Only nob w W4 ∧ Blk W4 b t (cs.setIfInBounds i x) ∧ (∀ g t' cs', g ≠ b → Blk W g t' cs' → Blk W4 g t' cs') ∧ ∀ p : Addr, p.block ≠ b → W4.cell? p = W.cell? p) :=
  ⟨_, rfl, Lib.hid ⟨set_new o hb _, B.put i x, fun _ _ _ hg B' => B'.other (fun e => hg e.symm) x, fun p hp => World.cell?_of_block (Below.heap_setCell W ⟨b, i, none⟩ x p.block hp)⟩⟩
end
end Go.Proofs.YtoeccbbjncgmlaaDoor
