/- Contracts of package span: May, end, Has, Meets, Within. Each makes memory of its own alone: the world behind it is the world ahead of it, drawn on and grown. -/
import Derived.Test.YtfdihnfhofpjlaaDoorSpanSay
import Derived.Shelf.SlSortCmp.QuietGrown
import Derived.Sort.Grow
namespace Go.Proofs.YtfdihnfhofpjlaaDoor
open Go.RowKit Go.Sort

/-- The world has drawn and grown, no more. -/
def Grw (w w' : World) : Prop := ∃ q os, w' = grow (w.drewN q) os
theorem grow_heap (w : World) (os : Array Obj) (k : Nat) (h : k < w.heap.size) : (grow w os).heap[k]? = w.heap[k]? := by
  unfold grow
  exact Array.getElem?_append_left h
theorem grw_refl (w : World) : Grw w w := ⟨0, #[], by rw [grow_empty]; rfl⟩
theorem grw_alloc (w : World) (o : Obj) : Grw w (w.alloc o) := ⟨0, #[o], by rw [alloc_eq_grow]; rfl⟩
theorem grw_drewN (w : World) (n : Nat) : Grw w (w.drewN n) := ⟨n, #[], by rw [grow_empty]⟩
theorem grw_trans {a b c : World} (h : Grw a b) (g : Grw b c) : Grw a c := by
  obtain ⟨q, os, rfl⟩ := h
  obtain ⟨r, os', rfl⟩ := g
  refine ⟨q + r, os ++ os', ?_⟩
  show grow (grow ((a.drewN q).drewN r) os) os' = _
  rw [grow_grow, World.drewN_drewN]
theorem grw_grow {w : World} (n : Nat) (os : Array Obj) : Grw w (grow (w.drewN n) os) := ⟨n, os, rfl⟩
theorem Grw.only {w w' : World} (h : Grw w w') : Only nob w w' := by
  obtain ⟨q, os, rfl⟩ := h
  exact ⟨rfl, rfl, rfl, by unfold grow; simp [World.drewN], fun k hk _ => grow_heap _ _ _ hk⟩
theorem grw_of {P : Program} {f : FuncId} {args : Array Value} {w : World} {n : Nat} {os : Array Obj} {v : Value}
    (h : Calls P f args (grow (w.drewN n) os) fun e w' => e = .returned v ∧ Grw (grow (w.drewN n) os) w') : Calls P f args (grow (w.drewN n) os) fun e w'' => e = .returned v ∧ ∃ p : GrownBy, w'' = grow (w.drewN p.n) p.os :=
  Calls.grown_of h

end Go.Proofs.YtfdihnfhofpjlaaDoor

/- Contracts of package span: Has, Meets, Within. -/
namespace Go.Proofs.YtfdihnfhofpjlaaDoor
open Go.RowKit Go.Sort

/-- A world drawn on and grown, under a name. -/
theorem grown_name (W : World) (n : Nat) (os : Array Obj) : ∃ W3, grow (W.drewN n) os = W3 ∧ Hid (Grw W W3) := ⟨_, rfl, grw_grow n os⟩
theorem mixed_ : Tryd.prog.follows .mixedOrders = true := by kernel_rfl
/-- A box of a span's, in every world behind. -/
def BoxAt (w : World) (b : Nat) (x : Sp) : Prop := w.cell? ⟨b, 0, none⟩ = some (.int .i64 x.1) ∧ w.cell? ⟨b, 1, none⟩ = some (.int .i64 x.2)
theorem BoxAt.grw {w w' : World} {b : Nat} {x : Sp} (h : BoxAt w b x) (g : Grw w w') : BoxAt w' b x := ⟨g.only.keeps h.1, g.only.keeps h.2⟩
theorem BoxAt.new (w : World) (x : Sp) : BoxAt (w.alloc (.cells #[.int .i64 x.1, .int .i64 x.2] 33)) w.heap.size x := by
  have h := Blk.new w 33 #[.int .i64 x.1, .int .i64 x.2]
  exact ⟨h.cell 0, h.cell 1⟩
theorem BoxAt.all {w : World} {b : Nat} {x : Sp} (h : BoxAt w b x) : (∀ n os, (grow (w.drewN n) os).cell? ⟨b, 0, none⟩ = some (.int .i64 x.1)) ∧ (∀ n os, (grow (w.drewN n) os).cell? ⟨b, 1, none⟩ = some (.int .i64 x.2)) :=
  ⟨fun n os => (h.grw (grw_grow n os)).1, fun n os => (h.grw (grw_grow n os)).2⟩

theorem two_boxes (w : World) (x y : Sp) : ∃ W, ((w.alloc (.cells #[.int .i64 x.1, .int .i64 x.2] 33)).alloc (.cells #[.int .i64 y.1, .int .i64 y.2] 33)) = W ∧ Hid (Grw w W ∧ BoxAt W w.heap.size x ∧ BoxAt W (w.heap.size + 1) y) := by
  refine ⟨_, rfl, grw_trans (grw_alloc _ _) (grw_alloc _ _), (BoxAt.new w x).grw (grw_alloc _ _), ?_⟩
  have := BoxAt.new (w.alloc (.cells #[.int .i64 x.1, .int .i64 x.2] 33)) y
  rwa [World.size_alloc] at this

theorem within_lt {x y : Sp} (hx : x.ok) (hy : y.ok) : Sp.within x y ↔ y.1 ≤ x.1 ∧ x.1 + x.2 ≤ y.1 + y.2 := by
  unfold Sp.within Sp.has
  simp only [hx, hy, true_and]
  unfold Sp.ok at hx hy
  omega
end Go.Proofs.YtfdihnfhofpjlaaDoor
