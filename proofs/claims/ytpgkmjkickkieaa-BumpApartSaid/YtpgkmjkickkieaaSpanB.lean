/- Contracts of package span: Has, Meets, Within. -/
import Derived.Test.YtpgkmjkickkieaaSpanA
import Derived.Test.YtpgkmjkickkieaaSpanApart
namespace Go.Proofs.Ytpgkmjkickkieaa
open Go.RowKit Go.Sort

theorem may_yes {x : Sp} (h : x.ok) (w : World) : Calls Try.prog 16 #[.agg #[.int .i64 x.1, .int .i64 x.2]] w fun e w' => e = .returned (.bool true) ∧ Grw w w' := by
  have := may_any x (.of_ok h) w
  rwa [decide_eq_true h] at this
theorem may_no {x : Sp} (hx : Fit x) (h : ¬ x.ok) (w : World) : Calls Try.prog 16 #[.agg #[.int .i64 x.1, .int .i64 x.2]] w fun e w' => e = .returned (.bool false) ∧ Grw w w' := by
  have := may_any x hx w
  rwa [decide_eq_false h] at this

/-- A world drawn on and grown, under a name. -/
theorem grown_name (W : World) (n : Nat) (os : Array Obj) : ∃ W3, grow (W.drewN n) os = W3 ∧ Hid (Grw W W3) := ⟨_, rfl, grw_grow n os⟩
theorem mixed_ : Try.prog.follows .mixedOrders = true := by kernel_rfl
/-- A box of a span's, in every world behind. -/
def BoxAt (w : World) (b : Nat) (x : Sp) : Prop := w.cell? ⟨b, 0, none⟩ = some (.int .i64 x.1) ∧ w.cell? ⟨b, 1, none⟩ = some (.int .i64 x.2)
theorem BoxAt.grw {w w' : World} {b : Nat} {x : Sp} (h : BoxAt w b x) (g : Grw w w') : BoxAt w' b x := ⟨g.only.keeps h.1, g.only.keeps h.2⟩
theorem BoxAt.new (w : World) (x : Sp) : BoxAt (w.alloc (.cells #[.int .i64 x.1, .int .i64 x.2] 23)) w.heap.size x := by
  have h := Blk.new w 23 #[.int .i64 x.1, .int .i64 x.2]
  exact ⟨h.cell 0, h.cell 1⟩
theorem BoxAt.all {w : World} {b : Nat} {x : Sp} (h : BoxAt w b x) : (∀ n os, (grow (w.drewN n) os).cell? ⟨b, 0, none⟩ = some (.int .i64 x.1)) ∧ (∀ n os, (grow (w.drewN n) os).cell? ⟨b, 1, none⟩ = some (.int .i64 x.2)) :=
  ⟨fun n os => (h.grw (grw_grow n os)).1, fun n os => (h.grw (grw_grow n os)).2⟩

theorem two_boxes (w : World) (x y : Sp) : ∃ W, ((w.alloc (.cells #[.int .i64 x.1, .int .i64 x.2] 23)).alloc (.cells #[.int .i64 y.1, .int .i64 y.2] 23)) = W ∧ Hid (Grw w W ∧ BoxAt W w.heap.size x ∧ BoxAt W (w.heap.size + 1) y) := by
  refine ⟨_, rfl, grw_trans (grw_alloc _ _) (grw_alloc _ _), (BoxAt.new w x).grw (grw_alloc _ _), ?_⟩
  have := BoxAt.new (w.alloc (.cells #[.int .i64 x.1, .int .i64 x.2] 23)) y
  rwa [World.size_alloc] at this

theorem within_lt {x y : Sp} (hx : x.ok) (hy : y.ok) : Sp.within x y ↔ y.1 ≤ x.1 ∧ x.1 + x.2 ≤ y.1 + y.2 := by
  unfold Sp.within Sp.has
  simp only [hx, hy, true_and]
  unfold Sp.ok at hx hy
  omega
theorem spMay : SpMay := fun x hx w => (may_any x hx w).mono fun _ _ ⟨h, g⟩ => ⟨h, g.only⟩
end Go.Proofs.Ytpgkmjkickkieaa
