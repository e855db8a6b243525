/- Contracts of package span: Has, Meets, Within. -/
import Derived.Test.YtmlpppcdammelaaSpanA
import Derived.Test.YtmlpppcdammelaaSpanApart
namespace Go.Proofs.Ytmlpppcdammelaa
open Go.RowKit Go.Sort

theorem may_yes {x : Sp} (h : x.ok) (w : World) : Calls Try.prog 28 #[.agg #[.int .i64 x.1, .int .i64 x.2]] w fun e w' => e = .returned (.bool true) ∧ Grw w w' := by
  have := may_any x (.of_ok h) w
  rwa [decide_eq_true h] at this
theorem may_no {x : Sp} (hx : Fit x) (h : ¬ x.ok) (w : World) : Calls Try.prog 28 #[.agg #[.int .i64 x.1, .int .i64 x.2]] w fun e w' => e = .returned (.bool false) ∧ Grw w w' := by
  have := may_any x hx w
  rwa [decide_eq_false h] at this

/-- A world drawn on and grown, under a name. -/
theorem grown_name (W : World) (n : Nat) (os : Array Obj) : ∃ W3, grow (W.drewN n) os = W3 ∧ Hid (Grw W W3) := ⟨_, rfl, grw_grow n os⟩
theorem mixed_ : Try.prog.follows .mixedOrders = true := by kernel_rfl
/-- A box of a span's, in every world behind. -/
def BoxAt (w : World) (b : Nat) (x : Sp) : Prop := w.cell? ⟨b, 0, none⟩ = some (.int .i64 x.1) ∧ w.cell? ⟨b, 1, none⟩ = some (.int .i64 x.2)
theorem BoxAt.grw {w w' : World} {b : Nat} {x : Sp} (h : BoxAt w b x) (g : Grw w w') : BoxAt w' b x := ⟨g.only.keeps h.1, g.only.keeps h.2⟩
theorem BoxAt.new (w : World) (x : Sp) : BoxAt (w.alloc (.cells #[.int .i64 x.1, .int .i64 x.2] 27)) w.heap.size x := by
  have h := Blk.new w 27 #[.int .i64 x.1, .int .i64 x.2]
  exact ⟨h.cell 0, h.cell 1⟩
theorem BoxAt.all {w : World} {b : Nat} {x : Sp} (h : BoxAt w b x) : (∀ n os, (grow (w.drewN n) os).cell? ⟨b, 0, none⟩ = some (.int .i64 x.1)) ∧ (∀ n os, (grow (w.drewN n) os).cell? ⟨b, 1, none⟩ = some (.int .i64 x.2)) :=
  ⟨fun n os => (h.grw (grw_grow n os)).1, fun n os => (h.grw (grw_grow n os)).2⟩

set_option maxHeartbeats 1000000 in
theorem has_any (x : Sp) (hx : Fit x) (p : Int) (w : World) :
    Calls Try.prog 21 #[.agg #[.int .i64 x.1, .int .i64 x.2], .int .i64 p] w fun e w' => e = .returned (.bool (decide (x.has p))) ∧ Grw w w' := by
  by_cases h0 : x.ok
  · have HM := Lib.hid h0
    have h1 : 0 ≤ x.1 ∧ x.1 ≤ 1099511627776 ∧ 1 ≤ x.2 ∧ x.2 ≤ 1099511627776 := by unfold Sp.ok most at h0; omega
    have ways : (x.1 ≤ p ∧ p < x.1 + x.2 ∧ Hid (decide (x.has p) = true)) ∨ (x.1 ≤ p ∧ ¬ p < x.1 + x.2 ∧ Hid (decide (x.has p) = false)) ∨ (¬ x.1 ≤ p ∧ Hid (decide (x.has p) = false)) := by
      by_cases h2 : x.1 ≤ p
      · by_cases h3 : p < x.1 + x.2
        · exact .inl ⟨h2, h3, decide_eq_true ⟨h0, h2, h3⟩⟩
        · exact .inr (.inl ⟨h2, h3, decide_eq_false fun h => h3 h.2.2⟩)
      · exact .inr (.inr ⟨h2, decide_eq_false fun h => h2 h.2.1⟩)
    clear h0
    rcases ways with ⟨h2, h3, HK⟩ | ⟨h2, h3, HK⟩ | ⟨h2, HK⟩
    all_goals
      go_enter Try.func21, Try.ntmps21
      go_wp2_with fail
      go_at_call 28
      refine (may_yes HM.out _).mono ?_
      rintro e w1 ⟨rfl, g⟩
      have HB := Lib.hid ((BoxAt.new w x).grw g)
      have HG := Lib.hid (grw_trans (grw_alloc _ _) g)
      clear g
      obtain ⟨c0, c1⟩ := HB.out
    · go_wp2_with fail
      go_at_call 29
      refine (end_any x _ HM.out).mono ?_
      rintro e w2 ⟨rfl, g⟩
      have HG2 := Lib.hid (grw_trans HG.out g)
      clear g
      go_wp2
      go_ret
      exact ⟨ret_bool (by rw [HK.out]), HG2.out⟩
    · go_wp2_with fail
      go_at_call 29
      refine (end_any x _ HM.out).mono ?_
      rintro e w2 ⟨rfl, g⟩
      have HG2 := Lib.hid (grw_trans HG.out g)
      clear g
      go_wp2
      go_ret
      exact ⟨ret_bool (by rw [HK.out]; simp; omega), HG2.out⟩
    · go_wp2
      go_ret
      exact ⟨ret_bool (by rw [HK.out]), HG.out⟩
  · have HM := Lib.hid h0
    have HK := Lib.hid (decide_eq_false (p := x.has p) fun h => h0 h.1)
    clear h0
    go_enter Try.func21, Try.ntmps21
    go_wp2_with fail
    go_at_call 28
    refine (may_no hx HM.out _).mono ?_
    rintro e w1 ⟨rfl, g⟩
    have HG := Lib.hid (grw_trans (grw_alloc _ _) g)
    clear g
    go_wp2
    go_ret
    exact ⟨ret_bool (by rw [HK.out]), HG.out⟩

theorem two_boxes (w : World) (x y : Sp) : ∃ W, ((w.alloc (.cells #[.int .i64 x.1, .int .i64 x.2] 27)).alloc (.cells #[.int .i64 y.1, .int .i64 y.2] 27)) = W ∧ Hid (Grw w W ∧ BoxAt W w.heap.size x ∧ BoxAt W (w.heap.size + 1) y) := by
  refine ⟨_, rfl, grw_trans (grw_alloc _ _) (grw_alloc _ _), (BoxAt.new w x).grw (grw_alloc _ _), ?_⟩
  have := BoxAt.new (w.alloc (.cells #[.int .i64 x.1, .int .i64 x.2] 27)) y
  rwa [World.size_alloc] at this

theorem within_lt {x y : Sp} (hx : x.ok) (hy : y.ok) : Sp.within x y ↔ y.1 ≤ x.1 ∧ x.1 + x.2 ≤ y.1 + y.2 := by
  unfold Sp.within Sp.has
  simp only [hx, hy, true_and]
  unfold Sp.ok at hx hy
  omega
theorem spMay : SpMay := fun x hx w => (may_any x hx w).mono fun _ _ ⟨h, g⟩ => ⟨h, g.only⟩
theorem spHas : SpHas := fun x p w hx _ _ => (has_any x hx p w).mono fun _ _ ⟨h, g⟩ => ⟨h, g.only⟩
end Go.Proofs.Ytmlpppcdammelaa
