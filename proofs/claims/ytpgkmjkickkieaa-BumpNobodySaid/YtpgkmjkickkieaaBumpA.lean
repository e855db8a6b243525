/- Contracts of package bump: what each call answers of a bump of a span, and of nobody's. -/
import Derived.Test.YtpgkmjkickkieaaSpanB
import Derived.Test.YtpgkmjkickkieaaQuiet
import Derived.IntWalk
namespace Go.Proofs.Ytpgkmjkickkieaa
open Go.RowKit Go.Sort

/-- The bump in block b: of span x, taken up to t. -/
structure Bm (w : World) (b : Nat) (x : Sp) (t : Int) : Prop where
  blk : Blk w b 42 #[.int .i64 x.1, .int .i64 x.2, .int .i64 t]
  ok : x.ok
  lo : x.1 ≤ t
  hi : t ≤ x.1 + x.2
section
variable {w w' : World} {b : Nat} {x : Sp} {t : Int} {F : Nat → Prop}
theorem Bm.keep (h : Bm w b x t) (ho : Only F w w') (hb : ¬ F b) : Bm w' b x t := ⟨h.blk.keep ho hb, h.ok, h.lo, h.hi⟩
theorem Bm.old (h : Bm w b x t) (ho : Only nob w w') : Bm w' b x t := h.keep ho id
theorem Bm.cells (h : Bm w b x t) : w.cell? ⟨b, 0, none⟩ = some (.int .i64 x.1) ∧ w.cell? ⟨b, 1, none⟩ = some (.int .i64 x.2) ∧ w.cell? ⟨b, 2, none⟩ = some (.int .i64 t) := by
  have h0 := h.blk.cell 0
  have h1 := h.blk.cell 1
  have h2 := h.blk.cell 2
  simp at h0 h1 h2
  exact ⟨h0, h1, h2⟩
theorem Bm.range (h : Bm w b x t) : 0 ≤ x.1 ∧ x.1 ≤ 1099511627776 ∧ 1 ≤ x.2 ∧ x.2 ≤ 1099511627776 ∧ x.1 + x.2 ≤ 1099511627776 ∧ x.1 ≤ t ∧ t ≤ x.1 + x.2 := by
  have h0 := h.ok
  have h1 := h.lo
  have h2 := h.hi
  unfold Sp.ok most at h0; omega
theorem Bm.set (h : Bm w b x t) (u : Int) (h1 : x.1 ≤ u) (h2 : u ≤ x.1 + x.2) : Bm (w.setCell ⟨b, 2, none⟩ (.int .i64 u)) b x u := by
  refine ⟨?_, h.ok, h1, h2⟩
  have := h.blk.put 2 (.int .i64 u)
  simpa using this
end
theorem mixedBm : Try.prog.follows .mixedOrders = true := by kernel_rfl

set_option maxHeartbeats 400000 in
theorem bNone_bm (b : Nat) (x : Sp) (t : Int) (w : World) (h : Bm w b x t) :
    Calls Try.prog 17 #[.pointer (some ⟨b, 0, none⟩)] w fun e w' => e = .returned (.bool false) ∧ Only nob w w' := by
  obtain ⟨c0, c1, c2⟩ := h.cells
  have HM := Lib.hid h.ok
  clear h
  go_enter Try.func17, Try.ntmps17
  go_wp2_with fail
  go_at_call 16
  refine (may_yes HM.out _).mono ?_
  rintro e w1 ⟨rfl, g⟩
  have HG := Lib.hid g.only
  clear g c0 c1 c2
  go_wp2
  go_ret
  exact ⟨rfl, HG.out⟩

/-- What a row of a bump holds. -/
def BRow (x : Sp) (t : Int) : Prop := 0 ≤ x.1 ∧ x.1 ≤ 1099511627776 ∧ 1 ≤ x.2 ∧ x.2 ≤ 1099511627776 ∧ x.1 + x.2 ≤ 1099511627776 ∧ x.1 ≤ t ∧ t ≤ x.1 + x.2

set_option maxHeartbeats 400000 in
theorem bUsed_row (x : Sp) (t : Int) (w : World) (hr : BRow x t) :
    Calls Try.prog 19 #[.agg #[.int .i64 x.1, .int .i64 x.2, .int .i64 t]] w fun e w' => e = .returned (.int .i64 (t - x.1)) ∧ Only nob w w' := by
  obtain ⟨h0, h1, h2, h3, h4, h5, h6⟩ := hr
  go_enter Try.func19, Try.ntmps19
  go_wp2
  go_ret
  exact ⟨rfl, (Only.refl nob w).alloc _⟩

theorem brow_box (w : World) (x : Sp) (t : Int) : ∃ W, w.alloc (.cells #[.int .i64 x.1, .int .i64 x.2, .int .i64 t] 40) = W ∧ Hid (Only nob w W ∧ W.cell? ⟨w.heap.size, 0, none⟩ = some (.int .i64 x.1) ∧ W.cell? ⟨w.heap.size, 1, none⟩ = some (.int .i64 x.2) ∧ W.cell? ⟨w.heap.size, 2, none⟩ = some (.int .i64 t)) := by
  have h := Blk.new w 40 #[.int .i64 x.1, .int .i64 x.2, .int .i64 t]
  exact ⟨_, rfl, (Only.refl nob w).alloc _, h.cell 0, h.cell 1, h.cell 2⟩

set_option maxHeartbeats 1000000 in
theorem bRoom_row (x : Sp) (t : Int) (w : World) (hr : BRow x t) :
    Calls Try.prog 18 #[.agg #[.int .i64 x.1, .int .i64 x.2, .int .i64 t]] w fun e w' => e = .returned (.int .i64 (x.2 - (t - x.1))) ∧ Only nob w w' := by
  have HU := Lib.hid (fun w => bUsed_row x t w hr)
  obtain ⟨W, hW, HW⟩ := brow_box w x t
  have HWE := Lib.hid hW
  obtain ⟨h0, h1, h2, h3, h4, h5, h6⟩ := hr
  clear hW
  go_enter Try.func18, Try.ntmps18
  go_wp2_with fail
  rw [HWE.out]
  have c0 := wat_cell HW.out.2.1
  have c1 := wat_cell HW.out.2.2.1
  have c2 := wat_cell HW.out.2.2.2
  refine wp_region_only mixedBm (by kernel_rfl) ?_
  repeat (quiet_step ((go_at_call 19; with_reducible refine wat_call (HU.out _))))
  refine wpQuiet_nil ?_
  rintro w' ⟨⟨nq, osq⟩, rfl⟩
  obtain ⟨W3, hW3, O3⟩ := wat_name W nq osq
  rw [hW3]
  clear hW3 c0 c1 c2
  go_wp2
  go_ret
  exact ⟨ret_int (IntWalk.i64_in _ (by omega)), HW.out.1.trans O3.out⟩
end Go.Proofs.Ytpgkmjkickkieaa
