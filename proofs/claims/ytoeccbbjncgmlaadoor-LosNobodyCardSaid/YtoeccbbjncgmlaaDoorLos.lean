/- Contracts of package los: a part in memory, its headers, Put, Mark, Pop. -/
import Derived.Test.YtoeccbbjncgmlaaDoorLosMath
import Derived.Test.YtoeccbbjncgmlaaDoorThr
import Derived.Test.YtoeccbbjncgmlaaDoorLed
import Derived.Test.YtoeccbbjncgmlaaDoorExt
import Derived.Test.YtoeccbbjncgmlaaDoorSpanOP
namespace Go.Proofs.YtoeccbbjncgmlaaDoor
open Go.RowKit
set_option maxRecDepth 100000

/-- No span lies in block k. -/
def NoSp (w : World) (k : Nat) : Prop := ∀ (o : Nat) (x y : Int), w.cell? ⟨k, o, none⟩ = some (.int .i64 x) → w.cell? ⟨k, o + 1, none⟩ = some (.int .i64 y) → False
theorem Ar.nosp {w : World} {b g : Nat} {l : List Nat} (h : Ar w b g l) : NoSp w g := by
  intro o x y h0 _
  rw [h.row.cell] at h0
  simp [u64s] at h0
/-- Spans stay where only blocks turn that hold none. -/
theorem spc_keep {w w' : World} {F : Nat → Prop} {B : Nat} {v : Value} {T : List Sp} (h : Sl w B 2 v T.length (spc T)) (o : Only F w w') (hB : B ≤ w.heap.size) (hF : ∀ k, F k → NoSp w k) : Sl w' B 2 v T.length (spc T) := by
  obtain ⟨A, c, rfl, h1, h2, h3, h4⟩ := h
  refine ⟨A, c, rfl, h1, h2, h3, fun hn => ?_⟩
  obtain ⟨bb, oo, rfl, hb, hc⟩ := h4 hn
  have hnf : ¬ F bb := by
    intro hf
    obtain ⟨e0, e1⟩ := spc_get T 0 hn
    rw [Nat.zero_mul] at e0 e1
    have c0 := hc 0 _ e0
    have c1 := hc 1 _ e1
    exact hF bb hf oo _ _ c0 c1
  exact ⟨bb, oo, rfl, hb, fun k u hu => (o.cell (p := ⟨bb, oo + k, none⟩) (Nat.lt_of_lt_of_le hb hB) hnf).trans (hc k u hu)⟩

/-- A part in block p: its arena in b, whose words l lie in g; its table T, what is free F, and the top of its list. -/
structure Lo (w : World) (p b g : Nat) (l : List Nat) (T F : List Sp) (top : Int) (vt vf : Value) : Prop where
  ar : Ar w b g l
  box : Blk w p 33 #[.pointer (some ⟨b, 0, none⟩), vt, vf, .int .i64 top]
  tab : Sl w w.heap.size 2 vt T.length (spc T)
  free : Sl w w.heap.size 2 vf F.length (spc F)
section
variable {w w' : World} {p b g : Nat} {l l' : List Nat} {T F T' F' : List Sp} {top : Int} {vt vf v : Value}
theorem Lo.keep (h : Lo w p b g l T F top vt vf) (o : Only nob w w') : Lo w' p b g l T F top vt vf :=
  ⟨h.ar.keep o id id, h.box.keep o id, (h.tab.below o.whole).more o.size, (h.free.below o.whole).more o.size⟩
theorem Lo.nosp (h : Lo w p b g l T F top vt vf) : NoSp w p := by
  intro o x y h0 h1
  obtain ⟨A, c, rfl, -⟩ := h.tab.form
  obtain ⟨A', c', rfl, -⟩ := h.free.form
  rw [h.box.cell] at h0 h1
  rcases o with _ | _ | _ | _ | o
  · simp at h0
  · simp at h0
  · simp at h0
  · simp at h1
  · simp at h0
theorem Lo.pg (h : Lo w p b g l T F top vt vf) : p ≠ g := h.box.ne h.ar.row (by decide)
theorem Lo.pb (h : Lo w p b g l T F top vt vf) : p ≠ b := h.box.ne h.ar.head (by decide)
theorem Lo.words (h : Lo w p b g l T F top vt vf) (hA : Ar w' b g l') (o : Only (isb g) w w') : Lo w' p b g l' T F top vt vf :=
  ⟨hA, h.box.keep o (fun e => h.pg e), (spc_keep h.tab o (Nat.le_refl _) fun k e => by unfold isb at e; subst e; exact h.ar.nosp).more o.size, (spc_keep h.free o (Nat.le_refl _) fun k e => by unfold isb at e; subst e; exact h.ar.nosp).more o.size⟩
theorem size_set (w : World) (q : Addr) (u : Value) : (w.setCell q u).heap.size = w.heap.size := by simp [World.setCell]
theorem Lo.setTop (h : Lo w p b g l T F top vt vf) (t : Int) : Lo (w.setCell ⟨p, 3, none⟩ (.int .i64 t)) p b g l T F t vt vf := by
  have o := only_set w p 3 (.int .i64 t)
  refine ⟨h.ar.keep o (fun e => h.pb e.symm) (fun e => h.pg e.symm), ?_, (spc_keep h.tab o (Nat.le_refl _) fun k e => by unfold isb at e; subst e; exact h.nosp).more o.size, (spc_keep h.free o (Nat.le_refl _) fun k e => by unfold isb at e; subst e; exact h.nosp).more o.size⟩
  simpa using h.box.put 3 (.int .i64 t)
theorem Lo.setTab (h : Lo w p b g l T F top vt vf) (hv : Sl w w.heap.size 2 v T'.length (spc T')) : Lo (w.setCell ⟨p, 1, none⟩ v) p b g l T' F top v vf := by
  have o := only_set w p 1 v
  refine ⟨h.ar.keep o (fun e => h.pb e.symm) (fun e => h.pg e.symm), ?_, (spc_keep hv o (Nat.le_refl _) fun k e => by unfold isb at e; subst e; exact h.nosp).more o.size, (spc_keep h.free o (Nat.le_refl _) fun k e => by unfold isb at e; subst e; exact h.nosp).more o.size⟩
  simpa using h.box.put 1 v
theorem Lo.setFree (h : Lo w p b g l T F top vt vf) (hv : Sl w w.heap.size 2 v F'.length (spc F')) : Lo (w.setCell ⟨p, 2, none⟩ v) p b g l T F' top vt v := by
  have o := only_set w p 2 v
  refine ⟨h.ar.keep o (fun e => h.pb e.symm) (fun e => h.pg e.symm), ?_, (spc_keep h.tab o (Nat.le_refl _) fun k e => by unfold isb at e; subst e; exact h.nosp).more o.size, (spc_keep hv o (Nat.le_refl _) fun k e => by unfold isb at e; subst e; exact h.nosp).more o.size⟩
  simpa using h.box.put 2 v
/-- The four cells of a part. -/
theorem Lo.cells (h : Lo w p b g l T F top vt vf) : w.cell? ⟨p, 0, none⟩ = some (.pointer (some ⟨b, 0, none⟩)) ∧ w.cell? ⟨p, 1, none⟩ = some vt ∧ w.cell? ⟨p, 2, none⟩ = some vf ∧ w.cell? ⟨p, 3, none⟩ = some (.int .i64 top) :=
  ⟨h.box.cell 0, h.box.cell 1, h.box.cell 2, h.box.cell 3⟩
end
/-- The table of the headers' parts stays where only blocks turn that hold no span. -/
theorem Par.keep {w w' : World} {F : Nat → Prop} (h : Par w) (o : Only F w w') (hF : ∀ k, F k → NoSp w k) : Par w' := by
  obtain ⟨t, fr, hh⟩ := h
  refine ⟨t, fr, (o.block _ (Par.lt ⟨t, fr, hh⟩) fun hf => ?_).trans hh⟩
  have c0 := cell_of_row w _ 0 parC t fr hh
  have c1 := cell_of_row w _ 1 parC t fr hh
  exact hF _ hf 0 _ _ c0 c1
theorem Par.words {w w' : World} {b g : Nat} {l : List Nat} (h : Par w) (hA : Ar w b g l) (o : Only (isb g) w w') : Par w' := h.keep o fun k e => by unfold isb at e; subst e; exact hA.nosp
/-- A part's own blocks. -/
def pgb (p g : Nat) : Nat → Prop := fun k => k = p ∨ k = g
theorem Par.pg {w w' : World} {p b g : Nat} {l : List Nat} {T F : List Sp} {top : Int} {vt vf : Value} (h : Par w) (L : Lo w p b g l T F top vt vf) (o : Only (pgb p g) w w') : Par w' := h.keep o fun k e => by
  rcases e with rfl | rfl
  · exact L.nosp
  · exact L.ar.nosp
theorem Only.pgb {p g : Nat} {w w' : World} (h : Only nob w w') : Only (pgb p g) w w' := h.mono fun _ _ h => h.elim
theorem Only.pgb_g {p g : Nat} {w w' : World} (h : Only (isb g) w w') : Only (Go.Proofs.YtoeccbbjncgmlaaDoor.pgb p g) w w' := h.mono fun _ _ h => .inr h
theorem Only.pgb_set {p g : Nat} {a w : World} (h : Only (Go.Proofs.YtoeccbbjncgmlaaDoor.pgb p g) a w) (i : Nat) (u : Value) : Only (Go.Proofs.YtoeccbbjncgmlaaDoor.pgb p g) a (w.setCell ⟨p, i, none⟩ u) := h.trans ((only_set w p i u).mono fun _ _ h => .inl h)

set_option maxHeartbeats 400000 in
theorem lNone_lo (p b g : Nat) (l : List Nat) (T F : List Sp) (top : Int) (vt vf : Value) (w : World) (h : Lo w p b g l T F top vt vf) :
    Calls Tryd.prog 18 #[.pointer (some ⟨p, 0, none⟩)] w fun e w' => e = .returned (.bool false) ∧ w = w' := by
  obtain ⟨h0, h1, h2, h3⟩ := h.cells
  clear h
  go_enter Tryd.func18, Tryd.ntmps18
  go_wp2
  go_ret
  exact ⟨rfl, rfl⟩

theorem Lo.drew {w : World} {p b g : Nat} {l : List Nat} {T F : List Sp} {top : Int} {vt vf : Value} (h : Lo w p b g l T F top vt vf) : Lo w.drew p b g l T F top vt vf := h.keep ((Only.refl nob w).drewN 1)
theorem Par.drew {w : World} (h : Par w) : Par w.drew := h.old ((Only.refl nob w).drewN 1)

set_option maxHeartbeats 1000000 in
/-- A header is set. -/
theorem lSet_any (p b g : Nat) (l : List Nat) (T F : List Sp) (top : Int) (vt vf : Value) (a k f r : Int) (m : Bool) (c : Int) (w : World) (h : Lo w p b g l T F top vt vf) (hp : Par w) (ha : a ≤ 9223372036854775807) :
    Calls Tryd.prog 25 #[.pointer (some ⟨p, 0, none⟩), .int .i64 a, .agg #[.int .i64 k, .int .i64 f, .int .i64 r, .bool m, .int .i64 c]] w fun e w' => (∃ v, e = .returned v) ∧ Lo w' p b g (shL l a k f r m c) T F top vt vf ∧ Only (isb g) w w' := by
  have HP := Lib.hid hp
  obtain ⟨W, hW, HB⟩ := box_head w k f r m c
  have HW := Lib.hid hW
  have L2 := Lib.hid (h.keep HB.out.1)
  obtain ⟨h0, h1, h2, h3⟩ := L2.out.cells
  obtain ⟨c0, c1, c2, c3, c4⟩ := cells5 HB.out.2
  clear h hp hW h1 h2 h3
  go_enter Tryd.func25, Tryd.ntmps25
  go_wp2_with fail
  rw [HW.out]
  go_still_tail 6, (by kernel_rfl)
  change wpList _ _ _ _ _ W.drew
  generalize hwd : W.drew = wd
  have L3 := Lib.hid (show Lo wd p b g l T F top vt vf from hwd ▸ L2.out.drew)
  have P3 := Lib.hid (show Par wd from hwd ▸ (HP.out.old HB.out.1).drew)
  have O3 := Lib.hid (show Only nob w wd from hwd ▸ HB.out.1.drewN 1)
  clear hwd c0 c1 c2 c3 c4 h0
  go_wp2_with fail
  go_at_call 57
  refine (oSetHead_any b g l a k f r m c _ L3.out.ar P3.out ha).mono ?_
  rintro e w2 ⟨rfl, hA, o⟩
  have L4 := Lib.hid (L3.out.words hA o)
  have O4 := Lib.hid (O3.out.mono (G := isb g) (fun _ _ h => h.elim) |>.trans o)
  clear hA o
  go_wp2
  go_end0
  exact ⟨⟨_, rfl⟩, L4.out, O4.out⟩
end Go.Proofs.YtoeccbbjncgmlaaDoor

/- Package los, further. -/
namespace Go.Proofs.YtoeccbbjncgmlaaDoor
theorem mixedLos : Tryd.prog.follows .mixedOrders = true := by kernel_rfl
end Go.Proofs.YtoeccbbjncgmlaaDoor

/- Contracts of package los: Mark, Pop, Put, Table, Free. -/
namespace Go.Proofs.YtoeccbbjncgmlaaDoor
open Go.RowKit
set_option maxRecDepth 100000
set_option linter.unusedSimpArgs false

set_option maxHeartbeats 2000000 in
/-- The object at the place k is marked, and pushed. -/
theorem lMark_ok (p b g : Nat) (l : List Nat) (T F : List Sp) (top : Int) (vt vf : Value) (k q : Nat) (x : Sp) (w : World) (h : Lo w p b g l T F top vt vf) (hp : Par w) (hf : Fits T) (hx : T[k]? = some x) (hxq : x.1 = q) (hk : findT T x.1 = k) (ho : Ob l q) (hm : wM (wd l q) = false) (hc : 0 ≤ top ∧ top ≤ 1048576) :
    Calls Tryd.prog 6 #[.pointer (some ⟨p, 0, none⟩), .int .i64 q] w fun e w' => e = .returned (.tuple #[.bool true, .int .i64 0]) ∧ Lo w' p b g (hdL l q true top) T F ((k : Int) + 1) vt vf ∧ Only (pgb p g) w w' := by
  have hql := ho.there
  have hfew := h.ar.few
  rw [hxq] at hk
  have HL := Lib.hid h
  have HP := Lib.hid hp
  have HF := Lib.hid (spFind vt T q w.heap.size w h.tab (Nat.le_refl _) hf)
  rw [hk] at HF
  obtain ⟨h0, h1, h2, h3, h4, h5⟩ := oh_yes ho
  have hcur := wOk_may ho.ok
  have hc5 : 0 ≤ wC (wd l q) ∧ wC (wd l q) ≤ 1048576 := (hmay_iff.1 hcur).2.2.2
  obtain ⟨s1, s2⟩ := sh_hd (m := true) ho hc5
  have HS2 := Lib.hid s2
  have HTW := Lib.hid (show curL (hdL l q true (wC (wd l q))) q top = hdL l q true top from hdL_cur ho hc5)
  have HOB := Lib.hid (show Ob (hdL l q true (wC (wd l q))) q from hdL_ob ho hc5 ho)
  have HX := Lib.hid (And.intro hx hxq)
  have HC := Lib.hid hc
  obtain ⟨K, hK⟩ : ∃ K, K = ohK l q := ⟨_, rfl⟩
  obtain ⟨Fd, hF⟩ : ∃ F, F = ohF l q := ⟨_, rfl⟩
  obtain ⟨R, hR⟩ : ∃ R, R = ohR l q := ⟨_, rfl⟩
  obtain ⟨C, hC⟩ : ∃ C, C = wC (wd l q) := ⟨_, rfl⟩
  rw [← hK, ← hF, ← hR] at HS2
  rw [← hC] at HS2 HTW HOB
  have HH := Lib.hid (show ∀ w' : World, Ar w' b g l → Par w' → Calls Tryd.prog 24 #[.pointer (some ⟨b, 0, none⟩), .int .i64 q] w' fun e w'' => e = .returned (.tuple #[.agg #[.int .i64 K, .int .i64 Fd, .int .i64 R, .bool false, .int .i64 C], .int .i64 0]) ∧ Only nob w' w'' from fun w' hA hP => by
    have := oHead_any b g l q w' hA hP (by omega)
    rw [h0, h4, h5, hm, ← hK, ← hF, ← hR, ← hC] at this
    exact this)
  obtain ⟨A, ca, rfl, hac, ham⟩ := h.tab.form
  obtain ⟨c0, c1, c2, c3⟩ := h.cells
  clear h hp hf hx hxq hk ho hm hc hcur hc5 s1 s2 h0 h1 h2 h3 h4 h5 hK hF hR hC
  go_enter Tryd.func6, Tryd.ntmps6
  go_wp2_with fail
  go_at_call 18
  refine (lNone_lo p b g l T F top _ vf _ HL.out).mono ?_
  rintro e w1 ⟨rfl, rfl⟩
  go_wp2_with fail
  go_at_call 23
  refine HF.out.mono ?_
  rintro e w2 ⟨rfl, o⟩
  have L2 := Lib.hid (HL.out.keep o)
  have P2 := Lib.hid (HP.out.old o)
  have O2 := Lib.hid o
  clear c0 c1 c2 c3 o
  obtain ⟨c0, c1, c2, c3⟩ := L2.out.cells
  go_wp2_with fail
  go_at_call 24
  refine (HH.out _ L2.out.ar P2.out).mono ?_
  rintro e w3 ⟨rfl, o⟩
  obtain ⟨W3, hW3, HB3⟩ := box_head w3 K Fd R false C
  have HW3 := Lib.hid hW3
  have O3 := Lib.hid (O2.out.trans (o.trans HB3.out.1))
  have L3 := Lib.hid (L2.out.keep (o.trans HB3.out.1))
  have P3 := Lib.hid (P2.out.old (o.trans HB3.out.1))
  have hz : w.heap.size ≤ w3.heap.size := (O2.out.trans o).size
  obtain ⟨W4, hW4, HB4⟩ : ∃ W4, W3.setCell ⟨w3.heap.size, 3, none⟩ (.bool true) = W4 ∧ Hid (Only nob w3 W4 ∧ Blk W4 w3.heap.size 23 #[.int .i64 K, .int .i64 Fd, .int .i64 R, .bool true, .int .i64 C]) :=
    ⟨_, rfl, Lib.hid ⟨HB3.out.1.setCell (p := ⟨w3.heap.size, 3, none⟩) (fun hlt => absurd hlt (Nat.lt_irrefl _)) _, by simpa using HB3.out.2.put 3 (.bool true)⟩⟩
  have HW4 := Lib.hid hW4
  have L4 := Lib.hid (L2.out.keep (o.trans HB4.out.1))
  have P4 := Lib.hid (P2.out.old (o.trans HB4.out.1))
  have O4 := Lib.hid (O2.out.trans (o.trans HB4.out.1))
  clear hW3 hW4 o c0 c1 c2 c3
  go_upto_region 7 with fail
  rw [HW3.out]
  obtain ⟨d0, d1, d2, d3, d4⟩ := cells5 HB3.out.2
  obtain ⟨f0, f1, f2, f3, f4⟩ := frees5 HB3.out.2
  go_upto_region 10 with fail
  rw [HW4.out]
  clear d0 d1 d2 d3 d4 f0 f1 f2 f3 f4
  obtain ⟨d0, d1, d2, d3, d4⟩ := cells5 HB4.out.2
  go_wp2_with fail
  go_at_call 25
  refine (lSet_any p b g l T F top _ vf q K Fd R true C _ L4.out P4.out (by omega)).mono ?_
  rw [HS2.out]
  rintro e w5 ⟨⟨v5, rfl⟩, hL, o⟩
  have L5 := Lib.hid hL
  have P5 := Lib.hid (P4.out.words L4.out.ar o)
  have O5 := Lib.hid (O4.out.pgb.trans (o.pgb_g (p := p)))
  clear hL o d0 d1 d2 d3 d4
  obtain ⟨c0, c1, c2, c3⟩ := L5.out.cells
  have cf := L5.out.box.free 3
  have mixed := mixedLos
  go_wp2_with fail
  refine wp_region_held_drew (S := fun w' : World => w'.cell? ⟨p, 0, none⟩ = some (.pointer (some ⟨b, 0, none⟩)) ∧ w'.cell? ⟨p, 1, none⟩ = some (.slice A T.length ca)) (by kernel_rfl) ?_ (fun hHeld => ?_)
  · exact ⟨c0, c1⟩
  refine wpAnyH_take (i := 0) (v := ?_) rfl (by kernel_rfl) (by kernel_rfl) (by kernel_rfl) (fun _ _ _ h => h) (Or.inl ⟨by rfl, ?_⟩) hHeld ?_
  rotate_left
  · intro w hSw; (try dsimp only at hSw); go_simp; first | done | with_reducible rfl
  try simp only [Act.put, List.setIfInBounds_toArray, List.set_cons_zero, List.set_cons_succ, List.getElem_toArray, List.getElem_cons_succ, List.getElem_cons_zero]
  refine wpAnyH_take (i := 1) (v := ?_) rfl (by kernel_rfl) (by kernel_rfl) (by kernel_rfl) (fun _ _ _ h => h) (Or.inl ⟨by rfl, ?_⟩) hHeld ?_
  rotate_left
  · intro w hSw; (try dsimp only at hSw); go_simp; first | done | with_reducible rfl
  try simp only [Act.put, List.setIfInBounds_toArray, List.set_cons_zero, List.set_cons_succ, List.getElem_toArray, List.getElem_cons_succ, List.getElem_cons_zero]
  refine wpAnyH_take (i := 2) (v := ?_) rfl (by kernel_rfl) (by kernel_rfl) (by kernel_rfl) (fun _ _ _ h => h) (Or.inl ⟨by rfl, ?_⟩) hHeld ?_
  rotate_left
  · intro w hSw; (try dsimp only at hSw); go_simp; first | done | with_reducible rfl
  try simp only [Act.put, List.setIfInBounds_toArray, List.set_cons_zero, List.set_cons_succ, List.getElem_toArray, List.getElem_cons_succ, List.getElem_cons_zero]
  refine wpAnyH_take (i := 3) (v := ?_) rfl (by kernel_rfl) (by kernel_rfl) (by kernel_rfl) (fun _ _ _ h => h) (Or.inl ⟨by rfl, ?_⟩) hHeld ?_
  rotate_left
  · intro w hSw; (try dsimp only at hSw); go_simp; first | done | with_reducible rfl
  try simp only [Act.put, List.setIfInBounds_toArray, List.set_cons_zero, List.set_cons_succ, List.getElem_toArray, List.getElem_cons_succ, List.getElem_cons_zero]
  refine wpAnyH_take (i := 4) (v := ?_) rfl (by kernel_rfl) (by kernel_rfl) (by kernel_rfl) (fun _ _ _ h => h) (Or.inl ⟨by rfl, ?_⟩) hHeld ?_
  rotate_left
  · intro w hSw; (try dsimp only at hSw); go_simp; first | done | with_reducible rfl
  try simp only [Act.put, List.setIfInBounds_toArray, List.set_cons_zero, List.set_cons_succ, List.getElem_toArray, List.getElem_cons_succ, List.getElem_cons_zero]
  refine wpAnyH_take (i := 5) (v := ?_) rfl (by kernel_rfl) (by kernel_rfl) (by kernel_rfl) (fun _ _ _ h => h) (Or.inl ⟨by rfl, ?_⟩) hHeld ?_
  rotate_left
  · intro w hSw; (try dsimp only at hSw); go_simp; first | done | with_reducible rfl
  try simp only [Act.put, List.setIfInBounds_toArray, List.set_cons_zero, List.set_cons_succ, List.getElem_toArray, List.getElem_cons_succ, List.getElem_cons_zero]
  refine wpAnyH_take (i := 6) (v := ?_) rfl (by kernel_rfl) (by kernel_rfl) (by kernel_rfl) (fun _ _ _ h => h) (Or.inl ⟨by rfl, ?_⟩) hHeld ?_
  rotate_left
  · intro w hSw; (try dsimp only at hSw); go_simp; first | done | with_reducible rfl
  try simp only [Act.put, List.setIfInBounds_toArray, List.set_cons_zero, List.set_cons_succ, List.getElem_toArray, List.getElem_cons_succ, List.getElem_cons_zero]
  refine wpAnyH_take (i := 7) (v := ?_) rfl (by kernel_rfl) (by kernel_rfl) (by kernel_rfl) (fun _ _ _ h => h) (Or.inl ⟨by rfl, ?_⟩) hHeld ?_
  rotate_left
  · intro w hSw; (try dsimp only at hSw); go_simp; first | done | with_reducible rfl
  try simp only [Act.put, List.setIfInBounds_toArray, List.set_cons_zero, List.set_cons_succ, List.getElem_toArray, List.getElem_cons_succ, List.getElem_cons_zero]
  refine wpAnyH_take (i := 8) (v := ?_) rfl (by kernel_rfl) (by kernel_rfl) (by kernel_rfl) (fun _ _ _ h => h) (Or.inl ⟨by rfl, ?_⟩) hHeld ?_
  rotate_left
  · intro w hSw; (try dsimp only at hSw); go_simp; first | done | with_reducible rfl
  try simp only [Act.put, List.setIfInBounds_toArray, List.set_cons_zero, List.set_cons_succ, List.getElem_toArray, List.getElem_cons_succ, List.getElem_cons_zero]
  refine wpAnyH_take (i := 9) (v := ?_) rfl (by kernel_rfl) (by kernel_rfl) (by kernel_rfl) (fun _ _ _ h => h) (Or.inl ⟨by rfl, ?_⟩) hHeld ?_
  rotate_left
  · intro w hSw; (try dsimp only at hSw); go_simp; first | done | with_reducible rfl
  try simp only [Act.put, List.setIfInBounds_toArray, List.set_cons_zero, List.set_cons_succ, List.getElem_toArray, List.getElem_cons_succ, List.getElem_cons_zero]
  refine wpAnyH_take (i := 10) (v := ?_) rfl (by kernel_rfl) (by kernel_rfl) (by kernel_rfl) (fun _ _ _ h => h) (Or.inl ⟨by rfl, ?_⟩) hHeld ?_
  rotate_left
  · intro w hSw; (try dsimp only at hSw); go_simp; first | done | with_reducible rfl
  try simp only [Act.put, List.setIfInBounds_toArray, List.set_cons_zero, List.set_cons_succ, List.getElem_toArray, List.getElem_cons_succ, List.getElem_cons_zero]
  refine wpAnyH_take (i := 11) (v := ?_) rfl (by kernel_rfl) (by kernel_rfl) (by kernel_rfl) (fun _ _ _ h => h) (Or.inl ⟨by rfl, ?_⟩) hHeld ?_
  rotate_left
  · intro w hSw; (try dsimp only at hSw); go_simp; first | done | with_reducible rfl
  try simp only [Act.put, List.setIfInBounds_toArray, List.set_cons_zero, List.set_cons_succ, List.getElem_toArray, List.getElem_cons_succ, List.getElem_cons_zero]
  refine wpAnyH_take (i := 13) (v := ?_) rfl (by kernel_rfl) (by kernel_rfl) (by kernel_rfl) (fun _ _ _ h => h) (Or.inl ⟨by rfl, ?_⟩) hHeld ?_
  rotate_left
  · intro w hSw; (try dsimp only at hSw); go_simp; first | done | with_reducible rfl
  try simp only [Act.put, List.setIfInBounds_toArray, List.set_cons_zero, List.set_cons_succ, List.getElem_toArray, List.getElem_cons_succ, List.getElem_cons_zero]
  refine wpAnyH_ready (rs := [12]) (by kernel_rfl) (by simp) ?_
  refine AllReadyH.cons rfl (fun K hK => ?_) AllReadyH.nil
  go_simp
  refine hK.out _ _ hHeld (fun hHeld2 => ?_)
  clear hK K hHeld
  have hHeld := hHeld2
  clear hHeld2
  try simp only [Act.put, List.setIfInBounds_toArray, List.set_cons_zero, List.set_cons_succ, List.getElem_toArray, List.getElem_cons_succ, List.getElem_cons_zero]
  refine wpAnyH_ready (rs := [14]) (by kernel_rfl) (by simp) ?_
  refine AllReadyH.cons rfl (fun K hK => ?_) AllReadyH.nil
  go_simp
  go_at_call 26
  refine (push_ok b g (hdL l q true C) _ T _ top k q x _ (show Ar w5.drew b g (hdL l q true C) from L5.out.drew.ar) (show Par w5.drew from P5.out.drew) (show Sl w5.drew w5.heap.size 2 (.slice A T.length ca) T.length (spc T) from L5.out.drew.tab) HX.out.1 HX.out.2 HOB.out HC.out).mono ?_
  rw [HTW.out]
  rintro e w6 ⟨rfl, hA, o⟩
  have L6 := Lib.hid (L5.out.drew.words hA o)
  have O6 := Lib.hid (O5.out.trans (o.drewL.pgb_g (p := p)))
  have C2 := Lib.hid (And.intro (L6.out.setTop ((k : Int) + 1)).cells.1 (L6.out.setTop ((k : Int) + 1)).cells.2.1)
  have g3 := L6.out.box.free 3
  have k3 := L6.out.cells.2.2.2
  clear hA o
  refine hK.out _ _ ⟨L6.out.cells.1, L6.out.cells.2.1⟩ (fun hHeld2 => ?_)
  clear hK K hHeld
  have hHeld := hHeld2
  clear hHeld2
  try simp only [Act.put, List.setIfInBounds_toArray, List.set_cons_zero, List.set_cons_succ, List.getElem_toArray, List.getElem_cons_succ, List.getElem_cons_zero]
  refine wpAnyH_take (i := 15) (v := ?_) rfl (by kernel_rfl) (by kernel_rfl) (by kernel_rfl) (fun _ _ _ h => h) (Or.inl ⟨by rfl, ?_⟩) hHeld ?_
  rotate_left
  · intro w hSw; (try dsimp only at hSw); go_simp; first | done | with_reducible rfl
  try simp only [Act.put, List.setIfInBounds_toArray, List.set_cons_zero, List.set_cons_succ, List.getElem_toArray, List.getElem_cons_succ, List.getElem_cons_zero]
  refine wpAnyH_take (i := 16) (v := ?_) rfl (by kernel_rfl) (by kernel_rfl) (by kernel_rfl) (fun _ _ _ h => h) (Or.inl ⟨by rfl, ?_⟩) hHeld ?_
  rotate_left
  · intro w hSw; (try dsimp only at hSw); go_simp; first | done | with_reducible rfl
  try simp only [Act.put, List.setIfInBounds_toArray, List.set_cons_zero, List.set_cons_succ, List.getElem_toArray, List.getElem_cons_succ, List.getElem_cons_zero]
  refine wpAnyH_take (i := 17) (v := ?_) rfl (by kernel_rfl) (by kernel_rfl) (by kernel_rfl) (fun _ _ _ h => h) (Or.inl ⟨by rfl, ?_⟩) hHeld ?_
  rotate_left
  · intro w hSw; (try dsimp only at hSw); go_simp; first | done | with_reducible rfl
  try simp only [Act.put, List.setIfInBounds_toArray, List.set_cons_zero, List.set_cons_succ, List.getElem_toArray, List.getElem_cons_succ, List.getElem_cons_zero]
  refine wpAnyH_take (i := 18) (v := ?_) rfl (by kernel_rfl) (by kernel_rfl) (by kernel_rfl) (fun _ _ _ h => h) (Or.inl ⟨by rfl, ?_⟩) hHeld ?_
  rotate_left
  · intro w hSw; (try dsimp only at hSw); go_simp; first | done | with_reducible rfl
  try simp only [Act.put, List.setIfInBounds_toArray, List.set_cons_zero, List.set_cons_succ, List.getElem_toArray, List.getElem_cons_succ, List.getElem_cons_zero]
  refine wpAnyH_take (i := 19) (v := ?_) rfl (by kernel_rfl) (by kernel_rfl) (by kernel_rfl) (fun _ _ _ h => h) (Or.inl ⟨by rfl, ?_⟩) hHeld ?_
  rotate_left
  · intro w hSw; (try dsimp only at hSw); go_simp; first | done | with_reducible rfl
  try simp only [Act.put, List.setIfInBounds_toArray, List.set_cons_zero, List.set_cons_succ, List.getElem_toArray, List.getElem_cons_succ, List.getElem_cons_zero]
  refine wpAnyH_ready (rs := [20]) (by kernel_rfl) (by simp) ?_
  refine AllReadyH.cons rfl (fun K hK => ?_) AllReadyH.nil
  go_simp
  refine hK.out _ _ C2.out (fun hHeld2 => ?_)
  clear hK K hHeld
  have hHeld := hHeld2
  clear hHeld2
  try simp only [Act.put, List.setIfInBounds_toArray, List.set_cons_zero, List.set_cons_succ, List.getElem_toArray, List.getElem_cons_succ, List.getElem_cons_zero]
  refine wpAnyH_done (by kernel_rfl) ?_ _
  go_wp2
  go_ret2
  exact ⟨rfl, L6.out.setTop _, O6.out.pgb_set 3 _⟩
end Go.Proofs.YtoeccbbjncgmlaaDoor

/- Contracts of package los: what Mark, Pop, Put refuse, Pop, Put, Table, Free. -/
namespace Go.Proofs.YtoeccbbjncgmlaaDoor
open Go.RowKit
set_option maxRecDepth 100000

set_option maxHeartbeats 1000000 in
/-- An object that is marked stays as it is. -/
theorem lMark_twice (p b g : Nat) (l : List Nat) (T F : List Sp) (top : Int) (vt vf : Value) (k q : Nat) (x : Sp) (w : World) (h : Lo w p b g l T F top vt vf) (hp : Par w) (hf : Fits T) (hxq : x.1 = q) (hk : findT T x.1 = k) (ho : Ob l q) (hm : wM (wd l q) = true) :
    Calls Tryd.prog 6 #[.pointer (some ⟨p, 0, none⟩), .int .i64 q] w fun e w' => e = .returned (.tuple #[.bool false, .int .i64 0]) ∧ Only nob w w' := by
  have hql := ho.there
  have hfew := h.ar.few
  rw [hxq] at hk
  have HL := Lib.hid h
  have HP := Lib.hid hp
  have HF := Lib.hid (spFind vt T q w.heap.size w h.tab (Nat.le_refl _) hf)
  rw [hk] at HF
  obtain ⟨h0, h1, h2, h3, h4, h5⟩ := oh_yes ho
  obtain ⟨K, hK⟩ : ∃ K, K = ohK l q := ⟨_, rfl⟩
  obtain ⟨Fd, hF⟩ : ∃ F, F = ohF l q := ⟨_, rfl⟩
  obtain ⟨R, hR⟩ : ∃ R, R = ohR l q := ⟨_, rfl⟩
  obtain ⟨C, hC⟩ : ∃ C, C = ohC l q := ⟨_, rfl⟩
  have HH := Lib.hid (show ∀ w' : World, Ar w' b g l → Par w' → Calls Tryd.prog 24 #[.pointer (some ⟨b, 0, none⟩), .int .i64 q] w' fun e w'' => e = .returned (.tuple #[.agg #[.int .i64 K, .int .i64 Fd, .int .i64 R, .bool true, .int .i64 C], .int .i64 0]) ∧ Only nob w' w'' from fun w' hA hP => by
    have := oHead_any b g l q w' hA hP (by omega)
    rw [h0, h4, hm, ← hK, ← hF, ← hR, ← hC] at this
    exact this)
  obtain ⟨c0, c1, c2, c3⟩ := h.cells
  clear h hp hf hxq hk ho hm h0 h1 h2 h3 h4 h5 hK hF hR hC
  go_enter Tryd.func6, Tryd.ntmps6
  go_wp2_with fail
  go_at_call 18
  refine (lNone_lo p b g l T F top vt vf _ HL.out).mono ?_
  rintro e w1 ⟨rfl, rfl⟩
  go_wp2_with fail
  go_at_call 23
  refine HF.out.mono ?_
  rintro e w2 ⟨rfl, o⟩
  have L2 := Lib.hid (HL.out.keep o)
  have P2 := Lib.hid (HP.out.old o)
  have O2 := Lib.hid o
  clear c0 c1 c2 c3 o
  obtain ⟨c0, c1, c2, c3⟩ := L2.out.cells
  go_wp2_with fail
  go_at_call 24
  refine (HH.out _ L2.out.ar P2.out).mono ?_
  rintro e w3 ⟨rfl, o⟩
  obtain ⟨W3, hW3, HB3⟩ := box_head w3 K Fd R true C
  have HW3 := Lib.hid hW3
  have O3 := Lib.hid (O2.out.trans (o.trans HB3.out.1))
  clear hW3 o c0 c1 c2 c3
  go_upto_region 7 with fail
  rw [HW3.out]
  obtain ⟨d0, d1, d2, d3, d4⟩ := cells5 HB3.out.2
  go_wp2
  go_ret2
  exact ⟨rfl, O3.out⟩

set_option maxHeartbeats 1000000 in
/-- No object stands there. -/
theorem lMark_no (p b g : Nat) (l : List Nat) (T F : List Sp) (top : Int) (vt vf : Value) (a : Int) (w : World) (h : Lo w p b g l T F top vt vf) (hf : Fits T) (hk : findT T a < 0) :
    Calls Tryd.prog 6 #[.pointer (some ⟨p, 0, none⟩), .int .i64 a] w fun e w' => e = .returned (.tuple #[.bool false, .int .i64 2]) ∧ Only nob w w' := by
  have HL := Lib.hid h
  have HF := Lib.hid (spFind vt T a w.heap.size w h.tab (Nat.le_refl _) hf)
  obtain ⟨j, hj⟩ : ∃ j, j = findT T a := ⟨_, rfl⟩
  rw [← hj] at HF hk
  obtain ⟨c0, c1, c2, c3⟩ := h.cells
  clear h hf hj
  go_enter Tryd.func6, Tryd.ntmps6
  go_wp2_with fail
  go_at_call 18
  refine (lNone_lo p b g l T F top vt vf _ HL.out).mono ?_
  rintro e w1 ⟨rfl, rfl⟩
  go_wp2_with fail
  go_at_call 23
  refine HF.out.mono ?_
  rintro e w2 ⟨rfl, o⟩
  have O2 := Lib.hid o
  clear c0 c1 c2 c3 o
  go_wp2
  go_ret2
  exact ⟨rfl, O2.out⟩

set_option maxHeartbeats 2000000 in
/-- The first object of the list is popped. -/
theorem lPop_ok (p b g : Nat) (l : List Nat) (T F : List Sp) (vt vf : Value) (k q : Nat) (x : Sp) (w : World) (h : Lo w p b g l T F ((k : Int) + 1) vt vf) (hp : Par w) (hx : T[k]? = some x) (hxq : x.1 = q) (ho : Ob l q) :
    Calls Tryd.prog 7 #[.pointer (some ⟨p, 0, none⟩)] w fun e w' => e = .returned (.tuple #[.int .i64 q, .bool true]) ∧ Lo w' p b g (curL l q 0) T F (wC (wd l q)) vt vf ∧ Only (pgb p g) w w' := by
  have HL := Lib.hid h
  have HP := Lib.hid hp
  have HX := Lib.hid (And.intro hx hxq)
  have HOB := Lib.hid ho
  have hlt : k < T.length := (List.getElem?_eq_some_iff.1 hx).1
  obtain ⟨A, ca, rfl, hac, ham⟩ := h.tab.form
  unfold maxLen at ham
  obtain ⟨b1, o1, rfl, -, -, -⟩ := sl_span h.tab (Below.refl _ _) hx
  obtain ⟨c0, c1, c2, c3⟩ := h.cells
  obtain ⟨C, hC⟩ : ∃ C, C = wC (wd l q) := ⟨_, rfl⟩
  have HC := Lib.hid hC
  rw [← hC]
  have mixed := mixedLos
  clear h hp hx hxq ho hC
  go_enter Tryd.func7, Tryd.ntmps7
  go_wp2_with fail
  go_at_call 18
  refine (lNone_lo p b g l T F _ _ vf _ HL.out).mono ?_
  rintro e w1 ⟨rfl, rfl⟩
  go_wp2_with fail
  go_region_held3 (fun w' => w'.cell? ⟨p, 0, none⟩ = some (.pointer (some ⟨b, 0, none⟩)) ∧ w'.cell? ⟨p, 1, none⟩ = some (.slice (some ⟨b1, o1, none⟩) T.length ca) ∧ w'.cell? ⟨p, 3, none⟩ = some (.int .i64 ((k : Int) + 1))) (first | go_keep | exact C1.out)
    ((go_at_call 27
      refine (pop_ok b g l _ T _ k q x _ (show Ar w.drew b g l from HL.out.drew.ar) (show Par w.drew from HP.out.drew) (show Sl w.drew w.heap.size 2 (.slice (some ⟨b1, o1, none⟩) T.length ca) T.length (spc T) from HL.out.drew.tab) HX.out.1 HX.out.2 HOB.out).mono ?_
      rw [← HC.out]
      rintro e w6 ⟨rfl, hA, o⟩
      have L6 := Lib.hid (HL.out.drew.words hA o)
      have O6 := Lib.hid (o.drewL.pgb_g (p := p))
      have C1 := Lib.hid (And.intro L6.out.cells.1 (And.intro L6.out.cells.2.1 L6.out.cells.2.2.2))
      clear hA o))
  all_goals
    obtain ⟨W7, hW7, L7⟩ : ∃ W7, w6.setCell ⟨p, 3, none⟩ (.int .i64 C) = W7 ∧ Hid (Lo W7 p b g (curL l q 0) T F C (.slice (some ⟨b1, o1, none⟩) T.length ca) vf) := ⟨_, rfl, Lib.hid (L6.out.setTop C)⟩
    have HW7 := Lib.hid hW7
    have O7 := Lib.hid (show Only (pgb p g) w W7 from hW7 ▸ O6.out.pgb_set 3 _)
    clear hW7 c0 c1 c2 c3
    have g3 := L6.out.box.free 3
    have k3 := L6.out.cells.2.2.2
    obtain ⟨c0, c1, c2, c3⟩ := L7.out.cells
    obtain ⟨b2, o2, e2, -, d0, d1⟩ := sl_span L7.out.tab (Below.refl _ _) HX.out.1
    obtain ⟨rfl, rfl⟩ : b1 = b2 ∧ o1 = o2 := by simpa using e2
    rw [HX.out.2] at d0
    clear e2
    go_upto_region 7 with fail
    rw [HW7.out]
    go_wp2
    go_ret2
    exact ⟨rfl, L7.out, O7.out⟩

set_option maxHeartbeats 1000000 in
/-- Nothing is on the list. -/
theorem lPop_none (p b g : Nat) (l : List Nat) (T F : List Sp) (vt vf : Value) (w : World) (h : Lo w p b g l T F 0 vt vf) :
    Calls Tryd.prog 7 #[.pointer (some ⟨p, 0, none⟩)] w fun e w' => e = .returned (.tuple #[.int .i64 0, .bool false]) ∧ Only nob w w' := by
  have HL := Lib.hid h
  obtain ⟨A, ca, rfl, hac, ham⟩ := h.tab.form
  obtain ⟨c0, c1, c2, c3⟩ := h.cells
  have mixed := mixedLos
  clear h
  go_enter Tryd.func7, Tryd.ntmps7
  go_wp2_with fail
  go_at_call 18
  refine (lNone_lo p b g l T F _ _ vf _ HL.out).mono ?_
  rintro e w1 ⟨rfl, rfl⟩
  go_wp2_with fail
  go_region_held3 (fun w' => w'.cell? ⟨p, 0, none⟩ = some (.pointer (some ⟨b, 0, none⟩)) ∧ w'.cell? ⟨p, 1, none⟩ = some (.slice A T.length ca) ∧ w'.cell? ⟨p, 3, none⟩ = some (.int .i64 0)) (first | go_keep | exact C1.out)
    ((go_at_call 27
      refine (pop_none _ _ _ _ _).mono ?_
      rintro e w6 ⟨rfl, rfl⟩
      have C1 := Lib.hid (And.intro HL.out.drew.cells.1 (And.intro HL.out.drew.cells.2.1 HL.out.drew.cells.2.2.2))))
  have O2 := Lib.hid ((Only.refl nob w).drewN 1)
  all_goals
    go_wp2
    go_ret2
    exact ⟨rfl, O2.out⟩

set_option maxHeartbeats 1000000 in
theorem lTable_any (p b g : Nat) (l : List Nat) (T F : List Sp) (top : Int) (vt vf : Value) (w : World) (h : Lo w p b g l T F top vt vf) (hT : T.length ≤ 1000000) :
    Calls Tryd.prog 9 #[.pointer (some ⟨p, 0, none⟩)] w fun e w' => ∃ v', e = .returned v' ∧ w'.ownsRow w.heap.size 25 2 v' T.length (spc T) ∧ Only nob w w' := by
  have HL := Lib.hid h
  obtain ⟨c0, c1, c2, c3⟩ := h.cells
  clear h
  go_enter Tryd.func9, Tryd.ntmps9
  go_wp2_with fail
  go_at_call 18
  refine (lNone_lo p b g l T F top vt vf _ HL.out).mono ?_
  rintro e w1 ⟨rfl, rfl⟩
  go_wp2_with fail
  go_at_call 17
  refine (clone_spans vt T w.heap.size w HL.out.tab (Nat.le_refl _) hT).mono ?_
  rintro e w2 ⟨v2, rfl, own, o⟩
  have H2 := Lib.hid own
  have O2 := Lib.hid o
  clear own o
  go_wp2
  go_ret
  exact ⟨v2, rfl, H2.out, O2.out⟩

set_option maxHeartbeats 1000000 in
theorem lFree_any (p b g : Nat) (l : List Nat) (T F : List Sp) (top : Int) (vt vf : Value) (w : World) (h : Lo w p b g l T F top vt vf) (hF : F.length ≤ 1000000) :
    Calls Tryd.prog 10 #[.pointer (some ⟨p, 0, none⟩)] w fun e w' => ∃ v', e = .returned v' ∧ w'.ownsRow w.heap.size 25 2 v' F.length (spc F) ∧ Only nob w w' := by
  have HL := Lib.hid h
  obtain ⟨c0, c1, c2, c3⟩ := h.cells
  clear h
  go_enter Tryd.func10, Tryd.ntmps10
  go_wp2_with fail
  go_at_call 18
  refine (lNone_lo p b g l T F top vt vf _ HL.out).mono ?_
  rintro e w1 ⟨rfl, rfl⟩
  go_wp2_with fail
  go_at_call 17
  refine (clone_spans vf F w.heap.size w HL.out.free (Nat.le_refl _) hF).mono ?_
  rintro e w2 ⟨v2, rfl, own, o⟩
  have H2 := Lib.hid own
  have O2 := Lib.hid o
  clear own o
  go_wp2
  go_ret
  exact ⟨v2, rfl, H2.out, O2.out⟩

/-- What Put answers where it puts nothing. -/
def putE (F : List Sp) (n : Int) : Int := if n = 0 then 1 else (takeT F n).2.2
theorem putE_arg (F : List Sp) : putE F 0 = 1 := if_pos rfl
theorem putE_take {F : List Sp} {n : Int} (h : n ≠ 0) : putE F n = (takeT F n).2.2 := if_neg h

set_option maxHeartbeats 2000000 in
/-- A header that may not be, or no room. -/
theorem lPut_no (p b g : Nat) (l : List Nat) (T F : List Sp) (top : Int) (vt vf : Value) (k f r : Int) (m : Bool) (c : Int) (w : World) (h : Lo w p b g l T F top vt vf) (hp : Par w) (hf : Fits F) (hF : F.length ≤ 10000) (hn : putE F (hSz k f r c) ≠ 0) :
    Calls Tryd.prog 5 #[.pointer (some ⟨p, 0, none⟩), .agg #[.int .i64 k, .int .i64 f, .int .i64 r, .bool m, .int .i64 c]] w fun e w' => e = .returned (.tuple #[.int .i64 0, .int .i64 (putE F (hSz k f r c))]) ∧ Only nob w w' := by
  have HP := Lib.hid hp
  obtain ⟨W, hW, HB⟩ := box_head w k f r m c
  have HW := Lib.hid hW
  have L2 := Lib.hid (h.keep HB.out.1)
  have P2 := Lib.hid (hp.old HB.out.1)
  have HS := Lib.hid (hSize_any k f r m c W P2.out)
  obtain ⟨n, hnn⟩ : ∃ n, n = hSz k f r c := ⟨_, rfl⟩
  have hnb : 0 ≤ n ∧ n ≤ 10000 := by
    rw [hnn]
    rcases hm : hmay k f r c with _ | _
    · rw [hSz_no hm]; omega
    · rw [hSz_yes hm]; have := hmay_iff.1 hm; omega
  rw [← hnn] at HS hn ⊢
  obtain ⟨d0, d1, d2, d3, d4⟩ := cells5 HB.out.2
  clear h hp hW hnn
  by_cases h0 : n = 0
  · subst h0
    rw [putE_arg]
    clear hn
    go_enter Tryd.func5, Tryd.ntmps5
    go_wp2_with fail
    rw [HW.out]
    go_at_call 18
    refine (lNone_lo p b g l T F top vt vf _ L2.out).mono ?_
    rintro e w1 ⟨rfl, rfl⟩
    go_wp2_with fail
    go_at_call 19
    refine HS.out.mono ?_
    rintro e w3 ⟨rfl, o⟩
    have O3 := Lib.hid (HB.out.1.trans o)
    clear o d0 d1 d2 d3 d4
    go_wp2
    go_ret2
    exact ⟨rfl, O3.out⟩
  · have HN := Lib.hid hn
    have HE := Lib.hid (putE_take (F := F) h0)
    have hne : (n == 0) = false := by simpa using h0
    clear hn
    go_enter Tryd.func5, Tryd.ntmps5
    go_wp2_with fail
    rw [HW.out]
    go_at_call 18
    refine (lNone_lo p b g l T F top vt vf _ L2.out).mono ?_
    rintro e w1 ⟨rfl, rfl⟩
    go_wp2_with fail
    go_at_call 19
    refine HS.out.mono ?_
    rintro e w3 ⟨rfl, o⟩
    have O3 := Lib.hid (HB.out.1.trans o)
    have L3 := Lib.hid (L2.out.keep o)
    clear o d0 d1 d2 d3 d4
    obtain ⟨c0, c1, c2, c3⟩ := L3.out.cells
    go_wp2_with fail
    go_at_call 20
    refine (spTake vf F n w3.heap.size w3 L3.out.free (Nat.le_refl _) hF hf (by omega) (by omega)).mono ?_
    rw [← HE.out]
    obtain ⟨E, hE⟩ : ∃ E, E = putE F n := ⟨_, rfl⟩
    have hE0 : ¬ E = 0 := hE ▸ HN.out
    have hb0 : (E == 0) = false := by simpa using hE0
    have HEE := Lib.hid hE
    rw [← hE]
    rintro e w4 ⟨v4, rfl, -, o⟩
    have O4 := Lib.hid (O3.out.trans o)
    clear o c0 c1 c2 c3 hE
    generalize (takeT F n).2.1 = z
    go_wp2
    go_ret2
    exact ⟨by rw [← HEE.out]; rfl, O4.out⟩

set_option maxHeartbeats 4000000 in
/-- An object is put into the first free words that are enough. -/
theorem lPut_ok (p b g : Nat) (l : List Nat) (T F : List Sp) (top : Int) (vt vf : Value) (k f r : Int) (m : Bool) (c : Int) (a : List Sp) (s : Int) (T' : List Sp) (w : World) (h : Lo w p b g l T F top vt vf) (hp : Par w) (hfT : Fits T) (hfF : Fits F) (hT : T.length ≤ 10000) (hF : F.length ≤ 10000)
    (hm : hmay k f r c = true) (ht : takeT F (1 + f + r) = (a, s, 0)) (hs : s ≤ 9223372036854775807) (hpt : ptE l s k f r c = 0) (hadd : addT T (s, 1 + f + r) = (T', 0)) :
    Calls Tryd.prog 5 #[.pointer (some ⟨p, 0, none⟩), .agg #[.int .i64 k, .int .i64 f, .int .i64 r, .bool m, .int .i64 c]] w fun e w' => e = .returned (.tuple #[.int .i64 s, .int .i64 0]) ∧ (∃ vt' vf', Lo w' p b g (ptL l s k f r m c) T' a top vt' vf') ∧ Only (pgb p g) w w' := by
  have HP := Lib.hid hp
  obtain ⟨W, hW, HB⟩ := box_head w k f r m c
  have HW := Lib.hid hW
  have L2 := Lib.hid (h.keep HB.out.1)
  have P2 := Lib.hid (hp.old HB.out.1)
  have HS := Lib.hid (hSize_any k f r m c W P2.out)
  have hmb := hmay_iff.1 hm
  rw [hSz_yes hm] at HS
  obtain ⟨n, hnn⟩ : ∃ n, n = 1 + f + r := ⟨_, rfl⟩
  have hnb : 1 ≤ n ∧ n ≤ 10000 := by omega
  rw [← hnn] at HS ht hadd
  have HT := Lib.hid ht
  have HA := Lib.hid hadd
  have HE := Lib.hid hpt
  obtain ⟨d0, d1, d2, d3, d4⟩ := cells5 HB.out.2
  have mixed := mixedLos
  clear h hp hW hnn ht hadd hpt hm hmb
  go_enter Tryd.func5, Tryd.ntmps5
  go_wp2_with fail
  rw [HW.out]
  go_at_call 18
  refine (lNone_lo p b g l T F top vt vf _ L2.out).mono ?_
  rintro e w1 ⟨rfl, rfl⟩
  go_wp2_with fail
  go_at_call 19
  refine HS.out.mono ?_
  rintro e w3 ⟨rfl, o⟩
  have O3 := Lib.hid (HB.out.1.trans o)
  have L3 := Lib.hid (L2.out.keep o)
  have P3 := Lib.hid (P2.out.old o)
  have B3 := Lib.hid (HB.out.2.keep o id)
  clear o d0 d1 d2 d3 d4
  obtain ⟨c0, c1, c2, c3⟩ := L3.out.cells
  go_wp2_with fail
  go_at_call 20
  refine (spTake vf F n w3.heap.size w3 L3.out.free (Nat.le_refl _) hF hfF (by omega) (by omega)).mono ?_
  rw [HT.out]
  rintro e w4 ⟨v4, rfl, hsl, o⟩
  have S4 := Lib.hid hsl
  have O4 := Lib.hid (O3.out.trans o)
  have L4 := Lib.hid (L3.out.keep o)
  have P4 := Lib.hid (P3.out.old o)
  have B4 := Lib.hid (B3.out.keep o id)
  clear o c0 c1 c2 c3 hsl
  obtain ⟨c0, c1, c2, c3⟩ := L4.out.cells
  obtain ⟨d0, d1, d2, d3, d4⟩ := cells5 B4.out
  go_wp2_with fail
  go_still_tail 6, (by kernel_rfl)
  change wpList _ _ _ _ _ w4.drew
  generalize hwd : w4.drew = wd
  have S5 := Lib.hid (show Sl wd wd.heap.size 2 v4 a.length (spc a) from hwd ▸ S4.out)
  have L5 := Lib.hid (show Lo wd p b g l T F top vt vf from hwd ▸ L4.out.drew)
  have P5 := Lib.hid (show Par wd from hwd ▸ P4.out.drew)
  have O5 := Lib.hid (show Only nob w wd from hwd ▸ O4.out.drewN 1)
  clear hwd c0 c1 c2 c3 d0 d1 d2 d3 d4
  go_wp2_with fail
  go_at_call 21
  refine (oPut_any b g l s k f r m c _ L5.out.ar P5.out hs).mono ?_
  rw [HE.out]
  rintro e w6 ⟨rfl, hA, o⟩
  have L6 := Lib.hid (L5.out.words hA o)
  have S6 := Lib.hid ((spc_keep S5.out o (Nat.le_refl _) fun k e => by unfold isb at e; subst e; exact L5.out.ar.nosp).more o.size)
  have O6 := Lib.hid (O5.out.pgb.trans (o.pgb_g (p := p)))
  clear hA o
  obtain ⟨c0, c1, c2, c3⟩ := L6.out.cells
  go_wp2_with fail
  go_at_call 22
  refine (spAdd vt T (s, n) w6.heap.size w6 L6.out.tab (Nat.le_refl _) hT hfT hs).mono ?_
  rw [HA.out]
  rintro e w7 ⟨v7, rfl, hsl, o⟩
  obtain ⟨A7, c7, rfl, -, -⟩ := hsl.form
  obtain ⟨A4, c4, rfl, -, -⟩ := S4.out.form
  have L7 := Lib.hid (L6.out.keep o)
  have S7 := Lib.hid ((S6.out.below o.whole).more o.size)
  have O7 := Lib.hid (O6.out.trans (o.pgb (p := p) (g := g)))
  obtain ⟨W8, hW8, L8⟩ : ∃ W8, w7.setCell ⟨p, 1, none⟩ (.slice A7 T'.length c7) = W8 ∧ Hid (Lo W8 p b g (ptL l s k f r m c) T' F top (.slice A7 T'.length c7) vf) := ⟨_, rfl, Lib.hid (L7.out.setTab hsl)⟩
  have HW8 := Lib.hid hW8
  have O8 := Lib.hid (show Only (pgb p g) w W8 from hW8 ▸ O7.out.pgb_set 1 _)
  have S8 := Lib.hid (show Sl W8 W8.heap.size 2 (.slice A4 a.length c4) a.length (spc a) from hW8 ▸ (spc_keep S7.out (only_set w7 p 1 (.slice A7 T'.length c7)) (Nat.le_refl _) fun k e => by unfold isb at e; subst e; exact L7.out.nosp).more (only_set w7 p 1 (.slice A7 T'.length c7)).size)
  have f1 := L7.out.box.free 1
  have f2 := L8.out.box.free 2
  have k1 := L7.out.cells.2.1
  have k2 := L8.out.cells.2.2.1
  clear hW8 hsl o c0 c1 c2 c3
  go_upto_region 13 with fail
  rw [HW8.out]
  go_wp2
  go_ret2
  exact ⟨rfl, ⟨_, _, L8.out.setFree S8.out⟩, O8.out.pgb_set 2 _⟩
end Go.Proofs.YtoeccbbjncgmlaaDoor

/- Contracts of package los: the headers of a table, and Sweep. -/
namespace Go.Proofs.YtoeccbbjncgmlaaDoor
open Go.RowKit
set_option maxRecDepth 100000

/-- An object's header, as cells; no header's. -/
def hcs (l : List Nat) (x : Sp) : List Value := [.int .i64 (ohK l x.1), .int .i64 (ohF l x.1), .int .i64 (ohR l x.1), .bool (ohM l x.1), .int .i64 (ohC l x.1)]
def z5 : List Value := [.int .i64 0, .int .i64 0, .int .i64 0, .bool false, .int .i64 0]
/-- The headers of the first k of a table. -/
def hds (l : List Nat) (T : List Sp) (k : Nat) : List Value := (T.take k).flatMap (hcs l) ++ (T.drop k).flatMap fun _ => z5
theorem flat5_len {α : Type} {f : Sp → List α} (hf : ∀ x, (f x).length = 5) : ∀ T : List Sp, (T.flatMap f).length = T.length * 5
  | [] => rfl
  | x :: T => by rw [List.flatMap_cons, List.length_append, hf, flat5_len hf T, List.length_cons]; omega
theorem flat5_get {α : Type} {f : Sp → List α} (hf : ∀ x, (f x).length = 5) : ∀ (T : List Sp) (k j : Nat) (x : Sp), T[k]? = some x → j < 5 → (T.flatMap f)[k * 5 + j]? = (f x)[j]?
  | [], k, j, x, h, _ => by simp at h
  | y :: T, 0, j, x, h, hj => by
    obtain rfl : y = x := by simpa using h
    rw [List.flatMap_cons, Nat.zero_mul, Nat.zero_add, List.getElem?_append_left (by rw [hf]; exact hj)]
  | y :: T, k + 1, j, x, h, hj => by
    have ih := flat5_get hf T k j x (by simpa using h) hj
    rw [List.flatMap_cons, List.getElem?_append_right (by rw [hf]; omega), hf, show (k + 1) * 5 + j - 5 = k * 5 + j by omega]
    exact ih
theorem hcs_len (l : List Nat) (x : Sp) : (hcs l x).length = 5 := rfl
theorem hds_split {l : List Nat} {T : List Sp} {k : Nat} {x : Sp} (hx : T[k]? = some x) : ∃ A R, A.length = k * 5 ∧ hds l T k = A ++ (z5 ++ R) ∧ hds l T (k + 1) = A ++ (hcs l x ++ R) := by
  obtain ⟨h, rfl⟩ := List.getElem?_eq_some_iff.1 hx
  refine ⟨(T.take k).flatMap (hcs l), (T.drop (k + 1)).flatMap fun _ => z5, ?_, ?_, ?_⟩
  · rw [flat5_len (hcs_len l), List.length_take, Nat.min_eq_left (by omega)]
  · unfold hds
    rw [List.drop_eq_getElem_cons h, List.flatMap_cons]
  · unfold hds
    rw [take_snoc_get hx, List.flatMap_append, List.flatMap_cons, List.flatMap_nil, List.append_nil, List.append_assoc]
theorem put5 {α : Type} (A R : List α) (n : Nat) (h : A.length = n) (y0 y1 y2 y3 y4 a b c d e : α) :
    (((((A ++ ([y0, y1, y2, y3, y4] ++ R)).set n a).set (n + 1) b).set (n + 2) c).set (n + 3) d).set (n + 4) e = A ++ ([a, b, c, d, e] ++ R) := by
  subst h
  simp
theorem get5 {α : Type} (A M R : List α) (n j : Nat) (h : A.length = n) (hj : j < M.length) : (A ++ (M ++ R))[n + j]? = M[j]? := by
  subst h
  rw [List.getElem?_append_right (by omega), Nat.add_sub_cancel_left, List.getElem?_append_left hj]
theorem hds_all (l : List Nat) (T : List Sp) : hds l T T.length = T.flatMap (hcs l) := by unfold hds; rw [List.take_length, List.drop_length]; simp
theorem hds_none (l : List Nat) (T : List Sp) : hds l T 0 = T.flatMap fun _ => z5 := by unfold hds; simp
theorem z5_len : ∀ _ : Sp, z5.length = 5 := fun _ => rfl
theorem info_head5 : (Tryd.prog.info? 23).map (fun i => (i.zero, i.size, i.bytes)) = some (some (.agg #[.int .i64 0, .int .i64 0, .int .i64 0, .bool false, .int .i64 0]), 5, 40) := by kernel_rfl
theorem z5_pick (j : Nat) (h : j < z5.length) : (#[Value.int .i64 0, Value.int .i64 0, Value.int .i64 0, .bool false, Value.int .i64 0] : Array Value)[j]! = z5[j]'h := by
  rcases j with _ | _ | _ | _ | _ | j
  · rfl
  · rfl
  · rfl
  · rfl
  · rfl
  · exact absurd h (by unfold z5; simp)
theorem made_heads (l : List Nat) (T : List Sp) : madeCells (Value.agg #[.int .i64 0, .int .i64 0, .int .i64 0, .bool false, .int .i64 0]).cells (T.length * 5) = (hds l T 0).toArray := by
  rw [hds_none]
  apply Array.ext
  · rw [size_madeCells]; simp [flat5_len (α := Value) (f := fun _ => z5) z5_len]
  · intro i h1 h2
    rw [size_madeCells] at h1
    have hT : i / 5 < T.length := by omega
    have hg := flat5_get (α := Value) (f := fun _ => z5) z5_len T (i / 5) (i % 5) _ (List.getElem?_eq_getElem hT) (by omega)
    rw [show i / 5 * 5 + i % 5 = i by omega] at hg
    have h3 : (T.flatMap fun _ => z5).toArray[i] = z5[i % 5]'(by rw [z5_len (0, 0)]; omega) := by
      have : (T.flatMap fun _ => z5)[i]? = some (z5[i % 5]'(by rw [z5_len (0, 0)]; omega)) := by rw [hg]; exact List.getElem?_eq_getElem _
      simpa using (List.getElem?_eq_some_iff.1 this).2
    rw [h3]
    simp only [madeCells, Array.getElem_map, Array.getElem_range]
    exact z5_pick (i % 5) (by rw [z5_len (0, 0)]; omega)
/-- make([]api.Head, n). -/
theorem make_heads (l : List Nat) (T : List Sp) (hn : T.length ≤ 1000000) (w : World) : (Instr.makeSlice 65 (.int .i64 (T.length : Int)) (.int .i64 (T.length : Int))).run Tryd.prog w = .ok (.slice (some ⟨w.heap.size, 0, none⟩) T.length T.length) (w.alloc (.cells (hds l T 0).toArray 23)) := by
  obtain ⟨i0, hi0, hz0, hz1, hz2⟩ := info_parts info_head5
  have h := run_make (P := Tryd.prog) w 65 23 i0 _ Tryd.underlying65 hi0 hz0 .i64 .i64 T.length T.length (by omega) (Int.le_refl _) (by rw [hz2]; omega) (by omega)
  rw [h]
  simp only [Int.toNat_natCast, hz1, made_heads l T]

/-- Five cells of a block are written, at a place that is not known. -/
theorem hds_put {w : World} {bh : Nat} {l : List Nat} {T : List Sp} {k : Nat} {x : Sp} (h : Blk w bh 23 (hds l T k).toArray) (hx : T[k]? = some x) :
    Blk (((((w.setCell ⟨bh, k * 5, none⟩ (.int .i64 (ohK l x.1))).setCell ⟨bh, k * 5 + 1, none⟩ (.int .i64 (ohF l x.1))).setCell ⟨bh, k * 5 + 2, none⟩ (.int .i64 (ohR l x.1))).setCell ⟨bh, k * 5 + 3, none⟩ (.bool (ohM l x.1))).setCell ⟨bh, k * 5 + 4, none⟩ (.int .i64 (ohC l x.1))) bh 23 (hds l T (k + 1)).toArray := by
  obtain ⟨A, R, hA, e1, e2⟩ := hds_split (l := l) hx
  rw [e1] at h
  rw [e2]
  have := ((((h.put (k * 5) (.int .i64 (ohK l x.1))).put (k * 5 + 1) (.int .i64 (ohF l x.1))).put (k * 5 + 2) (.int .i64 (ohR l x.1))).put (k * 5 + 3) (.bool (ohM l x.1))).put (k * 5 + 4) (.int .i64 (ohC l x.1))
  show Blk _ _ _ (A ++ ([Value.int .i64 (ohK l x.1), Value.int .i64 (ohF l x.1), Value.int .i64 (ohR l x.1), Value.bool (ohM l x.1), Value.int .i64 (ohC l x.1)] ++ R)).toArray
  rw [← put5 A R (k * 5) hA (.int .i64 0) (.int .i64 0) (.int .i64 0) (.bool false) (.int .i64 0)]
  simpa [z5] using this
/-- Five cells of a block. -/
theorem Blk.five {w : World} {bh n : Nat} {t : TypeId} {A M R : List Value} (h : Blk w bh t (A ++ (M ++ R)).toArray) (hA : A.length = n) (hM : M.length = 5) :
    w.cell? ⟨bh, n, none⟩ = M[0]? ∧ w.cell? ⟨bh, n + 1, none⟩ = M[1]? ∧ w.cell? ⟨bh, n + 2, none⟩ = M[2]? ∧ w.cell? ⟨bh, n + 3, none⟩ = M[3]? ∧ w.cell? ⟨bh, n + 4, none⟩ = M[4]? := by
  have f : ∀ j, j < 5 → w.cell? ⟨bh, n + j, none⟩ = M[j]? := fun j hj => by
    rw [h.cell, List.getElem?_toArray]
    exact get5 A M R n j hA (by omega)
  exact ⟨f 0 (by omega), f 1 (by omega), f 2 (by omega), f 3 (by omega), f 4 (by omega)⟩
theorem only_puts5 {a w : World} {F : Nat → Prop} (h : Only F a w) {bh n : Nat} (hb : a.heap.size ≤ bh) (x0 x1 x2 x3 x4 : Value) : Only F a (((((w.setCell ⟨bh, n, none⟩ x0).setCell ⟨bh, n + 1, none⟩ x1).setCell ⟨bh, n + 2, none⟩ x2).setCell ⟨bh, n + 3, none⟩ x3).setCell ⟨bh, n + 4, none⟩ x4) :=
  have s : ∀ {w : World}, Only F a w → ∀ (i : Nat) (u : Value), Only F a (w.setCell ⟨bh, i, none⟩ u) := fun h i u => h.setCell (p := ⟨bh, i, none⟩) (fun hlt => absurd hlt (Nat.not_lt_of_le hb)) u
  s (s (s (s (s h _ _) _ _) _ _) _ _) _ _

theorem only_five {a w : World} {F : Nat → Prop} (h : Only F a w) {bh : Nat} (hb : a.heap.size ≤ bh) (x0 x1 x2 x3 x4 : Value) : Only F a (((((w.setCell ⟨bh, 0, none⟩ x0).setCell ⟨bh, 1, none⟩ x1).setCell ⟨bh, 2, none⟩ x2).setCell ⟨bh, 3, none⟩ x3).setCell ⟨bh, 4, none⟩ x4) := only_puts5 (n := 0) h hb x0 x1 x2 x3 x4

set_option maxHeartbeats 4000000 in
/-- The headers of all objects of the table. -/
theorem lHeads_ok (p b g : Nat) (l : List Nat) (T F : List Sp) (top : Int) (vt vf : Value) (w : World) (h : Lo w p b g l T F top vt vf) (hp : Par w) (hT : T.length ≤ 100000) (hob : ∀ (k : Nat) (x : Sp), T[k]? = some x → ohE l x.1 = 0 ∧ x.1 ≤ 9223372036854775807) :
    Calls Tryd.prog 28 #[.pointer (some ⟨p, 0, none⟩)] w fun e w' => ∃ bh, e = .returned (.tuple #[.slice (some ⟨bh, 0, none⟩) T.length T.length, .int .i64 0]) ∧ w.heap.size ≤ bh ∧ Blk w' bh 23 (hds l T T.length).toArray ∧ Only nob w w' := by
  have HL := Lib.hid h
  have HP := Lib.hid hp
  have HOB := Lib.hid hob
  obtain ⟨A, ca, rfl, hac, ham⟩ := h.tab.form
  unfold maxLen at ham
  obtain ⟨c0, c1, c2, c3⟩ := h.cells
  have mixed := mixedLos
  obtain ⟨Wm, hWm, HM⟩ : ∃ Wm, w.alloc (.cells (hds l T 0).toArray 23) = Wm ∧ Hid (Only nob w Wm ∧ Blk Wm w.heap.size 23 (hds l T 0).toArray) := ⟨_, rfl, Lib.hid ⟨(Only.refl nob w).alloc _, Blk.new _ _ _⟩⟩
  have hmk := make_heads l T (by omega) w
  rw [hWm] at hmk
  have HWm := Lib.hid hWm
  obtain ⟨bh, hbh⟩ : ∃ bh, bh = w.heap.size := ⟨_, rfl⟩
  have HBH := Lib.hid hbh
  rw [← hbh] at hmk HM
  have LM := Lib.hid (HL.out.keep HM.out.1)
  obtain ⟨e0, e1, e2, e3⟩ := LM.out.cells
  have hlm : w.heap.size ≤ Wm.heap.size := HM.out.1.size
  clear h hp hob hWm e0 e2 e3 hbh
  go_enter Tryd.func28, Tryd.ntmps28
  go_wp2_with fail
  clear hmk c0 c1 c2 c3 e1
  go_loopw [20] (fun i wr => ∃ k : Nat, k ≤ T.length ∧ i = .int .i64 k ∧ Hid (Only nob w wr ∧ Blk wr bh 23 (hds l T k).toArray)) (fun i _ => T.length - (intOf i).toNat)
  case atStart => exact ⟨0, Nat.zero_le _, rfl, HM⟩
  case round =>
    obtain ⟨k, hk, rfl, HR⟩ := hrel
    by_cases hlt : k < T.length
    · obtain ⟨x, hx⟩ : ∃ x, T[k]? = some x := ⟨_, List.getElem?_eq_getElem hlt⟩
      have L1 := Lib.hid (HL.out.keep HR.out.1)
      obtain ⟨bb, oo, rfl, hb, d0, d1⟩ := sl_span L1.out.tab (Below.refl _ _) hx
      have HX := Lib.hid hx
      obtain ⟨Ws, hWs, HS⟩ : ∃ Ws, wr.alloc (.cells #[.int .i64 x.1, .int .i64 x.2] 25) = Ws ∧ Hid (Only nob wr Ws ∧ Blk Ws wr.heap.size 25 #[.int .i64 x.1, .int .i64 x.2]) := ⟨_, rfl, Lib.hid ⟨(Only.refl nob wr).alloc _, Blk.new _ _ _⟩⟩
      have HWs := Lib.hid hWs
      have hbx : bh < wr.heap.size := HR.out.2.lt
      clear hx hWs
      go_upto_region 5 with fail
      rw [HWs.out]
      have L2 := Lib.hid (L1.out.keep HS.out.1)
      have P2 := Lib.hid (HP.out.old (HR.out.1.trans HS.out.1))
      have s0 := HS.out.2.cell 0
      simp at s0
      obtain ⟨c0, c1, c2, c3⟩ := L2.out.cells
      have HH := Lib.hid (show ∀ W' : World, Only nob Ws W' → Calls Tryd.prog 24 #[.pointer (some ⟨b, 0, none⟩), .int .i64 x.1] W' fun e w'' => e = .returned (.tuple #[.agg #[.int .i64 (ohK l x.1), .int .i64 (ohF l x.1), .int .i64 (ohR l x.1), .bool (ohM l x.1), .int .i64 (ohC l x.1)], .int .i64 0]) ∧ Only nob W' w'' from fun W' o => by
        have := oHead_any b g l x.1 W' (L2.out.keep o).ar (P2.out.old o) (HOB.out k x HX.out).2
        rw [(HOB.out k x HX.out).1] at this
        exact this)
      have HO2 := Lib.hid (HR.out.1.trans HS.out.1)
      have HN0 := Lib.hid (show Only nob Ws Ws.drew from (Only.refl nob Ws).drewN 1)
      have HN1 := Lib.hid (show Only nob Ws (Ws.alloc (.cells #[.int .i64 0, .int .i64 0, .int .i64 0, .bool false, .int .i64 0] 23)).drew from ((Only.refl nob Ws).alloc _).drewN 1)
      clear c1 c2 c3 d0 d1
      go_region_held3 (fun w' => w'.cell? ⟨p, 0, none⟩ = some (.pointer (some ⟨b, 0, none⟩)) ∧ w'.cell? ⟨wr.heap.size, 0, none⟩ = some (.int .i64 x.1)) (first | (with_reducible exact C1.out) | (with_reducible exact And.intro ((O3.out.alloc _).keeps c0) ((O3.out.alloc _).keeps s0)) | (with_reducible exact And.intro (HN0.out.keeps c0) (HN0.out.keeps s0)) | (with_reducible exact And.intro (((Only.refl nob Ws).alloc _).keeps c0) (((Only.refl nob Ws).alloc _).keeps s0)) | go_keep | with_reducible exact And.intro ((only_five O3.out (Nat.le_refl _) _ _ _ _ _).keeps c0) ((only_five O3.out (Nat.le_refl _) _ _ _ _ _).keeps s0))
        ((go_at_call 24
          first
          | (with_reducible refine (HH.out Ws.drew HN0.out).mono ?_
             rintro e w3 ⟨rfl, o⟩
             have O3 := Lib.hid o.drewL
             have TA := True.intro
             have C1 := Lib.hid (And.intro (O3.out.keeps c0) (O3.out.keeps s0))
             clear o)
          | (with_reducible refine (HH.out (Ws.alloc (.cells #[.int .i64 0, .int .i64 0, .int .i64 0, .bool false, .int .i64 0] 23)).drew HN1.out).mono ?_
             rintro e w3 ⟨rfl, o⟩
             have O3 := Lib.hid (((Only.refl nob Ws).alloc (.cells #[.int .i64 0, .int .i64 0, .int .i64 0, .bool false, .int .i64 0] 23)).trans o.drewL)
             have BZ := Lib.hid ((Blk.new Ws 23 #[.int .i64 0, .int .i64 0, .int .i64 0, .bool false, .int .i64 0]).keep o.drewL id)
             have TB := True.intro
             obtain ⟨y0, y1, y2, y3, y4⟩ := cells5 BZ.out
             obtain ⟨z0, z1, z2, z3, z4⟩ := frees5 BZ.out
             have C1 := Lib.hid (And.intro (O3.out.keeps c0) (O3.out.keeps s0))
             clear o)))
      all_goals
        first
        | (clear TA
           obtain ⟨W5, hW5, HBX⟩ := box_head w3 (ohK l x.1) (ohF l x.1) (ohR l x.1) (ohM l x.1) (ohC l x.1)
           have HW5 := Lib.hid hW5
           have O5 := Lib.hid (HO2.out.trans (O3.out.trans HBX.out.1))
           have BH5 := Lib.hid (HR.out.2.keep (HS.out.1.trans (O3.out.trans HBX.out.1)) id)
           have HB5 := Lib.hid HBX.out.2
           obtain ⟨A5, R5, hA5, e1, e2⟩ := hds_split (l := l) HX.out
           have BH6 := BH5.out
           rw [e1] at BH6
           obtain ⟨q0, q1, q2, q3, q4⟩ := Blk.five BH6 hA5 rfl
           have g0 := BH5.out.free (k * 5)
           have g1 := BH5.out.free (k * 5 + 1)
           have g2 := BH5.out.free (k * 5 + 2)
           have g3 := BH5.out.free (k * 5 + 3)
           have g4 := BH5.out.free (k * 5 + 4)
           obtain ⟨d0, d1, d2, d3, d4⟩ := cells5 HB5.out
           simp [z5] at q0 q1 q2 q3 q4
           obtain ⟨W6, hW6, HB6⟩ : ∃ W6, (((((W5.setCell ⟨bh, k * 5, none⟩ (.int .i64 (ohK l x.1))).setCell ⟨bh, k * 5 + 1, none⟩ (.int .i64 (ohF l x.1))).setCell ⟨bh, k * 5 + 2, none⟩ (.int .i64 (ohR l x.1))).setCell ⟨bh, k * 5 + 3, none⟩ (.bool (ohM l x.1))).setCell ⟨bh, k * 5 + 4, none⟩ (.int .i64 (ohC l x.1))) = W6 ∧ Hid (Only nob w W6 ∧ Blk W6 bh 23 (hds l T (k + 1)).toArray) :=
             ⟨_, rfl, Lib.hid ⟨only_puts5 O5.out (by have := HBH.out; omega) _ _ _ _ _, hds_put BH5.out HX.out⟩⟩
           have HW6 := Lib.hid hW6
           clear hW5 hW6 e1 e2 BH6 hA5 c0 s0
           go_upto_region 6 with fail
           rw [HW5.out]
           go_upto_region 9 with fail
           rw [HW6.out]
           clear q0 q1 q2 q3 q4 g0 g1 g2 g3 g4 d0 d1 d2 d3 d4
           go_wp2
           go_roundw
           case rel => exact ⟨k + 1, by omega, by go_num, HB6⟩
           case measure => simp [intOf]; omega)
        | (clear TB y0 y1 y2 y3 y4 z0 z1 z2 z3 z4
           obtain ⟨W5, hW5, OX, BX⟩ := puts5 O3.out (Nat.le_refl _) BZ.out (.int .i64 (ohK l x.1)) (.int .i64 (ohF l x.1)) (.int .i64 (ohR l x.1)) (.bool (ohM l x.1)) (.int .i64 (ohC l x.1))
           have HW5 := Lib.hid hW5
           have O5 := Lib.hid (HO2.out.trans OX)
           have BH5 := Lib.hid (HR.out.2.keep (HS.out.1.trans OX) id)
           have HB5 := Lib.hid BX
           clear OX BX
           obtain ⟨A5, R5, hA5, e1, e2⟩ := hds_split (l := l) HX.out
           have BH6 := BH5.out
           rw [e1] at BH6
           obtain ⟨q0, q1, q2, q3, q4⟩ := Blk.five BH6 hA5 rfl
           have g0 := BH5.out.free (k * 5)
           have g1 := BH5.out.free (k * 5 + 1)
           have g2 := BH5.out.free (k * 5 + 2)
           have g3 := BH5.out.free (k * 5 + 3)
           have g4 := BH5.out.free (k * 5 + 4)
           obtain ⟨d0, d1, d2, d3, d4⟩ := cells5 HB5.out
           simp [z5] at q0 q1 q2 q3 q4
           obtain ⟨W6, hW6, HB6⟩ : ∃ W6, (((((W5.setCell ⟨bh, k * 5, none⟩ (.int .i64 (ohK l x.1))).setCell ⟨bh, k * 5 + 1, none⟩ (.int .i64 (ohF l x.1))).setCell ⟨bh, k * 5 + 2, none⟩ (.int .i64 (ohR l x.1))).setCell ⟨bh, k * 5 + 3, none⟩ (.bool (ohM l x.1))).setCell ⟨bh, k * 5 + 4, none⟩ (.int .i64 (ohC l x.1))) = W6 ∧ Hid (Only nob w W6 ∧ Blk W6 bh 23 (hds l T (k + 1)).toArray) :=
             ⟨_, rfl, Lib.hid ⟨only_puts5 O5.out (by have := HBH.out; omega) _ _ _ _ _, hds_put BH5.out HX.out⟩⟩
           have HW6 := Lib.hid hW6
           clear hW5 hW6 e1 e2 BH6 hA5 c0 s0
           go_upto_region 6 with fail
           rw [HW5.out]
           go_upto_region 9 with fail
           rw [HW6.out]
           clear q0 q1 q2 q3 q4 g0 g1 g2 g3 g4 d0 d1 d2 d3 d4
           go_wp2
           go_roundw
           case rel => exact ⟨k + 1, by omega, by go_num, HB6⟩
           case measure => simp [intOf]; omega)
    · obtain rfl : k = T.length := by omega
      go_wp2
      go_ret2
      exact ⟨bh, rfl, by have := HBH.out; omega, HR.out.2, HR.out.1⟩
end Go.Proofs.YtoeccbbjncgmlaaDoor

/- Contracts of package los: Sweep. -/
namespace Go.Proofs.YtoeccbbjncgmlaaDoor
open Go.RowKit
set_option maxRecDepth 100000

/-- Where the blocks of a sweep lie: the part's below N, the headers' below B. -/
structure OrdW (w : World) (N p b g bh B : Nat) : Prop where
  p : p < N
  b : b < N
  g : g < N
  bh : bh < B
  NB : N ≤ B
  par : 0 < N
  wN : w.heap.size = N
/-- The part and the headers, while a sweep goes on. -/
structure SwB (w : World) (N p b g bh B : Nat) (l0 : List Nat) (T F : List Sp) (top : Int) (vt vf : Value) (l : List Nat) (wr : World) : Prop where
  lo : Lo wr p b g l T F top vt vf
  tab : Sl wr N 2 vt T.length (spc T)
  free : Sl wr N 2 vf F.length (spc F)
  heads : Blk wr bh 23 (hds l0 T T.length).toArray
  only : Only (pgb p g) w wr
  base : B ≤ wr.heap.size
  par : Par wr
section
variable {w wr wz : World} {N p b g bh B : Nat} {T F : List Sp} {l0 l l' : List Nat} {top : Int} {vt vf v : Value}
theorem SwB.old (h : SwB w N p b g bh B l0 T F top vt vf l wr) (D : OrdW w N p b g bh B) (o : Only nob wr wz) : SwB w N p b g bh B l0 T F top vt vf l wz :=
  have hN : N ≤ wr.heap.size := Nat.le_trans D.NB h.base
  ⟨h.lo.keep o, h.tab.only o hN (fun _ e => e.elim), h.free.only o hN (fun _ e => e.elim), h.heads.keep o id, h.only.trans o.pgb, Nat.le_trans h.base o.size, h.par.old o⟩
theorem SwB.words (h : SwB w N p b g bh B l0 T F top vt vf l wr) (D : OrdW w N p b g bh B) (hL : Lo wz p b g l' T F top vt vf) (o : Only (isb g) wr wz) (hgb : g ≠ bh) : SwB w N p b g bh B l0 T F top vt vf l' wz :=
  have hN : N ≤ wr.heap.size := Nat.le_trans D.NB h.base
  ⟨hL, spc_keep h.tab o hN (fun k e => by unfold isb at e; subst e; exact h.lo.ar.nosp), spc_keep h.free o hN (fun k e => by unfold isb at e; subst e; exact h.lo.ar.nosp), h.heads.keep o (fun e => hgb e.symm), h.only.trans (o.pgb_g (p := p)), Nat.le_trans h.base o.size, h.par.words h.lo.ar o⟩
theorem SwB.row (h : SwB w N p b g bh B l0 T F top vt vf l wr) (D : OrdW w N p b g bh B) (hs : ∀ j, v.ownBlock = some j → B ≤ j) (o : Only (fun j => v.ownBlock = some j) wr wz) : SwB w N p b g bh B l0 T F top vt vf l wz := by
  obtain ⟨d1, d2, d3, d4, d5, d6, d7⟩ := D
  have hN : N ≤ wr.heap.size := Nat.le_trans d5 h.base
  have t1 : Sl wz N 2 vt T.length (spc T) := h.tab.only o hN fun j e => by have := hs j e; omega
  have t2 : Sl wz N 2 vf F.length (spc F) := h.free.only o hN fun j e => by have := hs j e; omega
  have hz : N ≤ wz.heap.size := Nat.le_trans hN o.size
  refine ⟨⟨h.lo.ar.keep o (fun e => by have := hs _ e; omega) (fun e => by have := hs _ e; omega), h.lo.box.keep o (fun e => by have := hs _ e; omega), t1.more hz, t2.more hz⟩, t1, t2, h.heads.keep o (fun e => by have := hs _ e; omega), ?_, Nat.le_trans h.base o.size, ?_⟩
  · exact h.only.andThen o fun i hi e => by have := hs i e; omega
  · obtain ⟨t, fr, hh⟩ := h.par
    exact ⟨t, fr, (o.block _ (Par.lt ⟨t, fr, hh⟩) fun e => by have := hs _ e; omega).trans hh⟩
end
/-- What holds ahead of each round of a sweep. -/
structure SwL (all : Sp) (w : World) (N p b g bh B : Nat) (T F : List Sp) (ms : Nat → Bool) (l0 : List Nat) (top : Int) (vt vf vk vg : Value) (k : Nat) (l : List Nat) (wr : World) : Prop where
  sw : SweepS all T F ms l0 l k
  base : SwB w N p b g bh B l0 T F top vt vf l wr
  kept : wr.ownsRow B 25 2 vk (picks ms T k).length (spc (picks ms T k))
  gone : wr.ownsRow B 25 2 vg (picks (fun j => !ms j) T k).length (spc (picks (fun j => !ms j) T k))
  apart : ∀ j, vk.ownBlock = some j → vg.ownBlock ≠ some j
section
variable {all : Sp} {w wr w4 w5 wz : World} {N p b g bh B : Nat} {T F : List Sp} {ms : Nat → Bool} {l0 l : List Nat} {top : Int} {vt vf vk vg v' : Value} {k q : Nat} {x : Sp} {o : Obj}
theorem SwL.no (h : SwL all w N p b g bh B T F ms l0 top vt vf vk vg k l wr) (D : OrdW w N p b g bh B) (hx : T[k]? = some x) (hm : ms k = false) (o1 : Only nob wr w4)
    (hown : wz.ownsRow B 25 2 v' ((picks (fun j => !ms j) T k).length + 1) (spc (picks (fun j => !ms j) T k) ++ spc [x])) (o3 : Only (fun j => vg.ownBlock = some j) (w4.alloc o) wz) (hne : v'.ownBlock = vg.ownBlock ∨ v'.ownBlock = some (w4.heap.size + 1)) :
    SwL all w N p b g bh B T F ms l0 top vt vf vk v' (k + 1) l wz := by
  have hs : ∀ j, vg.ownBlock = some j → B ≤ j := fun j hj => (own_lt h.gone hj).1
  have o2 : Only nob wr (w4.alloc o) := o1.alloc o
  have hpk : picks (fun j => !ms j) T (k + 1) = picks (fun j => !ms j) T k ++ [x] := picks_yes hx (by simp [hm])
  have hkeep := own_only h.kept o2 (fun _ _ => id)
  refine ⟨h.sw.no hm, (h.base.old D o2).row D hs o3, ?_, ?_, fun j hj => ?_⟩
  · rw [picks_no hm]
    exact own_only hkeep o3 fun j hj => h.apart j hj
  · rw [hpk, spc_append, List.length_append, List.length_singleton]
    exact hown
  · rcases hne with e | e
    · rw [e]; exact h.apart j hj
    · rw [e]
      intro e2
      have h1 := (own_lt hkeep hj).2
      simp at h1
      have h2 := Option.some.inj e2
      omega
theorem SwL.yes (h : SwL all w N p b g bh B T F ms l0 top vt vf vk vg k l wr) (D : OrdW w N p b g bh B) (hx : T[k]? = some x) (hxq : x.1 = q) (hm : ms k = true) (hgb : g ≠ bh) (o1 : Only nob wr w4)
    (hL : Lo w5 p b g (hdL l q false 0) T F top vt vf) (o2 : Only (isb g) w4 w5)
    (hown : wz.ownsRow B 25 2 v' ((picks ms T k).length + 1) (spc (picks ms T k) ++ spc [x])) (o3 : Only (fun j => vk.ownBlock = some j) (w5.alloc o) wz) (hne : v'.ownBlock = vk.ownBlock ∨ v'.ownBlock = some (w5.heap.size + 1)) :
    SwL all w N p b g bh B T F ms l0 top vt vf v' vg (k + 1) (hdL l q false 0) wz := by
  have hs : ∀ j, vk.ownBlock = some j → B ≤ j := fun j hj => (own_lt h.kept hj).1
  have hpk : picks ms T (k + 1) = picks ms T k ++ [x] := picks_yes hx hm
  have hgB : g < B := Nat.lt_of_lt_of_le D.g D.NB
  have g1 := own_only h.gone o1 (fun _ _ => id)
  have g2 := own_only g1 o2 (fun j hj e => by have := (own_lt g1 hj).1; unfold isb at e; omega)
  have g3 := own_only g2 ((Only.refl nob w5).alloc o) (fun _ _ => id)
  refine ⟨h.sw.yes hx hxq, ((((h.base.old D o1).words D hL o2 hgb).old D ((Only.refl nob w5).alloc o)).row D hs o3), ?_, ?_, fun j hj => ?_⟩
  · rw [hpk, spc_append, List.length_append, List.length_singleton]
    exact hown
  · rw [show picks (fun j => !ms j) T (k + 1) = picks (fun j => !ms j) T k from picks_no (by simp [hm])]
    exact own_only g3 o3 fun j hj e => h.apart j e hj
  · rcases hne with e | e
    · rw [e] at hj; exact h.apart j hj
    · rw [e] at hj
      intro e2
      have h1 := (own_lt g3 e2).2
      simp at h1
      have h2 := Option.some.inj hj
      omega
end
theorem one_span13 (w : World) (x : Sp) : Sl (w.alloc (.cells #[.int .i64 x.1, .int .i64 x.2] 25)) (w.heap.size + 1) 2 (.slice (some ⟨w.heap.size, 0, none⟩) 1 1) 1 (spc [x]) := by
  have := Sl.of_blk (size := 2) (n := 1) (c := 1) (Blk.new w 25 #[.int .i64 x.1, .int .i64 x.2]) (by simp) (Nat.le_refl _) (by decide)
  simpa [spc] using this
theorem meas13 {n k : Nat} (h : k < n) (z : Int) (hz : z = ((k + 1 : Nat) : Int)) : n - (intOf (.int .i64 z)).toNat < n - (intOf (.int .i64 (k : Int))).toNat := by
  rw [show intOf (.int .i64 z) = z from rfl, show intOf (.int .i64 (k : Int)) = k from rfl]
  omega
/-- Two boxes of a round: a span, a header. -/
theorem box_two (w : World) (x : Sp) (k f r : Int) (m : Bool) (c : Int) : ∃ W, (w.alloc (.cells #[.int .i64 x.1, .int .i64 x.2] 25)).alloc (.cells #[.int .i64 k, .int .i64 f, .int .i64 r, .bool m, .int .i64 c] 23) = W ∧
    Hid (Only nob w W ∧ Blk W w.heap.size 25 #[.int .i64 x.1, .int .i64 x.2] ∧ Blk W (w.heap.size + 1) 23 #[.int .i64 k, .int .i64 f, .int .i64 r, .bool m, .int .i64 c]) :=
  ⟨_, rfl, Lib.hid ⟨((Only.refl nob w).alloc _).alloc _, (Blk.new w _ _).alloc _, Blk.newAt _ _ _ _ (by simp)⟩⟩

theorem hds_full {l : List Nat} {T : List Sp} {k : Nat} {x : Sp} (hx : T[k]? = some x) : ∃ A R, A.length = k * 5 ∧ hds l T T.length = A ++ (hcs l x ++ R) := by
  obtain ⟨h, rfl⟩ := List.getElem?_eq_some_iff.1 hx
  refine ⟨(T.take k).flatMap (hcs l), (T.drop (k + 1)).flatMap (hcs l), ?_, ?_⟩
  · rw [flat5_len (hcs_len l), List.length_take, Nat.min_eq_left (by omega)]
  · rw [hds_all]
    conv => lhs; rw [← List.take_append_drop k T, List.flatMap_append, List.drop_eq_getElem_cons h, List.flatMap_cons]

set_option maxHeartbeats 8000000 in
/-- Sweep: what is not marked goes. -/
theorem lSweep_ok (all : Sp) (p b g : Nat) (l0 : List Nat) (T F : List Sp) (ms : Nat → Bool) (top : Int) (vt vf : Value) (w : World) (h : Lo w p b g l0 T F top vt vf) (hp : Par w) (hl : LosS all l0 T F ms []) (hT : T.length ≤ 1000) :
    Calls Tryd.prog 8 #[.pointer (some ⟨p, 0, none⟩)] w fun e w' => ∃ vg, e = .returned (.tuple #[vg, .int .i64 0]) ∧ Sl w' w'.heap.size 2 vg (picks (fun j => !ms j) T T.length).length (spc (picks (fun j => !ms j) T T.length)) ∧
      (∃ l O vt' vf', Lo w' p b g l (picks ms T T.length) O 0 vt' vf' ∧ LosS all l (picks ms T T.length) O (fun _ => false) []) ∧ Only (pgb p g) w w' := by
  obtain ⟨i0, hi0, hz0, hz1, hz2⟩ := info_parts info_span
  have HL := Lib.hid h
  have HP := Lib.hid hp
  have HS := Lib.hid hl
  have hFl := table_len hl.tab
  have HFT := Lib.hid (show Fits T from fun x hx => .of_ok (hl.tab.2.2.1.1 x hx))
  have HFF := Lib.hid (show Fits F from Fits.joined hl.tab.2.2.2.1)
  have HOBS := Lib.hid (show ∀ (k : Nat) (x : Sp), T[k]? = some x → ohE l0 x.1 = 0 ∧ x.1 ≤ 9223372036854775807 from fun k x hx => by
    obtain ⟨q, e1, e2, e3, e4⟩ := hl.few k x hx
    exact ⟨e4, HFT.out.get hx⟩)
  obtain ⟨A, ca, rfl, hac, ham⟩ := h.tab.form
  obtain ⟨A', ca', rfl, hac', ham'⟩ := h.free.form
  unfold maxLen at ham ham'
  clear h hp hl
  go_enter Tryd.func8, Tryd.ntmps8
  go_wp2_with fail
  go_at_call 18
  refine (lNone_lo p b g l0 T F top _ _ _ HL.out).mono ?_
  rintro e w1 ⟨rfl, rfl⟩
  go_wp2_with fail
  go_at_call 28
  refine (lHeads_ok p b g l0 T F top _ _ w HL.out HP.out (by omega) HOBS.out).mono ?_
  rintro e w2 ⟨bh, rfl, hbh, hB, o⟩
  obtain ⟨N, hN⟩ : ∃ N, N = w.heap.size := ⟨_, rfl⟩
  have HD := Lib.hid (show OrdW w N p b g bh w2.heap.size from ⟨hN ▸ HL.out.box.lt, hN ▸ HL.out.ar.head.lt, hN ▸ HL.out.ar.row.lt, hB.lt, hN ▸ o.size, hN ▸ HP.out.lt, hN.symm⟩)
  have H0 := Lib.hid (show SwL all w N p b g bh w2.heap.size T F ms l0 top (.slice A T.length ca) (.slice A' F.length ca') (.slice none 0 0) (.slice none 0 0) 0 l0 w2 from
    ⟨SweepS.start HS.out, ⟨HL.out.keep o, hN ▸ HL.out.tab.below o.whole, hN ▸ HL.out.free.below o.whole, hB, o.pgb, Nat.le_refl _, HP.out.old o⟩, World.ownsRow_nil _ _ _ _, World.ownsRow_nil _ _ _ _, fun j hj => by cases hj⟩)
  have hgb : g ≠ bh := fun e => by have := HL.out.ar.row.lt; omega
  have HGB := Lib.hid hgb
  obtain ⟨c0, c1, c2, c3⟩ := H0.out.base.lo.cells
  clear hbh hB o hN hgb
  go_wp2_with fail
  clear c0 c1 c2 c3
  go_loopw [6, 7, 26] (fun vk vg i wr => ∃ (k : Nat) (l : List Nat), k ≤ T.length ∧ i = .int .i64 k ∧ Hid (SwL all w N p b g bh w2.heap.size T F ms l0 top (.slice A T.length ca) (.slice A' F.length ca') vk vg k l wr)) (fun _ _ i _ => T.length - (intOf i).toNat)
  case atStart => exact ⟨0, l0, Nat.zero_le _, rfl, H0⟩
  case round =>
    clear H0
    obtain ⟨k, l, hk, rfl, H⟩ := hrel
    obtain ⟨Ak, ck, rfl, hck, hmk⟩ := own_len H.out.kept
    obtain ⟨Ag, cg, rfl, hcg, hmg⟩ := own_len H.out.gone
    unfold maxLen at hmk hmg
    by_cases hlt : k < T.length
    · obtain ⟨x, hx⟩ : ∃ x, T[k]? = some x := ⟨_, List.getElem?_eq_getElem hlt⟩
      have HX := Lib.hid hx
      obtain ⟨bb, oo, rfl, hb, d0, d1⟩ := sl_span H.out.base.lo.tab (Below.refl _ _) hx
      obtain ⟨q, hq1, hq2, hq3, hq4⟩ := HS.out.ob k x hx
      have HQ := Lib.hid hq1
      obtain ⟨W1, hW1, HB1⟩ : ∃ W1, wr.alloc (.cells #[.int .i64 x.1, .int .i64 x.2] 25) = W1 ∧ Hid (Only nob wr W1 ∧ Blk W1 wr.heap.size 25 #[.int .i64 x.1, .int .i64 x.2]) := ⟨_, rfl, Lib.hid ⟨(Only.refl nob wr).alloc _, Blk.new _ _ _⟩⟩
      have HW1 := Lib.hid hW1
      have hz1' : W1.heap.size = wr.heap.size + 1 := by rw [← hW1]; simp
      obtain ⟨A5, R5, hA5, e1⟩ := hds_full (l := l0) hx
      have L1 := Lib.hid (H.out.base.lo.keep HB1.out.1)
      have BH1 := Lib.hid (H.out.base.heads.keep HB1.out.1 id)
      have BH6 := BH1.out
      rw [e1] at BH6
      obtain ⟨v0, v1, v2, v3, v4⟩ := Blk.five BH6 hA5 rfl
      obtain ⟨y0, y1, y2, y3, y4, y5⟩ := oh_yes hq2
      have hoq : Ob l q ∧ wd l q = wd l0 q := by
        obtain ⟨q', a1, a2, -⟩ := H.out.sw.los.ob k x hx
        obtain rfl : q = q' := by omega
        have := H.out.sw.was k x (Nat.le_refl _) hx
        rw [hq1, Int.toNat_natCast] at this
        exact ⟨a2, this⟩
      obtain ⟨t0, t1, t2, t3, t4, t5⟩ := oh_yes hoq.1
      have HSET := Lib.hid (show shL l x.1 (ohK l0 x.1) (ohF l0 x.1) (ohR l0 x.1) false 0 = hdL l q false 0 by
        rw [hq1, y1, y2, y3, ← hoq.2, ← t1, ← t2, ← t3]
        exact (sh_hd (m := false) (c := 0) hoq.1 (by omega)).2)
      have hM : ohM l0 x.1 = ms k := by rw [hq1, y4]; exact hq4
      have hx1 := HFT.out.get hx
      unfold Fit at hx1
      simp [hcs] at v0 v1 v2 v3 v4
      rw [hM] at v3
      obtain ⟨K, hK⟩ : ∃ K, K = ohK l0 x.1 := ⟨_, rfl⟩
      obtain ⟨Fd, hF⟩ : ∃ F, F = ohF l0 x.1 := ⟨_, rfl⟩
      obtain ⟨R, hR⟩ : ∃ R, R = ohR l0 x.1 := ⟨_, rfl⟩
      obtain ⟨C, hC⟩ : ∃ C, C = ohC l0 x.1 := ⟨_, rfl⟩
      rw [← hK] at v0 HSET
      rw [← hF] at v1 HSET
      rw [← hR] at v2 HSET
      rw [← hC] at v4
      have hkl : (picks ms T k).length ≤ 1000 := by have := picks_le ms T k hk; omega
      have hgl : (picks (fun j => !ms j) T k).length ≤ 1000 := by have := picks_le (fun j => !ms j) T k hk; omega
      clear BH6 e1 hA5 hx hW1 hq1 hq2 hq3 hq4 y0 y1 y2 y3 y4 y5 hoq t0 t1 t2 t3 t4 t5 hM hK hF hR hC
      obtain ⟨W2, hW2, HB2⟩ : ∃ W2, W1.alloc (.cells #[.int .i64 K, .int .i64 Fd, .int .i64 R, .bool (ms k), .int .i64 C] 23) = W2 ∧ Hid (Only nob wr W2 ∧ Blk W2 wr.heap.size 25 #[.int .i64 x.1, .int .i64 x.2] ∧ Blk W2 (wr.heap.size + 1) 23 #[.int .i64 K, .int .i64 Fd, .int .i64 R, .bool (ms k), .int .i64 C]) :=
        ⟨_, rfl, Lib.hid ⟨HB1.out.1.alloc _, HB1.out.2.alloc _, Blk.newAt _ _ _ _ hz1'⟩⟩
      have HW2 := Lib.hid hW2
      have B2 := Lib.hid (H.out.base.old HD.out HB2.out.1)
      have kp2 := Lib.hid (own_only H.out.kept HB2.out.1 (fun _ _ => id))
      have gn2 := Lib.hid (own_only H.out.gone HB2.out.1 (fun _ _ => id))
      have hb2 := B2.out.base
      clear hW2
      go_upto_region 10 with fail
      rw [HW1.out]
      go_upto_region 11 with fail
      rw [HW2.out]
      clear v0 v1 v2 v3 v4 d0 d1
      have s0 := HB2.out.2.1.cell 0
      have s1 := HB2.out.2.1.cell 1
      simp at s0 s1
      obtain ⟨c0, c1, c2, c3, c4⟩ := cells5 HB2.out.2.2
      obtain ⟨f0, f1, f2, f3, f4⟩ := frees5 HB2.out.2.2
      rcases hms : ms k with _ | _
      · rw [hms] at c3
        obtain ⟨n, hn⟩ : ∃ n, n = (picks (fun j => !ms j) T k).length := ⟨_, rfl⟩
        obtain ⟨P, hP⟩ : ∃ P, P = picks (fun j => !ms j) T k := ⟨_, rfl⟩
        have HN := Lib.hid hn
        have HPP := Lib.hid hP
        rw [← hn] at hgl hcg gn2 ⊢
        rw [← hP] at gn2
        clear hn hP
        go_wp2_with (with_reducible refine wpList_append_sl (o := ⟨some 41, _, _, _, _, _⟩) _ rfl (.tmp 38) (.tmp 40) _ rfl w2.heap.size 25 i0 _ 2 16 Tryd.underlying31 hi0 hz0 hz1 hz2 rfl (by decide) (.slice Ag n cg) n (spc P) rfl ?c1 (W2.heap.size + 1) (.slice (some ⟨W2.heap.size, 0, none⟩) 1 1) 1 (spc [x]) rfl ?c6 (spc_one _) ?c2 ?c3 ?c4 ?c5)
        case c1 => exact own_only gn2.out ((Only.refl nob W2).alloc _) (fun _ _ h => h)
        case c6 => exact one_span13 W2 x
        case c2 => have := maxLen_big; omega
        case c3 => omega
        case c4 => simp; omega
        case c5 =>
          intro v6 w6 H6 o6 hne
          obtain rfl := HPP.out
          obtain rfl := HN.out
          have HL6 := Lib.hid (H.out.no HD.out HX.out hms HB2.out.1 H6.out o6 hne)
          clear H6 o6 hne s0 s1 c0 c1 c2 c3 c4 f0 f1 f2 f3 f4
          go_wp2
          go_roundw
          case rel => exact ⟨k + 1, l, by omega, by go_num, HL6⟩
          case measure => exact meas13 hlt _ (by first | rfl | go_num)
      · rw [hms] at c3
        obtain ⟨n, hn⟩ : ∃ n, n = (picks ms T k).length := ⟨_, rfl⟩
        obtain ⟨P, hP⟩ : ∃ P, P = picks ms T k := ⟨_, rfl⟩
        have HN := Lib.hid hn
        have HPP := Lib.hid hP
        rw [← hn] at hkl hck kp2 ⊢
        rw [← hP] at kp2
        obtain ⟨W3, hW3, HB3⟩ : ∃ W3, (W2.setCell ⟨wr.heap.size + 1, 3, none⟩ (.bool false)).setCell ⟨wr.heap.size + 1, 4, none⟩ (.int .i64 0) = W3 ∧ Hid (Only nob wr W3 ∧ Blk W3 wr.heap.size 25 #[.int .i64 x.1, .int .i64 x.2] ∧ Blk W3 (wr.heap.size + 1) 23 #[.int .i64 K, .int .i64 Fd, .int .i64 R, .bool false, .int .i64 0]) :=
          ⟨_, rfl, Lib.hid ⟨(HB2.out.1.setCell (p := ⟨wr.heap.size + 1, 3, none⟩) (fun hlt => absurd hlt (by show ¬ wr.heap.size + 1 < wr.heap.size; omega)) _).setCell (p := ⟨wr.heap.size + 1, 4, none⟩) (fun hlt => absurd hlt (by show ¬ wr.heap.size + 1 < wr.heap.size; omega)) _,
            (HB2.out.2.1.other (p := ⟨wr.heap.size + 1, 3, none⟩) (by show wr.heap.size + 1 ≠ wr.heap.size; omega) _).other (p := ⟨wr.heap.size + 1, 4, none⟩) (by show wr.heap.size + 1 ≠ wr.heap.size; omega) _, by simpa using (HB2.out.2.2.put 3 (.bool false)).put 4 (.int .i64 0)⟩⟩
        have HW3 := Lib.hid hW3
        have B3 := Lib.hid (H.out.base.old HD.out HB3.out.1)
        have kp3 := Lib.hid (show W3.ownsRow w2.heap.size 25 2 (.slice Ak n ck) n (spc P) from by rw [hn, hP]; exact own_only H.out.kept HB3.out.1 (fun _ _ => id))
        have hb3 := B3.out.base
        clear hn hP hW3
        go_upto_region 14 with fail
        rw [HW3.out]
        clear s0 s1 c0 c1 c2 c3 c4 f0 f1 f2 f3 f4
        have s0 := HB3.out.2.1.cell 0
        simp at s0
        obtain ⟨c0, c1, c2, c3, c4⟩ := cells5 HB3.out.2.2
        go_wp2_with fail
        go_at_call 25
        refine (lSet_any p b g l T F top _ _ x.1 K Fd R false 0 _ B3.out.lo B3.out.par hx1).mono ?_
        rw [HSET.out]
        rintro e w5 ⟨⟨v5, rfl⟩, hL, o⟩
        have hgw : g < wr.heap.size := by have h1 := HD.out.g; have h2 := HD.out.NB; have h3 := H.out.base.base; omega
        have L5 := Lib.hid hL
        have O5 := Lib.hid o
        have S5 := HB3.out.2.1.keep o (fun e => by unfold isb at e; omega)
        have kp5 := Lib.hid (own_only kp3.out o (fun j hj e => by have h1 := (own_lt kp3.out hj).1; have h2 := HD.out.g; have h3 := HD.out.NB; unfold isb at e; omega))
        have hb5 : w2.heap.size ≤ w5.heap.size := Nat.le_trans hb3 o.size
        clear s0 c0 c1 c2 c3 c4 hL o
        have s0 := S5.cell 0
        have s1 := S5.cell 1
        simp at s0 s1
        clear S5
        go_wp2_with (with_reducible refine wpList_append_sl (o := ⟨some 52, _, _, _, _, _⟩) _ rfl (.tmp 49) (.tmp 51) _ rfl w2.heap.size 25 i0 _ 2 16 Tryd.underlying31 hi0 hz0 hz1 hz2 rfl (by decide) (.slice Ak n ck) n (spc P) rfl ?e1 (w5.heap.size + 1) (.slice (some ⟨w5.heap.size, 0, none⟩) 1 1) 1 (spc [x]) rfl ?e6 (spc_one _) ?e2 ?e3 ?e4 ?e5)
        case e1 => exact own_only kp5.out ((Only.refl nob w5).alloc _) (fun _ _ h => h)
        case e6 => exact one_span13 w5 x
        case e2 => have := maxLen_big; omega
        case e3 => omega
        case e4 => simp; omega
        case e5 =>
          intro v6 w6 H6 o6 hne
          obtain rfl := HPP.out
          obtain rfl := HN.out
          have HL6 := Lib.hid (H.out.yes HD.out HX.out HQ.out hms HGB.out HB3.out.1 L5.out O5.out H6.out o6 hne)
          clear H6 o6 hne s0 s1
          go_wp2
          go_roundw
          case rel => exact ⟨k + 1, _, by omega, by go_num, HL6⟩
          case measure => exact meas13 hlt _ (by first | rfl | go_num)
    · obtain rfl : k = T.length := by omega
      have hpB : p < w2.heap.size := Nat.lt_of_lt_of_le HD.out.p HD.out.NB
      have hkl : (picks ms T T.length).length ≤ 1000 := by have := picks_le ms T T.length (Nat.le_refl _); omega
      have hgl : (picks (fun j => !ms j) T T.length).length ≤ 1000 := by have := picks_le (fun j => !ms j) T T.length (Nat.le_refl _); omega
      have HSW := Lib.hid H.out.sw
      have HLB := Lib.hid H.out.base
      have HKP := Lib.hid H.out.kept
      have HGN := Lib.hid H.out.gone
      obtain ⟨P, hP⟩ : ∃ P, P = picks ms T T.length := ⟨_, rfl⟩
      obtain ⟨G, hG⟩ : ∃ G, G = picks (fun j => !ms j) T T.length := ⟨_, rfl⟩
      have HPP := Lib.hid hP
      have HGG := Lib.hid hG
      rw [← hP] at HKP hkl hck ⊢
      rw [← hG] at HGN hgl hcg ⊢
      have HGF := Lib.hid (show Fits G from fun x hx => by rw [hG] at hx; exact HFT.out x (picks_fits _ x hx))
      clear hP hG H
      have hgs : ∀ j, (Value.slice Ag G.length cg).ownBlock = some j → p ≠ j := fun j hj e => by have := (own_lt HGN.out hj).1; omega
      have hks : ∀ j, (Value.slice Ak P.length ck).ownBlock = some j → p ≠ j := fun j hj e => by have := (own_lt HKP.out hj).1; omega
      obtain ⟨W2, hW2, HB2⟩ : ∃ W2, (wr.setCell ⟨p, 1, none⟩ (.slice Ak P.length ck)).setCell ⟨p, 3, none⟩ (.int .i64 0) = W2 ∧ Hid (Lo W2 p b g l P F 0 (.slice Ak P.length ck) (.slice A' F.length ca') ∧ Only (isb p) wr W2) :=
        ⟨_, rfl, Lib.hid ⟨(HLB.out.lo.setTab (Sl.of_own HKP.out HKP.out.1)).setTop 0, (only_set wr p 1 _).trans (only_set _ p 3 _)⟩⟩
      have HW2 := Lib.hid hW2
      have GN2 := Lib.hid (own_only HGN.out HB2.out.2 fun j hj e => hgs j hj (by unfold isb at e; exact e.symm))
      have O2 := Lib.hid (HLB.out.only.trans (HB2.out.2.mono (G := pgb p g) fun _ _ h => .inl h))
      obtain ⟨W3, hW3, HB3⟩ : ∃ W3, W2.alloc (.cells #[.slice A' F.length ca', .slice Ag G.length cg] 31) = W3 ∧ Hid (Only nob W2 W3 ∧ Blk W3 W2.heap.size 31 #[.slice A' F.length ca', .slice Ag G.length cg]) := ⟨_, rfl, Lib.hid ⟨(Only.refl nob W2).alloc _, Blk.new _ _ _⟩⟩
      have HW3 := Lib.hid hW3
      have L3 := Lib.hid (HB2.out.1.keep HB3.out.1)
      have GN3 := Lib.hid (own_only GN2.out HB3.out.1 (fun _ _ => id))
      have SG3 := Lib.hid (Sl.of_own GN3.out GN3.out.1)
      obtain ⟨c0, c1, c2, c3⟩ := HLB.out.lo.cells
      have f1 := HLB.out.lo.box.free 1
      have f3 := HLB.out.lo.box.free 3
      clear hW2 hW3
      go_upto_region 18 with fail
      rw [HW2.out]
      clear c0 c1 c2 c3 f1 f3
      obtain ⟨c0, c1, c2, c3⟩ := HB2.out.1.cells
      go_wp2_with fail
      rw [HW3.out]
      go_at_call 30
      refine (concat_two (.slice A' F.length ca') (.slice Ag G.length cg) F G W3.heap.size W2.heap.size W3 HB3.out.2 L3.out.free SG3.out (Nat.le_refl _) (by omega) (by omega)).mono ?_
      rintro e w4 ⟨v4, rfl, own4, o⟩
      have S4 := Lib.hid (Sl.of_own own4 own4.1)
      have L4 := Lib.hid (L3.out.keep o)
      have GN4 := Lib.hid (own_only GN3.out o (fun _ _ => id))
      have O4 := Lib.hid (O2.out.trans ((HB3.out.1.trans o).pgb (p := p) (g := g)))
      obtain ⟨A4, c4, rfl, -, -⟩ := own_len own4
      have hl4 : (F ++ G).length ≤ 40000 := by simp; omega
      have HF4 := Lib.hid (fits_app HFF.out HGF.out)
      obtain ⟨m, hm⟩ : ∃ m, m = F ++ G := ⟨_, rfl⟩
      rw [← hm] at S4 hl4 HF4 ⊢
      have HM4 := Lib.hid hm
      clear own4 o hm c0 c1 c2 c3
      go_wp2_with fail
      go_at_call 29
      refine (spJoin _ m w4.heap.size w4 S4.out (Nat.le_refl _) hl4 HF4.out).mono ?_
      rintro e w5 ⟨v5, O, rfl, hj, hc, hsl, o⟩
      have HJ := Lib.hid (And.intro hj hc)
      obtain ⟨A5, c5, rfl, -, -⟩ := hsl.form
      have L5 := Lib.hid (L4.out.keep o)
      have L6 := Lib.hid (L5.out.setFree hsl)
      have GN5 := Lib.hid (own_only GN4.out o (fun _ _ => id))
      have O5 := Lib.hid (O4.out.trans (o.pgb (p := p) (g := g)))
      have GN6 := Lib.hid (own_only GN5.out (only_set w5 p 2 (.slice A5 O.length c5)) fun j hj e => hgs j hj (by unfold isb at e; exact e.symm))
      have f2 := L5.out.box.free 2
      have k2 := L5.out.cells.2.2.1
      clear hj hc hsl o
      go_wp2
      go_ret2
      rw [← HGG.out, ← HPP.out]
      refine ⟨_, rfl, Sl.of_own GN6.out GN6.out.1, ⟨l, O, _, _, L6.out, ?_⟩, O5.out.pgb_set 2 _⟩
      rw [HPP.out]
      refine HSW.out.all (sweep_tab HS.out.tab HJ.out.1 fun q => ?_)
      rw [HJ.out.2 q, HM4.out, HGG.out]
end Go.Proofs.YtoeccbbjncgmlaaDoor

/- Contracts of package los: New of an empty table, and nobody's part. -/
namespace Go.Proofs.YtoeccbbjncgmlaaDoor
open Go.RowKit
set_option maxRecDepth 100000

set_option maxHeartbeats 400000 in
theorem indexFunc_nil (f : Value) (w : World) : Calls Tryd.prog 45 #[.slice none 0 0, f] w fun e w' => e = .returned (.int .i64 (-1)) ∧ w = w' := by
  go_enter Tryd.func45, Tryd.ntmps45
  go_wp2_with fail
  go_loopw [8] (fun i wr => i = .int .i64 0 ∧ wr = w) (fun _ _ => 0)
  case atStart => exact ⟨rfl, rfl⟩
  case round =>
    obtain ⟨rfl, rfl⟩ := hrel
    go_wp2
    go_ret
    exact ⟨rfl, rfl⟩
set_option maxHeartbeats 400000 in
theorem containsFunc_nil (f : Value) (w : World) : Calls Tryd.prog 36 #[.slice none 0 0, f] w fun e w' => e = .returned (.bool false) ∧ w = w' := by
  go_enter Tryd.func36, Tryd.ntmps36
  go_wp2_with fail
  go_at_call 45
  refine (indexFunc_nil _ _).mono ?_
  rintro e w1 ⟨rfl, rfl⟩
  go_wp2
  go_ret
  exact ⟨rfl, rfl⟩
set_option maxHeartbeats 400000 in
theorem areObjects_nil (b : Nat) (w : World) : Calls Tryd.prog 16 #[.pointer (some ⟨b, 0, none⟩), .slice none 0 0] w fun e w' => e = .returned (.bool true) ∧ Only nob w w' := by
  go_enter Tryd.func16, Tryd.ntmps16
  go_wp2_with fail
  go_at_call 36
  refine (containsFunc_nil _ _).mono ?_
  rintro e w1 ⟨rfl, rfl⟩
  go_wp2
  go_ret
  exact ⟨rfl, (Only.refl nob w).alloc _⟩

set_option maxHeartbeats 2000000 in
/-- A part that has nothing yet. -/
theorem lNew_ok (b g : Nat) (l : List Nat) (all : Sp) (v : Value) (w : World) (h : Ar w b g l) (ha : all.ok) (hl : all.1 + all.2 ≤ (l.length : Int)) (hv : Sl w w.heap.size 2 v 1 (spc [all])) :
    Calls Tryd.prog 4 #[.pointer (some ⟨b, 0, none⟩), .agg #[.int .i64 all.1, .int .i64 all.2], .slice none 0 0, v] w fun e w' => ∃ p vt vf, e = .returned (.tuple #[.pointer (some ⟨p, 0, none⟩), .int .i64 0]) ∧ w.heap.size ≤ p ∧ Lo w' p b g l [] [all] 0 vt vf ∧ Only nob w w' := by
  have hokA := ha
  have hb : 0 ≤ all.1 ∧ 1 ≤ all.2 ∧ all.1 + all.2 ≤ 1099511627776 := by unfold Sp.ok most at ha; omega
  obtain ⟨hb0, hb1, hb2⟩ := hb
  have hfew := h.few
  have hp0 : 0 < l.length := by omega
  have HA := Lib.hid h
  have HV := Lib.hid hv
  have HFA := Lib.hid (Fit.of_ok hokA)
  have HT := Lib.hid (show decide (TableP all [] [all]) = true from decide_eq_true (los_new (l := l) hokA hl).tab)
  have HOK := Lib.hid (show decide all.ok = true from decide_eq_true hokA)
  obtain ⟨W, hW, HB⟩ : ∃ W, w.alloc (.cells #[.int .i64 all.1, .int .i64 all.2] 25) = W ∧ Hid (Only nob w W ∧ Blk W w.heap.size 25 #[.int .i64 all.1, .int .i64 all.2]) := ⟨_, rfl, Lib.hid ⟨(Only.refl nob w).alloc _, Blk.new _ _ _⟩⟩
  have HW := Lib.hid hW
  have A2 := Lib.hid (h.keep HB.out.1 id id)
  have s0 := HB.out.2.cell 0
  have s1 := HB.out.2.cell 1
  simp at s0 s1
  have HM := Lib.hid (show ∀ w' : World, Calls Tryd.prog 13 #[.agg #[.int .i64 all.1, .int .i64 all.2]] w' fun e w'' => e = .returned (.bool true) ∧ Only nob w' w'' from fun w' => by
    have := spMay all HFA.out w'
    rwa [HOK.out] at this)
  have HLN := Lib.hid (show ∀ w' : World, Only nob W w' → Calls Tryd.prog 14 #[.pointer (some ⟨b, 0, none⟩)] w' fun e w'' => e = .returned (.int .i64 (l.length : Nat)) ∧ Only nob w' w'' from fun w' o =>
    (len_ar b g l w' (A2.out.keep o id id)).mono fun e w'' ⟨h1, h2⟩ => ⟨h1, h2 ▸ Only.refl _ _⟩)
  have hsum : IntKind.i64.wrap (all.1 + all.2) = all.1 + all.2 := by rw [IntKind.wrap_i64]; omega
  have hgt : decide ((l.length : Int) < all.1 + all.2) = false := decide_eq_false (by omega)
  have mixed := mixedLos
  clear h hv ha hokA hW
  go_enter Tryd.func4, Tryd.ntmps4
  go_wp2_with fail
  rw [HW.out]
  go_at_call 12
  refine (read_ar b g l 0 W A2.out hp0).mono ?_
  rintro e w1 ⟨rfl, rfl⟩
  go_wp2_with fail
  have g0 := wat_cell s0
  have g1 := wat_cell s1
  refine wp_region_only mixed (by kernel_rfl) ?_
  repeat (quiet_step (first
    | (go_at_call 13; with_reducible refine wat_call (HM.out _))
    | (go_at_call 14; with_reducible refine wat_call (HLN.out _ (only_wat _ _ _)))))
  refine wpQuiet_nil ?_
  rintro w' ⟨⟨nq, osq⟩, rfl⟩
  obtain ⟨W3, hW3, O3⟩ := wat_name W nq osq
  rw [hW3]
  have O4 := Lib.hid (HB.out.1.trans O3.out)
  have B4 := HB.out.2.keep O3.out id
  clear hW3 s0 s1 g0 g1
  have s0 := B4.cell 0
  have s1 := B4.cell 1
  simp at s0 s1
  clear B4
  go_wp2_with fail
  go_at_call 15
  have SV := HV.out.below O4.out.whole
  refine (spTable all (.slice none 0 0) _ [] [all] w.heap.size W3 Sl.nil_ SV O4.out.size (by simp) (fun _ h => by cases h) HFA.out).mono ?_
  rw [HT.out]
  rintro e w5 ⟨rfl, o⟩
  have O5 := Lib.hid (O4.out.trans o)
  clear o SV s0 s1
  go_wp2_with fail
  go_at_call 16
  refine (areObjects_nil _ _).mono ?_
  rintro e w6 ⟨rfl, o⟩
  have O6 := Lib.hid (O5.out.trans o)
  clear o
  go_wp2_with fail
  go_at_call 17
  refine (clone_spans _ [] w6.heap.size w6 Sl.nil_ (Nat.le_refl _) (by simp)).mono ?_
  rintro e w7 ⟨v7, rfl, own7, o⟩
  have O7 := Lib.hid (O6.out.trans o)
  have S7 := Lib.hid (Sl.of_own own7 own7.1)
  clear own7 o
  go_wp2_with fail
  go_at_call 17
  refine (clone_spans _ [all] w.heap.size w7 (HV.out.below O7.out.whole) O7.out.size (by simp)).mono ?_
  rintro e w8 ⟨v8, rfl, own8, o⟩
  have O8 := Lib.hid (O7.out.trans o)
  have S8 := Lib.hid (Sl.of_own own8 own8.1)
  have S9 := Lib.hid ((S7.out.below o.whole).more o.size)
  have A8 := Lib.hid (HA.out.keep O8.out id id)
  obtain ⟨A1, q1, rfl, -, -⟩ := S9.out.form
  obtain ⟨A3, q3, rfl, -, -⟩ := S8.out.form
  clear own8 o
  go_wp2
  go_ret2
  have hz : ∀ o : Obj, w8.heap.size ≤ (w8.alloc o).heap.size := fun o => by simp
  exact ⟨_, _, _, rfl, O8.out.size, ⟨A8.out.keep ((Only.refl nob w8).alloc _) id id, Blk.new _ _ _, (S9.out.below ((Only.refl nob w8).alloc _).whole).more (hz _), (S8.out.below ((Only.refl nob w8).alloc _).whole).more (hz _)⟩, O8.out.alloc _⟩

set_option maxHeartbeats 400000 in
/-- There is no part of nobody's arena. -/
theorem lNew_none (v : Value) (all : Sp) (u x : Value) (w : World) (hv : ∀ o : Obj, NoAr (w.alloc o) v) :
    Calls Tryd.prog 4 #[v, .agg #[.int .i64 all.1, .int .i64 all.2], u, x] w fun e w' => e = .returned (.tuple #[.pointer none, .int .i64 10]) ∧ Only nob w w' := by
  have HN := Lib.hid (hv (.cells #[.int .i64 all.1, .int .i64 all.2] 25))
  have HO := Lib.hid ((Only.refl nob w).alloc (.cells #[.int .i64 all.1, .int .i64 all.2] 25))
  clear hv
  go_enter Tryd.func4, Tryd.ntmps4
  go_wp2_with fail
  go_at_call 12
  refine (read_none v 0 _ HN.out).mono ?_
  rintro e w1 ⟨rfl, rfl⟩
  go_wp2
  go_ret2
  exact ⟨rfl, HO.out⟩

/-- Nobody's part. -/
def NoLo (w : World) (v : Value) : Prop := v = .pointer none ∨ ∃ p, v = .pointer (some ⟨p, 0, none⟩) ∧ Blk w p 33 #[.pointer none, .slice none 0 0, .slice none 0 0, .int .i64 0]
theorem NoLo.keep {w w' : World} {v : Value} (h : NoLo w v) (o : Only nob w w') : NoLo w' v := h.imp id fun ⟨p, h1, h2⟩ => ⟨p, h1, h2.keep o id⟩

set_option maxHeartbeats 400000 in
theorem lNone_no (v : Value) (w : World) (h : NoLo w v) : Calls Tryd.prog 18 #[v] w fun e w' => e = .returned (.bool true) ∧ w = w' := by
  rcases h with rfl | ⟨p, rfl, h⟩
  · go_enter Tryd.func18, Tryd.ntmps18
    go_wp2
    go_ret
    exact ⟨rfl, rfl⟩
  · have h0 := h.cell 0
    simp at h0
    clear h
    go_enter Tryd.func18, Tryd.ntmps18
    go_wp2
    go_ret
    exact ⟨rfl, rfl⟩
set_option maxHeartbeats 400000 in
theorem lPut_none (v : Value) (k f r : Int) (m : Bool) (c : Int) (w : World) (h : NoLo w v) :
    Calls Tryd.prog 5 #[v, .agg #[.int .i64 k, .int .i64 f, .int .i64 r, .bool m, .int .i64 c]] w fun e w' => e = .returned (.tuple #[.int .i64 0, .int .i64 10]) ∧ Only nob w w' := by
  obtain ⟨W, hW, HB⟩ := box_head w k f r m c
  have HW := Lib.hid hW
  have HN := Lib.hid (h.keep HB.out.1)
  clear h hW
  go_enter Tryd.func5, Tryd.ntmps5
  go_wp2_with fail
  rw [HW.out]
  go_at_call 18
  refine (lNone_no v _ HN.out).mono ?_
  rintro e w1 ⟨rfl, rfl⟩
  go_wp2
  go_ret2
  exact ⟨rfl, HB.out.1⟩
set_option maxHeartbeats 400000 in
theorem lMark_none (v : Value) (a : Int) (w : World) (h : NoLo w v) :
    Calls Tryd.prog 6 #[v, .int .i64 a] w fun e w' => e = .returned (.tuple #[.bool false, .int .i64 10]) ∧ w = w' := by
  have HN := Lib.hid h
  clear h
  go_enter Tryd.func6, Tryd.ntmps6
  go_wp2_with fail
  go_at_call 18
  refine (lNone_no v _ HN.out).mono ?_
  rintro e w1 ⟨rfl, rfl⟩
  go_wp2
  go_ret2
  exact ⟨rfl, rfl⟩
set_option maxHeartbeats 400000 in
theorem lPop_noLo (v : Value) (w : World) (h : NoLo w v) : Calls Tryd.prog 7 #[v] w fun e w' => e = .returned (.tuple #[.int .i64 0, .bool false]) ∧ w = w' := by
  have HN := Lib.hid h
  clear h
  go_enter Tryd.func7, Tryd.ntmps7
  go_wp2_with fail
  go_at_call 18
  refine (lNone_no v _ HN.out).mono ?_
  rintro e w1 ⟨rfl, rfl⟩
  go_wp2
  go_ret2
  exact ⟨rfl, rfl⟩
set_option maxHeartbeats 400000 in
theorem lSweep_none (v : Value) (w : World) (h : NoLo w v) : Calls Tryd.prog 8 #[v] w fun e w' => e = .returned (.tuple #[.slice none 0 0, .int .i64 10]) ∧ w = w' := by
  have HN := Lib.hid h
  clear h
  go_enter Tryd.func8, Tryd.ntmps8
  go_wp2_with fail
  go_at_call 18
  refine (lNone_no v _ HN.out).mono ?_
  rintro e w1 ⟨rfl, rfl⟩
  go_wp2
  go_ret2
  exact ⟨rfl, rfl⟩
set_option maxHeartbeats 400000 in
theorem lTable_none (v : Value) (w : World) (h : NoLo w v) : Calls Tryd.prog 9 #[v] w fun e w' => e = .returned (.slice none 0 0) ∧ w = w' := by
  have HN := Lib.hid h
  clear h
  go_enter Tryd.func9, Tryd.ntmps9
  go_wp2_with fail
  go_at_call 18
  refine (lNone_no v _ HN.out).mono ?_
  rintro e w1 ⟨rfl, rfl⟩
  go_wp2
  go_ret
  exact ⟨rfl, rfl⟩
set_option maxHeartbeats 400000 in
theorem lFree_none (v : Value) (w : World) (h : NoLo w v) : Calls Tryd.prog 10 #[v] w fun e w' => e = .returned (.slice none 0 0) ∧ w = w' := by
  have HN := Lib.hid h
  clear h
  go_enter Tryd.func10, Tryd.ntmps10
  go_wp2_with fail
  go_at_call 18
  refine (lNone_no v _ HN.out).mono ?_
  rintro e w1 ⟨rfl, rfl⟩
  go_wp2
  go_ret
  exact ⟨rfl, rfl⟩
end Go.Proofs.YtoeccbbjncgmlaaDoor
