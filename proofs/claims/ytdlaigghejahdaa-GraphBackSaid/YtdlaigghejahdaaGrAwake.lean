/- Chapter 16's example comes to what the chapter says. (The last region printed by wip/tools/gen_awake16.py.) -/
import Derived.Test.YtdlaigghejahdaaGrAwA
import Derived.Test.YtdlaigghejahdaaGrCopy
import Derived.Deep.RegionHeld3
namespace Go.Proofs.Ytdlaigghejahdaa
open Go.RowKit Go.Lib
set_option maxRecDepth 100000
set_option linter.unusedSimpArgs false
set_option linter.unusedVariables false

theorem lit_ints16 (w : World) (cs : Array Value) (l : List Int) (h : cs.toList = i64s l) (hn : cs.size = l.length) (hm : l.length ≤ 1000) : ∃ W, w.alloc (.cells cs 3) = W ∧ Only nob w W ∧ Sl W W.heap.size 1 (.slice (some ⟨w.heap.size, 0, none⟩) l.length l.length) l.length (i64s l) := by
  refine ⟨_, rfl, (Only.refl nob w).alloc _, ?_⟩
  have := Sl.of_blk (size := 1) (n := l.length) (c := l.length) (Blk.new w 3 cs) (by omega) (Nat.le_refl _) (by unfold maxLen; omega)
  rw [h] at this
  exact this
theorem box_graph2 (w : World) (vn vr : Value) : ∃ W, w.alloc (.cells #[vn, vr] 25) = W ∧ Hid (Only nob w W ∧ Blk W w.heap.size 25 #[vn, vr]) := ⟨_, rfl, Lib.hid ⟨(Only.refl nob w).alloc _, Blk.new w _ _⟩⟩
set_option maxHeartbeats 6000000 in
theorem awake16 (w : World) : Calls Try.prog 7 #[] w fun e w' => e = .returned (.bool true) ∧ Only nob w w' := by
  obtain ⟨V, hV, HV⟩ := laidA w
  have HVE := Lib.hid hV
  have RV := Lib.hid (show RdG V V.heap.size gA (.slice (some ⟨w.heap.size + 1 + 1 + 1, 0, none⟩) 2 2) (.slice (some ⟨w.heap.size + 1 + 1 + 1 + 1, 0, none⟩) 1 1) [(.slice (some ⟨w.heap.size, 0, none⟩) 1 1, .slice none 0 0), (.slice (some ⟨w.heap.size + 1, 0, none⟩) 1 1, .slice (some ⟨w.heap.size + 1 + 1, 0, none⟩) 1 1)] from HV.out.2.1)
  have BV := Lib.hid (show Blk V (w.heap.size + 1 + 1 + 1 + 1 + 1) 25 #[.slice (some ⟨w.heap.size + 1 + 1 + 1, 0, none⟩) 2 2, .slice (some ⟨w.heap.size + 1 + 1 + 1 + 1, 0, none⟩) 1 1] from HV.out.2.2)
  have OV := Lib.hid HV.out.1
  have g0 : V.cell? ⟨w.heap.size + 1 + 1 + 1 + 1 + 1, 0, none⟩ = some (.slice (some ⟨w.heap.size + 1 + 1 + 1, 0, none⟩) 2 2) := BV.out.cell 0
  have g1 : V.cell? ⟨w.heap.size + 1 + 1 + 1 + 1 + 1, 1, none⟩ = some (.slice (some ⟨w.heap.size + 1 + 1 + 1 + 1, 0, none⟩) 1 1) := BV.out.cell 1
  clear hV HV
  go_enter Try.func7, Try.ntmps7
  go_upto_region 2 with fail
  rw [HVE.out]
  obtain ⟨L1, hL1, oL1, sL1⟩ := lit_ints16 V #[.int .i64 1, .int .i64 0] [1, 0] rfl rfl (by decide)
  have HL1 := Lib.hid hL1
  have OL1 := Lib.hid (show Only nob V L1 from (Only.refl nob V).trans oL1)
  have HCL1 := Lib.hid (renumber_any16 gA [1, 0] _ _ _ _ L1.heap.size L1 ((RV.out.only OL1.out (Nat.le_refl _)).more OL1.out.size) sL1 (Nat.le_refl _) gA_fit (by decide) (by decide) (by decide) (by intro x hx; simp at hx; omega))
  rw [gA_rn.1, gA_rn.2] at HCL1
  clear hL1 oL1 sL1
  go_wp2_with (with_reducible rw [HL1.out])
  go_at_call 18
  refine HCL1.out.mono ?_
  rintro e w2 ⟨un1, ur1, js1, rfl, rd1, ow2⟩
  have RD1 := Lib.hid rd1
  obtain ⟨An1, cn1, rfl, -⟩ := (show Sl w2 w2.heap.size 3 un1 2 _ from rd1.nodes).form
  obtain ⟨Ar1, cr1, rfl, -⟩ := (show Sl w2 w2.heap.size 2 ur1 1 _ from rd1.roots).form
  obtain ⟨X2, hX2, HBX2⟩ := box_graph2 w2 (.slice An1 2 cn1) (.slice Ar1 1 cr1)
  have HX2 := Lib.hid hX2
  have OX2 := Lib.hid (show Only nob V X2 from (OL1.out.trans ow2).trans HBX2.out.1)
  have g0 : X2.cell? ⟨w.heap.size + 1 + 1 + 1 + 1 + 1, 0, none⟩ = some (.slice (some ⟨w.heap.size + 1 + 1 + 1, 0, none⟩) 2 2) := OX2.out.keeps (BV.out.cell 0)
  have g1 : X2.cell? ⟨w.heap.size + 1 + 1 + 1 + 1 + 1, 1, none⟩ = some (.slice (some ⟨w.heap.size + 1 + 1 + 1 + 1, 0, none⟩) 1 1) := OX2.out.keeps (BV.out.cell 1)
  clear rd1 ow2 hX2
  go_upto_region 3 with fail
  rw [HX2.out]
  obtain ⟨L3, hL3, oL3, sL3⟩ := lit_ints16 X2 #[.int .i64 1] [1] rfl rfl (by decide)
  have HL3 := Lib.hid hL3
  have OL3 := Lib.hid (show Only nob V L3 from (OX2.out).trans oL3)
  have HCL3 := Lib.hid (renumber_any16 gA [1] _ _ _ _ L3.heap.size L3 ((RV.out.only OL3.out (Nat.le_refl _)).more OL3.out.size) sL3 (Nat.le_refl _) gA_fit (by decide) (by decide) (by decide) (by intro x hx; simp at hx; omega))
  rw [gA_rn2.1, gA_rn2.2] at HCL3
  have oL3x := oL3
  clear hL3 oL3 sL3
  go_wp2_with (with_reducible rw [HL3.out])
  go_at_call 18
  refine HCL3.out.mono ?_
  rintro e w4 ⟨un3, ur3, js3, rfl, rd3, ow4⟩
  have RD3 := Lib.hid rd3
  have ow4x := ow4
  obtain ⟨An3, cn3, rfl, -⟩ := (show Sl w4 w4.heap.size 3 un3 0 _ from rd3.nodes).form
  obtain ⟨Ar3, cr3, rfl, -⟩ := (show Sl w4 w4.heap.size 2 ur3 0 _ from rd3.roots).form
  obtain ⟨X4, hX4, HBX4⟩ := box_graph2 w4 (.slice An3 0 cn3) (.slice Ar3 0 cr3)
  have HX4 := Lib.hid hX4
  have OX4 := Lib.hid (show Only nob V X4 from (OL3.out.trans ow4).trans HBX4.out.1)
  have OT4 := Lib.hid (show Only nob X2 X4 from (oL3x.trans ow4x).trans HBX4.out.1)
  have g0 : X4.cell? ⟨w.heap.size + 1 + 1 + 1 + 1 + 1, 0, none⟩ = some (.slice (some ⟨w.heap.size + 1 + 1 + 1, 0, none⟩) 2 2) := OX4.out.keeps (BV.out.cell 0)
  have g1 : X4.cell? ⟨w.heap.size + 1 + 1 + 1 + 1 + 1, 1, none⟩ = some (.slice (some ⟨w.heap.size + 1 + 1 + 1 + 1, 0, none⟩) 1 1) := OX4.out.keeps (BV.out.cell 1)
  clear rd3 ow4 hX4 ow4x oL3x
  go_upto_region 4 with fail
  rw [HX4.out]
  obtain ⟨L5, hL5, oL5, sL5⟩ := lit_ints16 X4 #[.int .i64 1, .int .i64 1] [1, 1] rfl rfl (by decide)
  have HL5 := Lib.hid hL5
  have OL5 := Lib.hid (show Only nob V L5 from (OX4.out).trans oL5)
  have HCL5 := Lib.hid (renumber_any16 gA [1, 1] _ _ _ _ L5.heap.size L5 ((RV.out.only OL5.out (Nat.le_refl _)).more OL5.out.size) sL5 (Nat.le_refl _) gA_fit (by decide) (by decide) (by decide) (by intro x hx; simp at hx; omega))
  rw [gA_rn1.1, gA_rn1.2] at HCL5
  have oL5x := oL5
  clear hL5 oL5 sL5
  go_wp2_with (with_reducible rw [HL5.out])
  go_at_call 18
  refine HCL5.out.mono ?_
  rintro e w6 ⟨un5, ur5, js5, rfl, rd5, ow6⟩
  have RD5 := Lib.hid rd5
  have ow6x := ow6
  obtain ⟨An5, cn5, rfl, -⟩ := (show Sl w6 w6.heap.size 3 un5 0 _ from rd5.nodes).form
  obtain ⟨Ar5, cr5, rfl, -⟩ := (show Sl w6 w6.heap.size 2 ur5 0 _ from rd5.roots).form
  obtain ⟨X6, hX6, HBX6⟩ := box_graph2 w6 (.slice An5 0 cn5) (.slice Ar5 0 cr5)
  have HX6 := Lib.hid hX6
  have OX6 := Lib.hid (show Only nob V X6 from (OL5.out.trans ow6).trans HBX6.out.1)
  have OT6 := Lib.hid (show Only nob X4 X6 from (oL5x.trans ow6x).trans HBX6.out.1)
  have g0 : X6.cell? ⟨w.heap.size + 1 + 1 + 1 + 1 + 1, 0, none⟩ = some (.slice (some ⟨w.heap.size + 1 + 1 + 1, 0, none⟩) 2 2) := OX6.out.keeps (BV.out.cell 0)
  have g1 : X6.cell? ⟨w.heap.size + 1 + 1 + 1 + 1 + 1, 1, none⟩ = some (.slice (some ⟨w.heap.size + 1 + 1 + 1 + 1, 0, none⟩) 1 1) := OX6.out.keeps (BV.out.cell 1)
  clear rd5 ow6 hX6 ow6x oL5x
  go_upto_region 5 with fail
  rw [HX6.out]
  have HCC := Lib.hid (copy_any16 gA _ _ _ X6.heap.size X6 ((RV.out.only OX6.out (Nat.le_refl _)).more OX6.out.size) (Nat.le_refl _) (by decide) (by intro d hd; simp [gA] at hd; rcases hd with rfl | rfl <;> simp) (by decide))
  go_wp2_with fail
  go_at_call 23
  refine HCC.out.mono ?_
  rintro e w7 ⟨un7, ur7, js7, rfl, ow7, o7⟩
  obtain ⟨b7, c7, rfl, -⟩ := own_form (show w7.ownsRow X6.heap.size 34 3 un7 2 _ from ow7.nodes) (by decide)
  obtain ⟨Ar7, cr7, rfl, -⟩ := own_len (show w7.ownsRow X6.heap.size 46 2 ur7 1 _ from ow7.roots)
  obtain ⟨X7, hX7, HBX7⟩ := box_graph2 w7 (.slice (some ⟨b7, 0, none⟩) 2 c7) (.slice Ar7 1 cr7)
  have HX7 := Lib.hid hX7
  have OW7 := Lib.hid (ow7.nob HBX7.out.1)
  have OX7 := Lib.hid (show Only nob V X7 from (OX6.out.trans o7).trans HBX7.out.1)
  have OO7 := Lib.hid (o7.trans HBX7.out.1)
  have h67 : X6.heap.size ≤ w7.heap.size := o7.size
  have y0 : X7.cell? ⟨w7.heap.size, 0, none⟩ = some (.slice (some ⟨b7, 0, none⟩) 2 c7) := HBX7.out.2.cell 0
  have y1 : X7.cell? ⟨w7.heap.size, 1, none⟩ = some (.slice Ar7 1 cr7) := HBX7.out.2.cell 1
  obtain ⟨bn, on, fv7, rv7, hbn, -, hj7, n0, n1, n2, nd7⟩ := OW7.out.rd.at_ (Below.refl _ _) (k := 0) (d := ⟨0, [(2, 1)], []⟩) rfl
  obtain ⟨rfl, rfl⟩ : b7 = bn ∧ 0 = on := by simpa using hbn
  obtain ⟨f7, cf7, hfv7, -⟩ := own_form (show X7.ownsRow X6.heap.size 46 2 fv7 1 _ from (OW7.out.rows 0 ⟨0, [(2, 1)], []⟩ (fv7, rv7) rfl hj7).fs) (by decide)
  obtain ⟨Ar8, cr8, hrv7, -⟩ := own_len (show X7.ownsRow X6.heap.size 47 1 rv7 0 _ from (OW7.out.rows 0 ⟨0, [(2, 1)], []⟩ (fv7, rv7) rfl hj7).rs)
  subst hfv7 hrv7
  have HAD := Lib.hid (show adr (hdr js7 (.slice Ar7 1 cr7) 0) 0 = some ⟨f7, 0, none⟩ by rw [hdr_at hj7]; rfl)
  have hput := OW7.out.put (0, 0) (by decide) HAD.out 2
  rw [gA_put] at hput
  obtain ⟨X8, hX8, oX8, OWB⟩ : ∃ X8, X7.setCell ⟨f7, 1, none⟩ (.int .i64 2) = X8 ∧ Only (isb f7) X7 X8 ∧ OwG X8 X6.heap.size gB (.slice (some ⟨b7, 0, none⟩) 2 c7) (.slice Ar7 1 cr7) js7 := ⟨_, rfl, only_set _ _ _ _, hput.1⟩
  have HX8 := Lib.hid hX8
  have OB8 := Lib.hid OWB
  have hf7 : X6.heap.size ≤ f7 := hput.2.2.2
  obtain ⟨cs7, bl7, hl7⟩ := hput.2.2.1
  have z1 : X7.cell? ⟨f7, 1, none⟩ = some (.int .i64 1) := by
    obtain ⟨bq, oq, hq, -, -, q1⟩ := plc_cells OW7.out.rd (Below.refl _ _) ⟨(0, 0), by decide⟩
    rw [HAD.out] at hq
    obtain ⟨rfl, rfl⟩ : f7 = bq ∧ 0 = oq := by simpa using hq
    exact q1
  have fz1 := bl7.free 1
  have n0' : X7.cell? ⟨b7, 0, none⟩ = some (.int .i64 0) := n0
  have n1' : X7.cell? ⟨b7, 1, none⟩ = some (.slice (some ⟨f7, 0, none⟩) 1 cf7) := n1
  have n2' : X7.cell? ⟨b7, 2, none⟩ = some (.slice Ar8 0 cr8) := n2
  have OX8 := Lib.hid (OX7.out.andThen oX8 fun i hi e => by unfold isb at e; have := OX6.out.size; omega)
  have OK8 := Lib.hid (show ∀ p v, p.block ≠ f7 → X7.cell? p = some v → X8.cell? p = some v from fun p v hp hc => (oX8.cell (p := p) (World.block_lt_of_cell? X7 p hc) hp).trans hc)
  have H26 := Lib.hid (show w2.heap.size < X6.heap.size by have h1 := HBX2.out.2.lt; have h2 := OT4.out.size; have h3 := OT6.out.size; omega)
  have O27 := Lib.hid (show Only nob X2 X7 from ((OT4.out.trans OT6.out).trans OO7.out))
  have HFY := Lib.hid (bl7.ne HBX7.out.2 (by decide))
  have g0 : X7.cell? ⟨w.heap.size + 1 + 1 + 1 + 1 + 1, 0, none⟩ = some (.slice (some ⟨w.heap.size + 1 + 1 + 1, 0, none⟩) 2 2) := OX7.out.keeps (BV.out.cell 0)
  have g1 : X7.cell? ⟨w.heap.size + 1 + 1 + 1 + 1 + 1, 1, none⟩ = some (.slice (some ⟨w.heap.size + 1 + 1 + 1 + 1, 0, none⟩) 1 1) := OX7.out.keeps (BV.out.cell 1)
  clear hX7 hX8 oX8 OWB hput bl7 hl7 o7 ow7 hbn hj7 nd7 n0 n1 n2
  have R1 := (RD1.out)
  obtain ⟨ba, oa, fa, ra, hba, -, -, a0, -, -, -⟩ := R1.at_ (Below.refl _ _) (k := 0) (d := ⟨3, [(2, 1)], [7]⟩) rfl
  have R1r : Sl w2 w2.heap.size 2 (.slice Ar1 ([((2 : Int), (1 : Int))] : List Sp).length cr1) ([((2 : Int), (1 : Int))] : List Sp).length (spc [(2, 1)]) := R1.roots
  obtain ⟨br, ob, hbr, -, -, a1⟩ := sl_span (l := ([((2 : Int), (1 : Int))] : List Sp)) R1r (Below.refl _ _) (k := 0) (x := (2, 1)) rfl
  subst hba hbr
  have a0' : w2.cell? ⟨ba, oa, none⟩ = some (.int .i64 3) := a0
  have a1' : w2.cell? ⟨br, ob + 1, none⟩ = some (.int .i64 1) := a1
  have hba2 : ba < w2.heap.size := World.block_lt_of_cell? _ _ a0'
  have hbr2 : br < w2.heap.size := World.block_lt_of_cell? _ _ a1'
  obtain ⟨bg, og, fg, rg, hbg, -, hjg, e0, e1, e2, -⟩ := RV.out.at_ (Below.refl _ _) (k := 1) (d := ⟨3, [(2, 0)], [7]⟩) rfl
  obtain ⟨rfl, rfl⟩ : bg = w.heap.size + 1 + 1 + 1 ∧ og = 0 := by simpa using hbg.symm
  obtain ⟨rfl, rfl⟩ : fg = .slice (some ⟨w.heap.size + 1, 0, none⟩) 1 1 ∧ rg = .slice (some ⟨w.heap.size + 1 + 1, 0, none⟩) 1 1 := by simpa using hjg.symm
  have h27 : w2.heap.size < X6.heap.size := H26.out
  have p0 := OK8.out ⟨w2.heap.size, 0, none⟩ _ (by show w2.heap.size ≠ f7; omega) (O27.out.keeps (HBX2.out.2.cell 0))
  have p1 := OK8.out ⟨w2.heap.size, 1, none⟩ _ (by show w2.heap.size ≠ f7; omega) (O27.out.keeps (HBX2.out.2.cell 1))
  have p2 := OK8.out ⟨ba, oa, none⟩ _ (by show ba ≠ f7; omega) (O27.out.keeps (HBX2.out.1.keeps a0'))
  have p3 := OK8.out ⟨br, ob + 1, none⟩ _ (by show br ≠ f7; omega) (O27.out.keeps (HBX2.out.1.keeps a1'))
  have hgb := BV.out.lt
  have hvx : V.heap.size ≤ X6.heap.size := OX6.out.size
  have p4 := OK8.out ⟨w.heap.size + 1 + 1 + 1 + 1 + 1, 0, none⟩ _ (by show w.heap.size + 1 + 1 + 1 + 1 + 1 ≠ f7; omega) g0
  have p5 := OK8.out ⟨w.heap.size + 1 + 1 + 1 + 1 + 1, 1, none⟩ _ (by show w.heap.size + 1 + 1 + 1 + 1 + 1 ≠ f7; omega) g1
  have p6 := OK8.out ⟨w7.heap.size, 0, none⟩ _ (fun e => HFY.out e.symm) y0
  have p7 := OK8.out ⟨w7.heap.size, 1, none⟩ _ (fun e => HFY.out e.symm) y1
  have p8 : X8.cell? ⟨w.heap.size + 1 + 1 + 1, 3, none⟩ = some (.int .i64 3) := OK8.out ⟨w.heap.size + 1 + 1 + 1, 3, none⟩ _ (by show w.heap.size + 1 + 1 + 1 ≠ f7; omega) (OX7.out.keeps e0)
  have p9 : X8.cell? ⟨w.heap.size + 1 + 1 + 1, 4, none⟩ = some (.slice (some ⟨w.heap.size + 1, 0, none⟩) 1 1) := OK8.out ⟨w.heap.size + 1 + 1 + 1, 4, none⟩ _ (by show w.heap.size + 1 + 1 + 1 ≠ f7; omega) (OX7.out.keeps e1)
  have p10 : X8.cell? ⟨w.heap.size + 1 + 1 + 1, 5, none⟩ = some (.slice (some ⟨w.heap.size + 1 + 1, 0, none⟩) 1 1) := OK8.out ⟨w.heap.size + 1 + 1 + 1, 5, none⟩ _ (by show w.heap.size + 1 + 1 + 1 ≠ f7; omega) (OX7.out.keeps e2)
  have RA8 := Lib.hid (RV.out.only OX8.out (Nat.le_refl _))
  have RB8 := Lib.hid OB8.out.rd
  have HV8 := Lib.hid OX8.out.size
  have P8 := Lib.hid (show X8.cell? ⟨w2.heap.size, 0, none⟩ = some (.slice (some ⟨ba, oa, none⟩) 2 cn1) ∧ X8.cell? ⟨w2.heap.size, 1, none⟩ = some (.slice (some ⟨br, ob, none⟩) 1 cr1) ∧ X8.cell? ⟨ba, oa, none⟩ = some (.int .i64 3) ∧ X8.cell? ⟨br, ob + 1, none⟩ = some (.int .i64 1) ∧ X8.cell? ⟨w.heap.size + 1 + 1 + 1 + 1 + 1, 0, none⟩ = some (.slice (some ⟨w.heap.size + 1 + 1 + 1, 0, none⟩) 2 2) ∧ X8.cell? ⟨w.heap.size + 1 + 1 + 1 + 1 + 1, 1, none⟩ = some (.slice (some ⟨w.heap.size + 1 + 1 + 1 + 1, 0, none⟩) 1 1) ∧ X8.cell? ⟨w7.heap.size, 0, none⟩ = some (.slice (some ⟨b7, 0, none⟩) 2 c7) ∧ X8.cell? ⟨w7.heap.size, 1, none⟩ = some (.slice Ar7 1 cr7) ∧ X8.cell? ⟨w.heap.size + 1 + 1 + 1, 3, none⟩ = some (.int .i64 3) ∧ X8.cell? ⟨w.heap.size + 1 + 1 + 1, 4, none⟩ = some (.slice (some ⟨w.heap.size + 1, 0, none⟩) 1 1) ∧ X8.cell? ⟨w.heap.size + 1 + 1 + 1, 5, none⟩ = some (.slice (some ⟨w.heap.size + 1 + 1, 0, none⟩) 1 1) from ⟨p0, p1, p2, p3, p4, p5, p6, p7, p8, p9, p10⟩)
  have WV := Lib.hid (show Only nob w X8 from OV.out.trans OX8.out)
  clear hbg hjg e0 e1 e2 a0 a1 a0' a1' R1 p0 p1 p2 p3 p4 p5 p6 p7 p8 p9 p10 hvx h27 hgb
  go_upto_region 6 with fail
  rw [HX7.out]
  obtain ⟨p0, p1, p2, p3, p4, p5, p6, p7, p8, p9, p10⟩ := P8.out
  go_upto_region 9 with (with_reducible rw [HX8.out])
  clear g0 g1 y0 y1 z1 fz1
  have O0 := Lib.hid (Only.refl nob X8)
  go_wp2_with fail
  go_at_call 11
  refine ((show Calls Try.prog 11 _ X8 (fun e w' => e = .returned (.bool true) ∧ Only nob X8 w') from gA_ok ▸ right_any16 gA _ _ _ V.heap.size X8 ((RA8.out.only O0.out HV8.out)) (Nat.le_trans HV8.out O0.out.size) gA_fit)).mono ?_
  rintro e D1 ⟨rfl, o⟩
  have O1 := Lib.hid (O0.out.trans o)
  have p4' := o.keeps p4
  have p5' := o.keeps p5
  have p6' := o.keeps p6
  have p7' := o.keeps p7
  have p8' := o.keeps p8
  have p9' := o.keeps p9
  have p10' := o.keeps p10
  clear o p0 p1 p2 p3 p4 p5 p6 p7 p8 p9 p10
  have p4 := p4'
  clear p4'
  have p5 := p5'
  clear p5'
  have p6 := p6'
  clear p6'
  have p7 := p7'
  clear p7'
  have p8 := p8'
  clear p8'
  have p9 := p9'
  clear p9'
  have p10 := p10'
  clear p10'
  go_wp2_with fail
  go_at_call 11
  refine ((show Calls Try.prog 11 _ D1 (fun e w' => e = .returned (.bool false) ∧ Only nob D1 w') from gB_bad ▸ right_any16 gB _ _ _ X8.heap.size D1 (RB8.out.only O1.out (Nat.le_refl _)) O1.out.size gB_fit)).mono ?_
  rintro e D2 ⟨rfl, o⟩
  have O2 := Lib.hid (O1.out.trans o)
  have p4' := o.keeps p4
  have p5' := o.keeps p5
  have p6' := o.keeps p6
  have p7' := o.keeps p7
  have p8' := o.keeps p8
  have p9' := o.keeps p9
  have p10' := o.keeps p10
  clear o p4 p5 p6 p7 p8 p9 p10
  have p4 := p4'
  clear p4'
  have p5 := p5'
  clear p5'
  have p6 := p6'
  clear p6'
  have p7 := p7'
  clear p7'
  have p8 := p8'
  clear p8'
  have p9 := p9'
  clear p9'
  have p10 := p10'
  clear p10'
  obtain ⟨D3, hD, o, sD⟩ := lit_ints16 D2 #[.int .i64 0, .int .i64 1, .int .i64 1] [0, 1, 1] rfl rfl (by decide)
  have HD := Lib.hid hD
  have SD := Lib.hid sD
  have O3 := Lib.hid (O2.out.trans o)
  have p4' := o.keeps p4
  have p5' := o.keeps p5
  have p6' := o.keeps p6
  have p7' := o.keeps p7
  have p8' := o.keeps p8
  have p9' := o.keeps p9
  have p10' := o.keeps p10
  clear hD o sD
  go_wp2_with (with_reducible rw [HD.out])
  clear HD p4 p5 p6 p7 p8 p9 p10
  have p4 := p4'
  clear p4'
  have p5 := p5'
  clear p5'
  have p6 := p6'
  clear p6'
  have p7 := p7'
  clear p7'
  have p8 := p8'
  clear p8'
  have p9 := p9'
  clear p9'
  have p10 := p10'
  clear p10'
  go_at_call 16
  refine ((show Calls Try.prog 16 _ D3 (fun e w' => e = .returned (.int .i64 8) ∧ Only nob D3 w') from gA_words ▸ words_any16 gA [0, 1, 1] _ _ _ _ D3.heap.size D3 (((RA8.out.only O3.out HV8.out)).more (Nat.le_trans HV8.out O3.out.size)) SD.out (Nat.le_refl _) gA_fit (by decide))).mono ?_
  rintro e D4 ⟨rfl, o⟩
  have O4 := Lib.hid (O3.out.trans o)
  have p4' := o.keeps p4
  have p5' := o.keeps p5
  have p6' := o.keeps p6
  have p7' := o.keeps p7
  have p8' := o.keeps p8
  have p9' := o.keeps p9
  have p10' := o.keeps p10
  clear o p4 p5 p6 p7 p8 p9 p10
  have p4 := p4'
  clear p4'
  have p5 := p5'
  clear p5'
  have p6 := p6'
  clear p6'
  have p7 := p7'
  clear p7'
  have p8 := p8'
  clear p8'
  have p9 := p9'
  clear p9'
  have p10 := p10'
  clear p10'
  clear SD
  obtain ⟨D5, hD, o, sD⟩ := lit_ints16 D4 #[.int .i64 0, .int .i64 1] [0, 1] rfl rfl (by decide)
  have HD := Lib.hid hD
  have SD := Lib.hid sD
  have O5 := Lib.hid (O4.out.trans o)
  have p4' := o.keeps p4
  have p5' := o.keeps p5
  have p6' := o.keeps p6
  have p7' := o.keeps p7
  have p8' := o.keeps p8
  have p9' := o.keeps p9
  have p10' := o.keeps p10
  clear hD o sD
  go_wp2_with (with_reducible rw [HD.out])
  clear HD p4 p5 p6 p7 p8 p9 p10
  have p4 := p4'
  clear p4'
  have p5 := p5'
  clear p5'
  have p6 := p6'
  clear p6'
  have p7 := p7'
  clear p7'
  have p8 := p8'
  clear p8'
  have p9 := p9'
  clear p9'
  have p10 := p10'
  clear p10'
  go_at_call 17
  refine ((show Calls Try.prog 17 _ D5 (fun e w' => e = .returned (.int .i64 2) ∧ Only nob D5 w') from gA_fields ▸ fields_any16 gA [0, 1] _ _ _ _ D5.heap.size D5 (((RA8.out.only O5.out HV8.out)).more (Nat.le_trans HV8.out O5.out.size)) SD.out (Nat.le_refl _) gA_fit (by decide))).mono ?_
  rintro e D6 ⟨rfl, o⟩
  have O6 := Lib.hid (O5.out.trans o)
  have p4' := o.keeps p4
  have p5' := o.keeps p5
  have p6' := o.keeps p6
  have p7' := o.keeps p7
  have p8' := o.keeps p8
  have p9' := o.keeps p9
  have p10' := o.keeps p10
  clear o p4 p5 p6 p7 p8 p9 p10
  have p4 := p4'
  clear p4'
  have p5 := p5'
  clear p5'
  have p6 := p6'
  clear p6'
  have p7 := p7'
  clear p7'
  have p8 := p8'
  clear p8'
  have p9 := p9'
  clear p9'
  have p10 := p10'
  clear p10'
  go_wp2_with fail
  go_at_call 14
  refine (leads_any16 gA 0 _ _ _ V.heap.size D6 ((RA8.out.only O6.out HV8.out)) (Nat.le_trans HV8.out O6.out.size) (by intro d hd; simp [gA] at hd; rcases hd with rfl | rfl <;> simp)).mono ?_
  rintro e D7 ⟨vl, rfl, ol, o⟩
  have O7 := Lib.hid (O6.out.trans o)
  have p4' := o.keeps p4
  have p5' := o.keeps p5
  have p6' := o.keeps p6
  have p7' := o.keeps p7
  have p8' := o.keeps p8
  have p9' := o.keeps p9
  have p10' := o.keeps p10
  rw [gA_leads] at ol
  obtain ⟨lb, cl, rfl, -⟩ := own_form ol (by decide)
  have plb : D7.cell? ⟨lb, 0, none⟩ = some (.int .i64 1) := ol.cellAt 0 (by decide)
  clear ol
  clear o p4 p5 p6 p7 p8 p9 p10
  have p4 := p4'
  clear p4'
  have p5 := p5'
  clear p5'
  have p6 := p6'
  clear p6'
  have p7 := p7'
  clear p7'
  have p8 := p8'
  clear p8'
  have p9 := p9'
  clear p9'
  have p10 := p10'
  clear p10'
  go_wp2_with fail
  have hSz := size_any16 ⟨3, [(2, 0)], [7]⟩ (.slice (some ⟨w.heap.size + 1, 0, none⟩) 1 1, .slice (some ⟨w.heap.size + 1 + 1, 0, none⟩) 1 1) V.heap.size D7 (((RA8.out.only O7.out HV8.out)).each 1 ⟨3, [(2, 0)], [7]⟩ (.slice (some ⟨w.heap.size + 1, 0, none⟩) 1 1, .slice (some ⟨w.heap.size + 1 + 1, 0, none⟩) 1 1) rfl rfl)
  rw [gA_size] at hSz
  dsimp only at hSz
  go_at_call 9
  refine (hSz).mono ?_
  rintro e D8 ⟨rfl, o⟩
  have O8 := Lib.hid (O7.out.trans o)
  have p4' := o.keeps p4
  have p5' := o.keeps p5
  have p6' := o.keeps p6
  have p7' := o.keeps p7
  clear hSz
  clear o p4 p5 p6 p7 p8 p9 p10
  have p4 := p4'
  clear p4'
  have p5 := p5'
  clear p5'
  have p6 := p6'
  clear p6'
  have p7 := p7'
  clear p7'
  go_wp2_with fail
  go_at_call 21
  refine ((show Calls Try.prog 21 _ D8 (fun e w' => e = .returned (.bool false) ∧ Only nob D8 w') from gAB ▸ same_any16 gA gB _ _ _ _ _ _ V.heap.size X8.heap.size D8 ((RA8.out.only O8.out HV8.out)) (RB8.out.only O8.out (Nat.le_refl _)) (Nat.le_trans HV8.out O8.out.size) O8.out.size gA_fit gB_fit)).mono ?_
  rintro e D9 ⟨rfl, o⟩
  have O9 := Lib.hid (O8.out.trans o)
  clear o p4 p5 p6 p7
  go_wp2
  go_ret
  exact ⟨ret_bool rfl, WV.out.trans O9.out⟩
end Go.Proofs.Ytdlaigghejahdaa
