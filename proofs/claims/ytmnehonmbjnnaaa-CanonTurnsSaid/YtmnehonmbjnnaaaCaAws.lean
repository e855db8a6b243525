/- Chapter 18's example comes to what the chapter says, over what package canon is asked for. (Printed by wip/tools/gen_awake18.py; written ahead of stage 18's code.) -/
import Derived.Test.YtmnehonmbjnnaaaCaEx
import Derived.Test.YtmnehonmbjnnaaaCaLaw
import Derived.Test.YtmnehonmbjnnaaaGrAws
import Derived.Test.YtmnehonmbjnnaaaReAws
namespace Go.Proofs.Ytmnehonmbjnnaaa
open Go.RowKit Go.Lib
set_option maxRecDepth 100000
set_option linter.unusedSimpArgs false
set_option linter.unusedVariables false

theorem ref18c (n : Int) (w : World) : Calls Try.prog 17 #[.int .i64 n] w fun e w' => e = .returned (.agg #[.int .i64 2, .int .i64 n]) ∧ Only nob w w' := by
  obtain ⟨W1, hW1, o1, b1⟩ : ∃ W1, w.alloc (.cells #[.int .i64 2, .int .i64 n] 43) = W1 ∧ Only nob w W1 ∧ Blk W1 w.heap.size 43 #[.int .i64 2, .int .i64 n] := ⟨_, rfl, (Only.refl nob w).alloc _, Blk.new _ _ _⟩
  have HW1 := Lib.hid hW1
  have c0 : W1.cell? ⟨w.heap.size, 0, none⟩ = some (.int .i64 2) := b1.cell 0
  have c1 : W1.cell? ⟨w.heap.size, 1, none⟩ = some (.int .i64 n) := b1.cell 1
  have O1 := Lib.hid o1
  have HB1 := Lib.hid b1
  clear hW1 o1 b1
  go_enter Try.func17, Try.ntmps17
  go_wp2_with (with_reducible rw [HW1.out])
  refine bodyPost_ret (v := .agg #[.int .i64 2, .int .i64 n]) ?_ rfl ⟨rfl, O1.out⟩
  exact results_cell_row (p := 2) (ty := 43) rfl _ _ w.heap.size 43 #[.int .i64 2, .int .i64 n] (0, 0) _ rfl HB1.out Try.underlying43 rfl (by kernel_rfl)
def nodesP (a b e : Nat) : Array Value := #[.int .i64 0, .slice (some ⟨a, 0, none⟩) 1 1, .slice none 0 0, .int .i64 1, .slice (some ⟨b, 0, none⟩) 1 1, .slice none 0 0, .int .i64 0, .slice (some ⟨e, 0, none⟩) 1 1, .slice none 0 0]
def handsP (a b e : Nat) : List (Value × Value) := [(.slice (some ⟨a, 0, none⟩) 1 1, .slice none 0 0), (.slice (some ⟨b, 0, none⟩) 1 1, .slice none 0 0), (.slice (some ⟨e, 0, none⟩) 1 1, .slice none 0 0)]
theorem laid18a (w : World) (t : TypeId) (cs : Array Value) : ∃ V, w.alloc (.cells cs t) = V ∧ Hid (Only nob w V ∧ Blk V w.heap.size t cs) := ⟨_, rfl, Lib.hid ⟨(Only.refl nob w).alloc _, Blk.new w _ _⟩⟩
theorem laid18b (w : World) (a b : Nat) : ∃ V, (w.alloc (.cells #[.int .i64 2, .int .i64 0] 43)).alloc (.cells #[.int .i64 0, .slice (some ⟨a, 0, none⟩) 1 1, .slice none 0 0, .int .i64 1, .slice (some ⟨b, 0, none⟩) 1 1, .slice none 0 0, .int .i64 0, .slice (some ⟨w.heap.size, 0, none⟩) 1 1, .slice none 0 0] 41) = V ∧ Hid (Only nob w V ∧ Blk V w.heap.size 43 #[.int .i64 2, .int .i64 0] ∧ Blk V (w.heap.size + 1) 41 (nodesP a b w.heap.size)) :=
  ⟨_, rfl, Lib.hid ⟨((Only.refl nob w).alloc _).alloc _, (Blk.new w _ _).alloc _, Blk.newAt _ _ _ _ (by simp)⟩⟩
theorem laid18c (w : World) (d : Nat) : ∃ V, (w.alloc (.cells #[.int .i64 2, .int .i64 1] 43)).alloc (.cells #[.slice (some ⟨d + 1, 0, none⟩) 3 3, .slice (some ⟨w.heap.size, 0, none⟩) 1 1] 25) = V ∧ Hid (Only nob w V ∧ Blk V w.heap.size 43 #[.int .i64 2, .int .i64 1] ∧ Blk V (w.heap.size + 1) 25 #[.slice (some ⟨d + 1, 0, none⟩) 3 3, .slice (some ⟨w.heap.size, 0, none⟩) 1 1]) :=
  ⟨_, rfl, Lib.hid ⟨((Only.refl nob w).alloc _).alloc _, (Blk.new w _ _).alloc _, Blk.newAt _ _ _ _ (by simp)⟩⟩
theorem rdP {V : World} {a b e r : Nat} (b0 : Blk V a 43 #[.int .i64 2, .int .i64 1]) (b1 : Blk V b 43 #[.int .i64 2, .int .i64 2]) (b2 : Blk V e 43 #[.int .i64 2, .int .i64 0]) (b3 : Blk V (e + 1) 41 (nodesP a b e)) (b4 : Blk V r 43 #[.int .i64 2, .int .i64 1]) :
    RdG V V.heap.size gP (.slice (some ⟨e + 1, 0, none⟩) 3 3) (.slice (some ⟨r, 0, none⟩) 1 1) (handsP a b e) := by
  have s0 := Sl.of_blk (size := 2) (n := 1) (c := 1) b0 rfl (Nat.le_refl _) (by decide)
  have s1 := Sl.of_blk (size := 2) (n := 1) (c := 1) b1 rfl (Nat.le_refl _) (by decide)
  have s2 := Sl.of_blk (size := 2) (n := 1) (c := 1) b2 rfl (Nat.le_refl _) (by decide)
  have s3 := Sl.of_blk (size := 3) (n := 3) (c := 3) b3 rfl (Nat.le_refl _) (by decide)
  have s4 := Sl.of_blk (size := 2) (n := 1) (c := 1) b4 rfl (Nat.le_refl _) (by decide)
  refine ⟨rfl, s3, fun i d h hd hh => ?_, s4⟩
  match i, hd, hh with
  | 0, hd, hh =>
    obtain rfl := Option.some.inj hd
    obtain rfl := Option.some.inj hh
    exact ⟨s0, Sl.nil_⟩
  | 1, hd, hh =>
    obtain rfl := Option.some.inj hd
    obtain rfl := Option.some.inj hh
    exact ⟨s1, Sl.nil_⟩
  | 2, hd, hh =>
    obtain rfl := Option.some.inj hd
    obtain rfl := Option.some.inj hh
    exact ⟨s2, Sl.nil_⟩
  | n + 3, hd, _ => simp [gP] at hd
set_option maxHeartbeats 8000000 in
theorem awake18_walk (HCP : CanGC 10) (HMP : MatGC 8) (HAP : AlkGC 13) : AwkC := by
  intro w
  have HCQ := Lib.hid HCP
  have HMQ := Lib.hid HMP
  have HAQ := Lib.hid HAP
  clear HCP HMP HAP
  go_enter Try.func7, Try.ntmps7
  go_wp2_with fail
  go_at_call 17
  refine (ref18c 1 w).mono ?_
  rintro e w1 ⟨rfl, o⟩
  have O1 := Lib.hid o
  clear o
  obtain ⟨V1, hV, HV1⟩ := laid18a w1 43 #[.int .i64 2, .int .i64 1]
  have HE := Lib.hid hV
  clear hV
  go_wp2_with (with_reducible rw [HE.out])
  clear HE
  go_at_call 17
  refine (ref18c 2 V1).mono ?_
  rintro e w2 ⟨rfl, o⟩
  have O2 := Lib.hid o
  clear o
  obtain ⟨V2, hV, HV2⟩ := laid18a w2 43 #[.int .i64 2, .int .i64 2]
  have HE := Lib.hid hV
  clear hV
  go_wp2_with (with_reducible rw [HE.out])
  clear HE
  go_at_call 17
  refine (ref18c 0 V2).mono ?_
  rintro e w3 ⟨rfl, o⟩
  have O3 := Lib.hid o
  clear o
  obtain ⟨V3, hV, HV3⟩ := laid18b w3 w1.heap.size w2.heap.size
  have HE := Lib.hid hV
  clear hV
  go_wp2_with (with_reducible rw [HE.out])
  clear HE
  go_at_call 17
  refine (ref18c 1 V3).mono ?_
  rintro e w4 ⟨rfl, o⟩
  have O4 := Lib.hid o
  clear o
  obtain ⟨V4, hV, HV4⟩ := laid18c w4 w3.heap.size
  have HE := Lib.hid hV
  clear hV
  have k34 := O4.out.trans HV4.out.1
  have k24 := (O3.out.trans HV3.out.1).trans k34
  have k14 := (O2.out.trans HV2.out.1).trans k24
  have OV := Lib.hid (O1.out.trans (HV1.out.1.trans k14))
  have RV := Lib.hid (rdP (HV1.out.2.keep k14 id) (HV2.out.2.keep k24 id) (HV3.out.2.1.keep k34 id) (HV3.out.2.2.keep k34 id) HV4.out.2.1)
  have HC := Lib.hid (show ∀ W' : World, Only nob V4 W' → W'.cell? ⟨w4.heap.size + 1, 0, none⟩ = some (.slice (some ⟨w3.heap.size + 1, 0, none⟩) 3 3) ∧ W'.cell? ⟨w4.heap.size + 1, 1, none⟩ = some (.slice (some ⟨w4.heap.size, 0, none⟩) 1 1) from fun W' o => ⟨(HV4.out.2.2.keep o id).cell 0, (HV4.out.2.2.keep o id).cell 1⟩)
  have HG := Lib.hid (fun (W' : World) (o : Only nob V4 W') => RV.out.only o (Nat.le_refl _))
  clear k34 k24 k14
  obtain ⟨c0, c1⟩ := HC.out V4 (Only.refl _ _)
  go_upto_region 2 with fail
  rw [HE.out]
  clear HE HV1 HV2 HV3 HV4 O1 O2 O3 O4 RV
  obtain ⟨Q1, hQ, oQ, sQ⟩ := lit_ints16 V4 #[.int .i64 2, .int .i64 0, .int .i64 1] [2, 0, 1] rfl rfl (by decide)
  have HE := Lib.hid hQ
  have HR1 := Lib.hid (renumber_any16 gP [2, 0, 1] _ _ _ _ Q1.heap.size Q1 ((HG.out Q1 oQ).more oQ.size) sQ (Nat.le_refl _) gP_fit (by decide) (by decide) (by decide) (by intro x hx; simp at hx; omega))
  rw [gP_rn.1, gP_rn.2] at HR1
  have OQ := Lib.hid oQ
  clear hQ oQ sQ
  go_wp2_with (with_reducible rw [HE.out])
  clear HE
  go_at_call 15
  refine HR1.out.mono ?_
  rintro e w5 ⟨un, ur, js, rfl, rd, o⟩
  have RB := Lib.hid rd
  obtain ⟨Ab, cb, rfl, -⟩ := (show Sl w5 w5.heap.size 3 un 3 _ from rd.nodes).form
  obtain ⟨Bb, db, rfl, -⟩ := (show Sl w5 w5.heap.size 2 ur 1 _ from rd.roots).form
  obtain ⟨X1, hX, HB1⟩ := box_graph2 w5 (.slice Ab 3 cb) (.slice Bb 1 db)
  have HE := Lib.hid hX
  have OX1 := Lib.hid (OQ.out.trans (o.trans HB1.out.1))
  have HGB := Lib.hid (fun (W' : World) (o : Only nob X1 W') => And.intro (RB.out.only (HB1.out.1.trans o) (Nat.le_refl _)) (HB1.out.1.trans o).size)
  have HCB := Lib.hid (show ∀ W' : World, Only nob X1 W' → W'.cell? ⟨w5.heap.size, 0, none⟩ = some (.slice Ab 3 cb) ∧ W'.cell? ⟨w5.heap.size, 1, none⟩ = some (.slice Bb 1 db) from fun W' o => ⟨(HB1.out.2.keep o id).cell 0, (HB1.out.2.keep o id).cell 1⟩)
  clear o rd hX c0 c1
  go_upto_region 3 with fail
  rw [HE.out]
  clear HE
  have OC := Lib.hid (Only.refl nob X1)
  obtain ⟨c0, c1⟩ := HC.out X1 (OX1.out.trans OC.out)
  obtain ⟨b0, b1⟩ := HCB.out X1 OC.out
  have HM1 := Lib.hid (fun (W' : World) (o : Only nob X1 W') => HMQ.out gP gQ _ _ _ _ _ _ W'.heap.size W' ((HG.out W' (OX1.out.trans o)).more (OX1.out.trans o).size) ((HGB.out W' o).1.more (HGB.out W' o).2) (Nat.le_refl _) gP_fit gQ_fit (by decide) (by decide) (by decide) (by decide))
  rw [gPQ, gPQ_m] at HM1
  go_wp2_with fail
  go_at_call 8
  refine (HM1.out X1 OC.out).mono ?_
  rintro e w6 ⟨v1, rfl, h1, o⟩
  have HRM := Lib.hid (fun (W' : World) (o : Only nob w6 W') => (h1.only o fun _ _ h => h).sl)
  obtain ⟨A1, k1, rfl, -, -⟩ := (show OwR w6 X1.heap.size _ v1 3 _ from h1).form
  have OC := Lib.hid (OC.out.trans o)
  have Z6 := Lib.hid (Only.refl nob w6)
  clear h1 o c0 c1 b0 b1
  obtain ⟨c0, c1⟩ := HC.out w6 (OX1.out.trans OC.out)
  obtain ⟨b0, b1⟩ := HCB.out w6 OC.out
  have HC1 := Lib.hid (HCQ.out gQ _ _ _ w6.heap.size w6 ((HGB.out w6 OC.out).1.more (HGB.out w6 OC.out).2) (Nat.le_refl _) gQ_fit (by decide) (by decide))
  rw [gQ_e, gQ_c] at HC1
  go_wp2_with fail
  go_at_call 10
  refine HC1.out.mono ?_
  rintro e w7 ⟨un, ur, ks, rfl, rd, o⟩
  have RC := Lib.hid rd
  obtain ⟨Ac, cc, rfl, -⟩ := (show Sl w7 w7.heap.size 3 un 3 _ from rd.nodes).form
  obtain ⟨Bc, dc, rfl, -⟩ := (show Sl w7 w7.heap.size 2 ur 1 _ from rd.roots).form
  obtain ⟨X2, hX, HB2⟩ := box_graph2 w7 (.slice Ac 3 cc) (.slice Bc 1 dc)
  have HE := Lib.hid hX
  have Z6 := Lib.hid (Z6.out.trans (o.trans HB2.out.1))
  have OC := Lib.hid (OC.out.trans (o.trans HB2.out.1))
  obtain ⟨kb, ko, kf, kr, hk1, hkb, hk2, kc0, -, -, -⟩ := (RC.out.only HB2.out.1 (Nat.le_refl _)).at_ (k := 0) (d := ⟨1, [(2, 1)], []⟩) (Below.refl _ _) rfl
  obtain ⟨rb, ro, hr1, hrb, -, kc1⟩ := sl_span (k := 0) (x := (2, 0)) (show Sl X2 w7.heap.size 2 (.slice Bc [((2 : Int), (0 : Int))].length dc) 1 (spc [(2, 0)]) from (RC.out.only HB2.out.1 (Nat.le_refl _)).roots) (Below.refl _ _) rfl
  subst hk1 hr1
  have HCC := Lib.hid (show ∀ W' : World, Only nob X2 W' → (W'.cell? ⟨w7.heap.size, 0, none⟩ = some (.slice (some ⟨kb, ko, none⟩) 3 cc) ∧ W'.cell? ⟨w7.heap.size, 1, none⟩ = some (.slice (some ⟨rb, ro, none⟩) 1 dc)) ∧ W'.cell? ⟨kb, ko, none⟩ = some (.int .i64 1) ∧ W'.cell? ⟨rb, ro + 1, none⟩ = some (.int .i64 0) from fun W' o => ⟨⟨(HB2.out.2.keep o id).cell 0, (HB2.out.2.keep o id).cell 1⟩, o.keeps kc0, o.keeps kc1⟩)
  clear o rd hX c0 c1 b0 b1 kc0 kc1 hk2
  go_upto_region 5 with fail
  rw [HE.out]
  clear HE
  obtain ⟨c0, c1⟩ := HC.out X2 (OX1.out.trans OC.out)
  obtain ⟨b0, b1⟩ := HCB.out X2 OC.out
  have HY := Lib.hid (copy_any16 gP _ _ _ X2.heap.size X2 ((HG.out X2 (OX1.out.trans OC.out)).more (OX1.out.trans OC.out).size) (Nat.le_refl _) (by decide) (by intro d hd; simp [gP] at hd; rcases hd with rfl | rfl | rfl <;> simp) (by decide))
  go_wp2_with fail
  go_at_call 18
  refine HY.out.mono ?_
  rintro e w8 ⟨un, ur, ls, rfl, ow, o⟩
  obtain ⟨db0, dcap, hun⟩ : ∃ b c, un = .slice (some ⟨b, 0, none⟩) 3 c := by
    rcases ow.nodes.2 with ⟨-, h0⟩ | ⟨g, cap, cur, rfl, -⟩
    · cases h0
    · exact ⟨g, cap, rfl⟩
  subst hun
  obtain ⟨Bd, dd, rfl, -⟩ := (show Sl w8 w8.heap.size 2 ur 1 _ from ow.rd.roots).form
  obtain ⟨X3, hX, HB3⟩ := box_graph2 w8 (.slice (some ⟨db0, 0, none⟩) 3 dcap) (.slice Bd 1 dd)
  have HE := Lib.hid hX
  have OW3 := Lib.hid (ow.nob HB3.out.1)
  have Z2 := Lib.hid (o.trans HB3.out.1)
  have c0d : X3.cell? ⟨w8.heap.size, 0, none⟩ = some (.slice (some ⟨db0, 0, none⟩) 3 dcap) := HB3.out.2.cell 0
  have c1d : X3.cell? ⟨w8.heap.size, 1, none⟩ = some (.slice Bd 1 dd) := HB3.out.2.cell 1
  obtain ⟨dcs, dblk⟩ := own_blk16 OW3.out.nodes (k := db0) rfl
  have fz := dblk.free 6
  have cz : X3.cell? ⟨db0, 6, none⟩ = some (.int .i64 0) := (OW3.out.nodes.cellAt 6 (by decide)).trans (ndc_get gP.nd ls 2 ⟨0, [(2, 0)], []⟩ _ rfl (List.getElem?_eq_getElem (by rw [OW3.out.len]; decide))).1
  have HPK := Lib.hid (OW3.out.putK (i := 2) (d := ⟨0, [(2, 0)], []⟩) rfl 5)
  obtain ⟨X4, hX4⟩ : ∃ X4, X3.setCell ⟨db0, 6, none⟩ (.int .i64 5) = X4 := ⟨_, rfl⟩
  have HE4 := Lib.hid hX4
  have HPG := Lib.hid (show OwG X4 X2.heap.size gS (.slice (some ⟨db0, 0, none⟩) 3 dcap) (.slice Bd 1 dd) ls from hX4 ▸ HPK.out)
  have dge : X2.heap.size ≤ db0 := by obtain h | ⟨g, cap, cur, e, hb, -⟩ := OW3.out.nodes.2; exact absurd h.2 (by decide); simp only [Value.slice.injEq, Option.some.injEq, Addr.mk.injEq] at e; rw [e.1.1]; exact hb
  have O34 : Only (isb db0) X3 X4 := hX4 ▸ only_set X3 db0 6 (.int .i64 5)
  have Z4 := Lib.hid (show Only nob X2 X4 from Z2.out.andThen O34 fun i hi e => by have e1 : i = db0 := e; omega)
  have bd4 := HB3.out.2.keep O34 (fun e => HB3.out.2.ne dblk (by decide) e)
  have HCD := Lib.hid (show ∀ W' : World, Only nob X4 W' → W'.cell? ⟨w8.heap.size, 0, none⟩ = some (.slice (some ⟨db0, 0, none⟩) 3 dcap) ∧ W'.cell? ⟨w8.heap.size, 1, none⟩ = some (.slice Bd 1 dd) from fun W' o => ⟨(bd4.keep o id).cell 0, (bd4.keep o id).cell 1⟩)
  have HGD := Lib.hid (fun (W' : World) (o : Only nob X4 W') => And.intro (HPG.out.rd.only o (Nat.le_refl _)) o.size)
  have OC4 := Lib.hid (OC.out.trans Z4.out)
  clear ow o hX hX4 dblk O34 bd4 dge c0 c1 b0 b1 HPK
  go_upto_region 6 with fail
  rw [HE.out]
  clear HE
  go_upto_region 9 with fail
  rw [HE4.out]
  clear HE4 c0d c1d fz cz
  have OD := Lib.hid (Only.refl nob X4)
  obtain ⟨c0, c1⟩ := HC.out X4 (OX1.out.trans (OC4.out.trans OD.out))
  obtain ⟨b0, b1⟩ := HCB.out X4 (OC4.out.trans OD.out)
  obtain ⟨d0, d1⟩ := HCD.out X4 OD.out
  obtain ⟨⟨k0, k1⟩, k2, k3⟩ := HCC.out X4 (Z4.out.trans OD.out)
  have HGP := Lib.hid (fun (W' : World) (o : Only nob X4 W') => And.intro (HG.out W' (OX1.out.trans (OC4.out.trans o))) (OX1.out.trans (OC4.out.trans o)).size)
  have HM2 := Lib.hid (HMQ.out gP gS _ _ _ _ _ _ X4.heap.size X4 ((HGP.out X4 (Only.refl _ _)).1.more (HGP.out X4 (Only.refl _ _)).2) (HGD.out X4 (Only.refl _ _)).1 (Nat.le_refl _) gP_fit gS_fit (by decide) (by decide) (by decide) (by decide))
  rw [gPS, gPS_m] at HM2
  go_wp2_with fail
  go_at_call 8
  refine HM2.out.mono ?_
  rintro e w9 ⟨v2, rfl, -, o⟩
  have OD := Lib.hid (OD.out.trans o)
  clear o c0 c1 b0 b1 d0 d1 k0 k1 k2 k3
  have Z9 := Lib.hid (Z6.out.trans (Z4.out.trans OD.out))
  obtain ⟨Q2, hQ, oQ, sQ⟩ := lit_ints16 w9 #[.int .i64 1, .int .i64 2, .int .i64 0] [1, 2, 0] rfl rfl (by decide)
  have HE := Lib.hid hQ
  have HIN := Lib.hid (rInts16 _ _ [1, 2, 0] _ _ Q2 (HRM.out Q2 (Z9.out.trans oQ)) sQ)
  have OD := Lib.hid (OD.out.trans oQ)
  clear hQ oQ sQ
  go_wp2_with (with_reducible rw [HE.out])
  clear HE
  go_at_call 12
  refine HIN.out.mono ?_
  rintro e wa ⟨rfl, m, hm⟩
  have OD := Lib.hid (show Only nob X4 wa by rw [hm]; exact OD.out.drewN m)
  clear hm
  obtain ⟨c0, c1⟩ := HC.out wa (OX1.out.trans (OC4.out.trans OD.out))
  obtain ⟨b0, b1⟩ := HCB.out wa (OC4.out.trans OD.out)
  obtain ⟨d0, d1⟩ := HCD.out wa OD.out
  obtain ⟨⟨k0, k1⟩, k2, k3⟩ := HCC.out wa (Z4.out.trans OD.out)
  have HA1 := Lib.hid (HAQ.out gP gQ _ _ _ _ _ _ wa.heap.size wa ((HGP.out wa OD.out).1.more (HGP.out wa OD.out).2) ((HGB.out wa (OC4.out.trans OD.out)).1.more (HGB.out wa (OC4.out.trans OD.out)).2) (Nat.le_refl _) gP_fit gQ_fit (by decide) (by decide) (by decide) (by decide))
  rw [gPQ] at HA1
  go_wp2_with fail
  go_at_call 13
  refine HA1.out.mono ?_
  rintro e wb ⟨rfl, o⟩
  have OD := Lib.hid (OD.out.trans o)
  clear o c0 c1 b0 b1 d0 d1 k0 k1 k2 k3
  obtain ⟨c0, c1⟩ := HC.out wb (OX1.out.trans (OC4.out.trans OD.out))
  obtain ⟨b0, b1⟩ := HCB.out wb (OC4.out.trans OD.out)
  obtain ⟨d0, d1⟩ := HCD.out wb OD.out
  obtain ⟨⟨k0, k1⟩, k2, k3⟩ := HCC.out wb (Z4.out.trans OD.out)
  have HA2 := Lib.hid (HAQ.out gP gS _ _ _ _ _ _ wb.heap.size wb ((HGP.out wb OD.out).1.more (HGP.out wb OD.out).2) ((HGD.out wb OD.out).1.more (HGD.out wb OD.out).2) (Nat.le_refl _) gP_fit gS_fit (by decide) (by decide) (by decide) (by decide))
  rw [gPS] at HA2
  go_wp2_with fail
  go_at_call 13
  refine HA2.out.mono ?_
  rintro e wc ⟨rfl, o⟩
  have OE := Lib.hid (OV.out.trans (OX1.out.trans (OC4.out.trans (OD.out.trans o))))
  clear o c0 c1 b0 b1 d0 d1 k0 k1 k2 k3
  go_wp2
  go_ret
  exact ⟨rfl, OE.out⟩
end Go.Proofs.Ytmnehonmbjnnaaa
