/- Chapter 17's example comes to what the chapter says. (Printed by wip/tools/gen_awake17.py.) -/
import Derived.Test.YtkjdnccnfnhkoaaReEx
import Derived.Test.YtkjdnccnfnhkoaaGrAws
namespace Go.Proofs.Ytkjdnccnfnhkoaa
open Go.RowKit Go.Lib
set_option maxRecDepth 100000
set_option linter.unusedSimpArgs false
set_option linter.unusedVariables false

theorem ref17c (n : Int) (w : World) : Calls Try.prog 19 #[.int .i64 n] w fun e w' => e = .returned (.agg #[.int .i64 2, .int .i64 n]) ∧ Only nob w w' := by
  obtain ⟨W1, hW1, o1, b1⟩ : ∃ W1, w.alloc (.cells #[.int .i64 2, .int .i64 n] 45) = W1 ∧ Only nob w W1 ∧ Blk W1 w.heap.size 45 #[.int .i64 2, .int .i64 n] := ⟨_, rfl, (Only.refl nob w).alloc _, Blk.new _ _ _⟩
  have HW1 := Lib.hid hW1
  have c0 : W1.cell? ⟨w.heap.size, 0, none⟩ = some (.int .i64 2) := b1.cell 0
  have c1 : W1.cell? ⟨w.heap.size, 1, none⟩ = some (.int .i64 n) := b1.cell 1
  have O1 := Lib.hid o1
  have HB1 := Lib.hid b1
  clear hW1 o1 b1
  go_enter Try.func19, Try.ntmps19
  go_wp2_with (with_reducible rw [HW1.out])
  refine bodyPost_ret (v := .agg #[.int .i64 2, .int .i64 n]) ?_ rfl ⟨rfl, O1.out⟩
  exact results_cell_row (p := 2) (ty := 45) rfl _ _ w.heap.size 45 #[.int .i64 2, .int .i64 n] (0, 0) _ rfl HB1.out Try.underlying45 rfl (by kernel_rfl)
abbrev lv (b n : Nat) : Value := .slice (some ⟨b, 0, none⟩) n n
def nodesW (a b : Nat) : Array Value := #[.int .i64 0, .slice (some ⟨a, 0, none⟩) 2 2, .slice none 0 0, .int .i64 0, .slice (some ⟨b, 0, none⟩) 1 1, .slice none 0 0, .int .i64 0, .slice none 0 0, .slice (some ⟨b + 1, 0, none⟩) 3 3, .int .i64 0, .slice none 0 0, .slice none 0 0, .int .i64 0, .slice none 0 0, .slice none 0 0]
def handsW (a b : Nat) : List (Value × Value) := [(.slice (some ⟨a, 0, none⟩) 2 2, .slice none 0 0), (.slice (some ⟨b, 0, none⟩) 1 1, .slice none 0 0), (.slice none 0 0, .slice (some ⟨b + 1, 0, none⟩) 3 3), (.slice none 0 0, .slice none 0 0), (.slice none 0 0, .slice none 0 0)]
/-- Three rows one after another. -/
theorem laid3 (w : World) (a : Nat) : ∃ V, ((w.alloc (.cells #[.int .i64 2, .int .i64 3] 45)).alloc (.cells #[.int .u64 1, .int .u64 2, .int .u64 3] 47)).alloc (.cells #[.int .i64 0, .slice (some ⟨a, 0, none⟩) 2 2, .slice none 0 0, .int .i64 0, .slice (some ⟨w.heap.size, 0, none⟩) 1 1, .slice none 0 0, .int .i64 0, .slice none 0 0, .slice (some ⟨w.heap.size + 1, 0, none⟩) 3 3, .int .i64 0, .slice none 0 0, .slice none 0 0, .int .i64 0, .slice none 0 0, .slice none 0 0] 43) = V ∧ Hid (Only nob w V ∧ Blk V w.heap.size 45 #[.int .i64 2, .int .i64 3] ∧ Blk V (w.heap.size + 1) 47 #[.int .u64 1, .int .u64 2, .int .u64 3] ∧ Blk V (w.heap.size + 1 + 1) 43 (nodesW a w.heap.size)) :=
  ⟨_, rfl, Lib.hid ⟨(((Only.refl nob w).alloc _).alloc _).alloc _, ((Blk.new w _ _).alloc _).alloc _, (Blk.newAt _ _ _ _ (by simp)).alloc _, Blk.newAt _ _ _ _ (by simp)⟩⟩
theorem laid1 (w : World) (t : TypeId) (cs : Array Value) : ∃ V, w.alloc (.cells cs t) = V ∧ Hid (Only nob w V ∧ Blk V w.heap.size t cs) := ⟨_, rfl, Lib.hid ⟨(Only.refl nob w).alloc _, Blk.new w _ _⟩⟩
theorem laid2 (w : World) (d : Nat) : ∃ V, (w.alloc (.cells #[.int .i64 2, .int .i64 0] 45)).alloc (.cells #[.slice (some ⟨d + 1 + 1, 0, none⟩) 5 5, .slice (some ⟨w.heap.size, 0, none⟩) 1 1] 25) = V ∧ Hid (Only nob w V ∧ Blk V w.heap.size 45 #[.int .i64 2, .int .i64 0] ∧ Blk V (w.heap.size + 1) 25 #[.slice (some ⟨d + 1 + 1, 0, none⟩) 5 5, .slice (some ⟨w.heap.size, 0, none⟩) 1 1]) :=
  ⟨_, rfl, Lib.hid ⟨((Only.refl nob w).alloc _).alloc _, (Blk.new w _ _).alloc _, Blk.newAt _ _ _ _ (by simp)⟩⟩
theorem rdW {V : World} {a b e : Nat} (b0 : Blk V a 45 #[.int .i64 2, .int .i64 1, .int .i64 2, .int .i64 2]) (b1 : Blk V b 45 #[.int .i64 2, .int .i64 3]) (b2 : Blk V (b + 1) 47 #[.int .u64 1, .int .u64 2, .int .u64 3]) (b3 : Blk V (b + 1 + 1) 43 (nodesW a b)) (b4 : Blk V e 45 #[.int .i64 2, .int .i64 0]) :
    RdG V V.heap.size gW (.slice (some ⟨b + 1 + 1, 0, none⟩) 5 5) (.slice (some ⟨e, 0, none⟩) 1 1) (handsW a b) := by
  have s0 := Sl.of_blk (size := 2) (n := 2) (c := 2) b0 rfl (Nat.le_refl _) (by decide)
  have s1 := Sl.of_blk (size := 2) (n := 1) (c := 1) b1 rfl (Nat.le_refl _) (by decide)
  have s2 := Sl.of_blk (size := 1) (n := 3) (c := 3) b2 rfl (Nat.le_refl _) (by decide)
  have s3 := Sl.of_blk (size := 3) (n := 5) (c := 5) b3 rfl (Nat.le_refl _) (by decide)
  have s4 := Sl.of_blk (size := 2) (n := 1) (c := 1) b4 rfl (Nat.le_refl _) (by decide)
  refine ⟨rfl, s3, fun i d h hd hh => ?_, s4⟩
  match i, hd, hh with
  | 0, hd, hh =>
    obtain rfl := Option.some.inj hd
    obtain rfl := Option.some.inj hh
    exact ⟨s0, Sl.nil_⟩
  | 1, hd, hh =>
    obtain rfl := Option.some.inj hd
    obtain rfl := Option.some.inj hh
    exact ⟨s1, Sl.nil_⟩
  | 2, hd, hh =>
    obtain rfl := Option.some.inj hd
    obtain rfl := Option.some.inj hh
    exact ⟨Sl.nil_, s2⟩
  | 3, hd, hh =>
    obtain rfl := Option.some.inj hd
    obtain rfl := Option.some.inj hh
    exact ⟨Sl.nil_, Sl.nil_⟩
  | 4, hd, hh =>
    obtain rfl := Option.some.inj hd
    obtain rfl := Option.some.inj hh
    exact ⟨Sl.nil_, Sl.nil_⟩
  | n + 5, hd, _ => simp [gW] at hd
theorem rdV {V : World} {e : Nat} (b4 : Blk V e 45 #[.int .i64 2, .int .i64 0]) : RdG V V.heap.size gV (.slice none 0 0) (.slice (some ⟨e, 0, none⟩) 1 1) [] :=
  ⟨rfl, Sl.nil_, fun i d h hd => by simp [gV] at hd, Sl.of_blk (size := 2) (n := 1) (c := 1) b4 rfl (Nat.le_refl _) (by decide)⟩
/-- What is asked of the example. -/
theorem exW {V : World} {vn vr : Value} {hs : List (Value × Value)} (h : RdG V V.heap.size gW vn vr hs) (W : World) (o : Only nob V W) :
    (Calls Try.prog 11 #[.agg #[vn, vr]] W fun e w' => ∃ v1, e = .returned (.tuple #[v1, .int .i64 0]) ∧ OwR w' W.heap.size 3 v1 4 (i64s [0, 1, 2, 3]) ∧ Only nob W w') ∧
    (Calls Try.prog 13 #[.agg #[vn, vr]] W fun e w' => ∃ v1, e = .returned (.tuple #[v1, .int .i64 0]) ∧ OwR w' W.heap.size 3 v1 4 (i64s [0, 1, 3, 2]) ∧ Only nob W w') ∧
    (Calls Try.prog 14 #[.agg #[vn, vr]] W fun e w' => ∃ v1, e = .returned (.tuple #[v1, .int .i64 0]) ∧ (∃ A c, v1 = .slice A 4 c) ∧ Only nob W w') ∧
    (Calls Try.prog 8 #[.agg #[vn, vr], .int .i64 3, .int .i64 2, .int .i64 4] W fun e w' => ∃ v1 v2, e = .returned (.tuple #[v1, v2, .int .i64 0]) ∧ OwR w' W.heap.size 3 v1 3 (i64s [0, 1, 3]) ∧ OwR w' W.heap.size 3 v2 1 (i64s [2]) ∧ Only nob W w') ∧
    (Calls Try.prog 16 #[.agg #[vn, vr], .int .i64 3] W fun e w' => e = .returned (.tuple #[.int .i64 6, .int .i64 4, .int .i64 3, .int .i64 0]) ∧ Only nob W w') ∧
    (Calls Try.prog 8 #[.agg #[vn, vr], .int .i64 3, .int .i64 3, .int .i64 4] W fun e w' => ∃ v1 v2, e = .returned (.tuple #[v1, v2, .int .i64 1]) ∧ Only nob W w') := by
  have hr := h.only o (Nat.le_refl _)
  have hB := o.size
  refine ⟨?_, ?_, ?_, ?_, ?_, ?_⟩
  · have := breadth17 gW vn vr hs _ W hr hB gW_fit gW_bd
    rw [gW_f0.1, gW_f0.2] at this
    exact this
  · have := depth17 gW vn vr hs _ W hr hB gW_fit gW_bd
    rw [gW_f1.1, gW_f1.2] at this
    exact this
  · have := reach17 gW vn vr hs _ W hr hB gW_fit gW_bd
    rw [gW_f0.1, gW_rl] at this
    refine this.mono ?_
    rintro e w' ⟨v1, rfl, h1, o1⟩
    obtain ⟨A, c, rfl, -, -⟩ := h1.form
    exact ⟨_, rfl, ⟨A, c, rfl⟩, o1⟩
  · have := plan_any17 gW vn vr hs _ W 3 2 4 hr hB gW_fit gW_bd (by decide)
    rw [gW_p2.1, gW_p2.2.1, gW_p2.2.2] at this
    exact this
  · have := live17 gW vn vr hs _ W 3 hr hB gW_fit gW_bd (by decide)
    rw [gW_p3.1, gW_p3.2.1, gW_p3.2.2, gW_lv.1, gW_lv.2.1, gW_lv.2.2] at this
    exact this
  · have := plan_any17 gW vn vr hs _ W 3 3 4 hr hB gW_fit gW_bd (by decide)
    rw [gW_p1.1] at this
    refine this.mono ?_
    rintro e w' ⟨v1, v2, rfl, -, -, o1⟩
    exact ⟨_, _, rfl, o1⟩
set_option maxHeartbeats 6000000 in
theorem awake17 (w : World) : Calls Try.prog 7 #[] w fun e w' => e = .returned (.bool true) ∧ Only nob w w' := by
  go_enter Try.func7, Try.ntmps7
  go_wp2_with fail
  go_at_call 19
  refine (ref17c 1 w).mono ?_
  rintro e w1 ⟨rfl, o⟩
  have O1 := Lib.hid (o)
  clear o
  go_wp2_with fail
  go_at_call 19
  refine (ref17c 2 w1).mono ?_
  rintro e w2 ⟨rfl, o⟩
  have O2 := Lib.hid (O1.out.trans o)
  clear o
  obtain ⟨V2, hV2, HV2⟩ := laid1 w2 45 #[.int .i64 2, .int .i64 1, .int .i64 2, .int .i64 2]
  have HE := Lib.hid hV2
  clear hV2
  go_wp2_with (with_reducible rw [HE.out])
  clear HE
  go_at_call 19
  refine (ref17c 3 V2).mono ?_
  rintro e w3 ⟨rfl, o⟩
  have O3 := Lib.hid (o)
  clear o
  obtain ⟨V5, hV5, HV5⟩ := laid3 w3 w2.heap.size
  have HE := Lib.hid hV5
  clear hV5
  go_wp2_with (with_reducible rw [HE.out])
  clear HE
  go_at_call 19
  refine (ref17c 0 V5).mono ?_
  rintro e w4 ⟨rfl, o⟩
  have O4 := Lib.hid (o)
  clear o
  obtain ⟨V7, hV7, HV7⟩ := laid2 w4 w3.heap.size
  have HE := Lib.hid hV7
  clear hV7
  have b0 := ((HV2.out.2.keep O3.out id).keep HV5.out.1 id).keep O4.out id
  have OV := Lib.hid (O2.out.trans (HV2.out.1.trans (O3.out.trans (HV5.out.1.trans (O4.out.trans HV7.out.1)))))
  have RV := Lib.hid (rdW (b0.keep HV7.out.1 id) ((HV5.out.2.1.keep O4.out id).keep HV7.out.1 id) ((HV5.out.2.2.1.keep O4.out id).keep HV7.out.1 id) ((HV5.out.2.2.2.keep O4.out id).keep HV7.out.1 id) HV7.out.2.1)
  have HX := Lib.hid (fun (W : World) (o : Only nob V7 W) => exW RV.out W o)
  have HC := Lib.hid (fun (W : World) (o : Only nob V7 W) => And.intro ((HV7.out.2.2.keep o id).cell 0) ((HV7.out.2.2.keep o id).cell 1))
  obtain ⟨p, hp⟩ : ∃ p, p = w4.heap.size + 1 := ⟨_, rfl⟩
  have HP := Lib.hid hp
  clear hp b0
  have HC := Lib.hid (show ∀ (W : World), Only nob V7 W → W.cell? ⟨w4.heap.size + 1, 0, none⟩ = some (.slice (some ⟨w3.heap.size + 1 + 1, 0, none⟩) 5 5) ∧ W.cell? ⟨w4.heap.size + 1, 1, none⟩ = some (.slice (some ⟨w4.heap.size, 0, none⟩) 1 1) from HC.out)
  obtain ⟨c0, c1⟩ := HC.out V7 (Only.refl _ _)
  have OO := Lib.hid (Only.refl nob V7)
  go_upto_region 2 with fail
  rw [HE.out]
  clear HE HV2 HV5 HV7 O1 O2 O3 O4 RV HP
  go_wp2_with fail
  go_at_call 11
  refine (HX.out V7 OO.out).1.mono ?_
  rintro e X1 ⟨v1, rfl, h, o⟩
  have R1 := Lib.hid h
  obtain ⟨A1, k1, rfl, -, -⟩ := h.form
  clear h
  have OOX1 := Lib.hid (OO.out.trans o)
  clear o c0 c1
  obtain ⟨c0, c1⟩ := HC.out X1 OOX1.out
  go_wp2_with fail
  go_at_call 13
  refine (HX.out X1 OOX1.out).2.1.mono ?_
  rintro e X2 ⟨v1, rfl, h, o⟩
  have R2 := Lib.hid h
  obtain ⟨A2, k2, rfl, -, -⟩ := h.form
  clear h
  have oX1 := Lib.hid o
  have OOX2 := Lib.hid (OOX1.out.trans o)
  clear o c0 c1
  obtain ⟨c0, c1⟩ := HC.out X2 OOX2.out
  go_wp2_with fail
  go_at_call 14
  refine (HX.out X2 OOX2.out).2.2.1.mono ?_
  rintro e X3 ⟨v1, rfl, ⟨A3, k3, rfl⟩, o⟩
  have oX1 := Lib.hid (oX1.out.trans o)
  have oX2 := Lib.hid o
  have OOX3 := Lib.hid (OOX2.out.trans o)
  clear o c0 c1
  obtain ⟨c0, c1⟩ := HC.out X3 OOX3.out
  go_wp2_with fail
  go_at_call 8
  refine (HX.out X3 OOX3.out).2.2.2.1.mono ?_
  rintro e X4 ⟨v1, v2, rfl, h, h2, o⟩
  have R4 := Lib.hid h
  have R5 := Lib.hid h2
  obtain ⟨A4, k4, rfl, -, -⟩ := h.form
  obtain ⟨A5, k5, rfl, -, -⟩ := h2.form
  clear h h2
  have oX1 := Lib.hid (oX1.out.trans o)
  have oX2 := Lib.hid (oX2.out.trans o)
  have OOX4 := Lib.hid (OOX3.out.trans o)
  clear o c0 c1
  obtain ⟨c0, c1⟩ := HC.out X4 OOX4.out
  go_wp2_with fail
  go_at_call 16
  refine (HX.out X4 OOX4.out).2.2.2.2.1.mono ?_
  rintro e X5 ⟨rfl, o⟩
  have oX1 := Lib.hid (oX1.out.trans o)
  have oX2 := Lib.hid (oX2.out.trans o)
  have oX4 := Lib.hid o
  have OOX5 := Lib.hid (OOX4.out.trans o)
  clear o c0 c1
  obtain ⟨c0, c1⟩ := HC.out X5 OOX5.out
  go_wp2_with fail
  go_at_call 8
  refine (HX.out X5 OOX5.out).2.2.2.2.2.mono ?_
  rintro e X6 ⟨v1, v2, rfl, o⟩
  have oX1 := Lib.hid (oX1.out.trans o)
  have oX2 := Lib.hid (oX2.out.trans o)
  have oX4 := Lib.hid (oX4.out.trans o)
  have OOX6 := Lib.hid (OOX5.out.trans o)
  clear o c0 c1
  obtain ⟨c0, c1⟩ := HC.out X6 OOX6.out
  clear c0 c1
  go_wp2_with fail
  go_at_call 19
  refine (ref17c 0 X6).mono ?_
  rintro e X7 ⟨rfl, o⟩
  have O7 := Lib.hid o
  clear o
  obtain ⟨Y, hY, HY⟩ := laid1 X7 45 #[.int .i64 2, .int .i64 0]
  have HE := Lib.hid hY
  have HB := Lib.hid (breadth17 gV _ _ _ _ Y (rdV HY.out.2) (Nat.le_refl _) gV_fit gV_bd)
  rw [gV_f.1, gV_f.2] at HB
  clear hY
  go_wp2_with (with_reducible rw [HE.out])
  clear HE
  go_at_call 11
  refine HB.out.mono ?_
  rintro e X8 ⟨v1, rfl, -, o⟩
  have O68 := Lib.hid (O7.out.trans (HY.out.1.trans o))
  clear o HB
  have OX := Lib.hid (OOX6.out.trans O68.out)
  have F1 := Lib.hid (fun (W : World) (o : Only nob X8 W) => (((R1.out.only (oX1.out.trans (O68.out.trans o)) fun _ _ h => h).sl)))
  have F2 := Lib.hid (fun (W : World) (o : Only nob X8 W) => (((R2.out.only (oX2.out.trans (O68.out.trans o)) fun _ _ h => h).sl)))
  have F4 := Lib.hid (fun (W : World) (o : Only nob X8 W) => (((R4.out.only (oX4.out.trans (O68.out.trans o)) fun _ _ h => h).sl)))
  have F5 := Lib.hid (fun (W : World) (o : Only nob X8 W) => (((R5.out.only (oX4.out.trans (O68.out.trans o)) fun _ _ h => h).sl)))
  have OZ := Lib.hid (Only.refl nob X8)
  obtain ⟨L1, hL, o, sL⟩ := lit_ints16 X8 #[.int .i64 0, .int .i64 1, .int .i64 2, .int .i64 3] [0, 1, 2, 3] rfl rfl (by decide)
  have HE := Lib.hid hL
  have SL := Lib.hid sL
  have OL1 := Lib.hid (OZ.out.trans o)
  clear hL o sL
  go_wp2_with (with_reducible rw [HE.out])
  clear HE
  go_at_call 10
  refine (rInts16 _ _ [0, 1, 2, 3] _ _ L1 (F1.out L1 OL1.out) SL.out).mono ?_
  rintro e Z1 ⟨rfl, m, hm⟩
  have OM1 := Lib.hid (show Only nob X8 Z1 by rw [hm]; exact OL1.out.drewN m)
  clear hm SL
  obtain ⟨L2, hL, o, sL⟩ := lit_ints16 Z1 #[.int .i64 0, .int .i64 1, .int .i64 3, .int .i64 2] [0, 1, 3, 2] rfl rfl (by decide)
  have HE := Lib.hid hL
  have SL := Lib.hid sL
  have OL2 := Lib.hid (OM1.out.trans o)
  clear hL o sL
  go_wp2_with (with_reducible rw [HE.out])
  clear HE
  go_at_call 10
  refine (rInts16 _ _ [0, 1, 3, 2] _ _ L2 (F2.out L2 OL2.out) SL.out).mono ?_
  rintro e Z2 ⟨rfl, m, hm⟩
  have OM2 := Lib.hid (show Only nob X8 Z2 by rw [hm]; exact OL2.out.drewN m)
  clear hm SL
  obtain ⟨L3, hL, o, sL⟩ := lit_ints16 Z2 #[.int .i64 0, .int .i64 1, .int .i64 3] [0, 1, 3] rfl rfl (by decide)
  have HE := Lib.hid hL
  have SL := Lib.hid sL
  have OL3 := Lib.hid (OM2.out.trans o)
  clear hL o sL
  go_wp2_with (with_reducible rw [HE.out])
  clear HE
  go_at_call 10
  refine (rInts16 _ _ [0, 1, 3] _ _ L3 (F4.out L3 OL3.out) SL.out).mono ?_
  rintro e Z3 ⟨rfl, m, hm⟩
  have OM3 := Lib.hid (show Only nob X8 Z3 by rw [hm]; exact OL3.out.drewN m)
  clear hm SL
  obtain ⟨L4, hL, o, sL⟩ := lit_ints16 Z3 #[.int .i64 2] [2] rfl rfl (by decide)
  have HE := Lib.hid hL
  have SL := Lib.hid sL
  have OL4 := Lib.hid (OM3.out.trans o)
  clear hL o sL
  go_wp2_with (with_reducible rw [HE.out])
  clear HE
  go_at_call 10
  refine (rInts16 _ _ [2] _ _ L4 (F5.out L4 OL4.out) SL.out).mono ?_
  rintro e Z4 ⟨rfl, m, hm⟩
  have OM4 := Lib.hid (show Only nob X8 Z4 by rw [hm]; exact OL4.out.drewN m)
  clear hm SL
  have OE := Lib.hid (OV.out.trans (OX.out.trans OM4.out))
  go_wp2
  go_ret
  exact ⟨rfl, OE.out⟩
end Go.Proofs.Ytkjdnccnfnhkoaa
