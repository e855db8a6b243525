/- The laws of chapter 18: walked, over what package canon is asked for. (Printed by wip/tools/gen_law18.py; written ahead of stage 18's code.) -/
import Derived.Test.YtmnehonmbjnnaaaRef18D
import Derived.Test.YtmnehonmbjnnaaaReLaw
namespace Go.Proofs.Ytmnehonmbjnnaaa
open Go.RowKit Go.Lib
set_option maxRecDepth 100000
set_option linter.unusedSimpArgs false
set_option linter.unusedVariables false

/-- Rows of numbers that are the same. -/
theorem ints18 {V W : World} {base base' n : Nat} {v u : Value} {l : List Int} (h : OwR V base 3 v n (i64s l)) (k : OwR W base' 3 u n (i64s l)) (o : Only nob V W) (W' : World) (o' : Only nob W W') :
    Calls Try.prog 12 #[v, u] W' fun e w' => e = .returned (.bool true) ∧ Only nob W' w' := by
  have hl : l.length = n := by simpa [i64s] using h.len
  subst hl
  refine (rInts16 v u l _ _ W' ((h.only (o.trans o') fun _ _ h => h).sl) ((k.only o' fun _ _ h => h).sl)).mono ?_
  rintro e w' ⟨rfl, m, rfl⟩
  exact ⟨rfl, (Only.refl nob W').drewN m⟩
def AlkGC (f : FuncId) : Prop := ∀ (a b : Gr) (an ar bn br : Value) (hs js : List (Value × Value)) (B : Nat) (W : World), RdG W B a an ar hs → RdG W B b bn br js → B ≤ W.heap.size → GrFit a → GrFit b → a.nd.length ≤ 60 → a.rt.length ≤ 100 → b.nd.length ≤ 60 → b.rt.length ≤ 100 →
  Calls Try.prog f #[.agg #[an, ar], .agg #[bn, br]] W fun e w' => e = .returned (.bool (alikeB a b)) ∧ Only nob W w'
def AwkC : Prop := ∀ w : World, Calls Try.prog 7 #[] w fun e w' => e = .returned (.bool true) ∧ Only nob w w'
theorem canG_fit {g : Gr} (h : GrFit g) (hn : g.nd.length ≤ 60) : GrFit (canG g) := fit_rn h (by have := flat_n60 g; omega)
theorem canG_len {g : Gr} : (canG g).nd.length ≤ g.nd.length ∧ (canG g).rt.length ≤ g.rt.length := by
  unfold canG rnG
  split
  · have := flat_n60 g
    exact ⟨by simp [pick]; exact this, by simp [turnT]⟩
  · simp
theorem rnG_len {g : Gr} {o : List Int} : (rnG g o).nd.length ≤ o.length ∧ (rnG g o).rt.length ≤ g.rt.length := by
  unfold rnG
  split
  · exact ⟨by simp [pick], by simp [turnT]⟩
  · simp
set_option maxHeartbeats 8000000 in
theorem canonMatches_walk (HCP : CanGC 10) (HMP : MatGC 8) (HAP : AlkGC 13) (haw : AwkC) (a b : Gr) (an ar bn br : Value) (hs js : List (Value × Value)) (w : World) (ha : RdG w w.heap.size a an ar hs) (hb : RdG w w.heap.size b bn br js) (hfa : GrFit a) (hfb : GrFit b) :
    Calls Try.prog 3 #[.agg #[an, ar], .agg #[bn, br]] w fun e w' => e = .returned (.bool true) ∧ Only nob w w' := by
  have HAW := Lib.hid haw
  have HGA := Lib.hid (fun (W' : World) (o : Only nob w W') => ha.only o (Nat.le_refl w.heap.size))
  have HGB := Lib.hid (fun (W' : World) (o : Only nob w W') => hb.only o (Nat.le_refl w.heap.size))
  obtain ⟨A, ca, rfl, hac, hcm⟩ := ha.nodes.form
  obtain ⟨A', cb, rfl, hbc, hcm'⟩ := hb.nodes.form
  obtain ⟨Ar, cra, rfl, hrac, hrcm⟩ := ha.roots.form
  obtain ⟨Br, crb, rfl, hrbc, hrcm'⟩ := hb.roots.form
  unfold maxLen at hcm hcm' hrcm hrcm'
  obtain ⟨V, hV, HVB⟩ := boxes18 w (.slice A a.nd.length ca) (.slice Ar a.rt.length cra) (.slice A' b.nd.length cb) (.slice Br b.rt.length crb)
  have HVE := Lib.hid hV
  have HC := Lib.hid (show ∀ W' : World, Only nob V W' → W'.cell? ⟨w.heap.size, 0, none⟩ = some (.slice A a.nd.length ca) ∧ W'.cell? ⟨w.heap.size, 1, none⟩ = some (.slice Ar a.rt.length cra) ∧ W'.cell? ⟨w.heap.size + 1, 0, none⟩ = some (.slice A' b.nd.length cb) ∧ W'.cell? ⟨w.heap.size + 1, 1, none⟩ = some (.slice Br b.rt.length crb) from fun W' o => ⟨(HVB.out.2.1.keep o id).cell 0, (HVB.out.2.1.keep o id).cell 1, (HVB.out.2.2.keep o id).cell 0, (HVB.out.2.2.keep o id).cell 1⟩)
  have OC := Lib.hid (Only.refl nob V)
  have OV := Lib.hid HVB.out.1
  obtain ⟨c0, c1, c2, c3⟩ := HC.out V OC.out
  clear hV
  go_enter Try.func3, Try.ntmps3
  go_upto_region 1 with fail
  rw [HVE.out]
  go_wp2_with fail
  go_at_call 6
  refine (large_call a _ _ _ _ V (HGA.out V (OV.out.trans OC.out)) (OV.out.trans OC.out).size).mono ?_
  rintro e w1 (⟨rfl, o⟩ | ⟨rfl, hsa, o⟩)
  · have OC := Lib.hid (OC.out.trans o)
    have OE := Lib.hid (OV.out.trans OC.out)
    clear o c0 c1 c2 c3
    go_wp2_with fail
    go_at_call 7
    refine (HAW.out _).mono ?_
    rintro e w9 ⟨rfl, o9⟩
    have O9 := Lib.hid (OE.out.trans o9)
    clear o9
    go_wp2
    go_ret
    exact ⟨rfl, O9.out⟩
  · have OC := Lib.hid (OC.out.trans o)
    clear o c0 c1 c2 c3
    obtain ⟨c0, c1, c2, c3⟩ := HC.out w1 OC.out
    go_wp2_with fail
    go_at_call 6
    refine (large_call b _ _ _ _ w1 (HGB.out w1 (OV.out.trans OC.out)) (OV.out.trans OC.out).size).mono ?_
    rintro e w2 (⟨rfl, o⟩ | ⟨rfl, hsb, o⟩)
    · have OC := Lib.hid (OC.out.trans o)
      have OE := Lib.hid (OV.out.trans OC.out)
      clear o c0 c1 c2 c3
      go_wp2_with fail
      go_at_call 7
      refine (HAW.out _).mono ?_
      rintro e w9 ⟨rfl, o9⟩
      have O9 := Lib.hid (OE.out.trans o9)
      clear o9
      go_wp2
      go_ret
      exact ⟨rfl, O9.out⟩
    · have OC := Lib.hid (OC.out.trans o)
      clear o c0 c1 c2 c3
      obtain ⟨c0, c1, c2, c3⟩ := HC.out w2 OC.out
      have HQM := Lib.hid (fun (W' : World) (o : Only nob V W') => HMP a b _ _ _ _ _ _ _ W' (HGA.out W' (OV.out.trans o)) (HGB.out W' (OV.out.trans o)) (OV.out.trans o).size hfa hfb hsa.1 hsa.2 hsb.1 hsb.2)
      have HQR := Lib.hid (fun (W' : World) (o : Only nob V W') => rMatch18 a b _ _ _ _ _ _ _ W' (HGA.out W' (OV.out.trans o)) (HGB.out W' (OV.out.trans o)) (OV.out.trans o).size hfa hfb hsa.1 hsa.2 hsb.1 hsb.2)
      have HQA := Lib.hid (fun (W' : World) (o : Only nob V W') => HAP a b _ _ _ _ _ _ _ W' (HGA.out W' (OV.out.trans o)) (HGB.out W' (OV.out.trans o)) (OV.out.trans o).size hfa hfb hsa.1 hsa.2 hsb.1 hsb.2)
      have HQC := Lib.hid (fun (W' : World) (o : Only nob V W') => HCP a _ _ _ _ W' (HGA.out W' (OV.out.trans o)) (OV.out.trans o).size hfa hsa.1 hsa.2)
      have HQD := Lib.hid (fun (W' : World) (o : Only nob V W') => rCanon18 a _ _ _ _ W' (HGA.out W' (OV.out.trans o)) (OV.out.trans o).size hfa hsa.1 hsa.2)
      have HKF := Lib.hid (canG_fit hfa hsa.1)
      obtain ⟨E, hE⟩ : ∃ z, z = flatE a := ⟨_, rfl⟩
      obtain ⟨K, hK⟩ : ∃ z, z = canG a := ⟨_, rfl⟩
      obtain ⟨q, hq⟩ : ∃ z, z = alikeB a b := ⟨_, rfl⟩
      obtain ⟨M, hM⟩ : ∃ z, z = matchL a b := ⟨_, rfl⟩
      rw [← hq, ← hM] at HQM HQR
      rw [← hq] at HQA
      rw [← hE, ← hK] at HQC HQD
      rw [← hK] at HKF
      clear hE hK hq hM hfa hfb hsa hsb
      go_wp2_with fail
      go_at_call 8
      refine (HQM.out w2 OC.out).mono ?_
      rintro e w3 ⟨v1, rfl, h1, o⟩
      have R1 := Lib.hid h1
      obtain ⟨A1, k1, rfl, -, -⟩ := h1.form
      clear h1
      have OC := Lib.hid (OC.out.trans o)
      clear o c0 c1 c2 c3
      obtain ⟨c0, c1, c2, c3⟩ := HC.out w3 OC.out
      go_wp2_with fail
      go_at_call 9
      refine (HQR.out w3 OC.out).mono ?_
      rintro e w4 ⟨v1, rfl, h1, o⟩
      have F1 := Lib.hid (ints18 R1.out h1 o)
      have Z1 := Lib.hid (Only.refl nob w4)
      obtain ⟨A2, k2, rfl, -, -⟩ := h1.form
      clear h1
      have OC := Lib.hid (OC.out.trans o)
      clear o c0 c1 c2 c3
      obtain ⟨c0, c1, c2, c3⟩ := HC.out w4 OC.out
      go_wp2_with fail
      go_at_call 10
      refine (HQC.out w4 OC.out).mono ?_
      rintro e w5 ⟨un5, ur5, js5, rfl, rd5, o⟩
      have RD5 := Lib.hid rd5
      obtain ⟨An5, cn5, rfl, -⟩ := rd5.nodes.form
      obtain ⟨Br5, dn5, rfl, -⟩ := rd5.roots.form
      obtain ⟨X5, hX, HB5⟩ := box_graph2 w5 (.slice An5 K.nd.length cn5) (.slice Br5 K.rt.length dn5)
      have HX5 := Lib.hid hX
      have Z1 := Lib.hid (Z1.out.trans (o.trans HB5.out.1))
      have OC := Lib.hid (OC.out.trans (o.trans HB5.out.1))
      have Y5 := Lib.hid (Only.refl nob X5)
      clear o rd5 hX c0 c1 c2 c3
      go_upto_region 6 with fail
      rw [HX5.out]
      obtain ⟨c0, c1, c2, c3⟩ := HC.out X5 OC.out
      go_wp2_with fail
      go_at_call 11
      refine (HQD.out X5 OC.out).mono ?_
      rintro e w6 ⟨un6, ur6, js6, rfl, rd6, o⟩
      have RD6 := Lib.hid rd6
      obtain ⟨An6, cn6, rfl, -⟩ := rd6.nodes.form
      obtain ⟨Br6, dn6, rfl, -⟩ := rd6.roots.form
      obtain ⟨X6, hX, HB6⟩ := box_graph2 w6 (.slice An6 K.nd.length cn6) (.slice Br6 K.rt.length dn6)
      have HX6 := Lib.hid hX
      have Z1 := Lib.hid (Z1.out.trans (o.trans HB6.out.1))
      have Y5 := Lib.hid (Y5.out.trans (o.trans HB6.out.1))
      have OC := Lib.hid (OC.out.trans (o.trans HB6.out.1))
      have Y6 := Lib.hid (Only.refl nob X6)
      clear o rd6 hX c0 c1 c2 c3
      go_upto_region 7 with fail
      rw [HX6.out]
      obtain ⟨c0, c1, c2, c3⟩ := HC.out X6 OC.out
      have HR := Lib.hid (show ∀ W' : World, Only nob X6 W' → W'.cell? ⟨w5.heap.size, 0, none⟩ = some (.slice An5 K.nd.length cn5) ∧ W'.cell? ⟨w5.heap.size, 1, none⟩ = some (.slice Br5 K.rt.length dn5) ∧ W'.cell? ⟨w6.heap.size, 0, none⟩ = some (.slice An6 K.nd.length cn6) ∧ W'.cell? ⟨w6.heap.size, 1, none⟩ = some (.slice Br6 K.rt.length dn6) from fun W' o => ⟨((HB5.out.2.keep Y5.out id).keep o id).cell 0, ((HB5.out.2.keep Y5.out id).keep o id).cell 1, (HB6.out.2.keep o id).cell 0, (HB6.out.2.keep o id).cell 1⟩)
      have HSM := Lib.hid (fun (W' : World) (o : Only nob X6 W') => rSame_eq K _ _ _ _ js5 js6 _ _ W' (RD5.out.only (HB5.out.1.trans (Y5.out.trans o)) (Nat.le_refl _)) (RD6.out.only (HB6.out.1.trans o) (Nat.le_refl _)) (HB5.out.1.trans (Y5.out.trans o)).size (HB6.out.1.trans o).size HKF.out)
      have Y6 := Lib.hid (Only.refl nob X6)
      go_wp2_with fail
      go_at_call 12
      refine (F1.out X6 Z1.out).mono ?_
      rintro e w7 ⟨rfl, o⟩
      have OC := Lib.hid (OC.out.trans o)
      have Y6 := Lib.hid (Y6.out.trans o)
      clear o c0 c1 c2 c3
      obtain ⟨c0, c1, c2, c3⟩ := HC.out w7 OC.out
      go_wp2_with fail
      go_at_call 13
      refine (HQA.out w7 OC.out).mono ?_
      rintro e w8 ⟨rfl, o⟩
      have OC := Lib.hid (OC.out.trans o)
      have Y6 := Lib.hid (Y6.out.trans o)
      clear o c0 c1 c2 c3
      obtain ⟨r0, r1, r2, r3⟩ := HR.out w8 Y6.out
      go_wp2_with fail
      go_at_call 14
      refine (HSM.out w8 Y6.out).mono ?_
      rintro e w10 ⟨rfl, o⟩
      have OC := Lib.hid (OC.out.trans o)
      have OE := Lib.hid (OV.out.trans OC.out)
      clear o r0 r1 r2 r3
      go_wp2_with fail
      go_at_call 7
      refine (HAW.out _).mono ?_
      rintro e w9 ⟨rfl, o9⟩
      have O9 := Lib.hid (OE.out.trans o9)
      clear o9
      go_wp2
      go_ret
      exact ⟨rfl, O9.out⟩
theorem canG_rn2 {g : Gr} {o : List Int} (h : rnE g o = 0) (hn : o.length ≤ 1000000) : flatE g = 0 ∧ flatE (rnG g o) = 0 ∧ canG (rnG g o) = canG g ∧ alikeB g (rnG g o) = true := by
  have h1 := (rnE_iff.1 h).may
  obtain ⟨h2, h3⟩ := canG_rn h hn
  exact ⟨if_pos h1, if_pos h2, h3, alike_iff.2 ⟨h1, h2, h3.symm⟩⟩
theorem canG_can {g : Gr} (hg : grOk g = true) (hn : g.nd.length ≤ 1000000) : flatE (canG g) = 0 ∧ canG (canG g) = canG g := by
  obtain ⟨h1, h2, h3⟩ := canG_ok hg hn
  exact ⟨if_pos h1, h2⟩
set_option maxHeartbeats 8000000 in
theorem canonTurns_walk (HCP : CanGC 10) (HAP : AlkGC 13) (haw : AwkC) (g : Gr) (vn vr v : Value) (hs : List (Value × Value)) (l : List Int) (w : World) (h : RdG w w.heap.size g vn vr hs) (hfit : GrFit g) (hv : Sl w w.heap.size 1 v l.length (i64s l)) (hb64 : ∀ x ∈ l, -9223372036854775808 ≤ x ∧ x ≤ 9223372036854775807) :
    Calls Try.prog 4 #[.agg #[vn, vr], v] w fun e w' => e = .returned (.bool true) ∧ Only nob w w' := by
  have HAW := Lib.hid haw
  have HG := Lib.hid (fun (W' : World) (o : Only nob w W') => h.only o (Nat.le_refl w.heap.size))
  have HV := Lib.hid (fun (W' : World) (o : Only nob w W') => hv.below (o.below (Nat.le_refl w.heap.size) fun _ h => h.elim))
  obtain ⟨A, c, rfl, hac, hcm⟩ := h.nodes.form
  obtain ⟨Ar, cr, rfl, harc, hcrm⟩ := h.roots.form
  obtain ⟨Al, cl, rfl, hal, hcl⟩ := hv.form
  unfold maxLen at hcm hcrm hcl
  obtain ⟨V, hV, HB⟩ := box_graph w (.slice A g.nd.length c) (.slice Ar g.rt.length cr)
  have HVE := Lib.hid hV
  have HC := Lib.hid (show ∀ W' : World, Only nob V W' → W'.cell? ⟨w.heap.size, 0, none⟩ = some (.slice A g.nd.length c) ∧ W'.cell? ⟨w.heap.size, 1, none⟩ = some (.slice Ar g.rt.length cr) from fun W' o => ⟨o.keeps HB.out.2.2.1, o.keeps HB.out.2.2.2⟩)
  have OC := Lib.hid (Only.refl nob V)
  have OV := Lib.hid HB.out.1
  obtain ⟨c0, c1⟩ := HC.out V OC.out
  clear hV
  go_enter Try.func4, Try.ntmps4
  go_upto_region 1 with fail
  rw [HVE.out]
  go_wp2_with fail
  go_at_call 6
  refine (large_call g _ _ _ _ V (HG.out V (OV.out.trans OC.out)) (OV.out.trans OC.out).size).mono ?_
  rintro e w1 (⟨rfl, o⟩ | ⟨rfl, hsg, o⟩)
  · have OC := Lib.hid (OC.out.trans o)
    have OE := Lib.hid (OV.out.trans OC.out)
    clear o c0 c1
    go_wp2_with fail
    go_at_call 7
    refine (HAW.out _).mono ?_
    rintro e w9 ⟨rfl, o9⟩
    have O9 := Lib.hid (OE.out.trans o9)
    clear o9
    go_wp2
    go_ret
    exact ⟨rfl, O9.out⟩
  · have OC := Lib.hid (OC.out.trans o)
    clear o c0 c1
    obtain ⟨c0, c1⟩ := HC.out w1 OC.out
    by_cases hlong : (100 : Int) < (l.length : Int)
    · have OE := Lib.hid (OV.out.trans OC.out)
      clear c0 c1
      go_wp2_with fail
      go_at_call 7
      refine (HAW.out _).mono ?_
      rintro e w9 ⟨rfl, o9⟩
      have O9 := Lib.hid (OE.out.trans o9)
      clear o9
      go_wp2
      go_ret
      exact ⟨rfl, O9.out⟩
    · have hl2 : l.length ≤ 100 := by omega
      have HQN := Lib.hid (fun (W' : World) (o : Only nob V W') => renumber_any16 g l _ _ _ hs _ W' (HG.out W' (OV.out.trans o)) (HV.out W' (OV.out.trans o)) (OV.out.trans o).size hfit hsg.1 hsg.2 hl2 hb64)
      have HQC := Lib.hid (fun (W' : World) (o : Only nob V W') => HCP g _ _ _ _ W' (HG.out W' (OV.out.trans o)) (OV.out.trans o).size hfit hsg.1 hsg.2)
      have HKF := Lib.hid (And.intro (canG_fit hfit hsg.1) (And.intro (Nat.le_trans (canG_len (g := g)).1 hsg.1) (Nat.le_trans (canG_len (g := g)).2 hsg.2)))
      have HRF := Lib.hid (fit_rn (o := l) hfit (by omega))
      have HGF := Lib.hid (And.intro hfit hsg)
      have HQX := Lib.hid (fun (h0 : rnE g l = 0) => canG_rn2 h0 (by omega))
      have HQY := Lib.hid (fun (h0 : rnE g l = 0) => canG_can (rnE_iff.1 h0).may (by omega))
      have HLE := Lib.hid (fun (h0 : rnE g l = 0) => show (rnG g l).nd.length ≤ 60 ∧ (rnG g l).rt.length ≤ 100 from by have h1 := (rnE_iff.1 h0).ord; have h2 := int_len (ordOk_iff.1 h1).2 (ordOk_iff.1 h1).1; have h3 := rnG_len (g := g) (o := l); omega)
      obtain ⟨q, hq⟩ : ∃ z, z = rnE g l := ⟨_, rfl⟩
      obtain ⟨K, hK⟩ : ∃ z, z = canG g := ⟨_, rfl⟩
      obtain ⟨Rg, hRg⟩ : ∃ z, z = rnG g l := ⟨_, rfl⟩
      rw [← hq, ← hRg] at HQN
      rw [← hq, ← hRg] at HLE
      rw [← hRg] at HRF
      rw [← hK] at HQC HKF
      rw [← hq, ← hRg, ← hK] at HQX
      rw [← hq, ← hK] at HQY
      clear hq hK hRg hfit hsg hb64 h hv
      go_wp2_with fail
      go_at_call 15
      refine (HQN.out w1 OC.out).mono ?_
      rintro e w3 ⟨un3, ur3, js3, rfl, rd3, o⟩
      have RD3 := Lib.hid rd3
      obtain ⟨An3, cn3, rfl, -⟩ := rd3.nodes.form
      obtain ⟨Br3, dn3, rfl, -⟩ := rd3.roots.form
      obtain ⟨X3, hX, HB3⟩ := box_graph2 w3 (.slice An3 Rg.nd.length cn3) (.slice Br3 Rg.rt.length dn3)
      have HX3 := Lib.hid hX
      have OC := Lib.hid (OC.out.trans (o.trans HB3.out.1))
      have Y3 := Lib.hid (Only.refl nob X3)
      clear o rd3 hX c0 c1
      go_upto_region 4 with fail
      rw [HX3.out]
      by_cases h0 : q = 0
      · subst h0
        obtain ⟨x1, x2, x3, x4⟩ := HQX.out rfl
        obtain ⟨y1, y2⟩ := HQY.out rfl
        have HL := Lib.hid (HLE.out rfl)
        have HG3 := Lib.hid (fun (W' : World) (o : Only nob X3 W') => And.intro (RD3.out.only (HB3.out.1.trans o) (Nat.le_refl _)) (HB3.out.1.trans o).size)
        have HQ4 := Lib.hid (fun (W' : World) (o : Only nob X3 W') => HCP Rg _ _ _ _ W' (HG3.out W' o).1 (HG3.out W' o).2 HRF.out HL.out.1 HL.out.2)
        rw [x1] at HQC
        rw [x2, x3] at HQ4
        have HAL := Lib.hid (And.intro x4 (And.intro x3 (And.intro x2 (And.intro x1 (And.intro y1 y2)))))
        clear x1 x2 x3 x4 y1 y2
        obtain ⟨c0, c1⟩ := HC.out X3 OC.out
        go_wp2_with fail
        go_at_call 10
        refine (HQC.out X3 OC.out).mono ?_
        rintro e w4 ⟨un4, ur4, js4, rfl, rd4, o⟩
        have RD4 := Lib.hid rd4
        obtain ⟨An4, cn4, rfl, -⟩ := rd4.nodes.form
        obtain ⟨Br4, dn4, rfl, -⟩ := rd4.roots.form
        obtain ⟨X4, hX, HB4⟩ := box_graph2 w4 (.slice An4 K.nd.length cn4) (.slice Br4 K.rt.length dn4)
        have HX4 := Lib.hid hX
        have Y3 := Lib.hid (Y3.out.trans (o.trans HB4.out.1))
        have OC := Lib.hid (OC.out.trans (o.trans HB4.out.1))
        have Y4 := Lib.hid (Only.refl nob X4)
        clear o rd4 hX c0 c1
        go_upto_region 7 with fail
        rw [HX4.out]
        have k0 : X4.cell? ⟨w3.heap.size, 0, none⟩ = some (.slice An3 Rg.nd.length cn3) := (HB3.out.2.keep Y3.out id).cell 0
        have k1 : X4.cell? ⟨w3.heap.size, 1, none⟩ = some (.slice Br3 Rg.rt.length dn3) := (HB3.out.2.keep Y3.out id).cell 1
        go_wp2_with fail
        go_at_call 10
        refine (HQ4.out X4 Y3.out).mono ?_
        rintro e w5 ⟨un5, ur5, js5, rfl, rd5, o⟩
        have RD5 := Lib.hid rd5
        obtain ⟨An5, cn5, rfl, -⟩ := rd5.nodes.form
        obtain ⟨Br5, dn5, rfl, -⟩ := rd5.roots.form
        obtain ⟨X5, hX, HB5⟩ := box_graph2 w5 (.slice An5 K.nd.length cn5) (.slice Br5 K.rt.length dn5)
        have HX5 := Lib.hid hX
        have Y3 := Lib.hid (Y3.out.trans (o.trans HB5.out.1))
        have Y4 := Lib.hid (Y4.out.trans (o.trans HB5.out.1))
        have OC := Lib.hid (OC.out.trans (o.trans HB5.out.1))
        have Y5 := Lib.hid (Only.refl nob X5)
        clear o rd5 hX k0 k1
        go_upto_region 8 with fail
        rw [HX5.out]
        have HG4 := Lib.hid (fun (W' : World) (o : Only nob X4 W') => And.intro (RD4.out.only (HB4.out.1.trans o) (Nat.le_refl _)) (HB4.out.1.trans o).size)
        have HQ5 := Lib.hid (fun (W' : World) (o : Only nob X4 W') => HCP K _ _ _ _ W' (HG4.out W' o).1 (HG4.out W' o).2 HKF.out.1 HKF.out.2.1 HKF.out.2.2)
        rw [HAL.out.2.2.2.2.1, HAL.out.2.2.2.2.2] at HQ5
        have k0 : X5.cell? ⟨w4.heap.size, 0, none⟩ = some (.slice An4 K.nd.length cn4) := (HB4.out.2.keep Y4.out id).cell 0
        have k1 : X5.cell? ⟨w4.heap.size, 1, none⟩ = some (.slice Br4 K.rt.length dn4) := (HB4.out.2.keep Y4.out id).cell 1
        go_wp2_with fail
        go_at_call 10
        refine (HQ5.out X5 Y4.out).mono ?_
        rintro e w6 ⟨un6, ur6, js6, rfl, rd6, o⟩
        have RD6 := Lib.hid rd6
        obtain ⟨An6, cn6, rfl, -⟩ := rd6.nodes.form
        obtain ⟨Br6, dn6, rfl, -⟩ := rd6.roots.form
        obtain ⟨X6, hX, HB6⟩ := box_graph2 w6 (.slice An6 K.nd.length cn6) (.slice Br6 K.rt.length dn6)
        have HX6 := Lib.hid hX
        have Y3 := Lib.hid (Y3.out.trans (o.trans HB6.out.1))
        have Y4 := Lib.hid (Y4.out.trans (o.trans HB6.out.1))
        have Y5 := Lib.hid (Y5.out.trans (o.trans HB6.out.1))
        have OC := Lib.hid (OC.out.trans (o.trans HB6.out.1))
        have Y6 := Lib.hid (Only.refl nob X6)
        clear o rd6 hX k0 k1
        go_upto_region 9 with fail
        rw [HX6.out]
        have HR := Lib.hid (show ∀ W' : World, Only nob X6 W' → (W'.cell? ⟨w4.heap.size, 0, none⟩ = some (.slice An4 K.nd.length cn4) ∧ W'.cell? ⟨w4.heap.size, 1, none⟩ = some (.slice Br4 K.rt.length dn4)) ∧ (W'.cell? ⟨w5.heap.size, 0, none⟩ = some (.slice An5 K.nd.length cn5) ∧ W'.cell? ⟨w5.heap.size, 1, none⟩ = some (.slice Br5 K.rt.length dn5)) ∧ (W'.cell? ⟨w6.heap.size, 0, none⟩ = some (.slice An6 K.nd.length cn6) ∧ W'.cell? ⟨w6.heap.size, 1, none⟩ = some (.slice Br6 K.rt.length dn6)) ∧ W'.cell? ⟨w3.heap.size, 0, none⟩ = some (.slice An3 Rg.nd.length cn3) ∧ W'.cell? ⟨w3.heap.size, 1, none⟩ = some (.slice Br3 Rg.rt.length dn3) from fun W' o => ⟨⟨((HB4.out.2.keep Y4.out id).keep o id).cell 0, ((HB4.out.2.keep Y4.out id).keep o id).cell 1⟩, ⟨((HB5.out.2.keep Y5.out id).keep o id).cell 0, ((HB5.out.2.keep Y5.out id).keep o id).cell 1⟩, ⟨(HB6.out.2.keep o id).cell 0, (HB6.out.2.keep o id).cell 1⟩, ((HB3.out.2.keep Y3.out id).keep o id).cell 0, ((HB3.out.2.keep Y3.out id).keep o id).cell 1⟩)
        have HS1 := Lib.hid (fun (W' : World) (o : Only nob X6 W') => rSame_eq K _ _ _ _ js4 js5 _ _ W' (HG4.out W' (Y4.out.trans o)).1 (RD5.out.only (HB5.out.1.trans (Y5.out.trans o)) (Nat.le_refl _)) (HG4.out W' (Y4.out.trans o)).2 (HB5.out.1.trans (Y5.out.trans o)).size HKF.out.1)
        have HS2 := Lib.hid (fun (W' : World) (o : Only nob X6 W') => rSame_eq K _ _ _ _ js6 js4 _ _ W' (RD6.out.only (HB6.out.1.trans o) (Nat.le_refl _)) (HG4.out W' (Y4.out.trans o)).1 (HB6.out.1.trans o).size (HG4.out W' (Y4.out.trans o)).2 HKF.out.1)
        have HA1 := Lib.hid (fun (W' : World) (o : Only nob X6 W') => HAP g Rg _ _ _ _ hs js3 W'.heap.size W' ((HG.out W' (OV.out.trans (OC.out.trans o))).more (OV.out.trans (OC.out.trans o)).size) ((HG3.out W' (Y3.out.trans o)).1.more (HG3.out W' (Y3.out.trans o)).2) (Nat.le_refl _) HGF.out.1 HRF.out HGF.out.2.1 HGF.out.2.2 HL.out.1 HL.out.2)
        have HA2 := Lib.hid (fun (W' : World) (o : Only nob X6 W') => HAP K Rg _ _ _ _ js4 js3 W'.heap.size W' ((HG4.out W' (Y4.out.trans o)).1.more (HG4.out W' (Y4.out.trans o)).2) ((HG3.out W' (Y3.out.trans o)).1.more (HG3.out W' (Y3.out.trans o)).2) (Nat.le_refl _) HKF.out.1 HRF.out HKF.out.2.1 HKF.out.2.2 HL.out.1 HL.out.2)
        rw [HAL.out.1] at HA1
        have HKR := Lib.hid (show alikeB K Rg = true from by have q1 : grOk K = true := by { have := HAL.out.2.2.2.2.1; unfold flatE at this; by_cases h : grOk K = true; exact h; rw [if_neg h] at this; cases this }; have q2 := (alike_iff.1 HAL.out.1).2.1; exact alike_iff.2 ⟨q1, q2, by rw [HAL.out.2.1, HAL.out.2.2.2.2.2]⟩)
        rw [HKR.out] at HA2
        have Y6 := Lib.hid (Only.refl nob X6)
        obtain ⟨⟨r0, r1⟩, ⟨r2, r3⟩, ⟨r4, r5⟩, r6, r7⟩ := HR.out X6 Y6.out
        go_wp2_with fail
        go_at_call 14
        refine (HS1.out X6 Y6.out).mono ?_
        rintro e z1 ⟨rfl, o⟩
        have Y6 := Lib.hid (Y6.out.trans o)
        clear o r0 r1 r2 r3 r4 r5 r6 r7
        obtain ⟨⟨r0, r1⟩, ⟨r2, r3⟩, ⟨r4, r5⟩, r6, r7⟩ := HR.out z1 Y6.out
        go_wp2_with fail
        go_at_call 14
        refine (HS2.out z1 Y6.out).mono ?_
        rintro e z2 ⟨rfl, o⟩
        have Y6 := Lib.hid (Y6.out.trans o)
        clear o r0 r1 r2 r3 r4 r5 r6 r7
        obtain ⟨⟨r0, r1⟩, ⟨r2, r3⟩, ⟨r4, r5⟩, r6, r7⟩ := HR.out z2 Y6.out
        obtain ⟨c0, c1⟩ := HC.out z2 (OC.out.trans Y6.out)
        go_wp2_with fail
        go_at_call 13
        refine (HA1.out z2 Y6.out).mono ?_
        rintro e z3 ⟨rfl, o⟩
        have Y6 := Lib.hid (Y6.out.trans o)
        clear o r0 r1 r2 r3 r4 r5 r6 r7
        obtain ⟨⟨r0, r1⟩, ⟨r2, r3⟩, ⟨r4, r5⟩, r6, r7⟩ := HR.out z3 Y6.out
        clear c0 c1
        go_wp2_with fail
        go_at_call 13
        refine (HA2.out z3 Y6.out).mono ?_
        rintro e z4 ⟨rfl, o⟩
        have Y6 := Lib.hid (Y6.out.trans o)
        clear o r0 r1 r2 r3 r4 r5 r6 r7
        obtain ⟨⟨r0, r1⟩, ⟨r2, r3⟩, ⟨r4, r5⟩, r6, r7⟩ := HR.out z4 Y6.out
        have OE := Lib.hid (OV.out.trans (OC.out.trans Y6.out))
        clear r0 r1 r2 r3 r4 r5 r6 r7
        go_wp2_with fail
        go_at_call 7
        refine (HAW.out _).mono ?_
        rintro e w9 ⟨rfl, o9⟩
        have O9 := Lib.hid (OE.out.trans o9)
        clear o9
        go_wp2
        go_ret
        exact ⟨rfl, O9.out⟩
      · have hnb : (q != 0) = true := by simpa using h0
        have OE := Lib.hid (OV.out.trans OC.out)
        go_wp2_with fail
        go_at_call 7
        refine (HAW.out _).mono ?_
        rintro e w9 ⟨rfl, o9⟩
        have O9 := Lib.hid (OE.out.trans o9)
        clear o9
        go_wp2
        go_ret
        exact ⟨rfl, O9.out⟩
theorem boxes18c (w : World) (an ar bn br en er : Value) : ∃ V, (((w.alloc (.cells #[an, ar] 25)).alloc (.cells #[bn, br] 25)).alloc (.cells #[en, er] 25)) = V ∧ Hid (Only nob w V ∧ Blk V w.heap.size 25 #[an, ar] ∧ Blk V (w.heap.size + 1) 25 #[bn, br] ∧ Blk V (w.heap.size + 1 + 1) 25 #[en, er]) :=
  ⟨_, rfl, Lib.hid ⟨(((Only.refl nob w).alloc _).alloc _).alloc _, ((Blk.new w _ _).alloc _).alloc _, (Blk.newAt _ _ _ _ (by simp)).alloc _, Blk.newAt _ _ _ _ (by simp)⟩⟩
set_option maxHeartbeats 16000000 in
theorem canonLike_walk (HAP : AlkGC 13) (haw : AwkC) (a b d : Gr) (an ar bn br en er : Value) (hs js ks : List (Value × Value)) (w : World) (ha : RdG w w.heap.size a an ar hs) (hb : RdG w w.heap.size b bn br js) (hd : RdG w w.heap.size d en er ks) (hfa : GrFit a) (hfb : GrFit b) (hfd : GrFit d) :
    Calls Try.prog 5 #[.agg #[an, ar], .agg #[bn, br], .agg #[en, er]] w fun e w' => e = .returned (.bool true) ∧ Only nob w w' := by
  have HAW := Lib.hid haw
  have HGA := Lib.hid (fun (W' : World) (o : Only nob w W') => ha.only o (Nat.le_refl w.heap.size))
  have HGB := Lib.hid (fun (W' : World) (o : Only nob w W') => hb.only o (Nat.le_refl w.heap.size))
  have HGD := Lib.hid (fun (W' : World) (o : Only nob w W') => hd.only o (Nat.le_refl w.heap.size))
  obtain ⟨NA, cnA, rfl, hn1A, hn2A⟩ := ha.nodes.form
  obtain ⟨RA, crA, rfl, hr1A, hr2A⟩ := ha.roots.form
  obtain ⟨NB, cnB, rfl, hn1B, hn2B⟩ := hb.nodes.form
  obtain ⟨RB, crB, rfl, hr1B, hr2B⟩ := hb.roots.form
  obtain ⟨ND, cnD, rfl, hn1D, hn2D⟩ := hd.nodes.form
  obtain ⟨RD, crD, rfl, hr1D, hr2D⟩ := hd.roots.form
  unfold maxLen at hn2A hn2B hn2D hr2A hr2B hr2D
  obtain ⟨V, hV, HVB⟩ := boxes18c w (.slice NA a.nd.length cnA) (.slice RA a.rt.length crA) (.slice NB b.nd.length cnB) (.slice RB b.rt.length crB) (.slice ND d.nd.length cnD) (.slice RD d.rt.length crD)
  have HVE := Lib.hid hV
  have HC := Lib.hid (show ∀ W' : World, Only nob V W' → W'.cell? ⟨w.heap.size, 0, none⟩ = some (.slice NA a.nd.length cnA) ∧ W'.cell? ⟨w.heap.size, 1, none⟩ = some (.slice RA a.rt.length crA) ∧ W'.cell? ⟨w.heap.size + 1, 0, none⟩ = some (.slice NB b.nd.length cnB) ∧ W'.cell? ⟨w.heap.size + 1, 1, none⟩ = some (.slice RB b.rt.length crB) ∧ W'.cell? ⟨w.heap.size + 1 + 1, 0, none⟩ = some (.slice ND d.nd.length cnD) ∧ W'.cell? ⟨w.heap.size + 1 + 1, 1, none⟩ = some (.slice RD d.rt.length crD) from fun W' o => ⟨(HVB.out.2.1.keep o id).cell 0, (HVB.out.2.1.keep o id).cell 1, (HVB.out.2.2.1.keep o id).cell 0, (HVB.out.2.2.1.keep o id).cell 1, (HVB.out.2.2.2.keep o id).cell 0, (HVB.out.2.2.2.keep o id).cell 1⟩)
  have OC := Lib.hid (Only.refl nob V)
  have OV := Lib.hid HVB.out.1
  obtain ⟨c0, c1, c2, c3, c4, c5⟩ := HC.out V OC.out
  clear hV
  go_enter Try.func5, Try.ntmps5
  go_upto_region 1 with fail
  rw [HVE.out]
  go_wp2_with fail
  go_at_call 6
  refine (large_call a _ _ _ _ V (HGA.out V (OV.out.trans OC.out)) (OV.out.trans OC.out).size).mono ?_
  rintro e w1 (⟨rfl, o⟩ | ⟨rfl, hsa, o⟩)
  · have OC := Lib.hid (OC.out.trans o)
    have OE := Lib.hid (OV.out.trans OC.out)
    clear o c0 c1 c2 c3 c4 c5
    go_wp2_with fail
    go_at_call 7
    refine (HAW.out _).mono ?_
    rintro e w9 ⟨rfl, o9⟩
    have O9 := Lib.hid (OE.out.trans o9)
    clear o9
    go_wp2
    go_ret
    exact ⟨rfl, O9.out⟩
  · have OC := Lib.hid (OC.out.trans o)
    clear o c0 c1 c2 c3 c4 c5
    obtain ⟨c0, c1, c2, c3, c4, c5⟩ := HC.out w1 OC.out
    go_wp2_with fail
    go_at_call 6
    refine (large_call b _ _ _ _ w1 (HGB.out w1 (OV.out.trans OC.out)) (OV.out.trans OC.out).size).mono ?_
    rintro e w2 (⟨rfl, o⟩ | ⟨rfl, hsb, o⟩)
    · have OC := Lib.hid (OC.out.trans o)
      have OE := Lib.hid (OV.out.trans OC.out)
      clear o c0 c1 c2 c3 c4 c5
      go_wp2_with fail
      go_at_call 7
      refine (HAW.out _).mono ?_
      rintro e w9 ⟨rfl, o9⟩
      have O9 := Lib.hid (OE.out.trans o9)
      clear o9
      go_wp2
      go_ret
      exact ⟨rfl, O9.out⟩
    · have OC := Lib.hid (OC.out.trans o)
      clear o c0 c1 c2 c3 c4 c5
      obtain ⟨c0, c1, c2, c3, c4, c5⟩ := HC.out w2 OC.out
      go_wp2_with fail
      go_at_call 6
      refine (large_call d _ _ _ _ w2 (HGD.out w2 (OV.out.trans OC.out)) (OV.out.trans OC.out).size).mono ?_
      rintro e w3 (⟨rfl, o⟩ | ⟨rfl, hsd, o⟩)
      · have OC := Lib.hid (OC.out.trans o)
        have OE := Lib.hid (OV.out.trans OC.out)
        clear o c0 c1 c2 c3 c4 c5
        go_wp2_with fail
        go_at_call 7
        refine (HAW.out _).mono ?_
        rintro e w9 ⟨rfl, o9⟩
        have O9 := Lib.hid (OE.out.trans o9)
        clear o9
        go_wp2
        go_ret
        exact ⟨rfl, O9.out⟩
      · have OC := Lib.hid (OC.out.trans o)
        clear o c0 c1 c2 c3 c4 c5
        obtain ⟨c0, c1, c2, c3, c4, c5⟩ := HC.out w3 OC.out
        have HAB := Lib.hid (fun (W' : World) (o : Only nob V W') => HAP a b _ _ _ _ _ _ _ W' (HGA.out W' (OV.out.trans o)) (HGB.out W' (OV.out.trans o)) (OV.out.trans o).size hfa hfb hsa.1 hsa.2 hsb.1 hsb.2)
        have HBD := Lib.hid (fun (W' : World) (o : Only nob V W') => HAP b d _ _ _ _ _ _ _ W' (HGB.out W' (OV.out.trans o)) (HGD.out W' (OV.out.trans o)) (OV.out.trans o).size hfb hfd hsb.1 hsb.2 hsd.1 hsd.2)
        have HAD := Lib.hid (fun (W' : World) (o : Only nob V W') => HAP a d _ _ _ _ _ _ _ W' (HGA.out W' (OV.out.trans o)) (HGD.out W' (OV.out.trans o)) (OV.out.trans o).size hfa hfd hsa.1 hsa.2 hsd.1 hsd.2)
        have HAA := Lib.hid (fun (W' : World) (o : Only nob V W') => HAP a a _ _ _ _ _ _ _ W' (HGA.out W' (OV.out.trans o)) (HGA.out W' (OV.out.trans o)) (OV.out.trans o).size hfa hfa hsa.1 hsa.2 hsa.1 hsa.2)
        have HBA := Lib.hid (fun (W' : World) (o : Only nob V W') => HAP b a _ _ _ _ _ _ _ W' (HGB.out W' (OV.out.trans o)) (HGA.out W' (OV.out.trans o)) (OV.out.trans o).size hfb hfa hsb.1 hsb.2 hsa.1 hsa.2)
        have HRT := Lib.hid (fun (W' : World) (o : Only nob V W') => right_any16 a _ _ _ _ W' (HGA.out W' (OV.out.trans o)) (OV.out.trans o).size hfa)
        rw [alike_self a] at HAA
        rw [alike_flip b a] at HBA
        have HON := Lib.hid (fun (h : alikeB a b = true) => alike_on (c := d) h)
        obtain ⟨ga, hga⟩ : ∃ z, z = grOk a := ⟨_, rfl⟩
        obtain ⟨q1, hq1⟩ : ∃ z, z = alikeB a b := ⟨_, rfl⟩
        obtain ⟨q2, hq2⟩ : ∃ z, z = alikeB b d := ⟨_, rfl⟩
        obtain ⟨q3, hq3⟩ : ∃ z, z = alikeB a d := ⟨_, rfl⟩
        rw [← hga] at HAA HRT
        rw [← hq1] at HAB HBA HON
        rw [← hq2] at HBD HON
        rw [← hq3] at HAD HON
        clear hga hq1 hq2 hq3 hfa hfb hfd hsa hsb hsd ha hb hd
        have HAWV := Lib.hid (fun (W' : World) (o : Only nob V W') => HAW.out W')
        cases q1 with
        | true =>
          obtain rfl : q2 = q3 := HON.out rfl
          have OC := Lib.hid (show Only nob V (World.drew _) from OC.out.drewN 1)
          have mixed := mixed16
          go_upto_region 3 with fail
          go_region_held3 (fun w' : World => w'.cell? ⟨w.heap.size, 0, none⟩ = some (.slice NA a.nd.length cnA) ∧ w'.cell? ⟨w.heap.size, 1, none⟩ = some (.slice RA a.rt.length crA) ∧ w'.cell? ⟨w.heap.size + 1, 0, none⟩ = some (.slice NB b.nd.length cnB) ∧ w'.cell? ⟨w.heap.size + 1, 1, none⟩ = some (.slice RB b.rt.length crB) ∧ w'.cell? ⟨w.heap.size + 1 + 1, 0, none⟩ = some (.slice ND d.nd.length cnD) ∧ w'.cell? ⟨w.heap.size + 1 + 1, 1, none⟩ = some (.slice RD d.rt.length crD)) (first | (with_reducible exact HC.out _ OC.out) | go_keep)
            (first
              | (go_at_call 13
                 with_reducible refine (HAB.out _ OC.out).mono ?_
                 rintro e wt ⟨rfl, o⟩
                 have OC := Lib.hid (OC.out.trans o)
                 clear o)
              | (go_at_call 13
                 with_reducible refine (HBD.out _ OC.out).mono ?_
                 rintro e wt ⟨rfl, o⟩
                 have OC := Lib.hid (OC.out.trans o)
                 clear o)
              | (go_at_call 13
                 with_reducible refine (HAD.out _ OC.out).mono ?_
                 rintro e wt ⟨rfl, o⟩
                 have OC := Lib.hid (OC.out.trans o)
                 clear o))
          all_goals
            have OC := Lib.hid (show Only nob V (World.drew _) from OC.out.drewN 1)
            have mixed := mixed16
            go_upto_region 4 with fail
            go_region_held3 (fun w' : World => w'.cell? ⟨w.heap.size, 0, none⟩ = some (.slice NA a.nd.length cnA) ∧ w'.cell? ⟨w.heap.size, 1, none⟩ = some (.slice RA a.rt.length crA) ∧ w'.cell? ⟨w.heap.size + 1, 0, none⟩ = some (.slice NB b.nd.length cnB) ∧ w'.cell? ⟨w.heap.size + 1, 1, none⟩ = some (.slice RB b.rt.length crB) ∧ w'.cell? ⟨w.heap.size + 1 + 1, 0, none⟩ = some (.slice ND d.nd.length cnD) ∧ w'.cell? ⟨w.heap.size + 1 + 1, 1, none⟩ = some (.slice RD d.rt.length crD)) (first | (with_reducible exact HC.out _ OC.out) | go_keep)
              (first
                | (go_at_call 13
                   with_reducible refine (HAA.out _ OC.out).mono ?_
                   rintro e wt ⟨rfl, o⟩
                   have OC := Lib.hid (OC.out.trans o)
                   clear o)
                | (go_at_call 13
                   with_reducible refine (HBA.out _ OC.out).mono ?_
                   rintro e wt ⟨rfl, o⟩
                   have OC := Lib.hid (OC.out.trans o)
                   clear o)
                | (go_at_call 16
                   with_reducible refine (HRT.out _ OC.out).mono ?_
                   rintro e wt ⟨rfl, o⟩
                   have OC := Lib.hid (OC.out.trans o)
                   clear o)
                | (go_at_call 7
                   with_reducible refine (HAWV.out _ OC.out).mono ?_
                   rintro e wt ⟨rfl, o⟩
                   have OC := Lib.hid (OC.out.trans o)
                   clear o))
            all_goals
              have OE := Lib.hid (OV.out.trans OC.out)
              go_wp2
              go_ret
              exact ⟨rfl, OE.out⟩
        | false =>
          have OC := Lib.hid (show Only nob V (World.drew _) from OC.out.drewN 1)
          have mixed := mixed16
          go_upto_region 3 with fail
          go_region_held3 (fun w' : World => w'.cell? ⟨w.heap.size, 0, none⟩ = some (.slice NA a.nd.length cnA) ∧ w'.cell? ⟨w.heap.size, 1, none⟩ = some (.slice RA a.rt.length crA) ∧ w'.cell? ⟨w.heap.size + 1, 0, none⟩ = some (.slice NB b.nd.length cnB) ∧ w'.cell? ⟨w.heap.size + 1, 1, none⟩ = some (.slice RB b.rt.length crB) ∧ w'.cell? ⟨w.heap.size + 1 + 1, 0, none⟩ = some (.slice ND d.nd.length cnD) ∧ w'.cell? ⟨w.heap.size + 1 + 1, 1, none⟩ = some (.slice RD d.rt.length crD)) (first | (with_reducible exact HC.out _ OC.out) | go_keep)
            (first
              | (go_at_call 13
                 with_reducible refine (HAB.out _ OC.out).mono ?_
                 rintro e wt ⟨rfl, o⟩
                 have OC := Lib.hid (OC.out.trans o)
                 clear o)
              | (go_at_call 13
                 with_reducible refine (HBD.out _ OC.out).mono ?_
                 rintro e wt ⟨rfl, o⟩
                 have OC := Lib.hid (OC.out.trans o)
                 clear o)
              | (go_at_call 13
                 with_reducible refine (HAD.out _ OC.out).mono ?_
                 rintro e wt ⟨rfl, o⟩
                 have OC := Lib.hid (OC.out.trans o)
                 clear o))
          all_goals
            have OC := Lib.hid (show Only nob V (World.drew _) from OC.out.drewN 1)
            have mixed := mixed16
            go_upto_region 4 with fail
            refine wp_region_held_drew (S := fun w' : World => w'.cell? ⟨w.heap.size, 0, none⟩ = some (.slice NA a.nd.length cnA) ∧ w'.cell? ⟨w.heap.size, 1, none⟩ = some (.slice RA a.rt.length crA) ∧ w'.cell? ⟨w.heap.size + 1, 0, none⟩ = some (.slice NB b.nd.length cnB) ∧ w'.cell? ⟨w.heap.size + 1, 1, none⟩ = some (.slice RB b.rt.length crB) ∧ w'.cell? ⟨w.heap.size + 1 + 1, 0, none⟩ = some (.slice ND d.nd.length cnD) ∧ w'.cell? ⟨w.heap.size + 1 + 1, 1, none⟩ = some (.slice RD d.rt.length crD)) (by kernel_rfl) ?_ (fun hHeld => ?_)
            · exact HC.out _ OC.out
            refine wpAnyH_take (i := 0) (v := ?_) rfl (by kernel_rfl) (by kernel_rfl) (by kernel_rfl) (fun _ _ _ h => h) (Or.inl ⟨by rfl, ?_⟩) hHeld ?_
            rotate_left
            · intro w hSw; (try dsimp only at hSw); go_simp; first | done | with_reducible rfl
            try simp only [Act.put, List.setIfInBounds_toArray, List.set_cons_zero, List.set_cons_succ, List.getElem_toArray, List.getElem_cons_succ, List.getElem_cons_zero]
            refine wpAnyH_take (i := 1) (v := ?_) rfl (by kernel_rfl) (by kernel_rfl) (by kernel_rfl) (fun _ _ _ h => h) (Or.inl ⟨by rfl, ?_⟩) hHeld ?_
            rotate_left
            · intro w hSw; (try dsimp only at hSw); go_simp; first | done | with_reducible rfl
            try simp only [Act.put, List.setIfInBounds_toArray, List.set_cons_zero, List.set_cons_succ, List.getElem_toArray, List.getElem_cons_succ, List.getElem_cons_zero]
            refine wpAnyH_take (i := 3) (v := ?_) rfl (by kernel_rfl) (by kernel_rfl) (by kernel_rfl) (fun _ _ _ h => h) (Or.inl ⟨by rfl, ?_⟩) hHeld ?_
            rotate_left
            · intro w hSw; (try dsimp only at hSw); go_simp; first | done | with_reducible rfl
            try simp only [Act.put, List.setIfInBounds_toArray, List.set_cons_zero, List.set_cons_succ, List.getElem_toArray, List.getElem_cons_succ, List.getElem_cons_zero]
            refine wpAnyH_ready (rs := [2]) (by kernel_rfl) (by simp) ?_
            refine AllReadyH.cons rfl (fun K hK => ?_) AllReadyH.nil
            go_simp
            go_at_call 13
            with_reducible refine (HAA.out _ OC.out).mono ?_
            rintro e wt ⟨rfl, o⟩
            have OC := Lib.hid (OC.out.trans o)
            clear o
            refine hK.out _ _ (HC.out _ OC.out) (fun hHeld2 => ?_)
            clear hK K hHeld
            have hHeld := hHeld2
            clear hHeld2
            try simp only [Act.put, List.setIfInBounds_toArray, List.set_cons_zero, List.set_cons_succ, List.getElem_toArray, List.getElem_cons_succ, List.getElem_cons_zero]
            refine wpAnyH_ready (rs := [4]) (by kernel_rfl) (by simp) ?_
            refine AllReadyH.cons rfl (fun K hK => ?_) AllReadyH.nil
            go_simp
            go_at_call 16
            with_reducible refine (HRT.out _ OC.out).mono ?_
            rintro e wt ⟨rfl, o⟩
            have OC := Lib.hid (OC.out.trans o)
            clear o
            refine hK.out _ _ (HC.out _ OC.out) (fun hHeld2 => ?_)
            clear hK K hHeld
            have hHeld := hHeld2
            clear hHeld2
            try simp only [Act.put, List.setIfInBounds_toArray, List.set_cons_zero, List.set_cons_succ, List.getElem_toArray, List.getElem_cons_succ, List.getElem_cons_zero]
            refine wpAnyH_take (i := 5) (v := ?_) rfl (by kernel_rfl) (by kernel_rfl) (by kernel_rfl) (fun _ _ _ h => h) (Or.inl ⟨by rfl, ?_⟩) hHeld ?_
            rotate_left
            · intro w hSw; (try dsimp only at hSw); go_simp; first | done | with_reducible rfl
            try simp only [Act.put, List.setIfInBounds_toArray, List.set_cons_zero, List.set_cons_succ, List.getElem_toArray, List.getElem_cons_succ, List.getElem_cons_zero]
            refine wpAnyH_take (i := 6) (v := ?_) rfl (by kernel_rfl) (by kernel_rfl) (by kernel_rfl) (fun _ _ _ h => h) (Or.inl ⟨by rfl, ?_⟩) hHeld ?_
            rotate_left
            · intro w hSw; (try dsimp only at hSw); go_simp; first | done | with_reducible rfl
            try simp only [Act.put, List.setIfInBounds_toArray, List.set_cons_zero, List.set_cons_succ, List.getElem_toArray, List.getElem_cons_succ, List.getElem_cons_zero]
            refine wpAnyH_take (i := 7) (v := ?_) rfl (by kernel_rfl) (by kernel_rfl) (by kernel_rfl) (fun _ _ _ h => h) (Or.inl ⟨by rfl, ?_⟩) hHeld ?_
            rotate_left
            · intro w hSw; (try dsimp only at hSw); go_simp; first | done | with_reducible rfl
            try simp only [Act.put, List.setIfInBounds_toArray, List.set_cons_zero, List.set_cons_succ, List.getElem_toArray, List.getElem_cons_succ, List.getElem_cons_zero]
            refine wpAnyH_take (i := 8) (v := ?_) rfl (by kernel_rfl) (by kernel_rfl) (by kernel_rfl) (fun _ _ _ h => h) (Or.inl ⟨by rfl, ?_⟩) hHeld ?_
            rotate_left
            · intro w hSw; (try dsimp only at hSw); go_simp; first | done | with_reducible rfl
            try simp only [Act.put, List.setIfInBounds_toArray, List.set_cons_zero, List.set_cons_succ, List.getElem_toArray, List.getElem_cons_succ, List.getElem_cons_zero]
            refine wpAnyH_take (i := 9) (v := ?_) rfl (by kernel_rfl) (by kernel_rfl) (by kernel_rfl) (fun _ _ _ h => h) (Or.inl ⟨by rfl, ?_⟩) hHeld ?_
            rotate_left
            · intro w hSw; (try dsimp only at hSw); go_simp; first | done | with_reducible rfl
            try simp only [Act.put, List.setIfInBounds_toArray, List.set_cons_zero, List.set_cons_succ, List.getElem_toArray, List.getElem_cons_succ, List.getElem_cons_zero]
            refine wpAnyH_ready (rs := [10]) (by kernel_rfl) (by simp) ?_
            refine AllReadyH.cons rfl (fun K hK => ?_) AllReadyH.nil
            go_simp
            go_at_call 13
            with_reducible refine (HBA.out _ OC.out).mono ?_
            rintro e wt ⟨rfl, o⟩
            have OC := Lib.hid (OC.out.trans o)
            clear o
            refine hK.out _ _ (HC.out _ OC.out) (fun hHeld2 => ?_)
            clear hK K hHeld
            have hHeld := hHeld2
            clear hHeld2
            try simp only [Act.put, List.setIfInBounds_toArray, List.set_cons_zero, List.set_cons_succ, List.getElem_toArray, List.getElem_cons_succ, List.getElem_cons_zero]
            refine wpAnyH_take (i := 11) (v := ?_) rfl (by kernel_rfl) (by kernel_rfl) (by kernel_rfl) (fun _ _ _ h => h) (Or.inl ⟨by rfl, ?_⟩) hHeld ?_
            rotate_left
            · intro w hSw; (try dsimp only at hSw); go_simp; first | done | with_reducible rfl
            try simp only [Act.put, List.setIfInBounds_toArray, List.set_cons_zero, List.set_cons_succ, List.getElem_toArray, List.getElem_cons_succ, List.getElem_cons_zero]
            refine wpAnyH_take (i := 12) (v := ?_) rfl (by kernel_rfl) (by kernel_rfl) (by kernel_rfl) (fun _ _ _ h => h) (Or.inl ⟨by rfl, ?_⟩) hHeld ?_
            rotate_left
            · intro w hSw; (try dsimp only at hSw); go_simp; first | done | with_reducible rfl
            try simp only [Act.put, List.setIfInBounds_toArray, List.set_cons_zero, List.set_cons_succ, List.getElem_toArray, List.getElem_cons_succ, List.getElem_cons_zero]
            refine wpAnyH_take (i := 13) (v := ?_) rfl (by kernel_rfl) (by kernel_rfl) (by kernel_rfl) (fun _ _ _ h => h) (Or.inl ⟨by rfl, ?_⟩) hHeld ?_
            rotate_left
            · intro w hSw; (try dsimp only at hSw); go_simp; first | done | with_reducible rfl
            try simp only [Act.put, List.setIfInBounds_toArray, List.set_cons_zero, List.set_cons_succ, List.getElem_toArray, List.getElem_cons_succ, List.getElem_cons_zero]
            refine wpAnyH_take (i := 14) (v := ?_) rfl (by kernel_rfl) (by kernel_rfl) (by kernel_rfl) (fun _ _ _ h => h) (Or.inl ⟨by rfl, ?_⟩) hHeld ?_
            rotate_left
            · intro w hSw; (try dsimp only at hSw); go_simp; first | done | with_reducible rfl
            try simp only [Act.put, List.setIfInBounds_toArray, List.set_cons_zero, List.set_cons_succ, List.getElem_toArray, List.getElem_cons_succ, List.getElem_cons_zero]
            refine wpAnyH_take (i := 15) (v := ?_) rfl (by kernel_rfl) (by kernel_rfl) (by kernel_rfl) (fun _ _ _ h => h) (Or.inl ⟨by rfl, ?_⟩) hHeld ?_
            rotate_left
            · intro w hSw; (try dsimp only at hSw); go_simp; first | done | with_reducible rfl
            try simp only [Act.put, List.setIfInBounds_toArray, List.set_cons_zero, List.set_cons_succ, List.getElem_toArray, List.getElem_cons_succ, List.getElem_cons_zero]
            refine wpAnyH_take (i := 16) (v := ?_) rfl (by kernel_rfl) (by kernel_rfl) (by kernel_rfl) (fun _ _ _ h => h) (Or.inl ⟨by rfl, ?_⟩) hHeld ?_
            rotate_left
            · intro w hSw; (try dsimp only at hSw); go_simp; first | done | with_reducible rfl
            try simp only [Act.put, List.setIfInBounds_toArray, List.set_cons_zero, List.set_cons_succ, List.getElem_toArray, List.getElem_cons_succ, List.getElem_cons_zero]
            refine wpAnyH_take (i := 17) (v := undef) rfl (by kernel_rfl) (by kernel_rfl) (by kernel_rfl) (fun _ _ _ h => h) (Or.inr ⟨by rfl, rfl⟩) hHeld ?_
            try simp only [Act.put, List.setIfInBounds_toArray, List.set_cons_zero, List.set_cons_succ, List.getElem_toArray, List.getElem_cons_succ, List.getElem_cons_zero]
            refine wpAnyH_take (i := 18) (v := undef) rfl (by kernel_rfl) (by kernel_rfl) (by kernel_rfl) (fun _ _ _ h => h) (Or.inr ⟨by rfl, rfl⟩) hHeld ?_
            try simp only [Act.put, List.setIfInBounds_toArray, List.set_cons_zero, List.set_cons_succ, List.getElem_toArray, List.getElem_cons_succ, List.getElem_cons_zero]
            refine wpAnyH_take (i := 19) (v := undef) rfl (by kernel_rfl) (by kernel_rfl) (by kernel_rfl) (fun _ _ _ h => h) (Or.inr ⟨by rfl, rfl⟩) hHeld ?_
            try simp only [Act.put, List.setIfInBounds_toArray, List.set_cons_zero, List.set_cons_succ, List.getElem_toArray, List.getElem_cons_succ, List.getElem_cons_zero]
            refine wpAnyH_take (i := 20) (v := ?_) rfl (by kernel_rfl) (by kernel_rfl) (by kernel_rfl) (fun _ _ _ h => h) (Or.inl ⟨by rfl, ?_⟩) hHeld ?_
            rotate_left
            · intro w hSw; (try dsimp only at hSw); go_simp; first | done | with_reducible rfl
            try simp only [Act.put, List.setIfInBounds_toArray, List.set_cons_zero, List.set_cons_succ, List.getElem_toArray, List.getElem_cons_succ, List.getElem_cons_zero]
            refine wpAnyH_take (i := 21) (v := ?_) rfl (by kernel_rfl) (by kernel_rfl) (by kernel_rfl) (fun _ _ _ h => h) (Or.inl ⟨by rfl, ?_⟩) hHeld ?_
            rotate_left
            · intro w hSw; (try dsimp only at hSw); go_simp; first | done | with_reducible rfl
            try simp only [Act.put, List.setIfInBounds_toArray, List.set_cons_zero, List.set_cons_succ, List.getElem_toArray, List.getElem_cons_succ, List.getElem_cons_zero]
            refine wpAnyH_take (i := 22) (v := ?_) rfl (by kernel_rfl) (by kernel_rfl) (by kernel_rfl) (fun _ _ _ h => h) (Or.inl ⟨by rfl, ?_⟩) hHeld ?_
            rotate_left
            · intro w hSw; (try dsimp only at hSw); go_simp; first | done | with_reducible rfl
            try simp only [Act.put, List.setIfInBounds_toArray, List.set_cons_zero, List.set_cons_succ, List.getElem_toArray, List.getElem_cons_succ, List.getElem_cons_zero]
            refine wpAnyH_ready (rs := [23]) (by kernel_rfl) (by simp) ?_
            refine AllReadyH.cons rfl (fun K hK => ?_) AllReadyH.nil
            go_simp
            go_at_call 7
            with_reducible refine (HAWV.out _ OC.out).mono ?_
            rintro e wt ⟨rfl, o⟩
            have OC := Lib.hid (OC.out.trans o)
            clear o
            refine hK.out _ _ (HC.out _ OC.out) (fun hHeld2 => ?_)
            clear hK K hHeld
            have hHeld := hHeld2
            clear hHeld2
            try simp only [Act.put, List.setIfInBounds_toArray, List.set_cons_zero, List.set_cons_succ, List.getElem_toArray, List.getElem_cons_succ, List.getElem_cons_zero]
            refine wpAnyH_take (i := 24) (v := ?_) rfl (by kernel_rfl) (by kernel_rfl) (by kernel_rfl) (fun _ _ _ h => h) (Or.inl ⟨by rfl, ?_⟩) hHeld ?_
            rotate_left
            · intro w hSw; (try dsimp only at hSw); go_simp; first | done | with_reducible rfl
            try simp only [Act.put, List.setIfInBounds_toArray, List.set_cons_zero, List.set_cons_succ, List.getElem_toArray, List.getElem_cons_succ, List.getElem_cons_zero]
            refine wpAnyH_take (i := 25) (v := ?_) rfl (by kernel_rfl) (by kernel_rfl) (by kernel_rfl) (fun _ _ _ h => h) (Or.inl ⟨by rfl, ?_⟩) hHeld ?_
            rotate_left
            · intro w hSw; (try dsimp only at hSw); go_simp; first | done | with_reducible rfl
            try simp only [Act.put, List.setIfInBounds_toArray, List.set_cons_zero, List.set_cons_succ, List.getElem_toArray, List.getElem_cons_succ, List.getElem_cons_zero]
            refine wpAnyH_done (by kernel_rfl) ?_ _
            have OE := Lib.hid (OV.out.trans OC.out)
            go_wp2
            go_ret
            exact ⟨rfl, OE.out⟩
end Go.Proofs.Ytmnehonmbjnnaaa
