/- The law GraphTurns: walked. -/
import Derived.Test.YtdlaigghejahdaaGrLaw1
import Derived.Test.YtdlaigghejahdaaGrRen
import Derived.Test.YtdlaigghejahdaaGrSame
import Derived.Test.YtdlaigghejahdaaRef16G
import Derived.Test.YtdlaigghejahdaaRef16H
namespace Go.Proofs.Ytdlaigghejahdaa
open Go.RowKit Go.Lib
set_option maxRecDepth 100000
set_option linter.unusedSimpArgs false
set_option linter.unusedVariables false

theorem two_graphs (w : World) (vn vr un ur : Value) : ∃ W, (w.alloc (.cells #[vn, vr] 25)).alloc (.cells #[un, ur] 25) = W ∧ Hid (Only nob w W ∧ Blk W w.heap.size 25 #[vn, vr] ∧ Blk W (w.heap.size + 1) 25 #[un, ur]) :=
  ⟨_, rfl, Lib.hid ⟨((Only.refl nob w).alloc _).alloc _, (Blk.new w _ _).alloc _, Blk.newAt _ _ _ _ (by simp)⟩⟩
theorem vl_turn16 {o : List Int} {l : List Sp} (h : VlOk l) (hl : o.length ≤ 1000000) : VlOk (turnT o l) := by
  intro v hv
  obtain ⟨x, hx, rfl⟩ := List.mem_map.1 hv
  have hb := h x hx
  unfold turnD
  split
  · refine ⟨by omega, ?_⟩
    by_cases hm : x.2 ∈ o
    · have h1 : o.idxOf x.2 < o.length := List.idxOf_lt_length_iff.2 hm
      show -9223372036854775808 ≤ plc o x.2 ∧ plc o x.2 ≤ 9223372036854775807
      rw [plc_in hm]; omega
    · show -9223372036854775808 ≤ plc o x.2 ∧ plc o x.2 ≤ 9223372036854775807
      rw [plc_out hm]; omega
  · exact hb
theorem fit_rn {g : Gr} {o : List Int} (h : GrFit g) (hl : o.length ≤ 1000000) : GrFit (rnG g o) := by
  unfold rnG
  split
  · rename_i h0
    have hp := fit_pick h (ordOk_iff.1 (rnE_iff.1 h0).ord).1
    refine ⟨fun d hd => ?_, fun d hd => ?_, fun d hd => ?_, vl_turn16 h.rt hl⟩
    · obtain ⟨x, hx, rfl⟩ := List.mem_map.1 hd; exact hp.kd x hx
    · obtain ⟨x, hx, rfl⟩ := List.mem_map.1 hd; exact vl_turn16 (hp.fs x hx) hl
    · obtain ⟨x, hx, rfl⟩ := List.mem_map.1 hd; exact hp.rs x hx
  · exact ⟨fun d hd => by simp at hd, fun d hd => by simp at hd, fun d hd => by simp at hd, fun v hv => by simp at hv⟩
theorem rSame_eq (g : Gr) (vn vr un ur : Value) (hs js : List (Value × Value)) (B B' : Nat) (w : World) (h : RdG w B g vn vr hs) (k : RdG w B' g un ur js) (hB : B ≤ w.heap.size) (hB' : B' ≤ w.heap.size) (hf : GrFit g) :
    Calls Try.prog 20 #[.agg #[vn, vr], .agg #[un, ur]] w fun e w' => e = .returned (.bool true) ∧ Only nob w w' := by
  have := rSame16 g g vn vr un ur hs js B B' w h k hB hB' hf hf
  rwa [show sameG g g = true from decide_eq_true rfl] at this
set_option maxHeartbeats 8000000 in
theorem graphTurns_walk (g k : Gr) (vn vr un ur v : Value) (hs js : List (Value × Value)) (l : List Int) (w : World) (h : RdG w w.heap.size g vn vr hs) (h' : RdG w w.heap.size k un ur js) (hfit : GrFit g) (hfit' : GrFit k) (hv : Sl w w.heap.size 1 v l.length (i64s l)) (hb : ∀ x ∈ l, -9223372036854775808 ≤ x ∧ x ≤ 9223372036854775807) :
    Calls Try.prog 4 #[.agg #[vn, vr], .agg #[un, ur], v] w fun e w' => e = .returned (.bool true) ∧ Only nob w w' := by
  have HR := Lib.hid h
  have HK := Lib.hid h'
  have HV := Lib.hid hv
  obtain ⟨A, c, rfl, hac, hcm⟩ := h.nodes.form
  obtain ⟨Ar, cr, rfl, harc, hcrm⟩ := h.roots.form
  obtain ⟨A', c', rfl, hac', hcm'⟩ := h'.nodes.form
  obtain ⟨Ar', cr', rfl, harc', hcrm'⟩ := h'.roots.form
  obtain ⟨Al, cl, rfl, hal, hcl⟩ := hv.form
  unfold maxLen at hcm hcrm hcl hcm' hcrm'
  obtain ⟨W, hW, HB⟩ := two_graphs w (.slice A g.nd.length c) (.slice Ar g.rt.length cr) (.slice A' k.nd.length c') (.slice Ar' k.rt.length cr')
  have HW := Lib.hid hW
  have RW := Lib.hid (HR.out.only HB.out.1 (Nat.le_refl _))
  have KW := Lib.hid (HK.out.only HB.out.1 (Nat.le_refl _))
  have hBW := Lib.hid HB.out.1.size
  have c0 := HB.out.2.1.cell 0
  have c1 := HB.out.2.1.cell 1
  have k0 := HB.out.2.2.cell 0
  have k1 := HB.out.2.2.cell 1
  replace c0 : W.cell? ⟨w.heap.size, 0, none⟩ = some (.slice A g.nd.length c) := c0
  replace c1 : W.cell? ⟨w.heap.size, 1, none⟩ = some (.slice Ar g.rt.length cr) := c1
  replace k0 : W.cell? ⟨w.heap.size + 1, 0, none⟩ = some (.slice A' k.nd.length c') := k0
  replace k1 : W.cell? ⟨w.heap.size + 1, 1, none⟩ = some (.slice Ar' k.rt.length cr') := k1
  clear hW h h' hv
  go_enter Try.func4, Try.ntmps4
  go_upto_region 1 with fail
  rw [HW.out]
  go_wp2_with fail
  go_at_call 6
  refine (large_call g _ _ hs _ W RW.out hBW.out).mono ?_
  rintro e w1 (⟨rfl, o⟩ | ⟨rfl, hsz, o⟩)
  · have O1 := Lib.hid (HB.out.1.trans o)
    clear o c0 c1 k0 k1
    go_wp2_with fail
    go_at_call 7
    refine (awake16 _).mono ?_
    rintro e w9 ⟨rfl, o9⟩
    have O9 := Lib.hid (O1.out.trans o9)
    clear o9
    go_wp2
    go_ret
    exact ⟨rfl, O9.out⟩
  · have O1 := Lib.hid (HB.out.1.trans o)
    have HSZ1 := Lib.hid hsz
    have K1 := Lib.hid (HK.out.only O1.out (Nat.le_refl _))
    have d0 := o.keeps c0
    have d1 := o.keeps c1
    have e0 := o.keeps k0
    have e1 := o.keeps k1
    clear o c0 c1 k0 k1 hsz
    go_wp2_with fail
    go_at_call 6
    refine (large_call k _ _ js _ w1 K1.out O1.out.size).mono ?_
    rintro e w2 (⟨rfl, o⟩ | ⟨rfl, hsz2, o⟩)
    · have O1 := Lib.hid (O1.out.trans o)
      clear o d0 d1 e0 e1
      go_wp2_with fail
      go_at_call 7
      refine (awake16 _).mono ?_
      rintro e w9 ⟨rfl, o9⟩
      have O9 := Lib.hid (O1.out.trans o9)
      clear o9
      go_wp2
      go_ret
      exact ⟨rfl, O9.out⟩
    · have O1 := Lib.hid (O1.out.trans o)
      have c0 := o.keeps d0
      have c1 := o.keeps d1
      have k0 := o.keeps e0
      have k1 := o.keeps e1
      clear o d0 d1 e0 e1 hsz2
      by_cases hl : (100 : Int) < (l.length : Int)
      · clear c0 c1 k0 k1
        go_wp2_with fail
        go_at_call 7
        refine (awake16 _).mono ?_
        rintro e w9 ⟨rfl, o9⟩
        have O9 := Lib.hid (O1.out.trans o9)
        clear o9
        go_wp2
        go_ret
        exact ⟨rfl, O9.out⟩
      · have hl2 : l.length ≤ 100 := by omega
        have R2 := Lib.hid (HR.out.only O1.out (Nat.le_refl _))
        have V2 := Lib.hid (HV.out.below (O1.out.below (Nat.le_refl _) fun _ h => h.elim))
        obtain ⟨G, hG⟩ : ∃ G, G = rnG g l := ⟨_, rfl⟩
        obtain ⟨E, hE⟩ : ∃ E, E = rnE g l := ⟨_, rfl⟩
        have HFG := Lib.hid (show GrFit (rnG g l) from fit_rn hfit (by omega))
        have HP2 := Lib.hid (renumber_any16 g l _ _ _ hs _ w2 R2.out V2.out O1.out.size hfit HSZ1.out.1 HSZ1.out.2 hl2 hb)
        have HD2 := Lib.hid (fun (W' : World) (o : Only nob w2 W') => rRenumber16 g l _ _ _ hs _ W' (HR.out.only (O1.out.trans o) (Nat.le_refl _)) (HV.out.below ((O1.out.trans o).below (Nat.le_refl _) fun _ h => h.elim)) (O1.out.trans o).size hfit HSZ1.out.1 HSZ1.out.2 hl2 hb)
        rw [← hG] at HFG
        rw [← hG, ← hE] at HP2 HD2
        clear hG hE hl
        go_wp2_with fail
        go_at_call 18
        refine HP2.out.mono ?_
        rintro e w3 ⟨un3, ur3, js3, rfl, rd3, o⟩
        have RD3 := Lib.hid rd3
        have O3 := Lib.hid o
        obtain ⟨An3, cn3, rfl, -⟩ := rd3.nodes.form
        obtain ⟨Ar3, cr3, rfl, -⟩ := rd3.roots.form
        obtain ⟨X3, hX3, HBX3⟩ := box_graph2 w3 (.slice An3 G.nd.length cn3) (.slice Ar3 G.rt.length cr3)
        have HX3 := Lib.hid hX3
        have OX3 := Lib.hid (O3.out.trans HBX3.out.1)
        have d0 := OX3.out.keeps c0
        have d1 := OX3.out.keeps c1
        have e0 := OX3.out.keeps k0
        have e1 := OX3.out.keeps k1
        clear o rd3 hX3 c0 c1 k0 k1
        go_upto_region 4 with fail
        rw [HX3.out]
        go_wp2_with fail
        go_at_call 19
        refine (HD2.out X3 OX3.out).mono ?_
        rintro e w5 ⟨un5, ur5, js5, rfl, rd5, o⟩
        have RD5 := Lib.hid rd5
        have O5 := Lib.hid o
        obtain ⟨An5, cn5, rfl, -⟩ := rd5.nodes.form
        obtain ⟨Ar5, cr5, rfl, -⟩ := rd5.roots.form
        obtain ⟨X5, hX5, HBX5⟩ := box_graph2 w5 (.slice An5 G.nd.length cn5) (.slice Ar5 G.rt.length cr5)
        have HX5 := Lib.hid hX5
        have OX5 := Lib.hid (O5.out.trans HBX5.out.1)
        have OW5 := Lib.hid (OX3.out.trans OX5.out)
        have c0 := OX5.out.keeps d0
        have c1 := OX5.out.keeps d1
        have k0 := OX5.out.keeps e0
        have k1 := OX5.out.keeps e1
        have p0 : X5.cell? ⟨w3.heap.size, 0, none⟩ = some (.slice An3 G.nd.length cn3) := OX5.out.keeps (HBX3.out.2.cell 0)
        have p1 : X5.cell? ⟨w3.heap.size, 1, none⟩ = some (.slice Ar3 G.rt.length cr3) := OX5.out.keeps (HBX3.out.2.cell 1)
        have q0 : X5.cell? ⟨w5.heap.size, 0, none⟩ = some (.slice An5 G.nd.length cn5) := HBX5.out.2.cell 0
        have q1 : X5.cell? ⟨w5.heap.size, 1, none⟩ = some (.slice Ar5 G.rt.length cr5) := HBX5.out.2.cell 1
        have R5 := Lib.hid ((RD3.out.only (HBX3.out.1.trans OX5.out) (Nat.le_refl _)).more (HBX3.out.1.trans OX5.out).size)
        have S5 := Lib.hid ((RD5.out.only HBX5.out.1 (Nat.le_refl _)).more HBX5.out.1.size)
        have OWX := Lib.hid (O1.out.trans OW5.out)
        have HS1 := Lib.hid (fun (W' : World) (o : Only nob X5 W') => rSame_eq G _ _ _ _ _ _ _ _ W' (R5.out.only o (Nat.le_refl _)) (S5.out.only o (Nat.le_refl _)) o.size o.size HFG.out)
        have HS2 := Lib.hid (fun (W' : World) (o : Only nob X5 W') => same_any16 g k _ _ _ _ hs js _ _ W' (HR.out.only (OWX.out.trans o) (Nat.le_refl _)) (HK.out.only (OWX.out.trans o) (Nat.le_refl _)) (OWX.out.trans o).size (OWX.out.trans o).size hfit hfit')
        have HS3 := Lib.hid (fun (W' : World) (o : Only nob X5 W') => rSame16 g k _ _ _ _ hs js _ _ W' (HR.out.only (OWX.out.trans o) (Nat.le_refl _)) (HK.out.only (OWX.out.trans o) (Nat.le_refl _)) (OWX.out.trans o).size (OWX.out.trans o).size hfit hfit')
        obtain ⟨q, hq⟩ : ∃ q, q = sameG g k := ⟨_, rfl⟩
        rw [← hq] at HS2 HS3
        clear o rd5 hX5 d0 d1 e0 e1 hq HP2 HD2 hfit hfit' hb
        go_upto_region 5 with (with_reducible rw [HX5.out])
        have OC := Lib.hid (show Only nob X5 X5.drew from (Only.refl nob X5).drewN 1)
        have mixed := mixed16
        have hee : (E == E) = true := by simp
        go_region_held3 (fun w' => w'.cell? ⟨w.heap.size, 0, none⟩ = some (.slice A g.nd.length c) ∧ w'.cell? ⟨w.heap.size, 1, none⟩ = some (.slice Ar g.rt.length cr) ∧ w'.cell? ⟨w.heap.size + 1, 0, none⟩ = some (.slice A' k.nd.length c') ∧ w'.cell? ⟨w.heap.size + 1, 1, none⟩ = some (.slice Ar' k.rt.length cr') ∧ w'.cell? ⟨w3.heap.size, 0, none⟩ = some (.slice An3 G.nd.length cn3) ∧ w'.cell? ⟨w3.heap.size, 1, none⟩ = some (.slice Ar3 G.rt.length cr3) ∧ w'.cell? ⟨w5.heap.size, 0, none⟩ = some (.slice An5 G.nd.length cn5) ∧ w'.cell? ⟨w5.heap.size, 1, none⟩ = some (.slice Ar5 G.rt.length cr5)) (first | (with_reducible exact And.intro (OC.out.keeps c0) (And.intro (OC.out.keeps c1) (And.intro (OC.out.keeps k0) (And.intro (OC.out.keeps k1) (And.intro (OC.out.keeps p0) (And.intro (OC.out.keeps p1) (And.intro (OC.out.keeps q0) (OC.out.keeps q1)))))))) | go_keep)
          (first
            | (go_at_call 21
               with_reducible refine (HS2.out _ OC.out).mono ?_
               rintro e wt ⟨rfl, o⟩
               have OC := Lib.hid (OC.out.trans o)
               clear o)
            | (go_at_call 20
               first
               | (with_reducible refine (HS1.out _ OC.out).mono ?_
                  rintro e wt ⟨rfl, o⟩
                  have OC := Lib.hid (OC.out.trans o)
                  clear o)
               | (with_reducible refine (HS3.out _ OC.out).mono ?_
                  rintro e wt ⟨rfl, o⟩
                  have OC := Lib.hid (OC.out.trans o)
                  clear o))
            | (go_at_call 7
               with_reducible refine (awake16 _).mono ?_
               rintro e wt ⟨rfl, o⟩
               have OC := Lib.hid (OC.out.trans o)
               clear o))
        all_goals
          have OE := Lib.hid (OWX.out.trans OC.out)
          go_wp2
          go_ret
          exact ⟨rfl, OE.out⟩
end Go.Proofs.Ytdlaigghejahdaa
