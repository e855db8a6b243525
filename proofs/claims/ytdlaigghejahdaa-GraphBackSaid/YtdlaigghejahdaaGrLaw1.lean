/- The law GraphTells: walked. -/
import Derived.Test.YtdlaigghejahdaaGrAwake
import Derived.Test.YtdlaigghejahdaaGrLarge
import Derived.Test.YtdlaigghejahdaaGrSum
import Derived.Test.YtdlaigghejahdaaGrRt
import Derived.Test.YtdlaigghejahdaaGrEqs
import Derived.Test.YtdlaigghejahdaaRef16F
import Derived.BigQuiet
import Derived.Deep.RegionHeld3
namespace Go.Proofs.Ytdlaigghejahdaa
open Go.RowKit Go.Lib
set_option maxRecDepth 100000
set_option linter.unusedSimpArgs false
set_option linter.unusedVariables false

theorem calls_whole16 {f : FuncId} {args : Array Value} {w : World} (h : Calls Try.prog f args w fun e w' => e = .returned (.bool true) ∧ Only nob w w') : Calls Try.prog f args w fun e w' => e = .returned (.bool true) ∧ Below w.heap.size w w' :=
  h.mono fun e w' hh => ⟨hh.1, hh.2.whole⟩
theorem large_call (g : Gr) (vn vr : Value) (hs : List (Value × Value)) (B : Nat) (w : World) (h : RdG w B g vn vr hs) (hB : B ≤ w.heap.size) :
    Calls Try.prog 6 #[.agg #[vn, vr]] w fun e w' => (e = .returned (.bool true) ∧ Only nob w w') ∨ (e = .returned (.bool false) ∧ (g.nd.length ≤ 60 ∧ g.rt.length ≤ 100) ∧ Only nob w w') :=
  (large_any16 g vn vr hs B w h hB).mono fun e w' hh => by
    obtain ⟨b, rfl, hb, o⟩ := hh
    cases b with
    | true => exact Or.inl ⟨rfl, o⟩
    | false => exact Or.inr ⟨rfl, hb rfl, o⟩
set_option maxHeartbeats 8000000 in
theorem graphTells_walk (g : Gr) (vn vr v : Value) (hs : List (Value × Value)) (i : Int) (l : List Int) (w : World) (h : RdG w w.heap.size g vn vr hs) (hfit : GrFit g) (hv : Sl w w.heap.size 1 v l.length (i64s l)) (hrow : ∀ d ∈ g.nd, d.fs.length ≤ 8796093022208) :
    Calls Try.prog 3 #[.agg #[vn, vr], .int .i64 i, v] w fun e w' => e = .returned (.bool true) ∧ Only nob w w' := by
  have HR := Lib.hid h
  have HV := Lib.hid hv
  obtain ⟨A, c, rfl, hac, hcm⟩ := h.nodes.form
  obtain ⟨Ar, cr, rfl, harc, hcrm⟩ := h.roots.form
  obtain ⟨Al, cl, rfl, hal, hcl⟩ := hv.form
  unfold maxLen at hcm hcrm hcl
  obtain ⟨W, hW, HB⟩ := box_graph w (.slice A g.nd.length c) (.slice Ar g.rt.length cr)
  have HW := Lib.hid hW
  obtain ⟨p, hp⟩ : ∃ p, p = w.heap.size := ⟨_, rfl⟩
  have HP := Lib.hid hp
  rw [← hp] at HB
  have RW := Lib.hid (HR.out.only HB.out.1 (Nat.le_refl _))
  have hBW := Lib.hid HB.out.1.size
  have c0 := HB.out.2.2.1
  have c1 := HB.out.2.2.2
  clear hW hp h hv
  go_enter Try.func3, Try.ntmps3
  go_upto_region 1 with fail
  rw [HW.out, ← HP.out]
  go_wp2_with fail
  go_at_call 6
  refine (large_call g _ _ hs _ W RW.out hBW.out).mono ?_
  rintro e w1 (⟨rfl, o⟩ | ⟨rfl, hsz, o⟩)
  · have O1 := Lib.hid (HB.out.1.trans o)
    clear o c0 c1
    go_wp2_with fail
    go_at_call 7
    refine (awake16 _).mono ?_
    rintro e w9 ⟨rfl, o9⟩
    have O9 := Lib.hid (O1.out.trans o9)
    clear o9
    go_wp2
    go_ret
    exact ⟨rfl, O9.out⟩
  · have O1 := Lib.hid (HB.out.1.trans o)
    have d0 := o.keeps c0
    have d1 := o.keeps c1
    clear o c0 c1
    by_cases hl : (100 : Int) < (l.length : Int)
    · clear d0 d1
      go_wp2_with fail
      go_at_call 7
      refine (awake16 _).mono ?_
      rintro e w9 ⟨rfl, o9⟩
      have O9 := Lib.hid (O1.out.trans o9)
      clear o9
      go_wp2
      go_ret
      exact ⟨rfl, O9.out⟩
    · have hl2 : l.length ≤ 100 := by omega
      have R1 := Lib.hid (HR.out.only O1.out (Nat.le_refl _))
      have V1 := Lib.hid (HV.out.below (O1.out.below (Nat.le_refl _) fun _ h => h.elim))
      go_wp2_with fail
      go_at_call 8
      refine (rSums16 g l _ _ _ hs _ w1 R1.out V1.out O1.out.size).mono ?_
      rintro e w2 ⟨rfl, o⟩
      have O2 := Lib.hid (O1.out.trans o)
      have e0 := o.keeps d0
      have e1 := o.keeps d1
      clear o d0 d1 hl
      obtain ⟨sw, hsw⟩ : ∃ s, s = sumW g l := ⟨_, rfl⟩
      obtain ⟨sf, hsf⟩ : ∃ s, s = sumF g l := ⟨_, rfl⟩
      obtain ⟨q, hq⟩ : ∃ q, q = grOk g := ⟨_, rfl⟩
      obtain ⟨L, hL⟩ : ∃ L, L = leadsG g i := ⟨_, rfl⟩
      have HG := Lib.hid (fun (W' : World) (o : Only nob w2 W') => (HR.out.only (O2.out.trans o) (Nat.le_refl w.heap.size) : RdG W' w.heap.size g _ _ hs))
      have HVL := Lib.hid (fun (W' : World) (o : Only nob w2 W') => HV.out.below ((O2.out.trans o).below (Nat.le_refl _) fun _ h => h.elim))
      have HSZ := Lib.hid (fun (W' : World) (o : Only nob w2 W') => (O2.out.trans o).size)
      have HRT := Lib.hid (fun (W' : World) (o : Only nob w2 W') => right_any16 g _ _ hs _ W' (HG.out W' o) (HSZ.out W' o) hfit)
      have HRR := Lib.hid (fun (W' : World) (o : Only nob w2 W') => rRight16 g _ _ hs _ W' (HG.out W' o) (HSZ.out W' o) hfit)
      have HLD := Lib.hid (show ∀ W', Only nob w2 W' → Calls Try.prog 14 #[.agg #[.slice A g.nd.length c, .slice Ar g.rt.length cr], .int .i64 i] W' fun e w' => ∃ v', e = .returned v' ∧ Sl w' w'.heap.size 1 v' (leadsG g i).length (i64s (leadsG g i)) ∧ Only nob W' w' from fun W' o =>
        (leads_any16 g i _ _ hs _ W' (HG.out W' o) (HSZ.out W' o) hrow).mono fun _ _ ⟨v', e1, e2, e3⟩ => ⟨v', e1, Sl.of_own e2 e2.1, e3⟩)
      have HLR := Lib.hid (show ∀ W', Only nob w2 W' → Calls Try.prog 15 #[.agg #[.slice A g.nd.length c, .slice Ar g.rt.length cr], .int .i64 i] W' fun e w' => ∃ v', e = .returned v' ∧ Sl w' w'.heap.size 1 v' (leadsG g i).length (i64s (leadsG g i)) ∧ Only nob W' w' from fun W' o =>
        (rLeads16 g i _ _ hs _ W' (HG.out W' o) (HSZ.out W' o) hrow).mono fun _ _ ⟨v', e1, e2, e3⟩ => ⟨v', e1, Sl.of_own e2 e2.1, e3⟩)
      have HWD := Lib.hid (fun (W' : World) (o : Only nob w2 W') => words_any16 g l _ _ _ hs _ W' (HG.out W' o) (HVL.out W' o) (HSZ.out W' o) hfit hl2)
      have HFD := Lib.hid (fun (W' : World) (o : Only nob w2 W') => fields_any16 g l _ _ _ hs _ W' (HG.out W' o) (HVL.out W' o) (HSZ.out W' o) hfit hl2)
      have HIN := Lib.hid (show ∀ W' v u, Sl W' W'.heap.size 1 v (leadsG g i).length (i64s (leadsG g i)) → Sl W' W'.heap.size 1 u (leadsG g i).length (i64s (leadsG g i)) → Calls Try.prog 13 #[v, u] W' fun e w' => e = .returned (.bool true) ∧ Only nob W' w' from fun W' v u h k =>
        (rInts16 v u _ _ _ W' h k).mono fun _ _ ⟨e1, m, e2⟩ => ⟨e1, by rw [e2]; exact (Only.refl nob W').drewN m⟩)
      have HNS := Lib.hid (fun (n : Nat) d hh (hd : g.nd[n]? = some d) (hhh : hs[n]? = some hh) (W' : World) (o : Only nob w2 W') => size_any16 d hh _ W' ((HG.out W' o).each n d hh hd hhh))
      have HNR := Lib.hid (fun (n : Nat) d hh (hd : g.nd[n]? = some d) (hhh : hs[n]? = some hh) (W' : World) (o : Only nob w2 W') => rSize16 d hh _ W' ((HG.out W' o).each n d hh hd hhh))
      rw [← hsw] at HWD
      rw [← hsf] at HFD
      rw [← hsw, ← hsf]
      rw [← hq] at HRT HRR
      rw [← hL] at HLD HLR HIN
      clear hsw hsf hq hL hfit hrow
      by_cases hin : 0 ≤ i ∧ i < (g.nd.length : Int)
      · obtain ⟨n, rfl⟩ : ∃ n : Nat, i = n := ⟨i.toNat, by omega⟩
        have hn : n < g.nd.length := by omega
        obtain ⟨d, hd⟩ : ∃ x, g.nd[n]? = some x := ⟨_, List.getElem?_eq_getElem hn⟩
        obtain ⟨bb, oo, fv, rv, hA, hbb, hh', g0, g1, g2, hnd⟩ := (HG.out w2 (Only.refl _ _)).at_ (Below.refl _ _) hd
        obtain ⟨Af, cf, hfv, hafc, hcfm⟩ := hnd.fields.form
        obtain ⟨Arw, crw, hrv, harw, hcrw⟩ := hnd.raws.form
        simp only at hfv hrv
        subst hfv hrv
        obtain ⟨rfl, -⟩ : A = some ⟨bb, oo, none⟩ ∧ True := by simpa using hA
        have HN1 := Lib.hid (HNS.out n d _ hd hh')
        have HN2 := Lib.hid (HNR.out n d _ hd hh')
        obtain ⟨kd, hkd⟩ : ∃ kd, kd = d.kd := ⟨_, rfl⟩
        obtain ⟨sz, hz⟩ : ∃ z, z = ndSz d := ⟨_, rfl⟩
        rw [← hz] at HN1 HN2
        rw [← hkd] at HN1 HN2 g0
        clear hA hh' hnd hafc harw hkd hz hd HNS HNR
        have OC := Lib.hid (show Only nob w2 w2.drew from (Only.refl nob w2).drewN 1)
        have mixed := mixed16
        go_upto_region 4 with fail
        go_region_held3 (fun w' => w'.cell? ⟨p, 0, none⟩ = some (.slice (some ⟨bb, oo, none⟩) g.nd.length c) ∧ w'.cell? ⟨p, 1, none⟩ = some (.slice Ar g.rt.length cr) ∧ w'.cell? ⟨bb, oo + n * 3, none⟩ = some (.int .i64 kd) ∧ w'.cell? ⟨bb, oo + n * 3 + 1, none⟩ = some (.slice Af d.fs.length cf) ∧ w'.cell? ⟨bb, oo + n * 3 + 2, none⟩ = some (.slice Arw d.rs.length crw)) (first | (with_reducible exact And.intro (OC.out.keeps e0) (And.intro (OC.out.keeps e1) (And.intro (OC.out.keeps g0) (And.intro (OC.out.keeps g1) (OC.out.keeps g2))))) | go_keep)
          (first
            | (go_at_call 9
               with_reducible refine (HN1.out _ OC.out).mono ?_
               rintro e wt ⟨rfl, o⟩
               have OC := Lib.hid (OC.out.trans o)
               clear o)
            | (go_at_call 10
               with_reducible refine (HN2.out _ OC.out).mono ?_
               rintro e wt ⟨rfl, o⟩
               have OC := Lib.hid (OC.out.trans o)
               clear o))
        have OC := Lib.hid (show Only nob w2 (World.drew _) from OC.out.drewN 1)
        have mixed := mixed16
        go_upto_region 6 with fail
        go_region_held3 (fun w' => w'.cell? ⟨p, 0, none⟩ = some (.slice (some ⟨bb, oo, none⟩) g.nd.length c) ∧ w'.cell? ⟨p, 1, none⟩ = some (.slice Ar g.rt.length cr)) (first | (with_reducible exact And.intro (OC.out.keeps e0) (OC.out.keeps e1)) | go_keep)
          (first
            | (go_at_call 11
               with_reducible refine (HRT.out _ OC.out).mono ?_
               rintro e wt ⟨rfl, o⟩
               have OC := Lib.hid (OC.out.trans o)
               clear o)
            | (go_at_call 12
               with_reducible refine (HRR.out _ OC.out).mono ?_
               rintro e wt ⟨rfl, o⟩
               have OC := Lib.hid (OC.out.trans o)
               clear o)
            | (go_at_call 14
               with_reducible refine (HLD.out _ OC.out).mono ?_
               rintro e wt ⟨vt7, rfl, hst, o⟩
               have ST := Lib.hid hst
               have OC := Lib.hid (OC.out.trans o)
               clear hst o)
            | (go_at_call 15
               with_reducible refine (HLR.out _ OC.out).mono ?_
               rintro e wf ⟨vf7, rfl, hst, o⟩
               have SF := Lib.hid hst
               have ST := Lib.hid ((ST.out.below o.whole).more o.size)
               have OC := Lib.hid (OC.out.trans o)
               clear hst o)
            | (go_at_call 13
               with_reducible refine (HIN.out _ _ _ ST.out SF.out).mono ?_
               rintro e wt ⟨rfl, o⟩
               have OC := Lib.hid (OC.out.trans o)
               clear o ST SF)
            | (go_at_call 16
               with_reducible refine (HWD.out _ OC.out).mono ?_
               rintro e wt ⟨rfl, o⟩
               have OC := Lib.hid (OC.out.trans o)
               clear o)
            | (go_at_call 17
               with_reducible refine (HFD.out _ OC.out).mono ?_
               rintro e wt ⟨rfl, o⟩
               have OC := Lib.hid (OC.out.trans o)
               clear o)
            | (go_at_call 7
               with_reducible refine (awake16 _).mono ?_
               rintro e wt ⟨rfl, o⟩
               have OC := Lib.hid (OC.out.trans o)
               clear o))
        all_goals
          have OE := Lib.hid (O2.out.trans OC.out)
          go_wp2
          go_ret
          exact ⟨rfl, OE.out⟩
      · by_cases h0 : i < 0
        · have hd0 : decide (0 ≤ i) = false := decide_eq_false (by omega)
          clear hin
          go_wp2
          go_quiet (fail)
          have OC := Lib.hid (show Only nob w2 (w2.drewN nq) from (Only.refl nob w2).drewN nq)
          generalize w2.drewN nq = Wq at OC ⊢
          have OC := Lib.hid (show Only nob w2 (World.drew _) from OC.out.drewN 1)
          have mixed := mixed16
          go_upto_region 6 with fail
          go_region_held3 (fun w' => w'.cell? ⟨p, 0, none⟩ = some (.slice A g.nd.length c) ∧ w'.cell? ⟨p, 1, none⟩ = some (.slice Ar g.rt.length cr)) (first | (with_reducible exact And.intro (OC.out.keeps e0) (OC.out.keeps e1)) | go_keep)
            (first
              | (go_at_call 11
                 with_reducible refine (HRT.out _ OC.out).mono ?_
                 rintro e wt ⟨rfl, o⟩
                 have OC := Lib.hid (OC.out.trans o)
                 clear o)
              | (go_at_call 12
                 with_reducible refine (HRR.out _ OC.out).mono ?_
                 rintro e wt ⟨rfl, o⟩
                 have OC := Lib.hid (OC.out.trans o)
                 clear o)
              | (go_at_call 14
                 with_reducible refine (HLD.out _ OC.out).mono ?_
                 rintro e wt ⟨vt7, rfl, hst, o⟩
                 have ST := Lib.hid hst
                 have OC := Lib.hid (OC.out.trans o)
                 clear hst o)
              | (go_at_call 15
                 with_reducible refine (HLR.out _ OC.out).mono ?_
                 rintro e wf ⟨vf7, rfl, hst, o⟩
                 have SF := Lib.hid hst
                 have ST := Lib.hid ((ST.out.below o.whole).more o.size)
                 have OC := Lib.hid (OC.out.trans o)
                 clear hst o)
              | (go_at_call 13
                 with_reducible refine (HIN.out _ _ _ ST.out SF.out).mono ?_
                 rintro e wt ⟨rfl, o⟩
                 have OC := Lib.hid (OC.out.trans o)
                 clear o ST SF)
              | (go_at_call 16
                 with_reducible refine (HWD.out _ OC.out).mono ?_
                 rintro e wt ⟨rfl, o⟩
                 have OC := Lib.hid (OC.out.trans o)
                 clear o)
              | (go_at_call 17
                 with_reducible refine (HFD.out _ OC.out).mono ?_
                 rintro e wt ⟨rfl, o⟩
                 have OC := Lib.hid (OC.out.trans o)
                 clear o)
              | (go_at_call 7
                 with_reducible refine (awake16 _).mono ?_
                 rintro e wt ⟨rfl, o⟩
                 have OC := Lib.hid (OC.out.trans o)
                 clear o))
          all_goals
            have OE := Lib.hid (O2.out.trans OC.out)
            go_wp2
            go_ret
            exact ⟨rfl, OE.out⟩
        · have hd0 : decide (i < (g.nd.length : Int)) = false := decide_eq_false (by omega)
          have h1 : (g.nd.length : Int) ≤ i := by omega
          have h2 : 0 ≤ i := by omega
          clear hin h0
          go_wp2
          go_quiet (fail)
          have OC := Lib.hid (show Only nob w2 (w2.drewN nq) from (Only.refl nob w2).drewN nq)
          generalize w2.drewN nq = Wq at OC ⊢
          have OC := Lib.hid (show Only nob w2 (World.drew _) from OC.out.drewN 1)
          have mixed := mixed16
          go_upto_region 6 with fail
          go_region_held3 (fun w' => w'.cell? ⟨p, 0, none⟩ = some (.slice A g.nd.length c) ∧ w'.cell? ⟨p, 1, none⟩ = some (.slice Ar g.rt.length cr)) (first | (with_reducible exact And.intro (OC.out.keeps e0) (OC.out.keeps e1)) | go_keep)
            (first
              | (go_at_call 11
                 with_reducible refine (HRT.out _ OC.out).mono ?_
                 rintro e wt ⟨rfl, o⟩
                 have OC := Lib.hid (OC.out.trans o)
                 clear o)
              | (go_at_call 12
                 with_reducible refine (HRR.out _ OC.out).mono ?_
                 rintro e wt ⟨rfl, o⟩
                 have OC := Lib.hid (OC.out.trans o)
                 clear o)
              | (go_at_call 14
                 with_reducible refine (HLD.out _ OC.out).mono ?_
                 rintro e wt ⟨vt7, rfl, hst, o⟩
                 have ST := Lib.hid hst
                 have OC := Lib.hid (OC.out.trans o)
                 clear hst o)
              | (go_at_call 15
                 with_reducible refine (HLR.out _ OC.out).mono ?_
                 rintro e wf ⟨vf7, rfl, hst, o⟩
                 have SF := Lib.hid hst
                 have ST := Lib.hid ((ST.out.below o.whole).more o.size)
                 have OC := Lib.hid (OC.out.trans o)
                 clear hst o)
              | (go_at_call 13
                 with_reducible refine (HIN.out _ _ _ ST.out SF.out).mono ?_
                 rintro e wt ⟨rfl, o⟩
                 have OC := Lib.hid (OC.out.trans o)
                 clear o ST SF)
              | (go_at_call 16
                 with_reducible refine (HWD.out _ OC.out).mono ?_
                 rintro e wt ⟨rfl, o⟩
                 have OC := Lib.hid (OC.out.trans o)
                 clear o)
              | (go_at_call 17
                 with_reducible refine (HFD.out _ OC.out).mono ?_
                 rintro e wt ⟨rfl, o⟩
                 have OC := Lib.hid (OC.out.trans o)
                 clear o)
              | (go_at_call 7
                 with_reducible refine (awake16 _).mono ?_
                 rintro e wt ⟨rfl, o⟩
                 have OC := Lib.hid (OC.out.trans o)
                 clear o))
          all_goals
            have OE := Lib.hid (O2.out.trans OC.out)
            go_wp2
            go_ret
            exact ⟨rfl, OE.out⟩
end Go.Proofs.Ytdlaigghejahdaa
