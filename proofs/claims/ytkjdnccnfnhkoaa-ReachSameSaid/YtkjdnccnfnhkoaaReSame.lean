/- The law ReachSame: walked. -/
import Derived.Test.YtkjdnccnfnhkoaaReLaw
import Derived.Test.YtkjdnccnfnhkoaaReSameM
namespace Go.Proofs.Ytkjdnccnfnhkoaa
open Go.RowKit Go.Lib
set_option maxRecDepth 100000
set_option linter.unusedSimpArgs false
set_option linter.unusedVariables false

set_option maxHeartbeats 8000000 in
theorem reachSame_walk (g : Gr) (vn vr : Value) (hs : List (Value × Value)) (lim order block : Int) (w : World) (h : RdG w w.heap.size g vn vr hs) (hfit : GrFit g) (hblk : block ≤ 9223372036854775807) :
    Calls Try.prog 5 #[.agg #[vn, vr], .int .i64 lim, .int .i64 order, .int .i64 block] w fun e w' => e = .returned (.bool true) ∧ Only nob w w' := by
  have HR := Lib.hid h
  obtain ⟨A, c, rfl, hac, hcm⟩ := h.nodes.form
  obtain ⟨Ar, cr, rfl, harc, hcrm⟩ := h.roots.form
  obtain ⟨W, hW, HB⟩ := box_graph w (.slice A g.nd.length c) (.slice Ar g.rt.length cr)
  have HW := Lib.hid hW
  obtain ⟨p, hp⟩ : ∃ p, p = w.heap.size := ⟨_, rfl⟩
  have HP := Lib.hid hp
  rw [← hp] at HB
  have RW := Lib.hid (HR.out.only HB.out.1 (Nat.le_refl _))
  have hBW := Lib.hid HB.out.1.size
  have c0 := HB.out.2.2.1
  have c1 := HB.out.2.2.2
  unfold maxLen at hcm hcrm
  clear hW hp h
  go_enter Try.func5, Try.ntmps5
  go_upto_region 1 with fail
  rw [HW.out, ← HP.out]
  go_wp2_with fail
  go_at_call 6
  refine (large_call g _ _ hs _ W RW.out hBW.out).mono ?_
  rintro e w1 (⟨rfl, o⟩ | ⟨rfl, hsz, o⟩)
  · have O1 := Lib.hid (HB.out.1.trans o)
    clear o c0 c1
    go_wp2_with fail
    go_at_call 7
    refine (awake17 _).mono ?_
    rintro e w9 ⟨rfl, o9⟩
    have O9 := Lib.hid (O1.out.trans o9)
    clear o9
    go_wp2
    go_ret
    exact ⟨rfl, O9.out⟩
  · have O1 := Lib.hid (HB.out.1.trans o)
    have hbd : GrBd g := ⟨by omega, by omega⟩
    have HSZ := Lib.hid hsz
    have HG := Lib.hid (fun (W' : World) (o : Only nob w W') => (HR.out.only o (Nat.le_refl w.heap.size) : RdG W' w.heap.size g _ _ hs))
    have HC := Lib.hid (fun (W' : World) (o : Only nob W W') => And.intro (o.keeps c0) (o.keeps c1))
    have OC := Lib.hid o
    have d0 := o.keeps c0
    have d1 := o.keeps c1
    clear o c0 c1
    have HP1 := Lib.hid (fun (W' : World) (o : Only nob w W') => plan_any17 g _ _ hs _ W' lim order block (HG.out W' o) o.size hfit hbd hblk)
    have HR1 := Lib.hid (fun (W' : World) (o : Only nob w W') => reach17 g _ _ hs _ W' (HG.out W' o) o.size hfit hbd)
    have HM := Lib.hid (fun h => met17 (g := g) (lim := lim) (order := order) (block := block) h)
    have HN := Lib.hid (show planE g lim order block ≠ 0 → (planSm g lim order block).length = 0 ∧ (planLg g lim order block).length = 0 by
      intro h
      unfold planSm planLg
      rw [if_neg h, if_neg h]; exact ⟨rfl, rfl⟩)
    obtain ⟨hls, hll⟩ := plan_len17 g lim order block
    obtain ⟨E, hE⟩ : ∃ E, E = planE g lim order block := ⟨_, rfl⟩
    obtain ⟨S, hS⟩ : ∃ E, E = planSm g lim order block := ⟨_, rfl⟩
    obtain ⟨L, hL⟩ : ∃ E, E = planLg g lim order block := ⟨_, rfl⟩
    obtain ⟨R, hRR⟩ : ∃ E, E = reachL g := ⟨_, rfl⟩
    obtain ⟨E2, hE2⟩ : ∃ E, E = flatE g := ⟨_, rfl⟩
    rw [← hE, ← hS, ← hL] at HP1 HN
    rw [← hE, ← hS, ← hL, ← hRR] at HM
    rw [← hRR, ← hE2] at HR1
    rw [← hS] at hls
    rw [← hL] at hll
    clear hE hS hL hRR hE2 hbd hfit hblk
    go_wp2_with fail
    go_at_call 8
    refine (HP1.out w1 O1.out).mono ?_
    rintro e w2 ⟨v1, v2, rfl, h1, h2, o⟩
    have R1 := Lib.hid (fun (W' : World) (o : Only nob w2 W') => (h1.only o fun _ _ h => h).sl)
    have R2 := Lib.hid (fun (W' : World) (o : Only nob w2 W') => (h2.only o fun _ _ h => h).sl)
    obtain ⟨A1, k1, rfl, hk1, hm1⟩ := h1.form
    obtain ⟨A2, k2, rfl, hk2, hm2⟩ := h2.form
    unfold maxLen at hm1 hm2
    have O2 := Lib.hid (O1.out.trans o)
    have OC := Lib.hid (OC.out.trans o)
    clear h1 h2 o d0 d1
    obtain ⟨d0, d1⟩ := HC.out w2 OC.out
    by_cases hE0 : E = 0
    · subst hE0
      have HMT := Lib.hid (HM.out rfl)
      clear HM
      have hsz1 := hsz.1
      go_wp2_with fail
      go_at_call 14
      refine (HR1.out w2 O2.out).mono ?_
      rintro e w3 ⟨v3, rfl, h1, o⟩
      have R3 := Lib.hid (fun (W' : World) (o : Only nob w3 W') => (h1.only o fun _ _ h => h).sl)
      obtain ⟨A3, k3, rfl, hk3, hm3⟩ := h1.form
      unfold maxLen at hm3
      have O3 := Lib.hid (O2.out.trans o)
      have OC := Lib.hid (OC.out.trans o)
      have OT := Lib.hid o
      clear h1 o d0 d1
      obtain ⟨d0, d1⟩ := HC.out w3 OC.out
      obtain ⟨WM, hmk, om, hown⟩ := make_ints16 g.nd.length (by omega) w3
      have OM := Lib.hid om
      rw [← cnt_nil] at hown
      have HOW := Lib.hid hown
      obtain ⟨bq, hbq⟩ : ∃ bq, bq = w3.heap.size := ⟨_, rfl⟩
      rw [← hbq] at hmk HOW
      have HBQ := Lib.hid hbq
      have HCV := Lib.hid (fun (W' : World) (o : Only nob w3 W') => HC.out W' (OC.out.trans o))
      have HGV := Lib.hid (fun (W' : World) (o : Only nob w3 W') => HG.out W' (O3.out.trans o))
      have HS1 := Lib.hid (fun (W' : World) (o : Only nob w3 W') => R1.out W' (OT.out.trans o))
      have HS2 := Lib.hid (fun (W' : World) (o : Only nob w3 W') => R2.out W' (OT.out.trans o))
      clear om hown hbq HP1 HR1 HN
      go_wp2_with fail
      clear hmk d0 d1
      go_loopw [15] (fun vj wr => ∃ k : Nat, k ≤ S.length ∧ vj = .int .i64 k ∧ Hid (wr.ownsRow bq 3 1 (.slice (some ⟨bq, 0, none⟩) g.nd.length g.nd.length) g.nd.length (i64s (cnt17 g.nd.length (S.take k)))) ∧ Hid (Only nob w3 wr)) (fun vj _ => S.length - (intOf vj).toNat)
      case atStart => exact ⟨0, Nat.zero_le _, rfl, HOW, OM⟩
      case round =>
        obtain ⟨k, hk, rfl, HRW, HO⟩ := hrel
        by_cases hlt : k < S.length
        · obtain ⟨x, hx⟩ : ∃ x, S[k]? = some x := ⟨_, List.getElem?_eq_getElem hlt⟩
          have hxb := HMT.out.rng x (List.mem_append.2 (.inl (List.mem_of_getElem? hx)))
          obtain ⟨m0, rfl⟩ : ∃ m : Nat, x = m := ⟨x.toNat, by omega⟩
          have hm0 : m0 < g.nd.length := by omega
          obtain ⟨b1, o1, rfl, -, e0⟩ := sl_int (HS1.out wr HO.out) (Below.refl _ _) hx
          have HST := Lib.hid (cnt_step (S.take k) hm0)
          have HTK := Lib.hid (take_snoc17 hx)
          obtain ⟨cs, hblk⟩ := own_blk16 HRW.out (k := bq) rfl
          have f0 := hblk.free m0
          obtain ⟨q, hq⟩ : ∃ q : Nat, q = (S.take k).count (m0 : Int) := ⟨_, rfl⟩
          have hq2 : q ≤ 60 := by
            have := (S.take k).count_le_length (a := (m0 : Int))
            rw [List.length_take] at this
            omega
          have g0 : wr.cell? ⟨bq, m0, none⟩ = some (.int .i64 (q : Int)) := by
            rw [hq]; exact (HRW.out.cellAt m0 (by omega)).trans (i64s_at (cnt_at _ hm0))
          rw [← hq] at HST
          have hset := own_set16 HRW.out m0 (by omega) (.int .i64 ((q : Int) + 1))
          rw [i64s_set16, HST.out, ← HTK.out] at hset
          have HSET := Lib.hid hset
          have ONX := Lib.hid (HO.out.setCell (p := ⟨bq, m0, none⟩) (fun h => absurd h (by rw [HBQ.out]; exact Nat.lt_irrefl _)) (.int .i64 ((q : Int) + 1)))
          clear hx hxb hset hblk hq
          go_wp2
          go_roundw
          case rel => exact ⟨k + 1, by omega, by go_num, HSET, ONX⟩
          case measure => simp [intOf]; omega
        · obtain rfl : k = S.length := by omega
          have HRW0 := Lib.hid (show wr.ownsRow bq 3 1 (.slice (some ⟨bq, 0, none⟩) g.nd.length g.nd.length) g.nd.length (i64s (cnt17 g.nd.length (S ++ L.take 0))) by have := HRW.out; rw [List.take_length] at this; rw [List.take_zero, List.append_nil]; exact this)
          clear hlt
          go_wp2_with fail
          go_loopw [16] (fun vj wr => ∃ k : Nat, k ≤ L.length ∧ vj = .int .i64 k ∧ Hid (wr.ownsRow bq 3 1 (.slice (some ⟨bq, 0, none⟩) g.nd.length g.nd.length) g.nd.length (i64s (cnt17 g.nd.length (S ++ L.take k)))) ∧ Hid (Only nob w3 wr)) (fun vj _ => L.length - (intOf vj).toNat)
          case atStart => exact ⟨0, Nat.zero_le _, rfl, HRW0, HO⟩
          case round =>
            obtain ⟨k, hk, rfl, HRW, HO⟩ := hrel
            by_cases hlt : k < L.length
            · obtain ⟨x, hx⟩ : ∃ x, L[k]? = some x := ⟨_, List.getElem?_eq_getElem hlt⟩
              have hxb := HMT.out.rng x (List.mem_append.2 (.inr (List.mem_of_getElem? hx)))
              obtain ⟨m0, rfl⟩ : ∃ m : Nat, x = m := ⟨x.toNat, by omega⟩
              have hm0 : m0 < g.nd.length := by omega
              obtain ⟨b1, o1, rfl, -, e0⟩ := sl_int (HS2.out wr HO.out) (Below.refl _ _) hx
              have HST := Lib.hid (cnt_step (S ++ L.take k) hm0)
              have HTK := Lib.hid (take_snoc17 hx)
              obtain ⟨cs, hblk⟩ := own_blk16 HRW.out (k := bq) rfl
              have f0 := hblk.free m0
              obtain ⟨q, hq⟩ : ∃ q : Nat, q = (S ++ L.take k).count (m0 : Int) := ⟨_, rfl⟩
              have hq2 : q ≤ 120 := by
                have := (S ++ L.take k).count_le_length (a := (m0 : Int))
                rw [List.length_append, List.length_take] at this
                omega
              have g0 : wr.cell? ⟨bq, m0, none⟩ = some (.int .i64 (q : Int)) := by
                rw [hq]; exact (HRW.out.cellAt m0 (by omega)).trans (i64s_at (cnt_at _ hm0))
              rw [← hq] at HST
              have hset := own_set16 HRW.out m0 (by omega) (.int .i64 ((q : Int) + 1))
              rw [i64s_set16, HST.out, List.append_assoc, ← HTK.out] at hset
              have HSET := Lib.hid hset
              have ONX := Lib.hid (HO.out.setCell (p := ⟨bq, m0, none⟩) (fun h => absurd h (by rw [HBQ.out]; exact Nat.lt_irrefl _)) (.int .i64 ((q : Int) + 1)))
              clear hx hxb hset hblk hq
              go_wp2
              go_roundw
              case rel => exact ⟨k + 1, by omega, by go_num, HSET, ONX⟩
              case measure => simp [intOf]; omega
            · obtain rfl : k = L.length := by omega
              have HCW := Lib.hid (show ∀ (j : Nat), j < g.nd.length → ∀ (W' : World), Only nob wr W' → W'.cell? ⟨bq, j, none⟩ = some (.int .i64 (if (j : Int) ∈ S ++ L then 1 else 0)) from fun j hj W' o => o.keeps (by
                have h1 := (HRW.out.cellAt j (by omega)).trans (i64s_at (cnt_at _ hj))
                rw [List.take_length, cnt_one HMT.out.nodup] at h1
                rw [h1]
                by_cases hm : (j : Int) ∈ S ++ L
                · rw [if_pos hm, if_pos hm]; rfl
                · rw [if_neg hm, if_neg hm]; rfl))
              have HS3 := Lib.hid (fun (W' : World) (o : Only nob wr W') => R3.out W' (HO.out.trans o))
              have HCV2 := Lib.hid (fun (W' : World) (o : Only nob wr W') => HCV.out W' (HO.out.trans o))
              have HGV2 := Lib.hid (fun (W' : World) (o : Only nob wr W') => HGV.out W' (HO.out.trans o))
              have OWR := Lib.hid (O3.out.trans HO.out)
              obtain ⟨M, hM⟩ : ∃ M, M = S ++ L := ⟨_, rfl⟩
              rw [← hM] at HCW HMT
              generalize wr = wb at HCW HS3 HCV2 HGV2 OWR ⊢
              clear hlt HRW HO HCV HGV HS1 HS2 HC HG hM
              go_wp2_with fail
              go_loopw [17, 18] (fun vn vi wr => ∃ i n : Nat, i ≤ g.nd.length ∧ n ≤ i ∧ vi = .int .i64 i ∧ vn = .int .i64 n ∧ Hid (n = (upTo M i).length) ∧ Hid (Only nob wb wr)) (fun _ vi _ => g.nd.length - (intOf vi).toNat)
              case atStart => exact ⟨0, 0, Nat.zero_le _, Nat.le_refl _, rfl, rfl, Lib.hid rfl, Lib.hid (Only.refl _ _)⟩
              case round =>
                obtain ⟨i, n, hi, hn, rfl, rfl, HNN, HO⟩ := hrel
                obtain ⟨d0, d1⟩ := HCV2.out wr HO.out
                by_cases hlt : i < g.nd.length
                · obtain ⟨d, hd⟩ : ∃ x, g.nd[i]? = some x := ⟨_, List.getElem?_eq_getElem hlt⟩
                  obtain ⟨bb, oo, fv, rv, rfl, hbb, hh', g0, g1, g2, hnd⟩ := (HGV2.out wr HO.out).at_ (Below.refl _ _) hd
                  obtain ⟨Af, cf, hfv, hafc, hcfm⟩ := hnd.fields.form
                  simp only at hfv
                  subst hfv
                  unfold maxLen at hcfm
                  have HF := Lib.hid (fun (W' : World) (o : Only nob wr W') => (hnd.fields.below (o.below (Nat.le_trans OWR.out.size HO.out.size) fun _ h => h.elim)))
                  have G1 := Lib.hid g1
                  by_cases hm : (i : Int) ∈ M
                  · have e0 := (HCW.out i hlt wr HO.out).trans (by rw [if_pos hm])
                    have HST := Lib.hid (show ∀ W', Only nob wb W' → Calls Try.prog 18 #[.slice A3 R.length k3, .int .i64 (i : Int)] W' fun e w' => e = .returned (.bool true) ∧ w' = W' from fun W' o => by
                      have := rStarts17 _ R (i : Int) _ W' (HS3.out W' o)
                      rw [HMT.out.mem i hlt, decide_eq_true hm] at this
                      exact this)
                    have HNX := Lib.hid (show n + 1 = (upTo M (i + 1)).length by rw [upTo_succ, if_pos hm, HNN.out]; simp)
                    have HCI := Lib.hid (fun (W' : World) (o : Only nob wb W') => (HCW.out i hlt W' o).trans (show some (Value.int .i64 (if (i : Int) ∈ M then 1 else 0)) = some (.int .i64 1) by rw [if_pos hm]))
                    have HMF := Lib.hid (HMT.out.fs i d hd)
                    clear g0 g1 g2 hh' hnd hd
                    go_wp2
                    go_quiet ((go_at_call 18; exact Calls.quiet_of_same (HST.out _ (HO.out.drewN _))))
                    have OQ := Lib.hid ((Only.refl nob wr).drewN nq)
                    generalize wr.drewN nq = wq at OQ ⊢
                    clear d0 d1 e0
                    have e0 := HCI.out wq (HO.out.trans OQ.out)
                    have g1 := OQ.out.keeps G1.out
                    obtain ⟨d0, d1⟩ := HCV2.out wq (HO.out.trans OQ.out)
                    go_wp2_with fail
                    clear e0 g1 d0 d1
                    go_loopw [19] (fun vj wr2 => ∃ j : Nat, j ≤ d.fs.length ∧ vj = .int .i64 j ∧ Hid (Only nob wr wr2)) (fun vj _ => d.fs.length - (intOf vj).toNat)
                    case atStart => exact ⟨0, Nat.zero_le _, rfl, OQ⟩
                    case round =>
                      obtain ⟨j, hj, rfl, HO2⟩ := hrel
                      obtain ⟨d0, d1⟩ := HCV2.out wr (HO.out.trans HO2.out)
                      have g1 := HO2.out.keeps G1.out
                      by_cases hlj : j < d.fs.length
                      · obtain ⟨⟨x, y⟩, hy⟩ : ∃ x, d.fs[j]? = some x := ⟨_, List.getElem?_eq_getElem hlj⟩
                        obtain ⟨b1, o1, rfl, -, c0, c1⟩ := sl_span (HF.out wr HO2.out) (Below.refl _ _) hy
                        simp only at c0 c1
                        obtain ⟨W4, hW4, HB4⟩ := box_val16 wr x y
                        have HW4 := Lib.hid hW4
                        have O4 := Lib.hid (HO2.out.trans HB4.out.1)
                        have q0 : W4.cell? ⟨wr.heap.size, 0, none⟩ = some (.int .i64 x) := HB4.out.2.cell 0
                        have q1 : W4.cell? ⟨wr.heap.size, 1, none⟩ = some (.int .i64 y) := HB4.out.2.cell 1
                        have e0 := HCI.out W4 (HO.out.trans O4.out)
                        have HYM := Lib.hid (List.mem_of_getElem? hy)
                        clear hW4 hy
                        go_upto_region 27 with fail
                        rw [HW4.out]
                        clear c0 c1 g1 d0 d1
                        by_cases hx2 : x = 2
                        · subst hx2
                          have hym : y ∈ M := HMF.out hm _ HYM.out rfl
                          have hyb := HMT.out.rng y hym
                          obtain ⟨m0, rfl⟩ : ∃ m : Nat, y = m := ⟨y.toNat, by omega⟩
                          have hm0 : m0 < g.nd.length := by omega
                          have z0 := (HCW.out m0 hm0 W4 (HO.out.trans O4.out)).trans (show some (Value.int .i64 (if (m0 : Int) ∈ M then 1 else 0)) = some (.int .i64 1) by rw [if_pos hym])
                          clear hyb hym
                          go_wp2
                          go_roundw
                          case rel => exact ⟨j + 1, by omega, by go_num, O4⟩
                          case measure => simp [intOf]; omega
                        · have hbq : (x == 2) = false := by simpa using hx2
                          clear hx2
                          go_wp2
                          go_roundw
                          case rel => exact ⟨j + 1, by omega, by go_num, O4⟩
                          case measure => simp [intOf]; omega
                      · obtain rfl : j = d.fs.length := by omega
                        go_wp2
                        go_roundw
                        case rel => exact ⟨i + 1, n + 1, by omega, by omega, by go_num, by first | (go_num; done) | rfl | simp, HNX, Lib.hid (HO.out.trans HO2.out)⟩
                        case measure => simp [intOf]; omega
                  · have e0 := (HCW.out i hlt wr HO.out).trans (by rw [if_neg hm])
                    have HST := Lib.hid (show ∀ W', Only nob wb W' → Calls Try.prog 18 #[.slice A3 R.length k3, .int .i64 (i : Int)] W' fun e w' => e = .returned (.bool false) ∧ w' = W' from fun W' o => by
                      have := rStarts17 _ R (i : Int) _ W' (HS3.out W' o)
                      rw [HMT.out.mem i hlt, decide_eq_false hm] at this
                      exact this)
                    have HNX := Lib.hid (show n + 0 = (upTo M (i + 1)).length by rw [upTo_succ, if_neg hm, HNN.out]; simp)
                    have HCI := Lib.hid (fun (W' : World) (o : Only nob wb W') => (HCW.out i hlt W' o).trans (show some (Value.int .i64 (if (i : Int) ∈ M then 1 else 0)) = some (.int .i64 0) by rw [if_neg hm]))
                    have HMF := Lib.hid (HMT.out.fs i d hd)
                    clear g0 g1 g2 hh' hnd hd
                    go_wp2
                    go_quiet ((go_at_call 18; exact Calls.quiet_of_same (HST.out _ (HO.out.drewN _))))
                    have OQ := Lib.hid ((Only.refl nob wr).drewN nq)
                    generalize wr.drewN nq = wq at OQ ⊢
                    clear d0 d1 e0
                    have e0 := HCI.out wq (HO.out.trans OQ.out)
                    have g1 := OQ.out.keeps G1.out
                    obtain ⟨d0, d1⟩ := HCV2.out wq (HO.out.trans OQ.out)
                    go_wp2_with fail
                    clear e0 g1 d0 d1
                    go_loopw [19] (fun vj wr2 => ∃ j : Nat, j ≤ d.fs.length ∧ vj = .int .i64 j ∧ Hid (Only nob wr wr2)) (fun vj _ => d.fs.length - (intOf vj).toNat)
                    case atStart => exact ⟨0, Nat.zero_le _, rfl, OQ⟩
                    case round =>
                      obtain ⟨j, hj, rfl, HO2⟩ := hrel
                      obtain ⟨d0, d1⟩ := HCV2.out wr (HO.out.trans HO2.out)
                      have g1 := HO2.out.keeps G1.out
                      by_cases hlj : j < d.fs.length
                      · obtain ⟨⟨x, y⟩, hy⟩ : ∃ x, d.fs[j]? = some x := ⟨_, List.getElem?_eq_getElem hlj⟩
                        obtain ⟨b1, o1, rfl, -, c0, c1⟩ := sl_span (HF.out wr HO2.out) (Below.refl _ _) hy
                        simp only at c0 c1
                        obtain ⟨W4, hW4, HB4⟩ := box_val16 wr x y
                        have HW4 := Lib.hid hW4
                        have O4 := Lib.hid (HO2.out.trans HB4.out.1)
                        have q0 : W4.cell? ⟨wr.heap.size, 0, none⟩ = some (.int .i64 x) := HB4.out.2.cell 0
                        have q1 : W4.cell? ⟨wr.heap.size, 1, none⟩ = some (.int .i64 y) := HB4.out.2.cell 1
                        have e0 := HCI.out W4 (HO.out.trans O4.out)
                        have HYM := Lib.hid (List.mem_of_getElem? hy)
                        clear hW4 hy
                        go_upto_region 27 with fail
                        rw [HW4.out]
                        clear c0 c1 g1 d0 d1
                        go_wp2
                        go_roundw
                        case rel => exact ⟨j + 1, by omega, by go_num, O4⟩
                        case measure => simp [intOf]; omega
                      · obtain rfl : j = d.fs.length := by omega
                        go_wp2
                        go_roundw
                        case rel => exact ⟨i + 1, n + 0, by omega, by omega, by go_num, by first | (go_num; done) | rfl | simp, HNX, Lib.hid (HO.out.trans HO2.out)⟩
                        case measure => simp [intOf]; omega
                · obtain rfl : i = g.nd.length := by omega
                  have HL2 := Lib.hid (show n = R.length by rw [HNN.out]; exact HMT.out.len)
                  obtain rfl : n = R.length := HL2.out
                  have HRT := Lib.hid (fun (W' : World) (o : Only nob wb W') => (HGV2.out W' o).roots)
                  have hRl := hk3
                  clear hlt
                  go_wp2_with fail
                  clear d0 d1
                  go_loopw [21] (fun vj wr => ∃ j : Nat, j ≤ g.rt.length ∧ vj = .int .i64 j ∧ Hid (Only nob wb wr)) (fun vj _ => g.rt.length - (intOf vj).toNat)
                  case atStart => exact ⟨0, Nat.zero_le _, rfl, HO⟩
                  case round =>
                    obtain ⟨j, hj, rfl, HO2⟩ := hrel
                    obtain ⟨d0, d1⟩ := HCV2.out wr HO2.out
                    by_cases hlj : j < g.rt.length
                    · obtain ⟨⟨x, y⟩, hy⟩ : ∃ x, g.rt[j]? = some x := ⟨_, List.getElem?_eq_getElem hlj⟩
                      obtain ⟨b1, o1, rfl, -, c0, c1⟩ := sl_span (HRT.out wr HO2.out) (Below.refl _ _) hy
                      simp only at c0 c1
                      by_cases hx2 : x = 2
                      · subst hx2
                        have hym : y ∈ M := HMT.out.rt _ (List.mem_of_getElem? hy) rfl
                        have hyb := HMT.out.rng y hym
                        obtain ⟨m0, rfl⟩ : ∃ m : Nat, y = m := ⟨y.toNat, by omega⟩
                        have hm0 : m0 < g.nd.length := by omega
                        have z0 := (HCW.out m0 hm0 wr HO2.out).trans (show some (Value.int .i64 (if (m0 : Int) ∈ M then 1 else 0)) = some (.int .i64 1) by rw [if_pos hym])
                        clear hyb hym hy
                        go_wp2
                        go_roundw
                        case rel => exact ⟨j + 1, by omega, by go_num, HO2⟩
                        case measure => simp [intOf]; omega
                      · have hbq : (x == 2) = false := by simpa using hx2
                        clear hx2 hy
                        go_wp2
                        go_roundw
                        case rel => exact ⟨j + 1, by omega, by go_num, HO2⟩
                        case measure => simp [intOf]; omega
                    · obtain rfl : j = g.rt.length := by omega
                      have OE := Lib.hid (OWR.out.trans HO2.out)
                      clear hlj
                      go_wp2_with fail
                      go_at_call 7
                      refine (awake17 _).mono ?_
                      rintro e w9 ⟨rfl, o9⟩
                      have O9 := Lib.hid (OE.out.trans o9)
                      clear o9
                      go_wp2
                      go_ret
                      exact ⟨rfl, O9.out⟩
    · have hnb : (E != 0) = true := by simpa using hE0
      obtain ⟨l1, l2⟩ := HN.out hE0
      rw [l1, l2] 
      clear d0 d1
      go_wp2_with fail
      go_at_call 7
      refine (awake17 _).mono ?_
      rintro e w9 ⟨rfl, o9⟩
      have O9 := Lib.hid (O2.out.trans o9)
      clear o9
      go_wp2
      go_ret
      exact ⟨rfl, O9.out⟩
end Go.Proofs.Ytkjdnccnfnhkoaa
