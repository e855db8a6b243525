/- The law GraphBack: walked. -/
import Derived.Test.YtdlaigghejahdaaGrLaw2
import Derived.Test.YtdlaigghejahdaaGrBump
import Derived.Test.YtdlaigghejahdaaGrCopy
import Derived.Test.YtdlaigghejahdaaRef16I
namespace Go.Proofs.Ytdlaigghejahdaa
open Go.RowKit Go.Lib
set_option maxRecDepth 100000
set_option linter.unusedSimpArgs false
set_option linter.unusedVariables false

theorem make_ints16 (n : Nat) (hn : n ≤ 1000000) (w : World) : ∃ W, (Instr.makeSlice 26 (.int .i64 (n : Int)) (.int .i64 (n : Int))).run Try.prog w = .ok (.slice (some ⟨w.heap.size, 0, none⟩) n n) W ∧ Only nob w W ∧ W.ownsRow w.heap.size 3 1 (.slice (some ⟨w.heap.size, 0, none⟩) n n) n (i64s (List.replicate n 0)) := by
  obtain ⟨i0, hi0, hz0, hz1, hz2⟩ := info_parts info_int
  obtain ⟨W, h1, h2, h3⟩ := run_make_full (P := Try.prog) w w.heap.size 26 3 i0 _ 1 Try.underlying26 hi0 hz0 hz1 .i64 .i64 n (by rw [hz2]; omega) (by unfold maxLen; omega) (Nat.le_refl _)
  refine ⟨W, h1, ⟨h3.os, h3.tape, h3.output, h3.size, fun k hk _ => h3.block k hk (by simp)⟩, ?_⟩
  have e : (madeCells (Value.int .i64 0).cells (n * 1)).toList = i64s (List.replicate n 0) := by
    show (madeCells #[.int .i64 0] (n * 1)).toList = _
    rw [toList_madeCells_one, Nat.mul_one]
    simp [i64s]
  rw [e] at h2
  exact h2
theorem i64s_set16 (l : List Int) (k : Nat) (y : Int) : (i64s l).set k (.int .i64 y) = i64s (l.set k y) := by simp [i64s, List.map_set]
theorem back_step {l bl : List Int} {k m0 : Nat} (hnd : l.Nodup) (hk : l[k]? = some (m0 : Int)) (hm0 : m0 < bl.length) (H : ∀ j m : Nat, j < k → l[j]? = some (m : Int) → bl[m]? = some (j : Int)) :
    ∀ j m : Nat, j < k + 1 → l[j]? = some (m : Int) → (bl.set m0 (k : Int))[m]? = some (j : Int) := by
  intro j m hj hm
  rcases Nat.lt_or_ge j k with h' | h'
  · have hne : m0 ≠ m := by
      rintro rfl
      have := nodup_at hnd hm hk
      omega
    rw [List.getElem?_set_ne hne]
    exact H j m h' hm
  · obtain rfl : j = k := by omega
    rw [hk] at hm
    obtain rfl : m0 = m := by have := Option.some.inj hm; omega
    rw [List.getElem?_set_self hm0]
theorem back_end {l bl : List Int} {n : Nat} (h : ordOk n l = true) (hl : l.length = n) (hb : bl.length = n) (H : ∀ j m : Nat, j < n → l[j]? = some (m : Int) → bl[m]? = some (j : Int)) : bl = backO n l := by
  refine List.ext_getElem? fun k => ?_
  rcases Nat.lt_or_ge k n with hk | hk
  · obtain ⟨j, e, hj⟩ := plc_at (ord_all h hl k hk)
    rw [back_at hk, e]
    exact H j k (by have := (List.getElem?_eq_some_iff.1 hj).1; omega) hj
  · rw [List.getElem?_eq_none (by omega), List.getElem?_eq_none (by rw [back_len]; omega)]
theorem rn_back2 {g : Gr} {l : List Int} (h : rnE g l = 0) (hl : l.length = g.nd.length) (hn : g.nd.length ≤ 1000000) :
    grOk (rnG g l) = true ∧ rnE (rnG g l) (backO g.nd.length l) = 0 ∧ rnG (rnG g l) (backO g.nd.length l) = g ∧ (rnG g l).nd.length = g.nd.length ∧ (rnG g l).rt.length = g.rt.length := by
  have hok := rnE_iff.1 h
  have e : rnG g l = ⟨(pick g l).map (ndT l), turnT l g.rt⟩ := by unfold rnG; rw [if_pos h]
  obtain ⟨b1, b2, b3⟩ := rn_back hok hl hn
  rw [e]
  have h0 := rnE_iff.2 b1
  refine ⟨rn_may hok hl hn, h0, ?_, by unfold pick; simp [hl], by unfold turnT; simp⟩
  unfold rnG
  rw [if_pos h0]
  cases g with
  | mk nd rt =>
    simp only at b2 b3 ⊢
    rw [b2, b3]
theorem back_b64 {n : Nat} {l : List Int} (hl : l.length ≤ 1000000) : ∀ x ∈ backO n l, -9223372036854775808 ≤ x ∧ x ≤ 9223372036854775807 := by
  intro x hx
  obtain ⟨k, -, rfl⟩ := List.mem_map.1 hx
  by_cases hm : (k : Int) ∈ l
  · have h1 : l.idxOf (k : Int) < l.length := List.idxOf_lt_length_iff.2 hm
    rw [plc_in hm]; omega
  · rw [plc_out hm]; omega
theorem only_grown16 {W W' : World} (h : W.grownBy W' none) : Only nob W W' := ⟨h.os, h.tape, h.output, h.size, fun k hk _ => h.block k hk (by simp)⟩
set_option maxHeartbeats 8000000 in
theorem graphBack_walk (g : Gr) (vn vr v : Value) (hs : List (Value × Value)) (l : List Int) (w : World) (h : RdG w w.heap.size g vn vr hs) (hfit : GrFit g) (hv : Sl w w.heap.size 1 v l.length (i64s l)) (hb : ∀ x ∈ l, -9223372036854775808 ≤ x ∧ x ≤ 9223372036854775807)
    (hrow : ∀ d ∈ g.nd, d.fs.length * 16 ≤ 140737488355328 ∧ d.rs.length * 8 ≤ 140737488355328) :
    Calls Try.prog 5 #[.agg #[vn, vr], v] w fun e w' => e = .returned (.bool true) ∧ Only nob w w' := by
  have HR := Lib.hid h
  have HV := Lib.hid hv
  have HFIT := Lib.hid hfit
  have HB64 := Lib.hid hb
  have HROW := Lib.hid hrow
  obtain ⟨A, c, rfl, hac, hcm⟩ := h.nodes.form
  obtain ⟨Ar, cr, rfl, harc, hcrm⟩ := h.roots.form
  obtain ⟨Al, cl, rfl, hal, hcl⟩ := hv.form
  unfold maxLen at hcm hcrm hcl
  obtain ⟨W, hW, HB⟩ := box_graph w (.slice A g.nd.length c) (.slice Ar g.rt.length cr)
  have HW := Lib.hid hW
  have RW := Lib.hid (HR.out.only HB.out.1 (Nat.le_refl _))
  have hBW := Lib.hid HB.out.1.size
  have c0 := HB.out.2.2.1
  have c1 := HB.out.2.2.2
  clear hW h hv hfit hb hrow
  go_enter Try.func5, Try.ntmps5
  go_upto_region 1 with fail
  rw [HW.out]
  go_wp2_with fail
  go_at_call 6
  refine (large_call g _ _ hs _ W RW.out hBW.out).mono ?_
  rintro e w1 (⟨rfl, o⟩ | ⟨rfl, hsz, o⟩)
  · have O1 := Lib.hid (HB.out.1.trans o)
    clear o c0 c1
    go_wp2_with fail
    go_at_call 7
    refine (awake16 _).mono ?_
    rintro e w9 ⟨rfl, o9⟩
    have O9 := Lib.hid (O1.out.trans o9)
    clear o9
    go_wp2
    go_ret
    exact ⟨rfl, O9.out⟩
  · have O1 := Lib.hid (HB.out.1.trans o)
    have HSZ := Lib.hid hsz
    have d0 := o.keeps c0
    have d1 := o.keeps c1
    clear o c0 c1 hsz
    by_cases hl : (100 : Int) < (l.length : Int)
    · clear d0 d1
      go_wp2_with fail
      go_at_call 7
      refine (awake16 _).mono ?_
      rintro e w9 ⟨rfl, o9⟩
      have O9 := Lib.hid (O1.out.trans o9)
      clear o9
      go_wp2
      go_ret
      exact ⟨rfl, O9.out⟩
    · have hl2 : l.length ≤ 100 := by omega
      have R1 := Lib.hid (HR.out.only O1.out (Nat.le_refl _))
      go_wp2_with fail
      go_at_call 22
      refine (rCopy16 g _ _ hs _ w1 R1.out O1.out.size (by have := HSZ.out.1; omega) HROW.out (by have := HSZ.out.2; omega)).mono ?_
      rintro e w3 ⟨un3, ur3, js3, rfl, rd3, o⟩
      have RD3 := Lib.hid rd3
      obtain ⟨An3, cn3, rfl, -⟩ := rd3.nodes.form
      obtain ⟨Ar3, cr3, rfl, -⟩ := rd3.roots.form
      obtain ⟨X3, hX3, HBX3⟩ := box_graph2 w3 (.slice An3 g.nd.length cn3) (.slice Ar3 g.rt.length cr3)
      have HX3 := Lib.hid hX3
      have OX3 := Lib.hid (O1.out.trans (o.trans HBX3.out.1))
      have c0 := (o.trans HBX3.out.1).keeps d0
      have c1 := (o.trans HBX3.out.1).keeps d1
      have R3 := Lib.hid (HR.out.only OX3.out (Nat.le_refl _))
      have C0X := Lib.hid c0
      have C1X := Lib.hid c1
      clear o rd3 hX3 d0 d1 R1
      go_upto_region 4 with fail
      rw [HX3.out]
      go_wp2_with fail
      go_at_call 23
      refine (copy_any16 g _ _ hs _ X3 R3.out OX3.out.size (by have := HSZ.out.1; omega) HROW.out (by have := HSZ.out.2; omega)).mono ?_
      rintro e w4 ⟨vn4, vr4, js, rfl, og, o⟩
      have OG4 := Lib.hid og
      obtain ⟨An, cn, rfl, -⟩ := og.rd.nodes.form
      obtain ⟨Arc, crc, rfl, -⟩ := og.rd.roots.form
      obtain ⟨X4, hX4, HBX4⟩ := box_graph2 w4 (.slice An g.nd.length cn) (.slice Arc g.rt.length crc)
      have HX4 := Lib.hid hX4
      have OX4 := Lib.hid (o.trans HBX4.out.1)
      have d0 := OX4.out.keeps c0
      have d1 := OX4.out.keeps c1
      have q0 : X4.cell? ⟨w4.heap.size, 0, none⟩ = some (.slice An g.nd.length cn) := HBX4.out.2.cell 0
      have q1 : X4.cell? ⟨w4.heap.size, 1, none⟩ = some (.slice Arc g.rt.length crc) := HBX4.out.2.cell 1
      have OGX := Lib.hid (OG4.out.nob HBX4.out.1)
      have R4 := Lib.hid (HR.out.only (OX3.out.trans OX4.out) (Nat.le_refl _))
      have HSM := Lib.hid (rSame_eq g _ _ _ _ js hs _ _ X4 OGX.out.rd R4.out (Nat.le_refl _) (OX3.out.trans OX4.out).size HFIT.out)
      clear o og hX4 c0 c1
      go_upto_region 5 with fail
      rw [HX4.out]
      go_wp2_with fail
      go_at_call 20
      refine HSM.out.mono ?_
      rintro e w5 ⟨rfl, o⟩
      have O5 := Lib.hid (OX4.out.trans o)
      have H0 := Lib.hid (OGX.out.nob o)
      have HB6 := Lib.hid (HBX4.out.2.keep o id)
      have c0 := o.keeps d0
      have c1 := o.keeps d1
      clear o d0 d1 q0 q1 HSM
      obtain ⟨q, hq⟩ : ∃ q, q = w4.heap.size := ⟨_, rfl⟩
      have HQ := Lib.hid hq
      rw [← hq] at HB6
      rw [← hq]
      clear hq
      go_wp2_with fail
      go_loopw [7] (fun vi wr => ∃ i : Nat, i ≤ g.nd.length ∧ vi = .int .i64 i ∧ Hid (Ch w5 X3.heap.size g (.slice An g.nd.length cn) (.slice Arc g.rt.length crc) js wr)) (fun vi _ => g.nd.length - (intOf vi).toNat)
      case atStart => exact ⟨0, Nat.zero_le _, rfl, Lib.hid (Ch.refl H0.out)⟩
      case round =>
        obtain ⟨i, hi, rfl, HC⟩ := hrel
        have q0 : wr.cell? ⟨q, 0, none⟩ = some (.slice An g.nd.length cn) := (HC.out.cells H0.out HB6.out (by decide) (by decide)).cell 0
        clear c0 c1
        by_cases hlt : i < g.nd.length
        · obtain ⟨d, hd⟩ : ∃ x, g.nd[i]? = some x := ⟨_, List.getElem?_eq_getElem hlt⟩
          obtain ⟨⟨fv, rv⟩, hx⟩ : ∃ x, js[i]? = some x := ⟨_, List.getElem?_eq_getElem (by rw [H0.out.len]; exact hlt)⟩
          obtain ⟨⟨bb, oo, hA, -, -⟩, ⟨Af, cf, f1⟩, Arw, crw, f2⟩ := HC.out.node hd hx
          simp only at f1 f2
          subst f1 f2 hA
          have HD := Lib.hid hd
          have HX := Lib.hid hx
          have hfl := Lib.hid (show d.fs.length ≤ 8796093022208 ∧ d.rs.length ≤ 17592186044416 by have := HROW.out d (List.mem_of_getElem? hd); omega)
          have hf1 := hfl.out.1
          have hf2 := hfl.out.2
          clear hd hx
          go_wp2_with fail
          clear q0
          go_loopw [8] (fun vk wr => ∃ k : Nat, k ≤ d.fs.length ∧ vk = .int .i64 k ∧ Hid (Ch w5 X3.heap.size g (.slice (some ⟨bb, oo, none⟩) g.nd.length cn) (.slice Arc g.rt.length crc) js wr)) (fun vk _ => d.fs.length - (intOf vk).toNat)
          case atStart => exact ⟨0, Nat.zero_le _, rfl, HC⟩
          case round =>
            obtain ⟨k, hk, rfl, HC2⟩ := hrel
            have q0 : wr.cell? ⟨q, 0, none⟩ = some (.slice (some ⟨bb, oo, none⟩) g.nd.length cn) := (HC2.out.cells H0.out HB6.out (by decide) (by decide)).cell 0
            obtain ⟨e1, e2⟩ := HC2.out.hdrs HD.out HX.out
            by_cases hlk : k < d.fs.length
            · obtain ⟨b, o2, z, rfl, cz, fz, hs2⟩ := HC2.out.field HD.out HX.out hlk
              have HS2 := Lib.hid hs2
              clear hs2 e2
              go_wp2
              go_roundw
              case rel => exact ⟨k + 1, by omega, by go_num, Lib.hid (HS2.out _)⟩
              case measure => simp [intOf]; omega
            · obtain rfl : k = d.fs.length := by omega
              go_wp2_with fail
              clear q0 e1 e2
              go_loopw [9] (fun vk wr => ∃ k : Nat, k ≤ d.rs.length ∧ vk = .int .i64 k ∧ Hid (Ch w5 X3.heap.size g (.slice (some ⟨bb, oo, none⟩) g.nd.length cn) (.slice Arc g.rt.length crc) js wr)) (fun vk _ => d.rs.length - (intOf vk).toNat)
              case atStart => exact ⟨0, Nat.zero_le _, rfl, HC2⟩
              case round =>
                obtain ⟨k, hk, rfl, HC3⟩ := hrel
                have q0 : wr.cell? ⟨q, 0, none⟩ = some (.slice (some ⟨bb, oo, none⟩) g.nd.length cn) := (HC3.out.cells H0.out HB6.out (by decide) (by decide)).cell 0
                obtain ⟨e1, e2⟩ := HC3.out.hdrs HD.out HX.out
                by_cases hlk : k < d.rs.length
                · obtain ⟨b, o2, z, rfl, cz, fz, hs2⟩ := HC3.out.raw HD.out HX.out hlk
                  have HS2 := Lib.hid hs2
                  clear hs2 e1
                  go_wp2
                  go_roundw
                  case rel => exact ⟨k + 1, by omega, by go_num, Lib.hid (HS2.out _ (by first | exact Int.emod_nonneg _ (by decide) | omega))⟩
                  case measure => simp [intOf]; omega
                · obtain rfl : k = d.rs.length := by omega
                  go_wp2
                  go_roundw
                  case rel => exact ⟨i + 1, by omega, by go_num, HC3⟩
                  case measure => simp [intOf]; omega
        · obtain rfl : i = g.nd.length := by omega
          have OB := HC.out.below H0.out O5.out.size
          have OXW := Lib.hid (O5.out.andThen OB fun i hi hge => by have h1 : X3.heap.size ≤ i := hge; omega)
          have OWW := Lib.hid (OX3.out.trans OXW.out)
          have c0 := OXW.out.keeps C0X.out
          have c1 := OXW.out.keeps C1X.out
          have p0 : wr.cell? ⟨w3.heap.size, 0, none⟩ = some (.slice An3 g.nd.length cn3) := OXW.out.keeps (HBX3.out.2.cell 0)
          have p1 : wr.cell? ⟨w3.heap.size, 1, none⟩ = some (.slice Ar3 g.rt.length cr3) := OXW.out.keeps (HBX3.out.2.cell 1)
          have hw3 : w3.heap.size ≤ wr.heap.size := Nat.le_trans HBX3.out.1.size OXW.out.size
          have HSM2 := Lib.hid (rSame_eq g _ _ _ _ js3 hs _ _ wr (RD3.out.only (HBX3.out.1.trans OXW.out) (Nat.le_refl _)) (HR.out.only OWW.out (Nat.le_refl _)) hw3 OWW.out.size HFIT.out)
          clear OB hw3
          go_wp2_with fail
          go_at_call 20
          refine HSM2.out.mono ?_
          rintro e w6 ⟨rfl, o⟩
          have O6 := Lib.hid (OWW.out.trans o)
          have d0 := o.keeps c0
          have d1 := o.keeps c1
          have R6 := Lib.hid (HR.out.only O6.out (Nat.le_refl _))
          have V6 := Lib.hid (HV.out.below (O6.out.below (Nat.le_refl _) fun _ h => h.elim))
          clear o c0 c1 p0 p1 q0
          obtain ⟨G, hG⟩ : ∃ G, G = rnG g l := ⟨_, rfl⟩
          obtain ⟨E, hE⟩ : ∃ E, E = rnE g l := ⟨_, rfl⟩
          have HFG := Lib.hid (show GrFit (rnG g l) from fit_rn HFIT.out (by omega))
          have HP6 := Lib.hid (renumber_any16 g l _ _ _ hs _ w6 R6.out V6.out O6.out.size HFIT.out HSZ.out.1 HSZ.out.2 hl2 HB64.out)
          rw [← hG] at HFG
          rw [← hG, ← hE] at HP6
          have HG := Lib.hid hG
          have HE := Lib.hid hE
          clear hG hE
          go_wp2_with fail
          go_at_call 18
          refine HP6.out.mono ?_
          rintro e w7 ⟨un7, ur7, js7, rfl, rd7, o⟩
          have RD7 := Lib.hid rd7
          obtain ⟨An7, cn7, rfl, -⟩ := rd7.nodes.form
          obtain ⟨Ar7, cr7, rfl, -⟩ := rd7.roots.form
          obtain ⟨X7, hX7, HBX7⟩ := box_graph2 w7 (.slice An7 G.nd.length cn7) (.slice Ar7 G.rt.length cr7)
          have HX7 := Lib.hid hX7
          have OX7 := Lib.hid (O6.out.trans (o.trans HBX7.out.1))
          have c0 := (o.trans HBX7.out.1).keeps d0
          have c1 := (o.trans HBX7.out.1).keeps d1
          have r0 : X7.cell? ⟨w7.heap.size, 0, none⟩ = some (.slice An7 G.nd.length cn7) := HBX7.out.2.cell 0
          have r1 : X7.cell? ⟨w7.heap.size, 1, none⟩ = some (.slice Ar7 G.rt.length cr7) := HBX7.out.2.cell 1
          have C0Y := Lib.hid c0
          have C1Y := Lib.hid c1
          clear o rd7 hX7 d0 d1
          go_upto_region 21 with fail
          rw [HX7.out]
          by_cases h0 : E = 0
          · subst h0
            by_cases hln : (l.length : Int) = (g.nd.length : Int)
            · have hln2 : l.length = g.nd.length := by omega
              have HRN := Lib.hid (rn_back2 HE.out.symm hln2 (by have := HSZ.out.1; omega))
              have HOK := Lib.hid (ordOk_iff.1 (rnE_iff.1 HE.out.symm).ord)
              obtain ⟨WM, hmk, om, hown⟩ := make_ints16 l.length (by omega) X7
              have OM := Lib.hid om
              have HOW := Lib.hid hown
              obtain ⟨bq, hbq⟩ : ∃ bq, bq = X7.heap.size := ⟨_, rfl⟩
              rw [← hbq] at hmk HOW
              have HBQ := Lib.hid hbq
              have HLN := Lib.hid hln2
              clear om hown hbq hln2
              go_upto_region 23 with fail
              clear hln
              go_wp2_with fail
              clear hmk c0 c1 r0 r1
              go_loopw [13] (fun vj wr => ∃ (k : Nat) (bl : List Int), k ≤ l.length ∧ vj = .int .i64 k ∧ Hid (bl.length = l.length ∧ ∀ j m : Nat, j < k → l[j]? = some (m : Int) → bl[m]? = some (j : Int)) ∧ Hid (wr.ownsRow bq 3 1 (.slice (some ⟨bq, 0, none⟩) l.length l.length) l.length (i64s bl)) ∧ Hid (Only nob X7 wr)) (fun vj _ => l.length - (intOf vj).toNat)
              case atStart => exact ⟨0, List.replicate l.length 0, Nat.zero_le _, rfl, Lib.hid ⟨by simp, fun j m hj _ => absurd hj (Nat.not_lt_zero j)⟩, HOW, OM⟩
              case round =>
                obtain ⟨k, bl, hk, rfl, HBL, HRW, HO⟩ := hrel
                by_cases hlt : k < l.length
                · obtain ⟨x, hx⟩ : ∃ x, l[k]? = some x := ⟨_, List.getElem?_eq_getElem hlt⟩
                  have hxb := HOK.out.1 x (List.mem_of_getElem? hx)
                  obtain ⟨m0, rfl⟩ : ∃ m : Nat, x = m := ⟨x.toNat, by omega⟩
                  have hm0 : m0 < l.length := by have := HLN.out; omega
                  obtain ⟨b1, o1, rfl, -, e0⟩ := sl_int HV.out ((OX7.out.trans HO.out).below (Nat.le_refl _) fun _ h => h.elim) hx
                  have HST := Lib.hid (back_step HOK.out.2 hx (by rw [HBL.out.1]; exact hm0) HBL.out.2)
                  obtain ⟨cs, hblk⟩ := own_blk16 HRW.out (k := bq) rfl
                  have f0 := hblk.free m0
                  obtain ⟨yo, hyo⟩ : ∃ y, bl[m0]? = some y := ⟨_, List.getElem?_eq_getElem (by rw [HBL.out.1]; exact hm0)⟩
                  have g0 : wr.cell? ⟨bq, m0, none⟩ = some (.int .i64 yo) := (HRW.out.cellAt m0 (by omega)).trans (i64s_at hyo)
                  have hset := own_set16 HRW.out m0 (by omega) (.int .i64 (k : Int))
                  rw [i64s_set16] at hset
                  have HSET := Lib.hid hset
                  have ONX := Lib.hid (HO.out.setCell (p := ⟨bq, m0, none⟩) (fun h => absurd h (by rw [HBQ.out]; exact Nat.lt_irrefl _)) (.int .i64 (k : Int)))
                  clear hx hxb hset hblk hyo
                  go_wp2
                  go_roundw
                  case rel => exact ⟨k + 1, bl.set m0 (k : Int), by omega, by go_num, Lib.hid ⟨by rw [List.length_set]; exact HBL.out.1, HST.out⟩, HSET, ONX⟩
                  case measure => simp [intOf]; omega
                · obtain rfl : k = l.length := by omega
                  have hLN := HLN.out
                  have hbl : bl = backO g.nd.length l := back_end (rnE_iff.1 HE.out.symm).ord hLN (by rw [HBL.out.1, hLN]) (by rw [← hLN]; exact HBL.out.2)
                  have hlen : l.length = bl.length := HBL.out.1.symm
                  have hSB : Sl wr wr.heap.size 1 (.slice (some ⟨bq, 0, none⟩) l.length l.length) l.length (i64s bl) := Sl.of_own HRW.out HRW.out.1
                  have hSB2 : Sl wr wr.heap.size 1 (.slice (some ⟨bq, 0, none⟩) l.length l.length) bl.length (i64s bl) := by rw [← hlen]; exact hSB
                  have HRG := Lib.hid ((RD7.out.only (HBX7.out.1.trans HO.out) (Nat.le_refl _)).more (HBX7.out.1.trans HO.out).size)
                  have HSN := Lib.hid (show G.nd.length ≤ 60 ∧ G.rt.length ≤ 100 by rw [HG.out, HRN.out.2.2.2.1, HRN.out.2.2.2.2]; exact HSZ.out)
                  have HP8 := Lib.hid (renumber_any16 G bl _ _ _ js7 _ wr HRG.out hSB2 (Nat.le_refl _) HFG.out HSN.out.1 HSN.out.2 (by rw [← hlen]; exact hl2) (by rw [hbl]; exact back_b64 (by omega)))
                  have he2 : rnE G bl = 0 := by rw [HG.out, hbl]; exact HRN.out.2.1
                  have hg2 : rnG G bl = g := by rw [HG.out, hbl]; exact HRN.out.2.2.1
                  rw [he2, hg2] at HP8
                  have OWR := Lib.hid (OX7.out.trans HO.out)
                  have HOKG := Lib.hid (show grOk G = true by rw [HG.out]; exact HRN.out.1)
                  have c0 := HO.out.keeps C0Y.out
                  have c1 := HO.out.keeps C1Y.out
                  have r0 : wr.cell? ⟨w7.heap.size, 0, none⟩ = some (.slice An7 G.nd.length cn7) := HO.out.keeps (HBX7.out.2.cell 0)
                  have r1 : wr.cell? ⟨w7.heap.size, 1, none⟩ = some (.slice Ar7 G.rt.length cr7) := HO.out.keeps (HBX7.out.2.cell 1)
                  clear hLN hbl hlen hSB hSB2 he2 hg2
                  go_wp2_with fail
                  go_at_call 18
                  refine HP8.out.mono ?_
                  rintro e w8 ⟨un8, ur8, js8, rfl, rd8, o⟩
                  have RD8 := Lib.hid rd8
                  obtain ⟨An8, cn8, rfl, -⟩ := rd8.nodes.form
                  obtain ⟨Ar8, cr8, rfl, -⟩ := rd8.roots.form
                  obtain ⟨X8, hX8, HBX8⟩ := box_graph2 w8 (.slice An8 g.nd.length cn8) (.slice Ar8 g.rt.length cr8)
                  have HX8 := Lib.hid hX8
                  have OX8 := Lib.hid (o.trans HBX8.out.1)
                  have d0 := OX8.out.keeps c0
                  have d1 := OX8.out.keeps c1
                  have s0 := OX8.out.keeps r0
                  have s1 := OX8.out.keeps r1
                  have t0 : X8.cell? ⟨w8.heap.size, 0, none⟩ = some (.slice An8 g.nd.length cn8) := HBX8.out.2.cell 0
                  have t1 : X8.cell? ⟨w8.heap.size, 1, none⟩ = some (.slice Ar8 g.rt.length cr8) := HBX8.out.2.cell 1
                  have OW8 := Lib.hid (OWR.out.trans OX8.out)
                  have HRT := Lib.hid (right_any16 G _ _ js7 _ X8 (HRG.out.only OX8.out (Nat.le_refl _)) OX8.out.size HFG.out)
                  rw [HOKG.out] at HRT
                  have HSS := Lib.hid (fun (W' : World) (o : Only nob X8 W') => rSame_eq g _ _ _ _ js8 hs _ _ W' (RD8.out.only (HBX8.out.1.trans o) (Nat.le_refl _)) (HR.out.only (OW8.out.trans o) (Nat.le_refl _)) (HBX8.out.1.trans o).size (OW8.out.trans o).size HFIT.out)
                  clear o rd8 hX8 c0 c1 r0 r1
                  go_upto_region 29 with fail
                  rw [HX8.out]
                  go_wp2_with fail
                  go_at_call 11
                  refine HRT.out.mono ?_
                  rintro e w9 ⟨rfl, o⟩
                  have O9 := Lib.hid o
                  have a0 := o.keeps d0
                  have a1 := o.keeps d1
                  have u0 := o.keeps t0
                  have u1 := o.keeps t1
                  clear o d0 d1 s0 s1 t0 t1
                  go_wp2_with fail
                  go_at_call 20
                  refine (HSS.out w9 O9.out).mono ?_
                  rintro e wa ⟨rfl, o⟩
                  have OA := Lib.hid (OW8.out.trans (O9.out.trans o))
                  clear o a0 a1 u0 u1
                  go_wp2_with fail
                  go_at_call 7
                  refine (awake16 _).mono ?_
                  rintro e w9 ⟨rfl, o9⟩
                  have O9 := Lib.hid (OA.out.trans o9)
                  clear o9
                  go_wp2
                  go_ret
                  exact ⟨rfl, O9.out⟩
            · have hnb : ((l.length : Int) != (g.nd.length : Int)) = true := by simpa using hln
              go_wp2_with fail
              go_at_call 7
              refine (awake16 _).mono ?_
              rintro e w9 ⟨rfl, o9⟩
              have O9 := Lib.hid (OX7.out.trans o9)
              clear o9
              go_wp2
              go_ret
              exact ⟨rfl, O9.out⟩
          · have hnb : (E != 0) = true := by simpa using h0
            go_wp2_with fail
            go_at_call 7
            refine (awake16 _).mono ?_
            rintro e w9 ⟨rfl, o9⟩
            have O9 := Lib.hid (OX7.out.trans o9)
            clear o9
            go_wp2
            go_ret
            exact ⟨rfl, O9.out⟩
end Go.Proofs.Ytdlaigghejahdaa
