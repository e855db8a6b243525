/- The document's own answers for graphs: a node's size; how many words and fields some nodes have. -/
import Derived.Test.YtdlaigghejahdaaRef16D
namespace Go.Proofs.Ytdlaigghejahdaa
open Go.RowKit Go.Lib
set_option maxRecDepth 100000
set_option linter.unusedSimpArgs false
set_option linter.unusedVariables false

set_option maxHeartbeats 1000000 in
theorem rSize16 : SizeGC 10 := by
  intro d h B w hr
  obtain ⟨fv, rv⟩ := h
  obtain ⟨Af, cf, hfv, hafc, hcfm⟩ := hr.fields.form
  obtain ⟨Arw, crw, hrv, harw, hcrw⟩ := hr.raws.form
  simp only at hfv hrv
  subst hfv hrv
  obtain ⟨W, hW, HB⟩ := box_node w d.kd (.slice Af d.fs.length cf) (.slice Arw d.rs.length crw)
  have HW := Lib.hid hW
  obtain ⟨-, -, d0, d1, d2⟩ := HB.out
  have HZ := Lib.hid (show ndSz d = wrap64 (wrap64 (1 + (d.fs.length : Int)) + (d.rs.length : Int)) by rw [wrap_add16]; rfl)
  obtain ⟨z, hz⟩ : ∃ z, z = ndSz d := ⟨_, rfl⟩
  rw [← hz] at HZ ⊢
  simp only
  clear hW hr hz
  go_enter Try.func10, Try.ntmps10
  go_upto_region 1 with fail
  rw [HW.out]
  go_wp2
  go_ret
  exact ⟨ret_int (by rw [HZ.out]), HB.out.1⟩
theorem nodeAt_in {g : Gr} {i : Int} (h0 : 0 ≤ i) {d : Nd} (hd : g.nd[i.toNat]? = some d) : wAt g i = ndRaw d ∧ fAt g i = d.fs.length := by
  unfold wAt fAt nodeAt
  rw [if_pos h0, hd]
  exact ⟨rfl, rfl⟩
theorem nodeAt_out {g : Gr} {i : Int} (h : ¬ (0 ≤ i ∧ i < (g.nd.length : Int))) : wAt g i = 0 ∧ fAt g i = 0 := by
  unfold wAt fAt nodeAt
  by_cases h0 : 0 ≤ i
  · rw [if_pos h0, List.getElem?_eq_none (by omega)]
    exact ⟨rfl, rfl⟩
  · rw [if_neg h0]
    exact ⟨rfl, rfl⟩
theorem sum0 (g : Gr) (l : List Int) : sumW g (l.take 0) = 0 ∧ sumF g (l.take 0) = 0 := by
  unfold sumW sumF wrap64
  simp
set_option maxHeartbeats 4000000 in
theorem rSums16 (g : Gr) (l : List Int) (vn vr v : Value) (hs : List (Value × Value)) (B : Nat) (w : World) (h : RdG w B g vn vr hs) (hv : Sl w B 1 v l.length (i64s l)) (hB : B ≤ w.heap.size) :
    Calls Try.prog 8 #[.agg #[vn, vr], v] w fun e w' => e = .returned (.tuple #[.int .i64 (sumW g l), .int .i64 (sumF g l)]) ∧ Only nob w w' := by
  have HR := Lib.hid h
  have HV := Lib.hid hv
  obtain ⟨A, c, rfl, hac, hcm⟩ := h.nodes.form
  obtain ⟨Al, cl, rfl, hal, hcl⟩ := hv.form
  unfold maxLen at hcm hcl
  obtain ⟨W, hW, HB⟩ := box_graph w (.slice A g.nd.length c) vr
  have HW := Lib.hid hW
  obtain ⟨p, hp⟩ : ∃ p, p = w.heap.size := ⟨_, rfl⟩
  have HP := Lib.hid hp
  rw [← hp] at HB
  clear hW hp h hv
  go_enter Try.func8, Try.ntmps8
  go_upto_region 1 with fail
  rw [HW.out, ← HP.out]
  go_wp2_with fail
  go_loopw [6, 7, 8] (fun a b i wr => ∃ k : Nat, k ≤ l.length ∧ i = .int .i64 k ∧ a = .int .i64 (sumW g (l.take k)) ∧ b = .int .i64 (sumF g (l.take k)) ∧ Hid (Only nob W wr)) (fun _ _ i _ => l.length - (intOf i).toNat)
  case atStart => exact ⟨0, Nat.zero_le _, rfl, by rw [(sum0 g l).1], by rw [(sum0 g l).2], Lib.hid (Only.refl _ _)⟩
  case round =>
    obtain ⟨k, hk, rfl, rfl, rfl, HO⟩ := hrel
    have c0 := HO.out.keeps HB.out.2.2.1
    by_cases hlt : k < l.length
    · obtain ⟨i, hi⟩ : ∃ x, l[k]? = some x := ⟨_, List.getElem?_eq_getElem hlt⟩
      obtain ⟨b1, o1, rfl, -, e0⟩ := sl_int HV.out ((HB.out.1.trans HO.out).below hB fun _ h => h.elim) hi
      have HI := Lib.hid hi
      have HW1 := Lib.hid (sumW_next (g := g) hi)
      have HF1 := Lib.hid (sumF_next (g := g) hi)
      obtain ⟨sw, hsw⟩ : ∃ s, s = sumW g (l.take k) := ⟨_, rfl⟩
      obtain ⟨sf, hsf⟩ : ∃ s, s = sumF g (l.take k) := ⟨_, rfl⟩
      rw [← hsw] at HW1 ⊢
      rw [← hsf] at HF1 ⊢
      have HWID := Lib.hid (show wrap64 sw = sw by rw [hsw]; unfold sumW; rw [wrap_wrap16])
      have HFID := Lib.hid (show wrap64 sf = sf by rw [hsf]; unfold sumF; rw [wrap_wrap16])
      clear hi hsw hsf
      by_cases h1 : 0 ≤ i
      · by_cases h2 : i < (g.nd.length : Int)
        · obtain ⟨n, rfl⟩ : ∃ n : Nat, i = n := ⟨i.toNat, by omega⟩
          have hn : n < g.nd.length := by omega
          obtain ⟨d, hd⟩ : ∃ x, g.nd[n]? = some x := ⟨_, List.getElem?_eq_getElem hn⟩
          obtain ⟨bb, o, fv, rv, rfl, hbb, -, g0, g1, g2, hnd⟩ := HR.out.at_ ((HB.out.1.trans HO.out).below hB fun _ h => h.elim) hd
          obtain ⟨Af, cf, hfv, hafc, hcfm⟩ := hnd.fields.form
          obtain ⟨Arw, crw, hrv, harw, hcrw⟩ := hnd.raws.form
          simp only at hfv hrv
          subst hfv hrv
          obtain ⟨q1, q2⟩ := nodeAt_in (g := g) (i := (n : Int)) (by omega) (d := d) (by simpa using hd)
          rw [q1] at HW1
          rw [q2] at HF1
          have HSZ := Lib.hid (fun (w' : World) (b : Only nob wr w') => rSize16 d (.slice Af d.fs.length cf, .slice Arw d.rs.length crw) B w' (hnd.below (b.below (Nat.le_trans hB (HB.out.1.trans HO.out).size) fun _ h => h.elim)))
          obtain ⟨kd, hkd⟩ : ∃ kd, kd = d.kd := ⟨_, rfl⟩
          rw [← hkd] at g0 HSZ
          clear q1 q2 hd hnd hkd
          go_upto_region 6 with fail
          go_quiet (fail)
          obtain ⟨W1, hW1⟩ : ∃ W1, W1 = wr.drewN nq := ⟨_, rfl⟩
          rw [← hW1]
          have O1 := Lib.hid (show Only nob wr W1 by rw [hW1]; exact (Only.refl nob wr).drewN nq)
          have x0 := wat_cell (O1.out.keeps c0)
          have y0 := wat_cell (O1.out.keeps e0)
          have z0 := wat_cell (O1.out.keeps g0)
          have z1 := wat_cell (O1.out.keeps g1)
          have z2 := wat_cell (O1.out.keeps g2)
          obtain ⟨sz, hsz⟩ : ∃ z, z = ndSz d := ⟨_, rfl⟩
          have HSS := Lib.hid (show wrap64 (sw + sz) = wrap64 (sw + ndRaw d) by rw [hsz]; unfold ndSz; rw [wrap_add16'])
          rw [← hsz] at HSZ
          have KC := Lib.hid (And.intro (O1.out.keeps c0) (And.intro (O1.out.keeps e0) (And.intro (O1.out.keeps g0) (And.intro (O1.out.keeps g1) (O1.out.keeps g2)))))
          clear hW1 c0 e0 g0 g1 g2 hsz
          go_upto_region 7 with fail
          refine wp_region_only mixed16 (by kernel_rfl) ?_
          repeat (with_reducible refine wpQuiet_step ?_; intro K' hK'; go_simp; first | (with_reducible refine hK' _ ?_; clear hK' K') | (apply Exists.intro; with_reducible refine ⟨fun _ => ?_, hK' _ ?_⟩; (go_at_call 10; with_reducible refine wat_call (HSZ.out _ (O1.out.trans (only_wat _ _ _)))); clear hK' K'))
          refine wpQuiet_nil ?_
          rintro w' ⟨⟨nq2, osq2⟩, rfl⟩
          obtain ⟨W7, hW7, O7⟩ := wat_name W1 nq2 osq2
          rw [hW7]
          obtain ⟨k0, k1, k2, k3, k4⟩ := KC.out
          have m0 := O7.out.keeps k0
          have m1 := O7.out.keeps k1
          have m2 := O7.out.keeps k2
          have m3 := O7.out.keeps k3
          have m4 := O7.out.keeps k4
          clear hW7 x0 y0 z0 z1 z2 k0 k1 k2 k3 k4
          go_upto_region 8 with fail
          go_quiet (fail)
          have O8 := Lib.hid (HO.out.trans (O1.out.trans O7.out))
          go_wp2
          go_roundw
          case rel => exact ⟨k + 1, by omega, by go_num, by rw [HW1.out, ← HSS.out, IntKind.wrap_i64]; unfold wrap64; first | done | rfl | (congr 1; omega), by rw [HF1.out]; first | done | rfl | (rw [IntKind.wrap_i64]; unfold wrap64; first | done | rfl | (congr 1; omega)), Lib.hid (O8.out.drewN _)⟩
          case measure => simp [intOf]; omega
        · obtain ⟨q1, q2⟩ := nodeAt_out (g := g) (i := i) (fun h => h2 h.2)
          rw [q1, Int.add_zero, HWID.out] at HW1
          rw [q2, Int.add_zero, HFID.out] at HF1
          clear q1 q2
          go_upto_region 6 with fail
          go_quiet (fail)
          have O8 := Lib.hid (HO.out.drewN 1)
          go_wp2
          go_roundw
          case rel => exact ⟨k + 1, by omega, by go_num, by rw [HW1.out], by rw [HF1.out], Lib.hid (HO.out.drewN _)⟩
          case measure => simp [intOf]; omega
      · obtain ⟨q1, q2⟩ := nodeAt_out (g := g) (i := i) (fun h => h1 h.1)
        rw [q1, Int.add_zero, HWID.out] at HW1
        rw [q2, Int.add_zero, HFID.out] at HF1
        clear q1 q2
        go_upto_region 6 with fail
        go_quiet (fail)
        go_wp2
        go_roundw
        case rel => exact ⟨k + 1, by omega, by go_num, by rw [HW1.out], by rw [HF1.out], Lib.hid (HO.out.drewN _)⟩
        case measure => simp [intOf]; omega
    · obtain rfl : k = l.length := by omega
      have HE := Lib.hid (show l.take l.length = l from List.take_length)
      go_wp2
      go_ret2
      exact ⟨by rw [HE.out]; rfl, HB.out.1.trans HO.out⟩
end Go.Proofs.Ytdlaigghejahdaa
