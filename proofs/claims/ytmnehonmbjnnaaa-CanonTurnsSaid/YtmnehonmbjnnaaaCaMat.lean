/- Package canon: Match, by Alike and two Breadths. -/
import Derived.Test.YtmnehonmbjnnaaaCaProg
import Derived.Test.YtmnehonmbjnnaaaCaRep
namespace Go.Proofs.Ytmnehonmbjnnaaa
open Go.RowKit Go.Lib
set_option maxRecDepth 100000
set_option linter.unusedSimpArgs false
set_option linter.unusedVariables false

/-- The partners behind k pairs. -/
def parL (n : Nat) (F T : List Int) (k : Nat) : List Int := (List.range n).map fun i : Nat => if (i : Int) ∈ F.take k then T.getD (plc F (i : Int)).toNat (-1) else -1
theorem parL_len {n k : Nat} {F T : List Int} : (parL n F T k).length = n := by simp [parL]
theorem parL_zero {n : Nat} {F T : List Int} : parL n F T 0 = List.replicate n (-1) := by
  unfold parL
  apply List.ext_getElem?
  intro i
  rw [List.getElem?_map, List.getElem?_replicate]
  by_cases h : i < n
  · rw [List.getElem?_range h, if_pos h]; rfl
  · rw [List.getElem?_eq_none (by simpa using h), if_neg h]; rfl
theorem parL_end {a b : Gr} : parL a.nd.length (flatL a 0) (flatL b 0) (flatL a 0).length = toL a b := by
  unfold parL toL
  rw [List.take_length]
theorem parL_step {n k : Nat} {F T : List Int} (hF : F.Nodup) (hlen : F.length = T.length) {m : Nat} {y : Int} (h1 : F[k]? = some (m : Int)) (h2 : T[k]? = some y) (hm : m < n) : (parL n F T k).set m y = parL n F T (k + 1) := by
  have hk := (List.getElem?_eq_some_iff.1 h1).1
  have hp : plc F (m : Int) = k := plc_nodup hF h1
  unfold parL
  apply List.ext_getElem?
  intro i
  rw [List.getElem?_set, List.length_map, List.length_range, List.getElem?_map, List.getElem?_map]
  by_cases e : m = i
  · subst e
    rw [if_pos rfl, if_pos hm, List.getElem?_range hm]
    have hmem : (m : Int) ∈ F.take (k + 1) := List.mem_of_getElem? (i := k) (by rw [List.getElem?_take_of_lt (Nat.lt_succ_self k)]; exact h1)
    show some y = some (if (m : Int) ∈ F.take (k + 1) then _ else _)
    rw [if_pos hmem, hp, show ((k : Int)).toNat = k from rfl, List.getD_eq_getElem?_getD, h2]
    rfl
  · rw [if_neg e]
    by_cases hi : i < n
    · rw [List.getElem?_range hi]
      show some (if (i : Int) ∈ F.take k then _ else _) = some (if (i : Int) ∈ F.take (k + 1) then _ else _)
      have hiff : (i : Int) ∈ F.take k ↔ (i : Int) ∈ F.take (k + 1) := by
        rw [List.take_add_one, h1, List.mem_append]
        constructor
        · exact .inl
        · rintro (h | h)
          · exact h
          · have : (i : Int) = m := by simpa using h
            omega
      by_cases hmem : (i : Int) ∈ F.take k
      · rw [if_pos hmem, if_pos (hiff.1 hmem)]
      · rw [if_neg hmem, if_neg (fun h => hmem (hiff.2 h))]
    · rw [List.getElem?_eq_none (by simpa using hi)]
      rfl
theorem box_one18 (w : World) (x : Value) : ∃ X, w.alloc (.cells #[x] 3) = X ∧ Hid (Only nob w X ∧ Blk X w.heap.size 3 #[x]) := ⟨_, rfl, Lib.hid ⟨(Only.refl nob w).alloc _, Blk.new w _ _⟩⟩
set_option maxHeartbeats 8000000 in
theorem match_any18 : MatGC 8 := by
  intro a b an ar bn br hs js B W hra hrb hB hfa hfb hna hta hnb htb
  obtain ⟨A, ca, rfl, hac, hcm⟩ := hra.nodes.form
  obtain ⟨A', cb, rfl, hbc, hcm'⟩ := hrb.nodes.form
  obtain ⟨Ar, cra, rfl, hrac, hrcm⟩ := hra.roots.form
  obtain ⟨Br, crb, rfl, hrbc, hrcm'⟩ := hrb.roots.form
  obtain ⟨V, hV, HVB⟩ := boxes18 W (.slice A a.nd.length ca) (.slice Ar a.rt.length cra) (.slice A' b.nd.length cb) (.slice Br b.rt.length crb)
  have HVE := Lib.hid hV
  have HA := Lib.hid (alike_any18 a b _ _ _ _ hs js B V (hra.only HVB.out.1 hB) (hrb.only HVB.out.1 hB) (Nat.le_trans hB HVB.out.1.size) hfa hfb hna hta hnb htb)
  have HF1 := Lib.hid (fun (W' : World) (o : Only nob W W') => breadth17 a _ _ hs B W' (hra.only o hB) (Nat.le_trans hB o.size) hfa ⟨by omega, by omega⟩)
  have HF2 := Lib.hid (fun (W' : World) (o : Only nob W W') => breadth17 b _ _ js B W' (hrb.only o hB) (Nat.le_trans hB o.size) hfb ⟨by omega, by omega⟩)
  have HC := Lib.hid (show ∀ W' : World, Only nob V W' → W'.cell? ⟨W.heap.size, 0, none⟩ = some (.slice A a.nd.length ca) ∧ W'.cell? ⟨W.heap.size, 1, none⟩ = some (.slice Ar a.rt.length cra) ∧ W'.cell? ⟨W.heap.size + 1, 0, none⟩ = some (.slice A' b.nd.length cb) ∧ W'.cell? ⟨W.heap.size + 1, 1, none⟩ = some (.slice Br b.rt.length crb) from fun W' o => ⟨(HVB.out.2.1.keep o id).cell 0, (HVB.out.2.1.keep o id).cell 1, (HVB.out.2.2.keep o id).cell 0, (HVB.out.2.2.keep o id).cell 1⟩)
  have HNA := Lib.hid (show a.nd.length ≤ 1000000 by omega)
  have HNA60 := Lib.hid hna
  have HAL := Lib.hid (alike_iff (a := a) (b := b))
  have HML := Lib.hid (show matchL a b = if alikeB a b = true then toL a b else [] from rfl)
  have HOV := Lib.hid HVB.out.1
  obtain ⟨q, hq⟩ : ∃ q, q = alikeB a b := ⟨_, rfl⟩
  rw [← hq] at HA HAL HML ⊢
  obtain ⟨M, hM⟩ : ∃ M, M = matchL a b := ⟨_, rfl⟩
  rw [← hM] at HML ⊢
  obtain ⟨c0, c1, e0, e1⟩ := HC.out V (Only.refl nob V)
  clear hV hra hrb hB hfa hfb hna hta hnb htb hq hM
  go_enter Try.func8, Try.ntmps8
  go_upto_region 1 with fail
  rw [HVE.out]
  go_wp2_with fail
  go_at_call 13
  refine HA.out.mono ?_
  rintro e w1 ⟨rfl, o1⟩
  have O1 := Lib.hid o1
  clear o1 c0 c1 e0 e1
  cases q with
  | false =>
    have HM0 := Lib.hid (show M = [] by rw [HML.out]; rfl)
    have OW := Lib.hid (HOV.out.trans O1.out)
    go_wp2
    go_ret2
    exact ⟨.slice none 0 0, rfl, by rw [HM0.out]; exact OwR.nil_, OW.out⟩
  | true =>
    have HM1 := Lib.hid (show M = toL a b by rw [HML.out]; rfl)
    have HOK := Lib.hid (HAL.out.1 rfl)
    have HLEN := Lib.hid (canon_iso HOK.out.1 HOK.out.2.1 HOK.out.2.2).1
    have HORD := Lib.hid (ordOk_iff.1 (flat_rng HOK.out.1))
    have HEND := Lib.hid (parL_end (a := a) (b := b))
    rw [← HM1.out] at HEND
    have HZ := Lib.hid (parL_zero (n := a.nd.length) (F := flatL a 0) (T := flatL b 0))
    have HMLEN := Lib.hid (show M.length = a.nd.length by rw [← HEND.out]; exact parL_len)
    have HF60 := Lib.hid (flat_n60 a)
    obtain ⟨F, hF⟩ : ∃ F, F = flatL a 0 := ⟨_, rfl⟩
    obtain ⟨T, hT⟩ : ∃ T, T = flatL b 0 := ⟨_, rfl⟩
    obtain ⟨E1, hE1⟩ : ∃ z, z = flatE a := ⟨_, rfl⟩
    obtain ⟨E2, hE2⟩ : ∃ z, z = flatE b := ⟨_, rfl⟩
    rw [← hE1, ← hF] at HF1
    rw [← hE2, ← hT] at HF2
    rw [← hF, ← hT] at HLEN HZ
    rw [← hF, ← hT] at HEND
    rw [← hF] at HORD HF60
    clear hF hT hE1 hE2
    obtain ⟨c0, c1, e0, e1⟩ := HC.out w1 O1.out
    go_wp2_with fail
    go_at_call 19
    refine (HF1.out w1 (HOV.out.trans O1.out)).mono ?_
    rintro e w2 ⟨v1, rfl, h1, o⟩
    have R1 := Lib.hid h1
    obtain ⟨A1, k1, rfl, -, -⟩ := h1.form
    have O2 := Lib.hid (O1.out.trans o)
    clear h1 o c0 c1 e0 e1
    obtain ⟨c0, c1, e0, e1⟩ := HC.out w2 O2.out
    go_wp2_with fail
    go_at_call 19
    refine (HF2.out w2 (HOV.out.trans O2.out)).mono ?_
    rintro e w3 ⟨v2, rfl, h2, o⟩
    have R2 := Lib.hid h2.sl
    have R1 := Lib.hid (R1.out.only o fun _ _ h => h)
    obtain ⟨A2, k2, rfl, -, -⟩ := h2.form
    have O3 := Lib.hid (O2.out.trans o)
    clear h2 o c0 c1 e0 e1
    obtain ⟨X, hX, HBX⟩ := box_one18 w3 (.int .i64 (-1))
    have HX := Lib.hid hX
    have OX := Lib.hid (O3.out.trans HBX.out.1)
    have HRP := Lib.hid (repeat18 (-1) w3.heap.size a.nd.length HNA.out X HBX.out.2)
    obtain ⟨c0, c1, e0, e1⟩ := HC.out X OX.out
    have S1 := Lib.hid (R1.out.only HBX.out.1 fun _ _ h => h).sl
    have S2 := Lib.hid (R2.out.below (HBX.out.1.below (Nat.le_refl _) fun _ h => h.elim))
    obtain ⟨p, hp⟩ : ∃ p, p = X.heap.size := ⟨_, rfl⟩
    rw [← hp] at HRP
    have HP := Lib.hid hp
    clear hX e0 e1 hp
    go_upto_region 5 with fail
    go_wp2_with (with_reducible rw [HX.out])
    go_at_call 20
    refine HRP.out.mono ?_
    rintro e w4 ⟨rfl, hrow, o4⟩
    have HROW := Lib.hid (show w4.ownsRow p 3 1 (.slice (some ⟨p, 0, none⟩) a.nd.length a.nd.length) a.nd.length (i64s (parL a.nd.length F T 0)) by rw [HZ.out]; exact hrow)
    have O4 := Lib.hid o4
    clear hrow o4 c0 c1
    go_wp2_with fail
    go_loopw [11, 12, 34] (fun _ _ vi wr => ∃ k : Nat, k ≤ F.length ∧ vi = .int .i64 k ∧ Hid (wr.ownsRow p 3 1 (.slice (some ⟨p, 0, none⟩) a.nd.length a.nd.length) a.nd.length (i64s (parL a.nd.length F T k))) ∧ Hid (Only nob X wr)) (fun _ _ vi _ => F.length - (RowKit.intOf vi).toNat)
    case atStart => exact ⟨0, Nat.zero_le _, rfl, HROW, O4⟩
    case round =>
      obtain ⟨k, hk, rfl, HR, HO⟩ := hrel
      have hF60 : F.length ≤ 60 := Nat.le_trans HF60.out HNA60.out
      by_cases hlt : k < F.length
      · obtain ⟨z, hz⟩ : ∃ z, F[k]? = some z := ⟨_, List.getElem?_eq_getElem hlt⟩
        have hkT : k < T.length := by rw [← HLEN.out]; exact hlt
        obtain ⟨y, hy⟩ : ∃ y, T[k]? = some y := ⟨_, List.getElem?_eq_getElem hkT⟩
        have hzr := HORD.out.1 z (List.mem_of_getElem? hz)
        obtain ⟨m, rfl⟩ : ∃ m : Nat, z = (m : Int) := ⟨z.toNat, by omega⟩
        have hm : m < a.nd.length := by omega
        obtain ⟨bF, oF, rfl, -, f0⟩ := sl_int S1.out (HO.out.below (Nat.le_refl _) fun _ h => h.elim) hz
        obtain ⟨bT, oT, rfl, -, t0⟩ := sl_int S2.out (HO.out.below HBX.out.1.size fun _ h => h.elim) hy
        have HST := Lib.hid (parL_step HORD.out.2 HLEN.out hz hy hm)
        obtain ⟨u, hu⟩ : ∃ u, (parL a.nd.length F T k)[m]? = some u := ⟨_, List.getElem?_eq_getElem (by rw [parL_len]; exact hm)⟩
        have g0 : wr.cell? ⟨p, m, none⟩ = some (.int .i64 u) := (HR.out.cellAt m (by omega)).trans (i64s_at hu)
        obtain ⟨cs, hblk⟩ := own_blk16 HR.out (k := p) rfl
        have fz0 := hblk.free m
        have hset := own_set16 HR.out m (by omega) (.int .i64 y)
        rw [i64s_set16, HST.out] at hset
        have HSET := Lib.hid hset
        have ONX := Lib.hid (HO.out.setCell (p := ⟨p, m, none⟩) (fun h => absurd h (by rw [HP.out]; exact Nat.lt_irrefl _)) (.int .i64 y))
        clear hset hblk hu hy hz hzr HEND
        go_wp2
        go_roundw
        case rel => exact ⟨k + 1, by omega, by go_num, HSET, ONX⟩
        case measure => simp [RowKit.intOf]; omega
      · obtain rfl : k = F.length := by omega
        have HF9 := Lib.hid (show OwR wr W.heap.size 3 (.slice (some ⟨p, 0, none⟩) a.nd.length a.nd.length) M.length (i64s M) by
          rw [HMLEN.out, ← HEND.out]
          exact (OwR.of_own HR.out).more (by rw [HP.out]; exact (HOV.out.trans OX.out).size))
        have O9 := Lib.hid ((HOV.out.trans OX.out).trans HO.out)
        go_wp2
        go_ret2
        exact ⟨_, rfl, HF9.out, O9.out⟩
end Go.Proofs.Ytmnehonmbjnnaaa
