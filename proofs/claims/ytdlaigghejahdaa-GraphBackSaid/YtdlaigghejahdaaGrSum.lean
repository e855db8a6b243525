/- Package graph: where a node leads; how many words and fields some nodes have. -/
import Derived.Test.YtdlaigghejahdaaGrTell
namespace Go.Proofs.Ytdlaigghejahdaa
open Go.RowKit Go.Lib
set_option maxRecDepth 100000
set_option linter.unusedSimpArgs false
set_option linter.unusedVariables false

set_option maxHeartbeats 4000000 in
/-- The loop of Leads over the fields of the node in its box. -/
theorem leads_any16 (g : Gr) (i : Int) (vn vr : Value) (hs : List (Value × Value)) (B : Nat) (w : World) (h : RdG w B g vn vr hs) (hB : B ≤ w.heap.size) (hl : ∀ d ∈ g.nd, d.fs.length ≤ 8796093022208) :
    Calls Try.prog 14 #[.agg #[vn, vr], .int .i64 i] w fun e w' => ∃ v', e = .returned v' ∧ w'.ownsRow w.heap.size 3 1 v' (leadsG g i).length (i64s (leadsG g i)) ∧ Only nob w w' := by
  obtain ⟨j0, hj0, hy0, hy1, hy2⟩ := info_parts info_int
  obtain ⟨A, c, rfl, hac, hcm⟩ := h.nodes.form
  obtain ⟨Ar, cr, rfl, harc, hcrm⟩ := h.roots.form
  obtain ⟨W, hW, HB⟩ := box_graph w (.slice A g.nd.length c) (.slice Ar g.rt.length cr)
  have HW := Lib.hid hW
  have c0 := HB.out.2.2.1
  have c1 := HB.out.2.2.2
  -- the node that is looked at: its fields as a row of values
  obtain ⟨l, kd, Af, cf, rv, b, hLG, hA, hll, HC, hrvf⟩ : ∃ (l : List Sp) (kd : Int) (Af : Option Addr) (cf : Nat) (rv : Value) (b : Bool), leadsG g i = refsOf l ∧ Sl w B 2 (.slice Af l.length cf) l.length (spc l) ∧ l.length ≤ 8796093022208 ∧
      Hid (Calls Try.prog 29 #[.agg #[.slice A g.nd.length c, .slice Ar g.rt.length cr], .int .i64 i] W fun e w' => e = .returned (.tuple #[.agg #[.int .i64 kd, .slice Af l.length cf, rv], .bool b]) ∧ Only nob W w') ∧ ∃ Ar2 nr cr2, rv = .slice Ar2 nr cr2 := by
    by_cases hi : 0 ≤ i ∧ i < (g.nd.length : Int)
    · obtain ⟨n, rfl⟩ : ∃ n : Nat, i = n := ⟨i.toNat, by omega⟩
      have hn : n < g.nd.length := by omega
      obtain ⟨d, hd⟩ : ∃ x, g.nd[n]? = some x := ⟨_, List.getElem?_eq_getElem hn⟩
      obtain ⟨hh, hhh⟩ : ∃ x, hs[n]? = some x := ⟨_, List.getElem?_eq_getElem (by rw [h.len]; exact hn)⟩
      have hnd := h.each n d hh hd hhh
      obtain ⟨fv, rv⟩ := hh
      obtain ⟨Af, cf, hfv, -⟩ := hnd.fields.form
      obtain ⟨Ar2, cr2, hrv, -⟩ := hnd.raws.form
      simp only at hfv hrv
      subst hfv hrv
      exact ⟨d.fs, d.kd, Af, cf, _, true, leads_in hd, hnd.fields, hl d (List.mem_of_getElem? hd), Lib.hid (nodeAt_yes g n d _ _ hs _ B W (h.only HB.out.1 hB) (Nat.le_trans hB HB.out.1.size) hd hhh), _, _, _, rfl⟩
    · exact ⟨[], 0, none, 0, .slice none 0 0, false, leads_out hi, Sl.nil_, by simp, Lib.hid (nodeAt_no g i _ _ hs B W (h.only HB.out.1 hB) hi), _, _, _, rfl⟩
  obtain ⟨Ar2, nr, cr2, rfl⟩ := hrvf
  have HA := Lib.hid hA
  have HLG := Lib.hid hLG
  obtain ⟨L, hL⟩ : ∃ L, L = leadsG g i := ⟨_, rfl⟩
  rw [← hL] at HLG ⊢
  clear hW h hl hA hLG hL
  go_enter Try.func14, Try.ntmps14
  go_upto_region 1 with fail
  rw [HW.out]
  go_wp2_with fail
  go_at_call 29
  refine HC.out.mono ?_
  rintro e w1 ⟨rfl, o1⟩
  obtain ⟨W2, hW2, HB2⟩ := box_node w1 kd (.slice Af l.length cf) (.slice Ar2 nr cr2)
  have HW2 := Lib.hid hW2
  have O2 := Lib.hid ((HB.out.1.trans o1).trans HB2.out.1)
  obtain ⟨-, -, d0, d1, d2⟩ := HB2.out
  clear hW2 o1 c0 c1
  go_upto_region 3 with fail
  rw [HW2.out]
  go_wp2_with fail
  clear d0 d1 d2
  go_loopw [5, 9, 19] (fun out _ k wr => ∃ n : Nat, n ≤ l.length ∧ k = .int .i64 n ∧ Hid (wr.ownsRow w.heap.size 3 1 out (refsOf (l.take n)).length (i64s (refsOf (l.take n)))) ∧ Hid (Only nob w wr)) (fun _ _ k _ => l.length - (intOf k).toNat)
  case atStart => exact ⟨0, Nat.zero_le _, rfl, Lib.hid (World.ownsRow_nil _ _ _ _), O2⟩
  case round =>
    obtain ⟨k, hk, rfl, HRW, HO⟩ := hrel
    obtain ⟨Ar3, cr3, rfl, hcr, hmr⟩ := own_len HRW.out
    unfold maxLen at hmr
    by_cases hlt : k < l.length
    · obtain ⟨⟨x, y⟩, hy⟩ : ∃ x, l[k]? = some x := ⟨_, List.getElem?_eq_getElem hlt⟩
      obtain ⟨b1, o1, rfl, -, c0, c1⟩ := sl_span HA.out (HO.out.below hB fun _ h => h.elim) hy
      have HSN := Lib.hid (refs_next hy)
      have hkl : (refsOf (l.take k)).length ≤ k := by have := refs_le (l.take k); rw [List.length_take] at this; omega
      obtain ⟨P, hP⟩ : ∃ P, P = refsOf (l.take k) := ⟨_, rfl⟩
      rw [← hP] at HRW HSN hcr hkl ⊢
      obtain ⟨n, hn⟩ : ∃ n, n = P.length := ⟨_, rfl⟩
      have HN := Lib.hid hn
      rw [← hn] at HRW hcr hkl ⊢
      have hww : w.heap.size ≤ wr.heap.size := HO.out.size
      simp only at c0 c1
      obtain ⟨W4, hW4, HB4⟩ := box_val16 wr x y
      have HW4 := Lib.hid hW4
      have O4 := Lib.hid (HO.out.trans HB4.out.1)
      have R4 := Lib.hid (own_only HRW.out HB4.out.1 fun _ _ h => h)
      have d0 : W4.cell? ⟨wr.heap.size, 0, none⟩ = some (.int .i64 x) := HB4.out.2.cell 0
      have d1 : W4.cell? ⟨wr.heap.size, 1, none⟩ = some (.int .i64 y) := HB4.out.2.cell 1
      have h4 : wr.heap.size ≤ W4.heap.size := HB4.out.1.size
      clear hP hn hW4
      go_upto_region 6 with fail
      rw [HW4.out]
      clear c0 c1
      by_cases hx2 : x = 2
      · subst hx2
        rw [if_pos rfl] at HSN
        go_wp2_with (with_reducible refine wpList_append_sl (o := ⟨some 30, _, _, _, _, _⟩) _ rfl (.tmp 26) (.tmp 29) _ rfl w.heap.size 3 j0 _ 1 8 Try.underlying26 hj0 hy0 hy1 hy2 rfl (by decide) (.slice Ar3 n cr3) n (i64s P) rfl ?c1 (W4.heap.size + 1) (.slice (some ⟨W4.heap.size, 0, none⟩) 1 1) 1 (i64s [y]) rfl ?c6 (i64s_one _) ?c2 ?c3 ?c4 ?c5)
        case c1 => exact own_only R4.out ((Only.refl nob W4).alloc _) (fun _ _ h => h)
        case c6 => exact one_int16 W4 _
        case c2 => unfold maxLen; omega
        case c3 => omega
        case c4 => simp; omega
        case c5 =>
          intro v6 w6 H6 o6 _
          have HR6 := Lib.hid (show w6.ownsRow w.heap.size 3 1 v6 (refsOf (l.take (k + 1))).length (i64s (refsOf (l.take (k + 1)))) by
            rw [HSN.out, List.length_append, i64s_append, ← HN.out]
            exact H6.out)
          have h1 := own_only R4.out ((Only.refl nob W4).alloc (.cells #[.int .i64 y] 3)) (fun _ _ h => h)
          have O6 := Lib.hid (own_nob (O4.out.alloc (.cells #[.int .i64 y] 3)) h1 o6 (Nat.le_refl _))
          clear H6 o6 h1 d0 d1
          go_wp2
          go_roundw
          case rel => exact ⟨k + 1, by omega, by go_num, HR6, O6⟩
          case measure => simp [intOf]; omega
      · have hbq : (x == 2) = false := by simpa using hx2
        rw [if_neg hx2, List.append_nil] at HSN
        clear hx2
        go_wp2
        go_roundw
        case rel => exact ⟨k + 1, by omega, by go_num, by rw [HSN.out, ← HN.out]; exact R4, O4⟩
        case measure => simp [intOf]; omega
    · obtain rfl : k = l.length := by omega
      have HE := Lib.hid (show L = refsOf (l.take l.length) by rw [HLG.out, List.take_length])
      go_wp2
      go_ret
      exact ⟨_, rfl, by rw [HE.out]; exact HRW.out, HO.out⟩

/-- What a count tells of the node at a place, 0 where there is none. -/
def atR (raw : Nd → Int) (g : Gr) (i : Int) : Int := match nodeAt g i with | some d => raw d | none => 0
def sumR (raw : Nd → Int) (g : Gr) (l : List Int) : Int := wrap64 (l.map (atR raw g)).sum
theorem sumR_next {raw : Nd → Int} {g : Gr} {l : List Int} {k : Nat} {x : Int} (h : l[k]? = some x) : sumR raw g (l.take (k + 1)) = wrap64 (sumR raw g (l.take k) + atR raw g x) := by
  unfold sumR
  rw [List.take_add_one, h, wrap_add16]
  simp [List.sum_append]
theorem sumR_zero (raw : Nd → Int) (g : Gr) (l : List Int) : sumR raw g (l.take 0) = 0 := by
  unfold sumR wrap64
  simp
theorem atR_in {raw : Nd → Int} {g : Gr} {n : Nat} {d : Nd} (hd : g.nd[n]? = some d) : atR raw g (n : Int) = raw d := by
  unfold atR nodeAt
  rw [if_pos (by omega), Int.toNat_natCast, hd]
theorem atR_out {raw : Nd → Int} {g : Gr} {i : Int} (h : ¬ (0 ≤ i ∧ i < (g.nd.length : Int))) : atR raw g i = 0 := by
  unfold atR nodeAt
  by_cases h0 : 0 ≤ i
  · rw [if_pos h0, List.getElem?_eq_none (by omega)]
  · rw [if_neg h0]
set_option maxHeartbeats 4000000 in
theorem sum_any16 (cf : FuncId) (raw : Nd → Int) (eg : ∀ args w, (callFunc cf args).run Try.prog w = .ok (.enter cf args) w)
    (hc : ∀ (d : Nd) (h : Value × Value) (B : Nat) (w : World), NdR w B d h → Calls Try.prog cf #[.agg #[.int .i64 d.kd, h.1, h.2]] w fun e w' => e = .returned (.int .i64 (wrap64 (raw d))) ∧ Only nob w w')
    (g : Gr) (l : List Int) (vn vr v : Value) (hs : List (Value × Value)) (B : Nat) (w : World) (h : RdG w B g vn vr hs) (hv : Sl w B 1 v l.length (i64s l)) (hB : B ≤ w.heap.size) :
    Calls Try.prog 30 #[.agg #[vn, vr], v, .func (.func cf) #[] #[]] w fun e w' => e = .returned (.int .i64 (sumR raw g l)) ∧ Only nob w w' := by
  have HR := Lib.hid h
  have HV := Lib.hid hv
  have HCF := Lib.hid hc
  obtain ⟨A, c, rfl, hac, hcm⟩ := h.nodes.form
  obtain ⟨Ar, cr, rfl, harc, hcrm⟩ := h.roots.form
  obtain ⟨Al, cl, rfl, hal, hcl⟩ := hv.form
  unfold maxLen at hcm hcl
  obtain ⟨W, hW, HB⟩ := box_graph w (.slice A g.nd.length c) (.slice Ar g.rt.length cr)
  have HW := Lib.hid hW
  obtain ⟨p, hp⟩ : ∃ p, p = w.heap.size := ⟨_, rfl⟩
  have HP := Lib.hid hp
  rw [← hp] at HB
  clear hW hp h hv hc
  go_enter Try.func30, Try.ntmps30
  go_upto_region 1 with fail
  rw [HW.out, ← HP.out]
  go_wp2_with fail
  go_loopw [7, 9, 10, 11, 14] (fun a _ _ _ i wr => ∃ k : Nat, k ≤ l.length ∧ i = .int .i64 k ∧ a = .int .i64 (sumR raw g (l.take k)) ∧ Hid (Only nob W wr)) (fun _ _ _ _ i _ => l.length - (intOf i).toNat)
  case atStart => exact ⟨0, Nat.zero_le _, rfl, by rw [sumR_zero], Lib.hid (Only.refl _ _)⟩
  case round =>
    obtain ⟨k, hk, rfl, rfl, HO⟩ := hrel
    have c0 := HO.out.keeps HB.out.2.2.1
    have c1 := HO.out.keeps HB.out.2.2.2
    by_cases hlt : k < l.length
    · obtain ⟨i, hi⟩ : ∃ x, l[k]? = some x := ⟨_, List.getElem?_eq_getElem hlt⟩
      obtain ⟨b1, o1, rfl, -, e0⟩ := sl_int HV.out ((HB.out.1.trans HO.out).below hB fun _ h => h.elim) hi
      have HS1 := Lib.hid (sumR_next (raw := raw) (g := g) hi)
      obtain ⟨sw, hsw⟩ : ∃ s, s = sumR raw g (l.take k) := ⟨_, rfl⟩
      rw [← hsw] at HS1 ⊢
      have HWID := Lib.hid (show wrap64 sw = sw by rw [hsw]; unfold sumR; rw [wrap_wrap16])
      have RG := Lib.hid (HR.out.only (HB.out.1.trans HO.out) hB)
      have hBr : B ≤ wr.heap.size := Nat.le_trans hB (HB.out.1.trans HO.out).size
      clear hi hsw
      by_cases hin : 0 ≤ i ∧ i < (g.nd.length : Int)
      · obtain ⟨n, rfl⟩ : ∃ n : Nat, i = n := ⟨i.toNat, by omega⟩
        have hn : n < g.nd.length := by omega
        obtain ⟨d, hd⟩ : ∃ x, g.nd[n]? = some x := ⟨_, List.getElem?_eq_getElem hn⟩
        obtain ⟨hh, hhh⟩ : ∃ x, hs[n]? = some x := ⟨_, List.getElem?_eq_getElem (by rw [RG.out.len]; exact hn)⟩
        have hnd := RG.out.each n d hh hd hhh
        have HNA := Lib.hid (nodeAt_yes g n d _ _ hs hh B wr RG.out hBr hd hhh)
        rw [atR_in hd] at HS1
        obtain ⟨fv, rv⟩ := hh
        obtain ⟨Af, cf2, hfv, -⟩ := hnd.fields.form
        obtain ⟨Ar2, cr2, hrv, -⟩ := hnd.raws.form
        simp only at hfv hrv
        subst hfv hrv
        have HND := Lib.hid hnd
        have HC := Lib.hid (fun (w' : World) (b : Only nob wr w') => HCF.out d _ B w' (HND.out.below (b.below hBr fun _ h => h.elim)))
        obtain ⟨kd, hkd⟩ : ∃ kd, kd = d.kd := ⟨_, rfl⟩
        rw [← hkd] at HNA HC
        obtain ⟨rd, hrd⟩ : ∃ rd, rd = raw d := ⟨_, rfl⟩
        rw [← hrd] at HC HS1
        have HSS := Lib.hid (show wrap64 (sw + wrap64 rd) = wrap64 (sw + rd) from wrap_add16' _ _)
        obtain ⟨sr, hsr⟩ : ∃ sr, sr = wrap64 rd := ⟨_, rfl⟩
        rw [← hsr] at HC HSS
        clear hd hhh hnd hkd hrd hsr hin
        go_wp2_with fail
        go_at_call 29
        refine HNA.out.mono ?_
        rintro e w1 ⟨rfl, o1⟩
        obtain ⟨W2, hW2, HB2⟩ := box_node w1 kd (.slice Af d.fs.length cf2) (.slice Ar2 d.rs.length cr2)
        have HW2 := Lib.hid hW2
        have O2 := Lib.hid (o1.trans HB2.out.1)
        obtain ⟨-, -, d0, d1, d2⟩ := HB2.out
        clear hW2 o1 c0 c1 e0
        go_upto_region 6 with fail
        rw [HW2.out]
        go_wp2_with fail
        refine (HC.out W2 O2.out).mono ?_
        rintro e w3 ⟨rfl, o3⟩
        have O3 := Lib.hid (HO.out.trans (O2.out.trans o3))
        clear o3 d0 d1 d2
        go_wp2
        go_roundw
        case rel => exact ⟨k + 1, by omega, by go_num, by rw [HS1.out, ← HSS.out], O3⟩
        case measure => simp [intOf]; omega
      · have HNA := Lib.hid (nodeAt_no g i _ _ hs B wr RG.out hin)
        rw [atR_out hin, Int.add_zero, HWID.out] at HS1
        clear hin
        go_wp2_with fail
        go_at_call 29
        refine HNA.out.mono ?_
        rintro e w1 ⟨rfl, o1⟩
        obtain ⟨W2, hW2, HB2⟩ := box_node w1 0 (.slice none 0 0) (.slice none 0 0)
        have HW2 := Lib.hid hW2
        have O2 := Lib.hid (HO.out.trans (o1.trans HB2.out.1))
        clear hW2 o1 c0 c1 e0
        go_upto_region 6 with fail
        rw [HW2.out]
        go_wp2
        go_roundw
        case rel => exact ⟨k + 1, by omega, by go_num, by rw [HS1.out], O2⟩
        case measure => simp [intOf]; omega
    · obtain rfl : k = l.length := by omega
      have HE := Lib.hid (show l.take l.length = l from List.take_length)
      go_wp2
      go_ret
      exact ⟨by rw [HE.out]; rfl, HB.out.1.trans HO.out⟩
theorem words_any16 : SumGC sumW 16 := by
  intro g l vn vr v hs B w h hv hB hfit hl
  have HR := Lib.hid h
  obtain ⟨A, c, rfl, hac, hcm⟩ := h.nodes.form
  obtain ⟨Ar, cr, rfl, harc, hcrm⟩ := h.roots.form
  obtain ⟨Al, cl, rfl, hal, hcl⟩ := hv.form
  obtain ⟨W, hW, HB⟩ := box_graph w (.slice A g.nd.length c) (.slice Ar g.rt.length cr)
  have HW := Lib.hid hW
  have c0 := HB.out.2.2.1
  have c1 := HB.out.2.2.2
  have HC := Lib.hid (sum_any16 9 ndRaw (enters_of Try.func9 (by kernel_rfl) rfl) (fun d h B w hr => size_any16 d h B w hr) g l _ _ _ hs B W (h.only HB.out.1 hB) (hv.below (HB.out.1.below hB fun _ h => h.elim)) (Nat.le_trans hB HB.out.1.size))
  have HE := Lib.hid (show sumR ndRaw g l = sumW g l from rfl)
  obtain ⟨q, hq⟩ : ∃ q, q = sumW g l := ⟨_, rfl⟩
  rw [HE.out, ← hq] at HC
  rw [← hq]
  clear hW h hv hq
  go_enter Try.func16, Try.ntmps16
  go_upto_region 1 with fail
  rw [HW.out]
  go_wp2_with fail
  go_at_call 30
  refine HC.out.mono ?_
  rintro e w1 ⟨rfl, o1⟩
  have O1 := Lib.hid (HB.out.1.trans o1)
  clear o1 c0 c1
  go_wp2
  go_ret
  exact ⟨rfl, O1.out⟩
theorem wrap_len16 (d : Nd) (h : d.fs.length ≤ 9223372036854775807) : wrap64 (d.fs.length : Int) = d.fs.length := by unfold wrap64; omega
theorem fields_any16 : SumGC sumF 17 := by
  intro g l vn vr v hs B w h hv hB hfit hl
  have HR := Lib.hid h
  obtain ⟨A, c, rfl, hac, hcm⟩ := h.nodes.form
  obtain ⟨Ar, cr, rfl, harc, hcrm⟩ := h.roots.form
  obtain ⟨Al, cl, rfl, hal, hcl⟩ := hv.form
  obtain ⟨W, hW, HB⟩ := box_graph w (.slice A g.nd.length c) (.slice Ar g.rt.length cr)
  have HW := Lib.hid hW
  have c0 := HB.out.2.2.1
  have c1 := HB.out.2.2.2
  have HC := Lib.hid (sum_any16 31 (fun d => (d.fs.length : Int)) (enters_of Try.func31 (by kernel_rfl) rfl) (fun d h B w hr => (fields1_any16 d h B w hr).mono (by
    rintro e w' ⟨rfl, o⟩
    obtain ⟨_, _, _, hle, hle2, _⟩ := id hr.fields
    unfold maxLen at hle2
    exact ⟨by rw [wrap_len16 d (by omega)], o⟩)) g l _ _ _ hs B W (h.only HB.out.1 hB) (hv.below (HB.out.1.below hB fun _ h => h.elim)) (Nat.le_trans hB HB.out.1.size))
  have HE := Lib.hid (show sumR (fun d => (d.fs.length : Int)) g l = sumF g l from rfl)
  obtain ⟨q, hq⟩ : ∃ q, q = sumF g l := ⟨_, rfl⟩
  rw [HE.out, ← hq] at HC
  rw [← hq]
  clear hW h hv hq
  go_enter Try.func17, Try.ntmps17
  go_upto_region 1 with fail
  rw [HW.out]
  go_wp2_with fail
  go_at_call 30
  refine HC.out.mono ?_
  rintro e w1 ⟨rfl, o1⟩
  have O1 := Lib.hid (HB.out.1.trans o1)
  clear o1 c0 c1
  go_wp2
  go_ret
  exact ⟨rfl, O1.out⟩
end Go.Proofs.Ytdlaigghejahdaa
