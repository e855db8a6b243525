/- Package graph: two graphs held against one another. -/
import Derived.Test.YtdlaigghejahdaaGrEqs
import Derived.Test.YtdlaigghejahdaaGrRight
namespace Go.Proofs.Ytdlaigghejahdaa
open Go.RowKit Go.Lib
set_option maxRecDepth 100000
set_option linter.unusedSimpArgs false
set_option linter.unusedVariables false

/-- The same node? -/
def sameN (a b : Nd) : Bool := decide (a.kd = b.kd) && (decide (a.fs = b.fs) && decide (a.rs = b.rs))
theorem sameN_iff {a b : Nd} : sameN a b = true ↔ a = b := by
  unfold sameN
  simp only [Bool.and_eq_true, decide_eq_true_eq]
  constructor
  · intro h
    cases a; cases b
    simp only at h
    obtain ⟨rfl, rfl, rfl⟩ := h
    rfl
  · rintro rfl
    exact ⟨rfl, rfl, rfl⟩
theorem sameN_cases (a b : Nd) : (a.kd ≠ b.kd ∧ sameN a b = false) ∨ (a.kd = b.kd ∧ decide (a.fs = b.fs) = false ∧ sameN a b = false) ∨ (a.kd = b.kd ∧ decide (a.fs = b.fs) = true ∧ sameN a b = decide (a.rs = b.rs)) := by
  unfold sameN
  by_cases h1 : a.kd = b.kd
  · cases h2 : decide (a.fs = b.fs) with
    | true => exact .inr (.inr ⟨h1, rfl, by simp [h1]⟩)
    | false => exact .inr (.inl ⟨h1, rfl, by simp⟩)
  · exact .inl ⟨h1, by simp [h1]⟩
theorem boxes_nodes (w : World) (k k' : Int) (fv rv fv' rv' : Value) : ∃ V, ((w.alloc (.cells #[.int .i64 k, fv, rv] 34)).alloc (.cells #[.int .i64 k', fv', rv'] 34)) = V ∧ Hid (Only nob w V ∧
    V.cell? ⟨w.heap.size, 0, none⟩ = some (.int .i64 k) ∧ V.cell? ⟨w.heap.size, 1, none⟩ = some fv ∧ V.cell? ⟨w.heap.size, 2, none⟩ = some rv ∧ V.cell? ⟨w.heap.size + 1, 0, none⟩ = some (.int .i64 k') ∧ V.cell? ⟨w.heap.size + 1, 1, none⟩ = some fv' ∧ V.cell? ⟨w.heap.size + 1, 2, none⟩ = some rv') := by
  have h1 := (Blk.new w 34 #[.int .i64 k, fv, rv]).alloc (.cells #[.int .i64 k', fv', rv'] 34)
  have h2 := Blk.newAt (w.alloc (.cells #[.int .i64 k, fv, rv] 34)) 34 #[.int .i64 k', fv', rv'] (w.heap.size + 1) (by simp)
  exact ⟨_, rfl, Lib.hid ⟨((Only.refl nob w).alloc _).alloc _, h1.cell 0, h1.cell 1, h1.cell 2, h2.cell 0, h2.cell 1, h2.cell 2⟩⟩
set_option maxHeartbeats 2000000 in
theorem sameNode_any (a b : Nd) (h k : Value × Value) (B B' : Nat) (w : World) (ha : NdR w B a h) (hb : NdR w B' b k) (hB : B ≤ w.heap.size) (hB' : B' ≤ w.heap.size) :
    Calls Try.prog 39 #[.agg #[.int .i64 a.kd, h.1, h.2], .agg #[.int .i64 b.kd, k.1, k.2]] w fun e w' => e = .returned (.bool (sameN a b)) ∧ Only nob w w' := by
  obtain ⟨fv, rv⟩ := h
  obtain ⟨fv', rv'⟩ := k
  have HF := Lib.hid (fun (w' : World) (o : Only nob w w') => equal_vals16 fv fv' a.fs b.fs B B' w' (ha.fields.below (o.below hB fun _ h => h.elim)) (hb.fields.below (o.below hB' fun _ h => h.elim)))
  have HR := Lib.hid (fun (w' : World) (o : Only nob w w') => equal_words16 rv rv' a.rs b.rs B B' w' (ha.raws.below (o.below hB fun _ h => h.elim)) (hb.raws.below (o.below hB' fun _ h => h.elim)))
  obtain ⟨Af, cf, hfv, -⟩ := ha.fields.form
  obtain ⟨Ar, cr, hrv, -⟩ := ha.raws.form
  obtain ⟨Af', cf', hfv', -⟩ := hb.fields.form
  obtain ⟨Ar', cr', hrv', -⟩ := hb.raws.form
  simp only at hfv hrv hfv' hrv'
  subst hfv hrv hfv' hrv'
  obtain ⟨V, hV, HV⟩ := boxes_nodes w a.kd b.kd (.slice Af a.fs.length cf) (.slice Ar a.rs.length cr) (.slice Af' b.fs.length cf') (.slice Ar' b.rs.length cr')
  have HVE := Lib.hid hV
  have hcs := sameN_cases a b
  obtain ⟨q, hq⟩ : ∃ q, q = sameN a b := ⟨_, rfl⟩
  obtain ⟨x, hx⟩ : ∃ x, x = a.kd := ⟨_, rfl⟩
  obtain ⟨y, hy⟩ : ∃ y, y = b.kd := ⟨_, rfl⟩
  rw [← hq, ← hx, ← hy] at hcs
  rw [← hx, ← hy] at HVE HV
  rw [← hq]
  simp only
  rw [← hx, ← hy]
  obtain ⟨oV, v0, v1, v2, u0, u1, u2⟩ := HV.out
  clear hV hq hx hy ha hb oV
  rcases hcs with ⟨h1, rfl⟩ | ⟨rfl, h2, rfl⟩ | ⟨rfl, h2, h3⟩
  · have hbq : (x == y) = false := by simpa using h1
    clear h1
    go_enter Try.func39, Try.ntmps39
    go_upto_region 1 with fail
    rw [HVE.out]
    go_wp2
    go_ret
    exact ⟨rfl, HV.out.1⟩
  · rw [h2] at HF
    clear h2
    go_enter Try.func39, Try.ntmps39
    go_upto_region 1 with fail
    rw [HVE.out]
    go_wp2_with fail
    go_at_call 40
    refine (HF.out V HV.out.1).mono ?_
    rintro e w1 ⟨rfl, o1⟩
    have O1 := Lib.hid (HV.out.1.trans o1)
    clear o1 v0 v1 v2 u0 u1 u2
    go_wp2
    go_ret
    exact ⟨rfl, O1.out⟩
  · rw [h2] at HF
    rw [← h3] at HR
    clear h2 h3
    go_enter Try.func39, Try.ntmps39
    go_upto_region 1 with fail
    rw [HVE.out]
    go_wp2_with fail
    go_at_call 40
    refine (HF.out V HV.out.1).mono ?_
    rintro e w1 ⟨rfl, o1⟩
    have O1 := Lib.hid (HV.out.1.trans o1)
    have v2' := o1.keeps v2
    have u2' := o1.keeps u2
    clear o1 v0 v1 v2 u0 u1 u2
    go_wp2_with fail
    go_at_call 48
    refine (HR.out w1 O1.out).mono ?_
    rintro e w2 ⟨rfl, o2⟩
    have O2 := Lib.hid (O1.out.trans o2)
    clear o2 v2' u2'
    go_wp2
    go_ret
    exact ⟨rfl, O2.out⟩
theorem len_ne16 {α : Type} {l m : List α} (h : l.length ≠ m.length) : ¬ l = m := fun e => h (by rw [e])
noncomputable instance (a b : List Nd) : Decidable (a = b) := Classical.propDecidable _
set_option maxHeartbeats 4000000 in
theorem equalFunc16 (g k : Gr) (vn vr un ur : Value) (hs js : List (Value × Value)) (B B' : Nat) (w : World) (hg : RdG w B g vn vr hs) (hk : RdG w B' k un ur js) (hB : B ≤ w.heap.size) (hB' : B' ≤ w.heap.size) :
    Calls Try.prog 38 #[vn, un, .func (.func 39) #[] #[]] w fun e w' => e = .returned (.bool (decide (g.nd = k.nd))) ∧ Only nob w w' := by
  have HG := Lib.hid hg
  have HK := Lib.hid hk
  obtain ⟨A, c, rfl, hac, hcm⟩ := hg.nodes.form
  obtain ⟨A', c', rfl, hac', hcm'⟩ := hk.nodes.form
  unfold maxLen at hcm hcm'
  have eg : ∀ args w, (callFunc 39 args).run Try.prog w = .ok (.enter 39 args) w := enters_of Try.func39 (by kernel_rfl) rfl
  clear hg hk
  by_cases hlen : g.nd.length = k.nd.length
  · have HL := Lib.hid hlen
    obtain ⟨n, hn⟩ : ∃ n, n = g.nd.length := ⟨_, rfl⟩
    have hn2 := hn.trans hlen
    have HN1 := Lib.hid hn
    have HN2 := Lib.hid hn2
    rw [← hn] at HG hac ⊢
    rw [← hn2] at HK hac' ⊢
    clear hlen hn hn2
    go_enter Try.func38, Try.ntmps38
    go_wp2
    go_loopw [7, 8, 9, 17] (fun _ _ _ i wr => ∃ m : Nat, m ≤ n ∧ i = .int .i64 m ∧ Hid (∀ (j : Nat) x, j < m → g.nd[j]? = some x → k.nd[j]? = some x) ∧ Hid (Only nob w wr)) (fun _ _ _ i _ => n - (intOf i).toNat)
    case atStart => exact ⟨0, Nat.zero_le _, rfl, fun j _ hj _ => absurd hj (Nat.not_lt_zero j), Lib.hid (Only.refl _ _)⟩
    case round =>
      obtain ⟨m, hm, rfl, hno, HO⟩ := hrel
      by_cases hlt : m < n
      · obtain ⟨x, hx⟩ : ∃ x, g.nd[m]? = some x := ⟨_, List.getElem?_eq_getElem (by rw [← HN1.out]; exact hlt)⟩
        obtain ⟨y, hy⟩ : ∃ y, k.nd[m]? = some y := ⟨_, List.getElem?_eq_getElem (by rw [← HN2.out]; exact hlt)⟩
        have RG := HG.out
        have RK := HK.out
        rw [HN1.out] at RG
        rw [HN2.out] at RK
        obtain ⟨b1, o1, fv, rv, rfl, -, -, g0, g1, g2, hnd1⟩ := RG.at_ (HO.out.below hB fun _ h => h.elim) hx
        obtain ⟨b2, o2, fv', rv', rfl, -, -, k0, k1, k2, hnd2⟩ := RK.at_ (HO.out.below hB' fun _ h => h.elim) hy
        have HX := Lib.hid hx
        have HY := Lib.hid hy
        obtain ⟨Af, cf, hfv, -⟩ := hnd1.fields.form
        obtain ⟨Ar, cr, hrv, -⟩ := hnd1.raws.form
        obtain ⟨Af', cf', hfv', -⟩ := hnd2.fields.form
        obtain ⟨Ar', cr', hrv', -⟩ := hnd2.raws.form
        simp only at hfv hrv hfv' hrv'
        subst hfv hrv hfv' hrv'
        have HC := Lib.hid (fun (w' : World) (o : Only nob wr w') => sameNode_any x y _ _ B B' w' (hnd1.below (o.below (Nat.le_trans hB HO.out.size) fun _ h => h.elim)) (hnd2.below (o.below (Nat.le_trans hB' HO.out.size) fun _ h => h.elim)) (Nat.le_trans hB (Nat.le_trans HO.out.size o.size)) (Nat.le_trans hB' (Nat.le_trans HO.out.size o.size)))
        obtain ⟨kx, hkx⟩ : ∃ z, z = x.kd := ⟨_, rfl⟩
        obtain ⟨ky, hky⟩ : ∃ z, z = y.kd := ⟨_, rfl⟩
        rw [← hkx] at g0 HC
        rw [← hky] at k0 HC
        obtain ⟨W2, hW2, HB2⟩ := box_node wr kx (.slice Af x.fs.length cf) (.slice Ar x.rs.length cr)
        have HW2 := Lib.hid hW2
        obtain ⟨-, -, d0, d1, d2⟩ := HB2.out
        have k0' := HB2.out.1.keeps k0
        have k1' := HB2.out.1.keeps k1
        have k2' := HB2.out.1.keeps k2
        obtain ⟨W3, hW3, HB3⟩ := box_node W2 ky (.slice Af' y.fs.length cf') (.slice Ar' y.rs.length cr')
        have HW3 := Lib.hid hW3
        obtain ⟨-, -, e0, e1, e2⟩ := HB3.out
        have d0' := HB3.out.1.keeps d0
        have d1' := HB3.out.1.keeps d1
        have d2' := HB3.out.1.keeps d2
        have O3 := Lib.hid (HB2.out.1.trans HB3.out.1)
        clear hx hy hnd1 hnd2 hkx hky hW2 hW3 RG RK k0 k1 k2
        cases hs : sameN x y with
        | true =>
          rw [hs] at HC
          have HS := Lib.hid (sameN_iff.1 hs)
          clear hs
          go_upto_region 6 with fail
          rw [HW2.out]
          clear d0 d1 d2 g0 g1 g2
          go_upto_region 7 with fail
          rw [HW3.out]
          clear k0' k1' k2'
          go_wp2_with fail
          refine (HC.out W3 O3.out).mono ?_
          rintro e w4 ⟨rfl, o4⟩
          have O4 := Lib.hid (HO.out.trans (O3.out.trans o4))
          clear o4 d0' d1' d2' e0 e1 e2
          go_wp2
          go_roundw
          case rel =>
            refine ⟨m + 1, by omega, by go_num, fun j z hj hz => ?_, O4⟩
            rcases Nat.lt_or_ge j m with h' | h'
            · exact hno.out j z h' hz
            · obtain rfl : j = m := by omega
              rw [HX.out] at hz
              rw [HY.out, ← HS.out]; exact hz
          case measure => simp [intOf]; omega
        | false =>
          rw [hs] at HC
          have HS := Lib.hid (decide_eq_false (ne_at16 HX.out HY.out fun e => by rw [sameN_iff.2 e] at hs; cases hs))
          clear hs
          go_upto_region 6 with fail
          rw [HW2.out]
          clear d0 d1 d2 g0 g1 g2
          go_upto_region 7 with fail
          rw [HW3.out]
          clear k0' k1' k2'
          go_wp2_with fail
          refine (HC.out W3 O3.out).mono ?_
          rintro e w4 ⟨rfl, o4⟩
          have O4 := Lib.hid (HO.out.trans (O3.out.trans o4))
          clear o4 d0' d1' d2' e0 e1 e2
          go_wp2
          go_ret
          exact ⟨ret_bool (by rw [HS.out]), O4.out⟩
      · obtain rfl : m = n := by omega
        have HS := Lib.hid (decide_eq_true (eq_all16 HL.out fun j x hj => hno.out j x (by rw [HN1.out]; exact hj)))
        go_wp2
        go_ret
        exact ⟨ret_bool (by rw [HS.out]), HO.out⟩
  · have HS := Lib.hid (decide_eq_false (len_ne16 hlen))
    have hn1 : ¬ ((g.nd.length : Int) = (k.nd.length : Int)) := by omega
    go_enter Try.func38, Try.ntmps38
    go_wp2
    go_ret
    exact ⟨ret_bool (by rw [HS.out]), Only.refl _ _⟩
theorem sameG_iff {a b : Gr} : sameG a b = true ↔ a.nd = b.nd ∧ a.rt = b.rt := by
  unfold sameG
  rw [decide_eq_true_eq]
  cases a; cases b
  simp
theorem sameG_no {a b : Gr} (h : decide (a.nd = b.nd) = false) : sameG a b = false := by
  cases e : sameG a b with
  | false => rfl
  | true => exact absurd (sameG_iff.1 e).1 (of_decide_eq_false h)
theorem sameG_yes {a b : Gr} (h : decide (a.nd = b.nd) = true) : sameG a b = decide (a.rt = b.rt) := by
  have h := of_decide_eq_true h
  cases e : sameG a b with
  | true => exact (decide_eq_true (sameG_iff.1 e).2).symm
  | false => exact (decide_eq_false fun h' => by rw [sameG_iff.2 ⟨h, h'⟩] at e; cases e).symm
set_option maxHeartbeats 2000000 in
theorem same_any16 : SameGC 21 := by
  intro g k vn vr un ur hs js B B' w hg hk hB hB' hf hf'
  have HE := Lib.hid (fun (w' : World) (o : Only nob w w') => equalFunc16 g k vn vr un ur hs js B B' w' (hg.only o hB) (hk.only o hB') (Nat.le_trans hB o.size) (Nat.le_trans hB' o.size))
  have HR := Lib.hid (fun (w' : World) (o : Only nob w w') => equal_vals16 vr ur g.rt k.rt B B' w' (hg.roots.below (o.below hB fun _ h => h.elim)) (hk.roots.below (o.below hB' fun _ h => h.elim)))
  obtain ⟨A, c, rfl, -⟩ := hg.nodes.form
  obtain ⟨Ar, cr, rfl, -⟩ := hg.roots.form
  obtain ⟨A', c', rfl, -⟩ := hk.nodes.form
  obtain ⟨Ar', cr', rfl, -⟩ := hk.roots.form
  obtain ⟨V, hV, oV, gV, kV⟩ : ∃ V, ((w.alloc (.cells #[.slice A g.nd.length c, .slice Ar g.rt.length cr] 25)).alloc (.cells #[.slice A' k.nd.length c', .slice Ar' k.rt.length cr'] 25)) = V ∧ Only nob w V ∧ Blk V w.heap.size 25 #[.slice A g.nd.length c, .slice Ar g.rt.length cr] ∧ Blk V (w.heap.size + 1) 25 #[.slice A' k.nd.length c', .slice Ar' k.rt.length cr'] :=
    ⟨_, rfl, ((Only.refl nob w).alloc _).alloc _, (Blk.new w _ _).alloc _, Blk.newAt _ _ _ _ (by simp)⟩
  have HV := Lib.hid hV
  have v0 : V.cell? ⟨w.heap.size, 0, none⟩ = some (.slice A g.nd.length c) := gV.cell 0
  have v1 : V.cell? ⟨w.heap.size, 1, none⟩ = some (.slice Ar g.rt.length cr) := gV.cell 1
  have u0 : V.cell? ⟨w.heap.size + 1, 0, none⟩ = some (.slice A' k.nd.length c') := kV.cell 0
  have u1 : V.cell? ⟨w.heap.size + 1, 1, none⟩ = some (.slice Ar' k.rt.length cr') := kV.cell 1
  have OV := Lib.hid oV
  obtain ⟨q, hq⟩ : ∃ q, q = sameG g k := ⟨_, rfl⟩
  have HQ := Lib.hid hq
  rw [← hq]
  clear hV oV gV kV hq hg hk hf hf'
  go_enter Try.func21, Try.ntmps21
  go_upto_region 1 with fail
  rw [HV.out]
  go_wp2_with fail
  go_at_call 38
  refine (HE.out V OV.out).mono ?_
  cases he : decide (g.nd = k.nd) with
  | false =>
    have HN := Lib.hid (show q = false from HQ.out.trans (sameG_no he))
    clear he
    rintro e w1 ⟨rfl, o1⟩
    have O1 := Lib.hid (OV.out.trans o1)
    clear o1 v0 v1 u0 u1
    go_wp2
    go_ret
    exact ⟨ret_bool (by rw [HN.out]), O1.out⟩
  | true =>
    have HN := Lib.hid (show q = decide (g.rt = k.rt) from HQ.out.trans (sameG_yes he))
    rw [← HN.out] at HR
    clear he
    rintro e w1 ⟨rfl, o1⟩
    have O1 := Lib.hid (OV.out.trans o1)
    have v1' := o1.keeps v1
    have u1' := o1.keeps u1
    clear o1 v0 v1 u0 u1
    go_wp2_with fail
    go_at_call 40
    refine (HR.out w1 O1.out).mono ?_
    rintro e w2 ⟨rfl, o2⟩
    have O2 := Lib.hid (O1.out.trans o2)
    clear o2 v1' u1'
    go_wp2
    go_ret
    exact ⟨rfl, O2.out⟩
end Go.Proofs.Ytdlaigghejahdaa
