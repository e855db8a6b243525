/- The walk of RootsOnce, out of the contracts of package roots. -/
import Derived.Test.YtcfiimedmhohaaaRootMath
namespace Go.Proofs.Ytcfiimedmhohaaa
open Go.RowKit
set_option maxRecDepth 100000

theorem Told.more {l : List Slt} {ts : List Tld} {G G' : Int} (h : Told l ts G) (h1 : G ≤ G') (h2 : G' < 1099511627776) : Told l ts G' := ⟨h.few, h2, fun s hs => by have := h.gen s hs; omega, h.all, h.apart⟩
theorem dropSL_len (l : List Slt) (h : Int) : (dropSL l h).length = l.length := by unfold dropSL; split <;> simp
theorem putSL_len (l : List Slt) (x : Nat) : (putSL l x).length = l.length := by unfold putSL; split <;> simp
theorem put_used {l : List Slt} {ts : List Tld} {G : Int} (h : Told l ts G) : (∃ (k : Nat) (s : Slt), l[k]? = some s ∧ s.1 = false ∧ fstI isFree l = k ∧ usedS l < l.length) ∨ (fstI isFree l = l.length ∧ ¬ usedS l < l.length) := by
  rcases free_cases l with ⟨k, s, h1, h2, h3, h4, h5⟩ | h1
  · exact .inl ⟨k, s, h1, h2, h4, usedS_lt_iff.2 ⟨s, List.mem_of_getElem? h1, h2⟩⟩
  · refine .inr ⟨h1, fun hu => ?_⟩
    obtain ⟨s, hs, e⟩ := usedS_lt_iff.1 hu
    obtain ⟨j, hj⟩ := List.getElem?_of_mem hs
    obtain ⟨g1, g2⟩ := h.good hj
    have := fstI_lt_iff.2 ⟨j, s, hj, isFree_yes g1 e g2⟩
    omega
/-- What is asked of package roots for RootsOnce. -/
structure RootsF : Prop where
  base : RootsC
  putF : PutF 7
  dropF : DropF 13
/-- What holds between two deeds; n0: how many slots. -/
structure Inv14 (w : World) (B n0 : Nat) (k : Nat) (L : List Slt) (ts : List Tld) (vL vT vA : Value) (wr : World) : Prop where
  few : ts.length ≤ k
  told : Told L ts (549755813888 + k)
  ok : SlOk L
  right : AllR L
  len : L.length = n0
  on : On14 w B L ts vL vT vA wr
section
variable {w wr wz : World} {B n0 k : Nat} {L : List Slt} {ts : List Tld} {vL vT vA : Value}
theorem Inv14.old (h : Inv14 w B n0 k L ts vL vT vA wr) (o : Only nob wr wz) : Inv14 w B n0 k L ts vL vT vA wz := ⟨h.few, h.told, h.ok, h.right, h.len, h.on.old o⟩
theorem Inv14.skip (h : Inv14 w B n0 k L ts vL vT vA wr) (hk : k ≤ 40) : Inv14 w B n0 (k + 1) L ts vL vT vA wr := ⟨by have := h.few; omega, h.told.more (by omega) (by omega), h.ok, h.right, h.len, h.on⟩
end
theorem own_cell14 {w : World} {base n k : Nat} {E : TypeId} {v : Value} {xs : List Value} {u : Value} (h : w.ownsRow base E 1 v n xs) (hk : k < n) (hu : xs[k]? = some u) : ∃ g c, v = .slice (some ⟨g, 0, none⟩) n c ∧ w.cell? ⟨g, k, none⟩ = some u ∧ w.frozen? ⟨g, k, none⟩ = false := by
  rcases h.2 with ⟨_, h0⟩ | ⟨g, cap, cur, h1, h2, h3, h4, h5, h6, h7⟩
  · exact absurd hk (by omega)
  · have hB : Blk w g E cur := h3
    refine ⟨g, cap, h1, ?_, hB.free k⟩
    rw [hB.cell, ← Array.getElem?_toList]
    rw [← h7, List.getElem?_take] at hu
    split at hu
    · exact hu
    · cases hu
section
variable {w wr wz : World} {B n0 k : Nat} {L : List Slt} {ts : List Tld} {vL vT vA : Value}
theorem Inv14.told_at {AT : Option Addr} {cT j : Nat} {t : Tld} (h : Inv14 w B n0 k L ts vL (.slice AT ts.length cT) vA wr) (ht : ts[j]? = some t) : ∃ g, AT = some ⟨g, 0, none⟩ ∧ wr.cell? ⟨g, j, none⟩ = some (.int .i64 (tH t)) := by
  obtain ⟨g, c, e, hc, -⟩ := own_cell14 h.on.told (List.getElem?_eq_some_iff.1 ht).1 (i64s_at (show (toldL ts)[j]? = some (tH t) by simp [toldL, ht]))
  obtain ⟨rfl, rfl⟩ : AT = some ⟨g, 0, none⟩ ∧ cT = c := by simpa using e
  exact ⟨g, rfl, hc⟩
theorem Inv14.live_at {AA : Option Addr} {cA j : Nat} {t : Tld} (h : Inv14 w B n0 k L ts vL vT (.slice AA ts.length cA) wr) (ht : ts[j]? = some t) : ∃ g, AA = some ⟨g, 0, none⟩ ∧ wr.cell? ⟨g, j, none⟩ = some (.bool t.2.2) ∧ wr.frozen? ⟨g, j, none⟩ = false := by
  obtain ⟨g, c, e, hc⟩ := own_cell14 h.on.live (List.getElem?_eq_some_iff.1 ht).1 (bls_at (show (liveL ts)[j]? = some t.2.2 by simp [liveL, ht]))
  obtain ⟨rfl, rfl⟩ : AA = some ⟨g, 0, none⟩ ∧ cA = c := by simpa using e
  exact ⟨g, rfl, hc⟩
/-- A told handle is dropped, alive or not. -/
theorem Inv14.dropped {c g j : Nat} (h : Inv14 w B n0 k L ts vL vT vA wr) {t : Tld} (ht : ts[j]? = some t) (hk : k ≤ 40) {vL' : Value} (o : Only nob wr wz) (s2 : Sl wz wz.heap.size 3 vL' (dropSL L (tH t)).length (slc (dropSL L (tH t)))) (f : FoS wr vL vL') (e : vA = .slice (some ⟨g, 0, none⟩) ts.length c) :
    Inv14 w B n0 (k + 1) (dropSL L (tH t)) (ts.set j (t.1, t.2.1, false)) vL' vT vA (wz.setCell ⟨g, j, none⟩ (.bool false)) := by
  have hn := (h.on.next o s2 f (by rw [dropSL_len]; exact h.on.pos)).mark e ht
  have hm := List.mem_of_getElem? ht
  refine ⟨by rw [List.length_set]; have := h.few; omega, ?_, h.ok.drop _, ?_, by rw [dropSL_len]; exact h.len, hn⟩
  · rcases ha : t.2.2 with _ | _
    · rw [(not_found ((h.told.at_ hm).2 ha)).2.2.2.2]
      obtain ⟨hj, rfl⟩ := List.getElem?_eq_some_iff.1 ht
      rw [show (ts[j].1, ts[j].2.1, false) = ts[j] by rw [← ha], List.set_getElem_self]
      exact h.told.more (by omega) (by omega)
    · exact (h.told.drop (by omega) ht ha).more (by omega) (by omega)
  · rcases ha : t.2.2 with _ | _
    · rw [(not_found ((h.told.at_ hm).2 ha)).2.2.2.2]; exact h.right
    · obtain ⟨g0, s, hs, g1, -⟩ := h.told.all t hm
      rw [(found hs ((h.told.at_ hm).1 ha)).2.2.2.2]
      have := h.told.gen s (List.mem_of_getElem? hs)
      exact h.right.set _ (rslot_drop (by omega))
/-- A free slot is taken. -/
theorem Inv14.took (h : Inv14 w B n0 k L ts vL vT vA wr) (hk : k ≤ 40) {k0 : Nat} {s : Slt} (hx : L[k0]? = some s) (hu : s.1 = false) :
    (∀ t ∈ ts, tH t ≠ hOf k0 s) ∧ Told (L.set k0 (true, s.2.1, 4 * k + 1)) (ts ++ [(k0, s.2.1, true)]) (549755813888 + (k + 1 : Nat)) ∧ SlOk (L.set k0 (true, s.2.1, 4 * k + 1)) ∧ AllR (L.set k0 (true, s.2.1, 4 * k + 1)) ∧ getE (L.set k0 (true, s.2.1, 4 * k + 1)) (hOf k0 s) = 0 ∧ getW (L.set k0 (true, s.2.1, 4 * k + 1)) (hOf k0 s) = 4 * k + 1 := by
  have hlt := (List.getElem?_eq_some_iff.1 hx).1
  have hg := h.told.gen s (List.mem_of_getElem? hx)
  obtain ⟨h1, h2⟩ := h.told.put (by omega) hx hu (4 * k + 1)
  have h3 := h2.more (G' := 549755813888 + (k + 1 : Nat)) (by omega) (by omega)
  have hm : ((k0, s.2.1, true) : Tld) ∈ ts ++ [(k0, s.2.1, true)] := List.mem_append_right _ (List.mem_singleton.2 rfl)
  have hf := found (List.getElem?_set_self hlt) ((h3.at_ hm).1 rfl)
  refine ⟨h1, h3, h.ok.set _ ⟨by show _ ≤ s.2.1; omega, by show s.2.1 ≤ _; omega, by show 4 * k + 1 < full; unfold full; omega⟩, h.right.set _ (rslot_put (by omega) k), hf.2.1, hf.2.2.1⟩
end
set_option maxHeartbeats 16000000 in
theorem rootsOnce_small (C : RootsF) (v v2 : Value) (l : List Slt) (zs : List Int) (w : World) (hv : Sl w w.heap.size 3 v l.length (slc l)) (hok : SlOk l) (hz : Sl w w.heap.size 1 v2 zs.length (i64s zs)) (hl : l.length ≤ 60) (hzl : zs.length ≤ 40) :
    Calls Try.prog 5 #[v, v2] w fun e w' => e = .returned (.bool true) ∧ Below w.heap.size w w' := by
  obtain ⟨j0, hj0, hy0, hy1, hy2⟩ := info_parts info_int
  obtain ⟨i0, hi0, hz0, hz1, hz2⟩ := info_parts info_bool14
  have HA := Lib.hid hv
  have HO := Lib.hid hz
  have HOK := Lib.hid hok
  have HAW := Lib.hid (awake14_any C.base)
  have HRT := Lib.hid (C.base.right v l l.length _ w hv (Nat.le_refl _) (by omega) hok)
  obtain ⟨A, ca, rfl, hac, ham, -⟩ := hv
  obtain ⟨A', c', rfl, hac', ham', -⟩ := hz
  unfold maxLen at ham ham'
  clear hok
  go_enter Try.func5, Try.ntmps5
  go_wp2_with fail
  go_at_call 17
  refine HRT.out.mono ?_
  rcases hR : rightS dE l l.length with _ | _
  · rintro e w1 ⟨rfl, o⟩
    have O1 := Lib.hid o
    clear o hR
    go_wp2_with fail
    go_at_call 6
    refine (HAW.out _).mono ?_
    rintro e w2 ⟨rfl, o⟩
    have O2 := Lib.hid (O1.out.trans o)
    clear o
    go_wp2
    go_ret
    exact ⟨rfl, O2.out.whole⟩
  · rintro e w1 ⟨rfl, o⟩
    have O1 := Lib.hid o
    obtain ⟨hAR, -, hl1, -⟩ := allR_of hR
    have HAR := Lib.hid hAR
    have hl1' : 1 ≤ l.length := by omega
    clear o hR hAR hl1
    go_wp2_with fail
    go_loopw [5] (fun i wr => ∃ k : Nat, k ≤ l.length ∧ i = .int .i64 k ∧ Hid (∀ (j : Nat) y, j < k → l[j]? = some y → y.2.1 ≤ 549755813888) ∧ Hid (Only nob w wr)) (fun i _ => l.length - (intOf i).toNat)
    case atStart => exact ⟨0, Nat.zero_le _, rfl, Lib.hid (fun j _ hj _ => absurd hj (Nat.not_lt_zero j)), O1⟩
    case round =>
      clear O1
      obtain ⟨k, hk, rfl, HNO, HW⟩ := hrel
      by_cases hlt : k < l.length
      · obtain ⟨s, hx⟩ : ∃ s, l[k]? = some s := ⟨_, List.getElem?_eq_getElem hlt⟩
        obtain ⟨b, oo, rfl, hb, c0, c1, c2⟩ := sl_slot HA.out HW.out.whole hx
        have HX := Lib.hid hx
        obtain ⟨u, gn, x⟩ := s
        clear hx c0 c2
        by_cases hg : 549755813888 < gn
        · go_wp2_with fail
          go_at_call 6
          refine (HAW.out _).mono ?_
          rintro e w2 ⟨rfl, o⟩
          have O2 := Lib.hid (HW.out.trans o)
          clear o
          go_wp2
          go_ret
          exact ⟨rfl, O2.out.whole⟩
        · have HN2 := Lib.hid (show ∀ (j : Nat) y, j < k + 1 → l[j]? = some y → y.2.1 ≤ 549755813888 from fun j y hj hy => by
            rcases Nat.lt_or_ge j k with h' | h'
            · exact HNO.out j y h' hy
            · obtain rfl : j = k := by omega
              rw [HX.out] at hy
              obtain rfl := Option.some.inj hy
              show gn ≤ _
              omega)
          go_wp2
          go_roundw
          case rel => exact ⟨k + 1, by omega, by go_num, HN2, HW⟩
          case measure => simp [intOf]; omega
      · obtain rfl : k = l.length := by omega
        clear hlt hk
        obtain ⟨wo, rfl⟩ : ∃ wo : World, wo = wr := ⟨_, rfl⟩
        have HI := Lib.hid (show Inv14 w wo.heap.size l.length 0 l [] (.slice A l.length ca) (.slice none 0 0) (.slice none 0 0) wo from
          ⟨Nat.le_refl _, Told.nil (by omega) (by omega) (fun s hs => ⟨allR_gen HAR.out s hs, by
            obtain ⟨j, hj⟩ := List.getElem?_of_mem hs
            have := HNO.out j s (List.getElem?_eq_some_iff.1 hj).1 hj
            omega⟩), HOK.out, HAR.out, rfl,
            ⟨(HA.out.below HW.out.whole).more HW.out.size, World.ownsRow_nil _ _ _ _, World.ownsRow_nil _ _ _ _, fun b o n c e => ⟨fun h => (by cases h), fun h => (by cases h)⟩, fun k h => (by cases h), HW.out, HW.out.size, Nat.le_refl _, by omega⟩⟩)
        clear HNO HW
        go_wp2_with fail
        go_loopw [0, 6, 7, 8] (fun vL vT vA i wr => ∃ (k : Nat) (L : List Slt) (ts : List Tld), k ≤ zs.length ∧ i = .int .i64 k ∧ Hid (Inv14 w wo.heap.size l.length k L ts vL vT vA wr)) (fun _ _ _ i _ => zs.length - (intOf i).toNat)
        case atStart => exact ⟨0, l, [], Nat.zero_le _, rfl, HI⟩
        case round =>
          clear HI
          obtain ⟨k, L, ts, hk, rfl, H⟩ := hrel
          obtain ⟨AL, cL, rfl, hcL, hmL⟩ := H.out.on.tab.form
          obtain ⟨AT, cT, rfl, hcT, hmT⟩ := own_len H.out.on.told
          obtain ⟨AA, cA, rfl, hcA, hmA⟩ := own_len H.out.on.live
          have htk := H.out.few
          have hLl := H.out.len
          have hL60 : L.length ≤ 60 := by omega
          have hts : ts.length ≤ 40 := by omega
          have HLL := Lib.hid hLl
          unfold maxLen at hmL hmT hmA
          clear hLl
          by_cases hlt : k < zs.length
          · obtain ⟨z, hz'⟩ : ∃ z, zs[k]? = some z := ⟨_, List.getElem?_eq_getElem hlt⟩
            obtain ⟨q, oo, rfl, hq, d0⟩ := sl_int HO.out H.out.on.only.whole hz'
            have HZ := Lib.hid hz'
            clear hz'
            have hk40 : k ≤ 40 := by omega
            go_upto_if 59 with fail
            go_cut [0, 6, 7] (fun vL vT vA wx => ∃ (L : List Slt) (ts : List Tld), Hid (Inv14 w wo.heap.size l.length (k + 1) L ts vL vT vA wx))
            case first =>
              have hx4 : ((4 * k + 1 : Nat) : Int) = 4 * (k : Int) + 1 := by omega
              have HX4 := Lib.hid hx4
              have hxf : 4 * k + 1 < full := by unfold full; omega
              clear hx4
              by_cases hz0' : z < 0
              · have HPUT := Lib.hid (C.putF (.slice AL L.length cL) L (4 * k + 1) _ wr H.out.on.tab (Nat.le_refl _) (by omega) H.out.ok hxf)
                have HUS := Lib.hid (show ∀ w', Only nob wr w' → Calls Try.prog 18 #[.slice AL L.length cL] w' fun e w'' => e = .returned (.int .i64 (usedS L : Nat)) ∧ Only nob w' w'' from fun w' o => C.base.used _ L _ w' (H.out.on.tab.below o.whole) o.size (by omega))
                rw [HX4.out] at HPUT
                obtain ⟨us, hus⟩ : ∃ us, us = usedS L := ⟨_, rfl⟩
                have husl : us ≤ 60 := by rw [hus]; exact Nat.le_trans (usedS_le L) hL60
                rcases put_used H.out.told with ⟨k0, s, hx, hu, hk0, huse⟩ | ⟨hnone, huse⟩
                · obtain ⟨e1, e2, e3⟩ := put_found hx hk0
                  obtain ⟨hne, hT, hOK', hAR', hge, hgw⟩ := H.out.took hk40 hx hu
                  have hlen : (L.set k0 (true, s.2.1, 4 * k + 1)).length = L.length := List.length_set
                  rw [e1, e2, e3] at HPUT
                  have htH : tH (k0, s.2.1, true) = hOf k0 s := rfl
                  obtain ⟨hh, ehh⟩ : ∃ hh, hh = hOf k0 s := ⟨_, rfl⟩
                  obtain ⟨M, eM⟩ : ∃ M, M = L.set k0 (true, s.2.1, 4 * k + 1) := ⟨_, rfl⟩
                  obtain ⟨t, et⟩ : ∃ t : Tld, t = (k0, s.2.1, true) := ⟨_, rfl⟩
                  have htt : t.2.2 = true := by rw [et]
                  rw [← ehh] at HPUT hne hge hgw htH
                  rw [← eM] at HPUT hT hOK' hAR' hge hgw hlen
                  rw [← et] at hT htH
                  rw [← hus] at HUS huse
                  have HNE := Lib.hid hne
                  have HT := Lib.hid hT
                  have HOK' := Lib.hid hOK'
                  have HAR' := Lib.hid hAR'
                  have HGE := Lib.hid hge
                  have HGW := Lib.hid hgw
                  have HTH := Lib.hid htH
                  have HTT := Lib.hid htt
                  have hM1 : M.length ≤ 60 := by omega
                  have HML := Lib.hid hlen
                  clear hne hT hOK' hAR' hge hgw htH htt hlen e1 e2 e3 et eM ehh hx hu hk0 hus
                  go_wp2_with fail
                  go_at_call 7
                  refine HPUT.out.mono ?_
                  rintro e w2 ⟨v9, rfl, s2, o, f⟩
                  obtain ⟨A9, c9, rfl, hc9, hm9⟩ := s2.form
                  have S2 := Lib.hid s2
                  have O2 := Lib.hid o
                  have F2 := Lib.hid f
                  clear o s2 f d0
                  go_wp2_with fail
                  go_at_call 18
                  refine (HUS.out _ O2.out).mono ?_
                  rintro e w3 ⟨rfl, o⟩
                  have O3 := Lib.hid (O2.out.trans o)
                  have S3 := Lib.hid ((S2.out.below o.whole).more o.size)
                  clear o S2 O2
                  obtain ⟨wq, rfl⟩ : ∃ wq : World, wq = wr := ⟨_, rfl⟩
                  go_wp2_with fail
                  go_loopw [14] (fun i wr => ∃ j : Nat, j ≤ ts.length ∧ i = .int .i64 j ∧ Hid (Only nob w3 wr)) (fun i _ => ts.length - (intOf i).toNat)
                  case atStart => exact ⟨0, Nat.zero_le _, rfl, Lib.hid (Only.refl nob w3)⟩
                  case round =>
                    obtain ⟨j, hj, rfl, HW⟩ := hrel
                    have H4 := Lib.hid (H.out.old (O3.out.trans HW.out))
                    by_cases hltj : j < ts.length
                    · obtain ⟨t', ht⟩ : ∃ t, ts[j]? = some t := ⟨_, List.getElem?_eq_getElem hltj⟩
                      obtain ⟨gT, rfl, a0⟩ := H4.out.told_at ht
                      have hnt : ¬ tH t' = hh := HNE.out _ (List.mem_of_getElem? ht)
                      obtain ⟨th, eth⟩ : ∃ th, th = tH t' := ⟨_, rfl⟩
                      rw [← eth] at a0 hnt
                      clear eth ht
                      go_wp2
                      go_roundw
                      case rel => exact ⟨j + 1, by omega, by go_num, HW⟩
                      case measure => simp [intOf]; omega
                    · obtain rfl : j = ts.length := by omega
                      clear hltj
                      go_wp2_with (with_reducible refine wpList_append_sl (o := ⟨some 131, _, _, _, _, _⟩) _ rfl (.tmp 128) (.tmp 130) _ rfl wo.heap.size 3 j0 _ 1 8 Try.underlying39 hj0 hy0 hy1 hy2 rfl (by decide) (.slice AT ts.length cT) ts.length (i64s (toldL ts)) rfl ?c1 (wr.heap.size + 1) (.slice (some ⟨wr.heap.size, 0, none⟩) 1 1) 1 (i64s [hh]) rfl ?c6 (i64s_one _) ?c2 ?c3 ?c4 ?c5)
                      case c1 => exact own_only H4.out.on.told ((Only.refl nob wr).alloc _) (fun _ _ h => h)
                      case c6 => exact one_int14 wr _
                      case c2 => unfold maxLen; omega
                      case c3 => omega
                      case c4 => have := H4.out.on.base; simp; omega
                      case c5 =>
                        intro v6 w6 H6 o6 n6
                        have b6 := o6.size
                        have O6 := Lib.hid o6
                        have N6 := Lib.hid n6
                        have HB6 := Lib.hid (show wo.heap.size ≤ w6.heap.size by have := H4.out.on.base; simp at b6; omega)
                        have HL6 := Lib.hid (own_only (own_only H4.out.on.live ((Only.refl nob wr).alloc (.cells #[.int .i64 hh] 3)) (fun _ _ h => h)) o6 (fun k hk e => H4.out.on.ap2 k e hk))
                        clear o6 n6 b6
                        go_wp2_with (with_reducible refine wpList_append_sl (o := ⟨some 134, _, _, _, _, _⟩) _ rfl (.tmp 132) (.tmp 133) _ rfl wo.heap.size 4 i0 _ 1 1 Try.underlying43 hi0 hz0 hz1 hz2 rfl (by decide) (.slice AA ts.length cA) ts.length (bls (liveL ts)) rfl ?e1 (w6.heap.size + 1) (.slice (some ⟨w6.heap.size, 0, none⟩) 1 1) 1 (bls [true]) rfl ?e6 (bls_one _) ?e2 ?e3 ?e4 ?e5)
                        case e1 => exact own_only HL6.out ((Only.refl nob w6).alloc _) (fun _ _ h => h)
                        case e6 => exact one_bool w6 _
                        case e2 => unfold maxLen; omega
                        case e3 => omega
                        case e4 => have := HB6.out; simp; omega
                        case e5 =>
                          intro v7 w7 H7 o7 n7
                          have I7 := Lib.hid (show Inv14 w wo.heap.size l.length (k + 1) M (ts ++ [t]) (.slice A9 M.length c9) v6 v7 w7 from
                            ⟨by rw [List.length_append, List.length_singleton]; omega, HT.out, HOK'.out, HAR'.out, by rw [HML.out]; exact HLL.out,
                              (H.out.on.next (O3.out.trans HW.out) ((S3.out.below HW.out.whole).more HW.out.size) F2.out (by rw [HML.out]; exact H.out.on.pos)).tell rfl (by rw [HTH.out]; exact H6.out) O6.out N6.out rfl (by rw [HTT.out]; exact H7.out) o7 n7⟩)
                          have HG := Lib.hid (C.base.get (.slice A9 M.length c9) M hh _ w7 I7.out.on.tab (Nat.le_refl _) (by omega) HOK'.out)
                          rw [HGE.out, HGW.out, HX4.out] at HG
                          clear o7 n7 H7
                          go_wp2_with fail
                          go_at_call 9
                          refine HG.out.mono ?_
                          rintro e w8 ⟨rfl, o⟩
                          have I8 := Lib.hid (I7.out.old o)
                          clear o
                          go_wp2
                          go_meet
                          exact ⟨_, _, I8⟩
                · obtain ⟨e1, e2, e3⟩ := put_none hnone
                  rw [e1, e2] at HPUT
                  rw [← hus] at HUS huse
                  clear e1 e2 e3 hnone hus
                  go_wp2_with fail
                  go_at_call 7
                  refine HPUT.out.mono ?_
                  rintro e w2 ⟨v9, rfl, -, o, -⟩
                  have H2 := Lib.hid (H.out.old o)
                  have O2 := Lib.hid o
                  clear o d0
                  go_wp2_with fail
                  go_at_call 18
                  refine (HUS.out _ O2.out).mono ?_
                  rintro e w3 ⟨rfl, o⟩
                  have H3 := Lib.hid (H2.out.old o)
                  clear o
                  go_wp2
                  go_meet
                  exact ⟨L, ts, Lib.hid (H3.out.skip hk40)⟩
              · obtain ⟨j, rfl⟩ := Int.eq_ofNat_of_zero_le (by omega : 0 ≤ z)
                by_cases hj : j < ts.length
                · obtain ⟨t, ht⟩ : ∃ t, ts[j]? = some t := ⟨_, List.getElem?_eq_getElem hj⟩
                  obtain ⟨gT, rfl, a0⟩ := H.out.told_at ht
                  have HD := Lib.hid (C.dropF (.slice AL L.length cL) L (tH t) _ wr H.out.on.tab (Nat.le_refl _) (by omega) H.out.ok)
                  have HE := Lib.hid (H.out.told.getE (List.mem_of_getElem? ht))
                  have hqr : q < wr.heap.size := Nat.lt_of_lt_of_le hq H.out.on.only.size
                  have HT := Lib.hid ht
                  clear ht
                  go_wp2_with fail
                  go_at_call 13
                  refine HD.out.mono ?_
                  rintro e w2 ⟨v9, rfl, s2, o, f⟩
                  have H2 := Lib.hid (H.out.old o)
                  obtain ⟨gA, rfl, a1, a2⟩ := H2.out.live_at HT.out
                  have HN := Lib.hid (H.out.dropped HT.out hk40 o s2 f rfl)
                  have d1 := (o.cell (p := ⟨q, oo + k, none⟩) hqr (fun h => h)).trans d0
                  clear s2 o f d0 a0
                  rcases hb : t.2.2 with _ | _
                  · have hne : ¬ getE L (tH t) = 0 := fun h => by have := HE.out.1 h; rw [hb] at this; cases this
                    rw [hb] at a1
                    obtain ⟨e9, he9⟩ : ∃ e9, e9 = getE L (tH t) := ⟨_, rfl⟩
                    rw [← he9] at hne ⊢
                    clear he9 hb
                    go_wp2
                    go_meet
                    exact ⟨_, _, HN⟩
                  · rw [HE.out.2 hb]
                    rw [hb] at a1
                    clear hb
                    go_wp2
                    go_meet
                    exact ⟨_, _, HN⟩
                · go_wp2
                  go_meet
                  exact ⟨L, ts, Lib.hid (H.out.skip hk40)⟩
            case rest =>
              clear H HLL HZ d0 hcL hmL hcT hmT hcA hmA htk hL60 hts
              obtain ⟨L, ts, H⟩ := hcut
              obtain ⟨AL, cL, rfl, hcL, hmL⟩ := H.out.on.tab.form
              obtain ⟨AT, cT, rfl, hcT, hmT⟩ := own_len H.out.on.told
              obtain ⟨AA, cA, rfl, hcA, hmA⟩ := own_len H.out.on.live
              have htk := H.out.few
              have hLl := H.out.len
              have hL60 : L.length ≤ 60 := by omega
              have hts : ts.length ≤ 41 := by omega
              unfold maxLen at hmL hmT hmA
              clear hLl
              obtain ⟨wq, rfl⟩ : ∃ wq : World, wq = wr := ⟨_, rfl⟩
              go_wp2_with fail
              go_loopw [17] (fun i wr => ∃ j : Nat, j ≤ ts.length ∧ i = .int .i64 j ∧ Hid (Inv14 w wo.heap.size l.length (k + 1) L ts (.slice AL L.length cL) (.slice AT ts.length cT) (.slice AA ts.length cA) wr)) (fun i _ => ts.length - (intOf i).toNat)
              case atStart => exact ⟨0, Nat.zero_le _, rfl, H⟩
              case round =>
                clear H
                obtain ⟨j, hj, rfl, H⟩ := hrel
                by_cases hltj : j < ts.length
                · obtain ⟨t, ht⟩ : ∃ t, ts[j]? = some t := ⟨_, List.getElem?_eq_getElem hltj⟩
                  obtain ⟨gT, rfl, a0⟩ := H.out.told_at ht
                  have HG := Lib.hid (C.base.get (.slice AL L.length cL) L (tH t) _ wr H.out.on.tab (Nat.le_refl _) (by omega) H.out.ok)
                  have HE := Lib.hid (H.out.told.getE (List.mem_of_getElem? ht))
                  have HT := Lib.hid ht
                  clear ht
                  go_wp2_with fail
                  go_at_call 9
                  refine HG.out.mono ?_
                  rintro e w2 ⟨rfl, o⟩
                  have H2 := Lib.hid (H.out.old o)
                  clear o a0
                  obtain ⟨gA, rfl, a1, a2⟩ := H2.out.live_at HT.out
                  rcases hb : t.2.2 with _ | _
                  · have hne : ¬ getE L (tH t) = 0 := fun h => by have := HE.out.1 h; rw [hb] at this; cases this
                    rw [hb] at a1
                    obtain ⟨e9, he9⟩ : ∃ e9, e9 = getE L (tH t) := ⟨_, rfl⟩
                    rw [← he9] at hne ⊢
                    clear he9 hb
                    go_wp2
                    go_roundw
                    case rel => exact ⟨j + 1, by omega, by go_num, H2⟩
                    case measure => simp [intOf]; omega
                  · rw [HE.out.2 hb]
                    rw [hb] at a1
                    clear hb
                    go_wp2
                    go_roundw
                    case rel => exact ⟨j + 1, by omega, by go_num, H2⟩
                    case measure => simp [intOf]; omega
                · obtain rfl : j = ts.length := by omega
                  clear hltj
                  go_wp2
                  go_roundw
                  case rel => exact ⟨k + 1, L, ts, by omega, by go_num, H⟩
                  case measure => simp [intOf]; omega
          · obtain rfl : k = zs.length := by omega
            have HR := Lib.hid (C.base.right (.slice AL L.length cL) L L.length _ wr H.out.on.tab (Nat.le_refl _) (by omega) H.out.ok)
            rw [rightS_of H.out.right H.out.on.pos (by omega)] at HR
            go_wp2_with fail
            go_at_call 17
            refine HR.out.mono ?_
            rintro e w5 ⟨rfl, o⟩
            have O5 := Lib.hid (H.out.on.only.trans o)
            clear o
            go_wp2_with fail
            go_at_call 6
            refine (HAW.out _).mono ?_
            rintro e w6 ⟨rfl, o⟩
            have O6 := Lib.hid (O5.out.trans o)
            clear o
            go_wp2
            go_ret
            exact ⟨rfl, O6.out.whole⟩
end Go.Proofs.Ytcfiimedmhohaaa
