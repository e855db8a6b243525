/- The walk of WalkParts. -/
import Derived.Test.YtlejicbnobfldaaDoorWalkLaw2
import Derived.Test.YtlejicbnobfldaaDoorSpanMN
import Derived.Deep.RegionHeld3
namespace Go.Proofs.YtlejicbnobfldaaDoor
open Go.RowKit
set_option maxRecDepth 100000

set_option maxHeartbeats 4000000 in
theorem walkParts_big (A : Option Addr) (n c : Nat) (x : Sp) (top z : Int) (w : World) (ht : Par w) (hb : 200 < n) :
    Calls Tryd.prog 4 #[.slice A n c, .agg #[.int .i64 x.1, .int .i64 x.2], .int .i64 top, .int .i64 z] w fun e w' => e = .returned (.bool true) ∧ Below w.heap.size w w' := by
  obtain ⟨W, hW, HB⟩ := box_span w x
  have HWE := Lib.hid hW
  have HTab := Lib.hid ht
  clear hW ht
  go_enter Tryd.func4, Tryd.ntmps4
  go_wp2_with (first | (with_reducible rw [HWE.out]) | fail)
  go_at_call 6
  refine (awake09_any _ (HTab.out.old HB.out.1)).mono ?_
  rintro e w4 ⟨rfl, o⟩
  have O4 := Lib.hid (HB.out.1.trans o)
  clear o
  go_wp2
  go_ret
  exact ⟨rfl, O4.out.whole⟩

set_option maxHeartbeats 4000000 in
theorem walkParts_err (v : Value) (l : List Nat) (x : Sp) (top z : Int) (w : World) (ht : Par w) (hs : Sl w w.heap.size 1 v l.length (u64s l)) (hw : Words l) (hx : Fit x) (hl : l.length ≤ 200) (he : wkE (walkL (hAr l) x top) ≠ 0) :
    Calls Tryd.prog 4 #[v, .agg #[.int .i64 x.1, .int .i64 x.2], .int .i64 top, .int .i64 z] w fun e w' => e = .returned (.bool true) ∧ Below w.heap.size w w' := by
  obtain ⟨W, hW, HB⟩ := box_span w x
  have HWE := Lib.hid hW
  have HTab := Lib.hid ht
  have HA := Lib.hid hs
  have HW := Lib.hid hw
  have HX := Lib.hid hx
  have HFEW := Lib.hid (show (walkL (hAr l) x top).length ≤ 1000000 by have := walkL_few l x top; omega)
  have HL := Lib.hid (wkL_err he)
  obtain ⟨A, ca, rfl, hac, ham, -⟩ := hs
  unfold maxLen at ham
  obtain ⟨pe, hpe⟩ : ∃ pe, pe = wkE (walkL (hAr l) x top) := ⟨_, rfl⟩
  rw [← hpe] at he
  have he' : (pe == 0) = false := by simpa using he
  have H2 := Lib.hid hpe
  clear hW ht hw hx hpe he
  obtain ⟨c0, c1⟩ := cells2 HB.out.2
  go_enter Tryd.func4, Tryd.ntmps4
  go_wp2_with (first | (with_reducible rw [HWE.out]) | fail)
  go_at_call 7
  refine (of_any _ l _ ((HA.out.only HB.out.1 (Nat.le_refl _) (fun _ h => h.elim)).more HB.out.1.size) (by omega) HW.out).mono ?_
  rintro e w1 ⟨b, g, rfl, hb, hg, hR, o⟩
  have O1 := Lib.hid (HB.out.1.trans o)
  have A1 := Lib.hid hR
  have B1 := Lib.hid (HB.out.2.keep o id)
  clear hR o hb hg c0 c1
  obtain ⟨c0, c1⟩ := cells2 B1.out
  go_wp2_with fail
  go_at_call 8
  refine (wList _ (hAr l) x top w1 (heads_of A1.out (HTab.out.old O1.out)) HX.out HFEW.out).mono ?_
  rw [HL.out, ← H2.out]
  rintro e w2 ⟨v2, rfl, own2, o⟩
  obtain ⟨A2, c2, rfl, -, -⟩ := own_len own2
  have O2 := Lib.hid (O1.out.trans o)
  clear o own2 c0 c1
  go_wp2_with fail
  go_at_call 6
  refine (awake09_any _ (HTab.out.old O2.out)).mono ?_
  rintro e w4 ⟨rfl, o⟩
  have O4 := Lib.hid (O2.out.trans o)
  clear o
  go_wp2
  go_ret
  exact ⟨rfl, O4.out.whole⟩

/-- What a walk that does not err is. -/
structure Goes (l : List Nat) (x : Sp) (top : Int) (ps : List Int) : Prop where
  x0 : 0 ≤ x.1
  x1 : x.1 ≤ top
  x2 : top ≤ 1099511627776
  e : wkE (walkL (hAr l) x top) = 0
  l_ : wkL (walkL (hAr l) x top) = ps
  few : ps.length ≤ l.length + 1
  next : ∀ k a, ps[k]? = some a → ohE l a = 0 ∧ 0 ≤ a ∧ a + osz (hAr l) a = (ps[k + 1]?).getD top ∧ a < top ∧ a + osz (hAr l) a ≤ top
  nil : ps = [] → top = x.1
  join : ps ≠ [] → ∀ O, Joined O → (∀ p, cov O p ↔ cov (objs (hAr l) ps) p) → O = [(x.1, top - x.1)]
  fits : Fits (objs (hAr l) ps)
  part : ∀ k a, ps[k]? = some a → wkE (walkL (hAr l) x a) = 0 ∧ wkL (walkL (hAr l) x a) = ps.take k
theorem goes_of {l : List Nat} {x : Sp} {top : Int} (he : wkE (walkL (hAr l) x top) = 0) : Goes l x top (wkL (walkL (hAr l) x top)) := by
  have H := hAr_ok l
  have hok := wkE_zero he
  by_cases hm : may9 x top
  · have hL : walkL (hAr l) x top = tr (hAr l) top x.1 := if_pos hm
    obtain ⟨hm1, hm2, hm3⟩ := hm
    have hm1' := hm1
    unfold Sp.ok most at hm1
    have hk : wkL (walkL (hAr l) x top) = ats (tr (hAr l) top x.1) := by rw [(wk_ok hok top).2.2, hL]
    have hok' : ∀ y ∈ tr (hAr l) top x.1, y.e = 0 := hL ▸ hok
    obtain ⟨g1, g2, -⟩ := tr_chain H x.1 hm2 hok'
    have hget : ∀ (k : Nat) (a : Int), (ats (tr (hAr l) top x.1))[k]? = some a → ∃ y : It, (tr (hAr l) top x.1)[k]? = some y ∧ y.at_ = a := by
      intro k a ha
      unfold ats at ha
      rw [List.getElem?_map] at ha
      cases hy : (tr (hAr l) top x.1)[k]? with
      | none => rw [hy] at ha; cases ha
      | some y => rw [hy] at ha; exact ⟨y, rfl, Option.some.inj ha⟩
    have hfew := wkL_few l x top
    rw [hk] at hfew ⊢
    refine ⟨by omega, hm2, by omega, he, hk, hfew, fun k a ha => ?_, fun h0 => ?_, fun h0 O hO hc => ?_, fun y hy => objs_fit H x.1 (by unfold most; omega) y hy, fun k a ha => ?_⟩
    · obtain ⟨y, hy, rfl⟩ := hget k a ha
      obtain ⟨q1, q2⟩ := g2 k y hy
      obtain ⟨-, q3, q4, q5⟩ := tr_all H (top := top) x.1 y (List.mem_of_getElem? hy)
      exact ⟨q1, by omega, q2, q4, q5 (hok' y (List.mem_of_getElem? hy))⟩
    · exact (g1 (List.map_eq_nil_iff.1 h0)).symm
    · have hlt : x.1 < top := by
        rcases Int.lt_or_le x.1 top with h | h
        · exact h
        · exact absurd (by rw [tr_end (by omega)]; rfl) h0
      exact tr_joined H x.1 (by omega) hlt (by unfold most; omega) hok' hO hc
    · obtain ⟨y, hy, rfl⟩ := hget k a ha
      obtain ⟨q1, q2, q3, q4⟩ := tr_part H x.1 hm2 hok' k y hy
      have hL2 : walkL (hAr l) x y.at_ = tr (hAr l) y.at_ x.1 := if_pos ⟨hm1', q3, by omega⟩
      obtain ⟨-, k2, k3⟩ := wk_ok q1 y.at_
      rw [hL2]
      exact ⟨k2, k3.trans q2⟩
  · rw [show walkL (hAr l) x top = [badIt] from if_neg hm] at he
    exact absurd he (by decide)
theorem objs_take {h : Int → Hd} {ps : List Int} {k : Nat} {a : Int} (ha : ps[k]? = some a) : objs h (ps.take (k + 1)) = objs h (ps.take k) ++ [(a, osz h a)] := by
  unfold objs
  rw [List.take_add_one, ha, List.map_append]; rfl
theorem objs_len (h : Int → Hd) (ps : List Int) : (objs h ps).length = ps.length := by simp [objs]

set_option maxHeartbeats 4000000 in
theorem walkParts_ok (v : Value) (l : List Nat) (x : Sp) (top z : Int) (ps : List Int) (w : World) (ht : Par w) (hs : Sl w w.heap.size 1 v l.length (u64s l)) (hw : Words l) (hx : Fit x) (hl : l.length ≤ 200) (G : Goes l x top ps) :
    Calls Tryd.prog 4 #[v, .agg #[.int .i64 x.1, .int .i64 x.2], .int .i64 top, .int .i64 z] w fun e w' => e = .returned (.bool true) ∧ Below w.heap.size w w' := by
  obtain ⟨W, hW, HB⟩ := box_span w x
  have HWE := Lib.hid hW
  have HTab := Lib.hid ht
  have HA := Lib.hid hs
  have HW := Lib.hid hw
  have HX := Lib.hid hx
  have HFEW := Lib.hid (show ∀ t, (walkL (hAr l) x t).length ≤ 1000000 from fun t => by have := walkL_few l x t; omega)
  have HG := Lib.hid G
  have hpl : ps.length ≤ 201 := by have := G.few; omega
  have hx0 := G.x0
  have hx1 := G.x1
  have hx2 := G.x2
  obtain ⟨i0, hi0, hz0, hz1, hz2⟩ := info_parts info_span
  obtain ⟨A, ca, rfl, hac, ham, -⟩ := hs
  unfold maxLen at ham
  clear hW ht hw hx G
  obtain ⟨c0, c1⟩ := cells2 HB.out.2
  go_enter Tryd.func4, Tryd.ntmps4
  go_wp2_with (first | (with_reducible rw [HWE.out]) | fail)
  go_at_call 7
  refine (of_any _ l _ ((HA.out.only HB.out.1 (Nat.le_refl _) (fun _ h => h.elim)).more HB.out.1.size) (by omega) HW.out).mono ?_
  rintro e w1 ⟨b, g, rfl, hb, hg, hR, o⟩
  have O1 := Lib.hid (HB.out.1.trans o)
  have A1 := Lib.hid hR
  have B1 := Lib.hid (HB.out.2.keep o id)
  clear hR o hb hg c0 c1
  obtain ⟨c0, c1⟩ := cells2 B1.out
  go_wp2_with fail
  go_at_call 8
  refine (wList _ (hAr l) x top w1 (heads_of A1.out (HTab.out.old O1.out)) HX.out (HFEW.out top)).mono ?_
  rw [HG.out.l_, HG.out.e]
  rintro e w2 ⟨v2, rfl, own2, o⟩
  have HS2 := Lib.hid (Sl.of_own own2 (by rw [i64s_len, Nat.mul_one]))
  obtain ⟨A2, c2, rfl, hc2, hm2⟩ := own_len own2
  unfold maxLen at hm2
  have O2 := Lib.hid (O1.out.trans o)
  have A2' := Lib.hid (A1.out.keep o id id)
  have B2 := Lib.hid (B1.out.keep o id)
  clear o own2 c0 c1
  go_wp2_with fail
  go_loopw [13, 14] (fun al i wr => ∃ k : Nat, k ≤ ps.length ∧ i = .int .i64 k ∧ Hid (wr.ownsRow w2.heap.size 24 2 al k (spc (objs (hAr l) (ps.take k)))) ∧ Hid (Only nob w2 wr)) (fun _ i _ => ps.length - (intOf i).toNat)
  case atStart => exact ⟨0, Nat.zero_le _, rfl, World.ownsRow_nil _ _ _ _, Only.refl _ _⟩
  case round =>
    obtain ⟨k, hk, rfl, HR, HO⟩ := hrel
    by_cases hlt : k < ps.length
    · obtain ⟨a, ha⟩ : ∃ a, ps[k]? = some a := ⟨_, List.getElem?_eq_getElem hlt⟩
      obtain ⟨n1, n2, n3, n4, n5⟩ := HG.out.next k a ha
      obtain ⟨b2, o2, rfl, hb2, hc⟩ := sl_int HS2.out HO.out.whole ha
      have hbn := oh_bounds n1
      have HOT := Lib.hid (objs_take (h := hAr l) ha)
      obtain ⟨f, hf⟩ : ∃ f, f = ohF l a := ⟨_, rfl⟩
      obtain ⟨r, hr⟩ : ∃ r, r = ohR l a := ⟨_, rfl⟩
      obtain ⟨t, ht⟩ : ∃ t, t = a + osz (hAr l) a := ⟨_, rfl⟩
      have hoz : osz (hAr l) a = 1 + f + r := by rw [hf, hr]; rfl
      have HH := Lib.hid (oHead_any b g l a wr (A2'.out.keep HO.out id id) (HTab.out.old (O2.out.trans HO.out)) (by omega))
      rw [n1, ← hf, ← hr] at HH
      have hb1 : 0 ≤ f ∧ f ≤ 4096 ∧ 0 ≤ r ∧ r ≤ 4096 := by rw [hf, hr]; omega
      have hta : (1 + f + r == t - a) = true := by rw [beq_iff_eq, ht, hoz]; omega
      have ht2 : t ≤ top := by omega
      have hat : a ≤ t := by omega
      rw [← ht] at n3
      rw [hoz] at HOT ht
      have HTT := Lib.hid (show t - a = 1 + f + r by omega)
      have HR3 := Lib.hid (show Sl wr wr.heap.size 1 (.slice (some ⟨b2, o2, none⟩) ps.length c2) ps.length (i64s ps) from (HS2.out.below HO.out.whole).more HO.out.size)
      clear ha n1 n5 hbn hf hr ht hoz
      obtain ⟨A3, c3', rfl, hc3, hm3⟩ := own_len HR.out
      unfold maxLen at hm3
      by_cases hk1 : k + 1 < ps.length
      · obtain ⟨a', ha'⟩ : ∃ a', ps[k + 1]? = some a' := ⟨_, List.getElem?_eq_getElem hk1⟩
        obtain rfl : t = a' := by rw [ha'] at n3; exact n3
        have hc' : wr.cell? ⟨b2, o2 + (k + 1), none⟩ = some (.int .i64 t) := by
          obtain ⟨b3, o3, e3, -, hc3⟩ := sl_int HS2.out HO.out.whole ha'
          obtain ⟨rfl, rfl⟩ : b2 = b3 ∧ o2 = o3 := by simpa using e3
          exact hc3
        clear ha' n3
        go_wp2_with fail
        go_at_call 16
        refine HH.out.mono ?_
        rintro e w3' ⟨rfl, o3⟩
        obtain ⟨W4, hW4, HB4⟩ := box_head w3' (ohK l a) f r (ohM l a) (ohC l a)
        have HW4 := Lib.hid hW4
        have O4 := Lib.hid (o3.trans HB4.out.1)
        have hc4 := O4.out.keeps hc
        obtain ⟨c0, c1, c2, c3, c4⟩ := cells5 HB4.out.2
        clear hW4 o3 hc
        try clear hc'
        go_upto_region 15 with fail
        rw [HW4.out]
        have hi1 : (0 : Int) ≤ (k : Int) := by omega
        have hi2 : (k : Int) < (ps.length : Int) := by omega
        go_quiet (fail)
        clear c0 c1 c2 c3 c4
        go_wp2_with fail
        obtain ⟨W5, hW5⟩ : ∃ W5, W4.drewN nq = W5 := ⟨_, rfl⟩
        have O5 := Lib.hid (show Only nob wr W5 from hW5 ▸ O4.out.drewN nq)
        have hc5 : W5.cell? ⟨b2, o2 + k, none⟩ = some (.int .i64 a) := by rw [← hW5]; exact hc4
        rw [hW5]
        clear hW5 hc4
        have hsub : IntKind.i64.wrap (t - a) = t - a := IntWalk.i64_in _ (by omega)
        have hr5 := Lib.hid (own_only HR.out O5.out fun _ _ h => h)
        have HSL := Lib.hid (show ∀ w' : World, w'.heap = (W5.alloc (.cells #[.int .i64 a, .int .i64 (t - a)] 24)).heap → Sl w' (W5.heap.size + 1) 2 (.slice (some ⟨W5.heap.size, 0, none⟩) 1 1) 1 (spc [(a, t - a)]) from fun w' e => by
          have := Sl.of_blk (size := 2) (n := 1) (c := 1) (Blk.new W5 24 #[.int .i64 a, .int .i64 (t - a)]) rfl (Nat.le_refl _) (by decide)
          exact Sl.heap (by simpa [spc] using this) e)
        have hs5 : w2.heap.size ≤ W5.heap.size := (HO.out.trans O5.out).size
        have HFAR := Lib.hid (show ∀ w' w3 : World, w'.heap = (W5.alloc (.cells #[.int .i64 a, .int .i64 (t - a)] 24)).heap → Only (fun j => (Value.slice A3 k c3').ownBlock = some j) w' w3 → w3.cell? ⟨b2, o2 + k, none⟩ = some (.int .i64 a) from fun w' w3 e q => by
          have hlt2 : b2 < W5.heap.size := by omega
          have h1 : w'.cell? ⟨b2, o2 + k, none⟩ = some (.int .i64 a) := by
            rw [show w'.cell? ⟨b2, o2 + k, none⟩ = (W5.alloc (.cells #[.int .i64 a, .int .i64 (t - a)] 24)).cell? ⟨b2, o2 + k, none⟩ by simp only [World.cell?, e], World.cell?_alloc_lt _ _ _ hlt2]
            exact hc5
          exact (q.cell (p := ⟨b2, o2 + k, none⟩) (by show b2 < w'.heap.size; rw [e]; simp; omega) (fun he => by have h1 : w2.heap.size ≤ b2 := (own_lt hr5.out he).1; omega)).trans h1)
        go_region_held3 (fun w' => w'.cell? ⟨b2, o2 + k, none⟩ = some (.int .i64 a)) (first | go_keep | exact HFAR.out _ _ (by rfl) q3)
          ((refine step_append_sl _ (by rfl) _ _ _ (by rfl) w2.heap.size 24 i0 _ 2 16 Tryd.underlying43 hi0 hz0 hz1 hz2 (by rfl) (by decide) (.slice A3 k c3') k (spc (objs (hAr l) (ps.take k))) (by rfl) (own_heap (hr5.out.alloc (.cells #[.int .i64 a, .int .i64 (t - a)] 24)) rfl) (W5.heap.size + 1) (.slice (some ⟨W5.heap.size, 0, none⟩) 1 1) 1 (spc [(a, t - a)]) (by rfl) (HSL.out _ rfl) (spc_one _) (by unfold maxLen; omega) (by omega) (by simp; omega) ?_; intro v3 w3 H3 q3 _))
        have HO7 := Lib.hid (own_nob (((HO.out.trans O5.out).alloc (.cells #[.int .i64 a, .int .i64 (t - a)] 24)).drewN 1) (own_heap (hr5.out.alloc (.cells #[.int .i64 a, .int .i64 (t - a)] 24)) rfl) q3 (Nat.le_refl _))
        have HR7 := Lib.hid (show w3.ownsRow w2.heap.size 24 2 v3 (k + 1) (spc (objs (hAr l) (ps.take (k + 1)))) by
          rw [HOT.out, spc_append, ← HTT.out]; exact H3.out)
        clear H3 q3
        go_wp2
        go_roundw
        case rel => exact ⟨k + 1, by omega, by go_num, HR7, HO7⟩
        case measure => simp [intOf]; omega
      · obtain rfl : t = top := by rw [List.getElem?_eq_none (by omega)] at n3; exact n3
        clear n3
        go_wp2_with fail
        go_at_call 16
        refine HH.out.mono ?_
        rintro e w3' ⟨rfl, o3⟩
        obtain ⟨W4, hW4, HB4⟩ := box_head w3' (ohK l a) f r (ohM l a) (ohC l a)
        have HW4 := Lib.hid hW4
        have O4 := Lib.hid (o3.trans HB4.out.1)
        have hc4 := O4.out.keeps hc
        obtain ⟨c0, c1, c2, c3, c4⟩ := cells5 HB4.out.2
        clear hW4 o3 hc
        try clear hc'
        go_upto_region 15 with fail
        rw [HW4.out]
        have hi1 : (0 : Int) ≤ (k : Int) := by omega
        have hi2 : (k : Int) < (ps.length : Int) := by omega
        go_quiet (fail)
        clear c0 c1 c2 c3 c4
        go_wp2_with fail
        obtain ⟨W5, hW5⟩ : ∃ W5, W4.drewN nq = W5 := ⟨_, rfl⟩
        have O5 := Lib.hid (show Only nob wr W5 from hW5 ▸ O4.out.drewN nq)
        have hc5 : W5.cell? ⟨b2, o2 + k, none⟩ = some (.int .i64 a) := by rw [← hW5]; exact hc4
        rw [hW5]
        clear hW5 hc4
        have hsub : IntKind.i64.wrap (t - a) = t - a := IntWalk.i64_in _ (by omega)
        have hr5 := Lib.hid (own_only HR.out O5.out fun _ _ h => h)
        have HSL := Lib.hid (show ∀ w' : World, w'.heap = (W5.alloc (.cells #[.int .i64 a, .int .i64 (t - a)] 24)).heap → Sl w' (W5.heap.size + 1) 2 (.slice (some ⟨W5.heap.size, 0, none⟩) 1 1) 1 (spc [(a, t - a)]) from fun w' e => by
          have := Sl.of_blk (size := 2) (n := 1) (c := 1) (Blk.new W5 24 #[.int .i64 a, .int .i64 (t - a)]) rfl (Nat.le_refl _) (by decide)
          exact Sl.heap (by simpa [spc] using this) e)
        have hs5 : w2.heap.size ≤ W5.heap.size := (HO.out.trans O5.out).size
        have HFAR := Lib.hid (show ∀ w' w3 : World, w'.heap = (W5.alloc (.cells #[.int .i64 a, .int .i64 (t - a)] 24)).heap → Only (fun j => (Value.slice A3 k c3').ownBlock = some j) w' w3 → w3.cell? ⟨b2, o2 + k, none⟩ = some (.int .i64 a) from fun w' w3 e q => by
          have hlt2 : b2 < W5.heap.size := by omega
          have h1 : w'.cell? ⟨b2, o2 + k, none⟩ = some (.int .i64 a) := by
            rw [show w'.cell? ⟨b2, o2 + k, none⟩ = (W5.alloc (.cells #[.int .i64 a, .int .i64 (t - a)] 24)).cell? ⟨b2, o2 + k, none⟩ by simp only [World.cell?, e], World.cell?_alloc_lt _ _ _ hlt2]
            exact hc5
          exact (q.cell (p := ⟨b2, o2 + k, none⟩) (by show b2 < w'.heap.size; rw [e]; simp; omega) (fun he => by have h1 : w2.heap.size ≤ b2 := (own_lt hr5.out he).1; omega)).trans h1)
        go_region_held3 (fun w' => w'.cell? ⟨b2, o2 + k, none⟩ = some (.int .i64 a)) (first | go_keep | exact HFAR.out _ _ (by rfl) q3)
          ((refine step_append_sl _ (by rfl) _ _ _ (by rfl) w2.heap.size 24 i0 _ 2 16 Tryd.underlying43 hi0 hz0 hz1 hz2 (by rfl) (by decide) (.slice A3 k c3') k (spc (objs (hAr l) (ps.take k))) (by rfl) (own_heap (hr5.out.alloc (.cells #[.int .i64 a, .int .i64 (t - a)] 24)) rfl) (W5.heap.size + 1) (.slice (some ⟨W5.heap.size, 0, none⟩) 1 1) 1 (spc [(a, t - a)]) (by rfl) (HSL.out _ rfl) (spc_one _) (by unfold maxLen; omega) (by omega) (by simp; omega) ?_; intro v3 w3 H3 q3 _))
        have HO7 := Lib.hid (own_nob (((HO.out.trans O5.out).alloc (.cells #[.int .i64 a, .int .i64 (t - a)] 24)).drewN 1) (own_heap (hr5.out.alloc (.cells #[.int .i64 a, .int .i64 (t - a)] 24)) rfl) q3 (Nat.le_refl _))
        have HR7 := Lib.hid (show w3.ownsRow w2.heap.size 24 2 v3 (k + 1) (spc (objs (hAr l) (ps.take (k + 1)))) by
          rw [HOT.out, spc_append, ← HTT.out]; exact H3.out)
        clear H3 q3
        go_wp2
        go_roundw
        case rel => exact ⟨k + 1, by omega, by go_num, HR7, HO7⟩
        case measure => simp [intOf]; omega
    · obtain rfl : k = ps.length := by omega
      rw [List.take_length] at HR
      obtain ⟨A3, c3', rfl, hc3, hm3⟩ := own_len HR.out
      unfold maxLen at hm3
      have O3 := Lib.hid (O2.out.trans HO.out)
      have B3 := Lib.hid (B2.out.keep HO.out id)
      have HS3 := Lib.hid (show Sl wr wr.heap.size 1 (.slice A2 ps.length c2) ps.length (i64s ps) from (HS2.out.below HO.out.whole).more HO.out.size)
      have A3' := Lib.hid (A2'.out.keep HO.out id id)
      go_wp2_with fail
      go_at_call 17
      refine (spJoin _ (objs (hAr l) ps) wr.heap.size wr (by rw [objs_len]; exact Sl.of_own HR.out (by rw [spc_len, objs_len])) (Nat.le_refl _) (by rw [objs_len]; omega) HG.out.fits).mono ?_
      rintro e w4 ⟨v4, Oj, rfl, hj, hcv, hsj, o⟩
      have O4 := Lib.hid (O3.out.trans o)
      have B4 := Lib.hid (B3.out.keep o id)
      have HS4 := Lib.hid (show Sl w4 w4.heap.size 1 (.slice A2 ps.length c2) ps.length (i64s ps) from (HS3.out.below o.whole).more o.size)
      have A4 := Lib.hid (A3'.out.keep o id id)
      by_cases hp0 : ps = []
      · have htop := HG.out.nil hp0
        obtain ⟨Aj, cj, rfl, hcj, hmj⟩ := hsj.form
        subst hp0
        obtain rfl : top = x.1 := htop
        clear hj hcv hsj o HR HS2 HS3 HS4 hk hlt hpl hc2 hc3 hx1
        obtain ⟨c0, c1⟩ := cells2 B4.out
        go_wp2_with fail
        go_quiet (fail)
        clear c0 c1
        obtain ⟨W5, hW5⟩ : ∃ W5, w4.drewN nq = W5 := ⟨_, rfl⟩
        have O5 := Lib.hid (show Only nob w W5 from hW5 ▸ O4.out.drewN nq)
        rw [hW5]
        clear hW5
        rcases Int.lt_or_le z 0 with hz | hz
        all_goals
          go_wp2_with fail
          go_at_call 6
          refine (awake09_any _ (HTab.out.old O5.out)).mono ?_
          rintro e w6 ⟨rfl, o⟩
          have O6 := Lib.hid (O5.out.trans o)
          clear o
          go_wp2
          go_ret
          exact ⟨rfl, O6.out.whole⟩
      · have hO := HG.out.join hp0 Oj hj hcv
        subst hO
        have hlp : 0 < ps.length := List.length_pos_iff.2 hp0
        have hlp' : ((ps.length : Int) == 0) = false := by rw [beq_eq_false_iff_ne]; omega
        have hlp2 : (0 : Int) < (ps.length : Int) := by omega
        obtain ⟨Aj, cj, rfl, hcj, hmj⟩ := hsj.form
        obtain ⟨bj, oj, rfl, -, d0, d1⟩ := sl_span (k := 0) hsj (Below.refl _ _) rfl
        have HSJ := Lib.hid hsj
        simp at d0 d1
        have hsub : IntKind.i64.wrap (top - x.1) = top - x.1 := IntWalk.i64_in _ (by omega)
        clear hj hcv hsj o hp0
        obtain ⟨c0, c1⟩ := cells2 B4.out
        go_wp2_with fail
        go_quiet (fail)
        clear c0 c1 d0 d1
        obtain ⟨W5, hW5⟩ : ∃ W5, w4.drewN nq = W5 := ⟨_, rfl⟩
        have O5 := Lib.hid (show Only nob w W5 from hW5 ▸ O4.out.drewN nq)
        have A5 := Lib.hid (show Ar W5 b g l from hW5 ▸ A4.out.drewN nq)
        have B5 := Lib.hid (show Blk W5 w.heap.size 24 #[.int .i64 x.1, .int .i64 x.2] from hW5 ▸ B4.out.drewN nq)
        have HS5 := Lib.hid (show Sl W5 W5.heap.size 1 (.slice A2 ps.length c2) ps.length (i64s ps) from hW5 ▸ HS4.out.heap rfl)
        rw [hW5]
        clear hW5
        by_cases hz0 : z < 0
        · go_wp2_with fail
          go_at_call 6
          refine (awake09_any _ (HTab.out.old O5.out)).mono ?_
          rintro e w6 ⟨rfl, o⟩
          have O6 := Lib.hid (O5.out.trans o)
          clear o
          go_wp2
          go_ret
          exact ⟨rfl, O6.out.whole⟩
        · by_cases hz1 : z < (ps.length : Int)
          · obtain ⟨k, rfl⟩ : ∃ k : Nat, z = k := ⟨z.toNat, by omega⟩
            have hkl : k < ps.length := by omega
            obtain ⟨a, ha⟩ : ∃ a, ps[k]? = some a := ⟨_, List.getElem?_eq_getElem hkl⟩
            obtain ⟨b2, o2, rfl, hb2, hc⟩ := sl_int HS5.out (Below.refl _ _) ha
            obtain ⟨p1, p2⟩ := HG.out.part k a ha
            obtain ⟨q, hq⟩ : ∃ q, q = ps.take k := ⟨_, rfl⟩
            have HTK := Lib.hid (show q.length = k by rw [hq]; simp; omega)
            have HQ := Lib.hid (show i64s q = (i64s ps).take k by rw [hq, i64s_take])
            rw [← hq] at p2
            have HP1 := Lib.hid p1
            have HP2 := Lib.hid p2
            have hi1 : (0 : Int) ≤ (k : Int) := by omega
            obtain ⟨c0, c1⟩ := cells2 B5.out
            clear ha p1 p2 hq
            go_wp2_with fail
            have A6 := Lib.hid (show Ar (World.drew W5) b g l from A5.out.drewN 1)
            have P6 := Lib.hid (HTab.out.old (show Only nob w (World.drew W5) from O5.out.drewN 1))
            have HS6 := Lib.hid (show Sl (World.drew W5) (World.drew W5).heap.size 1 (.slice (some ⟨b2, o2, none⟩) ps.length c2) ps.length (i64s ps) from HS5.out.heap rfl)
            go_region_held3 (fun w' => w'.cell? ⟨w.heap.size, 0, none⟩ = some (.int .i64 x.1) ∧ w'.cell? ⟨w.heap.size, 1, none⟩ = some (.int .i64 x.2) ∧ w'.cell? ⟨b2, o2 + k, none⟩ = some (.int .i64 a)) (first | go_keep | exact C1.out)
              ((go_at_call 8; refine (wList _ (hAr l) x a (World.drew W5) (heads_of A6.out P6.out) HX.out (HFEW.out a)).mono ?_; rw [HP1.out, HP2.out]; rintro e w7 ⟨v7, rfl, own7, o⟩; have C1 := Lib.hid (And.intro (o.drewL.keeps c0) (And.intro (o.drewL.keeps c1) (o.drewL.keeps hc))); have SY := Lib.hid (Sl.of_own own7 (by rw [i64s_len, Nat.mul_one])); obtain ⟨A7, c7, rfl, -, -⟩ := own_len own7; have O7 := Lib.hid (O5.out.trans o.drewL); have HS7 := Lib.hid ((HS6.out.below o.whole).more o.size); clear o own7))
            have SX := Lib.hid (show Sl w7 w7.heap.size 1 (cutv (some ⟨b2, o2, none⟩) 0 k c2 1) q.length (i64s q) from by
              have h1 := HS7.out.cut (l := 0) (k := k) (Nat.zero_le _) (by omega)
              rw [HTK.out, HQ.out]
              simpa using h1)
            obtain ⟨j0, hj0, hy0, hy1, hy2⟩ := info_parts info_int
            have hcut := run_cut_h Tryd.underlying25 hj0 (some ⟨b2, o2, none⟩) ps.length c2 k (by omega)
            rw [hy1] at hcut
            clear c0 c1 hc
            go_wp2_with fail
            go_at_call 13
            with_reducible refine (rInts _ _ q _ _ _ SY.out SX.out).mono ?_
            rintro e w8 ⟨rfl, mq, rfl⟩
            obtain ⟨w8, hw8⟩ : ∃ w8, w7.drewN mq = w8 := ⟨_, rfl⟩
            have O8 := Lib.hid (show Only nob w w8 from hw8 ▸ O7.out.drewN mq)
            rw [hw8]
            clear hw8
            go_wp2_with fail
            go_at_call 6
            refine (awake09_any _ (HTab.out.old O8.out)).mono ?_
            rintro e w9 ⟨rfl, o⟩
            have O9 := Lib.hid (O8.out.trans o)
            clear o
            go_wp2
            go_ret
            exact ⟨rfl, O9.out.whole⟩
          · go_wp2_with fail
            go_at_call 6
            refine (awake09_any _ (HTab.out.old O5.out)).mono ?_
            rintro e w6 ⟨rfl, o⟩
            have O6 := Lib.hid (O5.out.trans o)
            clear o
            go_wp2
            go_ret
            exact ⟨rfl, O6.out.whole⟩
theorem walkParts_walk (v : Value) (l : List Nat) (x : Sp) (top z : Int) (w : World) (ht : Par w) (hs : Sl w w.heap.size 1 v l.length (u64s l)) (hw : Words l) (hx : Fit x) :
    Calls Tryd.prog 4 #[v, .agg #[.int .i64 x.1, .int .i64 x.2], .int .i64 top, .int .i64 z] w fun e w' => e = .returned (.bool true) ∧ Below w.heap.size w w' := by
  by_cases h1 : 200 < l.length
  · obtain ⟨A, c, rfl, -⟩ := hs.form
    exact walkParts_big A l.length c x top z w ht h1
  · by_cases he : wkE (walkL (hAr l) x top) = 0
    · exact walkParts_ok v l x top z _ w ht hs hw hx (by omega) (goes_of he)
    · exact walkParts_err v l x top z w ht hs hw hx (by omega) he
end Go.Proofs.YtlejicbnobfldaaDoor
