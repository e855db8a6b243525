/- The document's own answer for graphs: nodes in another order. -/
import Derived.Test.YtmnehonmbjnnaaaHeld
import Derived.Test.YtmnehonmbjnnaaaRefGr
import Derived.Test.YtmnehonmbjnnaaaGrProgB
import Derived.Test.YtmnehonmbjnnaaaGrProgA
import Derived.Test.YtmnehonmbjnnaaaMem
import Derived.Deep.RegionHeld3
import Derived.OrdersHeld
namespace Go.Proofs.Ytmnehonmbjnnaaa
open Go.RowKit Go.Lib
set_option maxRecDepth 100000
set_option linter.unusedSimpArgs false
set_option linter.unusedVariables false

theorem plc_here {o : List Int} {k : Nat} {x : Int} (hx : o[k]? = some x) : plc o x = k ↔ x ∉ o.take k := by
  constructor
  · intro e hm
    obtain ⟨j, hj⟩ := List.getElem?_of_mem hm
    have hjk : j < k := by have := (List.getElem?_eq_some_iff.1 hj).1; rw [List.length_take] at this; omega
    rw [List.getElem?_take, if_pos hjk] at hj
    have hmem : x ∈ o := List.mem_of_getElem? hx
    rw [plc_in hmem] at e
    have hle : o.idxOf x ≤ j := by
      rcases Nat.lt_or_ge j (o.idxOf x) with h | h
      · have h3 := List.not_of_lt_findIdx (p := (· == x)) (xs := o) (i := j) h
        obtain ⟨hjl, h4⟩ := List.getElem?_eq_some_iff.1 hj
        rw [h4] at h3
        simp at h3
      · exact h
    omega
  · intro hn
    exact plc_first hx fun j y hj hy e => hn (by
      subst e
      have : (o.take k)[j]? = some y := by rw [List.getElem?_take, if_pos hj]; exact hy
      exact List.mem_of_getElem? this)
theorem two_boxes16 (w : World) (vn vr : Value) : ∃ V, ((w.alloc (.cells #[vn, vr] 25)).alloc (.cells #[.slice none 0 0, .slice none 0 0] 25)) = V ∧ Hid (Only nob w V ∧ Blk V w.heap.size 25 #[vn, vr] ∧ Blk V (w.heap.size + 1) 25 #[.slice none 0 0, .slice none 0 0]) :=
  ⟨_, rfl, Lib.hid ⟨((Only.refl nob w).alloc _).alloc _, (Blk.new w _ _).alloc _, Blk.newAt _ _ _ _ (by simp)⟩⟩
theorem put_graph16 {W : World} {b : Nat} {a0 a1 : Value} (B1 : Blk W b 25 #[a0, a1]) (x0 x1 : Value) : ∃ U, ((W.setCell ⟨b, 0, none⟩ x0).setCell ⟨b, 1, none⟩ x1) = U ∧ Only (isb b) W U ∧ Blk U b 25 #[x0, x1] :=
  ⟨_, rfl, (only_set _ _ _ _).trans (only_set _ _ _ _), by simpa using (B1.put 0 x0).put 1 x1⟩
/-- What the document's second loop holds. -/
structure Nds (w : World) (base B : Nat) (l : List Nd) (js : List (Value × Value)) : Prop where
  len : js.length = l.length
  each : ∀ (i : Nat) d h, l[i]? = some d → js[i]? = some h → w.ownsRow base 43 2 h.1 d.fs.length (spc d.fs) ∧ Sl w B 1 h.2 d.rs.length (u64s d.rs)
theorem Nds.snoc {w : World} {base B : Nat} {l : List Nd} {js : List (Value × Value)} (H : Nds w base B l js) {d : Nd} {h : Value × Value} (h1 : w.ownsRow base 43 2 h.1 d.fs.length (spc d.fs)) (h2 : Sl w B 1 h.2 d.rs.length (u64s d.rs)) : Nds w base B (l ++ [d]) (js ++ [h]) := by
  refine ⟨by simp [H.len], fun i d' h' hd hh => ?_⟩
  rcases Nat.lt_or_ge i l.length with hi | hi
  · rw [List.getElem?_append_left hi] at hd
    rw [List.getElem?_append_left (by rw [H.len]; omega)] at hh
    exact H.each i d' h' hd hh
  · have hi2 : i = l.length := by
      have := (List.getElem?_eq_some_iff.1 hd).1
      simp at this
      omega
    rw [hi2, List.getElem?_append_right (Nat.le_refl _), Nat.sub_self] at hd
    rw [hi2, List.getElem?_append_right (by rw [H.len]; omega), H.len, Nat.sub_self] at hh
    obtain rfl : d = d' := by simpa using hd
    obtain rfl : h = h' := by simpa using hh
    exact ⟨h1, h2⟩
theorem Nds.keep {F : Nat → Prop} {w w' : World} {base B : Nat} {l : List Nd} {js : List (Value × Value)} (H : Nds w base B l js) (o : Only F w w') (hB : B ≤ w.heap.size) (h1 : ∀ k, F k → B ≤ k) (h2 : ∀ s n v x, w.ownsRow base 43 s v n x → ∀ k, v.ownBlock = some k → ¬ F k) : Nds w' base B l js :=
  ⟨H.len, fun i d h hd hh => ⟨own_only (H.each i d h hd hh).1 o (h2 _ _ _ _ (H.each i d h hd hh).1), (H.each i d h hd hh).2.only o hB h1⟩⟩
theorem Nds.nob {w w' : World} {base B : Nat} {l : List Nd} {js : List (Value × Value)} (H : Nds w base B l js) (o : Only nob w w') (hB : B ≤ w.heap.size) : Nds w' base B l js :=
  H.keep o hB (fun _ h => h.elim) fun _ _ _ _ _ _ _ h => h
theorem ndc_map16 {o : List Int} : ∀ (l : List Nd) (js : List (Value × Value)), ndc (l.map (ndT o)) js = ndc l js
  | [], _ => by simp [ndc]
  | _ :: _, [] => by simp [ndc]
  | d :: l, h :: js => by
    have := ndc_map16 (o := o) l js
    simp only [List.map_cons, ndc, this]
    rfl
set_option maxHeartbeats 8000000 in
theorem rRenumber16 : RenGC 25 := by
  intro g o vn vr v hs B w h hv hB hfit hn hrt hl hob
  obtain ⟨i0, hi0, hz0, hz1, hz2⟩ := info_parts info_node16
  have HR := Lib.hid h
  have HV := Lib.hid hv
  have HOB := Lib.hid hob
  have HW := Lib.hid (rn_ways g o)
  obtain ⟨A, c, rfl, hac, hcm⟩ := h.nodes.form
  obtain ⟨Ar, cr, rfl, harc, hcrm⟩ := h.roots.form
  obtain ⟨Al, cl, rfl, hal, hcl⟩ := hv.form
  unfold maxLen at hcm hcrm hcl
  obtain ⟨V, hV, HVB⟩ := two_boxes16 w (.slice A g.nd.length c) (.slice Ar g.rt.length cr)
  have HVE := Lib.hid hV
  have HRG := Lib.hid (rRight16 g _ _ hs B V (HR.out.only HVB.out.1 hB) (Nat.le_trans hB HVB.out.1.size) hfit)
  have v0 : V.cell? ⟨w.heap.size, 0, none⟩ = some (.slice A g.nd.length c) := HVB.out.2.1.cell 0
  have v1 : V.cell? ⟨w.heap.size, 1, none⟩ = some (.slice Ar g.rt.length cr) := HVB.out.2.1.cell 1
  obtain ⟨q, hq⟩ : ∃ q, q = rnE g o := ⟨_, rfl⟩
  obtain ⟨G, hG⟩ : ∃ G, G = rnG g o := ⟨_, rfl⟩
  have HQ := Lib.hid (And.intro hq hG)
  rw [← hq, ← hG]
  clear hV hq hG h hv hfit hob
  go_enter Try.func25, Try.ntmps25
  go_upto_region 1 with fail
  rw [HVE.out]
  go_wp2_with fail
  go_at_call 21
  refine HRG.out.mono ?_
  cases hok : grOk g with
  | false =>
    have HE := Lib.hid (show q = 4 ∧ G = ⟨[], []⟩ by
      rcases HW.out with ⟨-, a, b⟩ | ⟨a, -⟩ | ⟨a, -⟩
      · exact ⟨HQ.out.1.trans a, HQ.out.2.trans b⟩
      · rw [hok] at a; cases a
      · rw [hok] at a; cases a)
    clear hok
    rintro e w1 ⟨rfl, o1⟩
    have O1 := Lib.hid (HVB.out.1.trans o1)
    have B1 := HVB.out.2.2.keep o1 id
    have b0 : w1.cell? ⟨w.heap.size + 1, 0, none⟩ = some (.slice none 0 0) := B1.cell 0
    have b1 : w1.cell? ⟨w.heap.size + 1, 1, none⟩ = some (.slice none 0 0) := B1.cell 1
    have fb0 := B1.free 0
    have fb1 := B1.free 1
    obtain ⟨U, hU, oU, U1⟩ := put_graph16 B1 (.slice none 0 0) (.slice none 0 0)
    have HU := Lib.hid hU
    have OU := Lib.hid (O1.out.andThen oU fun i hi e => by unfold isb at e; omega)
    clear o1 B1 hU oU v0 v1
    go_wp2
    rw [HU.out]
    have r0 : U.cell? ⟨w.heap.size + 1, 0, none⟩ = some (.slice none 0 0) := U1.cell 0
    have r1 : U.cell? ⟨w.heap.size + 1, 1, none⟩ = some (.slice none 0 0) := U1.cell 1
    refine bodyPost_ret (v := .tuple #[.agg #[.slice none 0 0, .slice none 0 0], .int .i64 4]) (by simp [results, Try.results25, go_sem, r0, r1]) rfl ?_
    exact ⟨.slice none 0 0, .slice none 0 0, [], by rw [HE.out.1], by rw [HE.out.2]; exact rd_none _, OU.out⟩
  | true =>
    rintro e w1 ⟨rfl, o1⟩
    have O1 := Lib.hid (HVB.out.1.trans o1)
    have HGB := Lib.hid (HVB.out.2.1.keep o1 id)
    have HRB := Lib.hid (HVB.out.2.2.keep o1 id)
    have HGO := Lib.hid (grOk_iff.1 hok)
    have HPL := Lib.hid (fun (x : Int) (w' : World) (b : Only nob w w') => rPlace16 (.slice Al o.length cl) o x B w' (HV.out.below (b.below hB fun _ h => h.elim)))
    obtain ⟨N, hN⟩ : ∃ N, N = g.nd.length := ⟨_, rfl⟩
    have HNN := Lib.hid hN
    clear o1 v0 v1 hN
    go_wp2_with fail
    go_loopw [6] (fun i wr => ∃ k : Nat, k ≤ o.length ∧ i = .int .i64 k ∧ Hid (ordOk g.nd.length (o.take k) = true) ∧ Hid (Only nob w1 wr)) (fun i _ => o.length - (intOf i).toNat)
    case atStart => exact ⟨0, Nat.zero_le _, rfl, Lib.hid (by rw [List.take_zero]; rfl), Lib.hid (Only.refl _ _)⟩
    case round =>
      obtain ⟨k, hk, rfl, HOK, HO⟩ := hrel
      have g0 : wr.cell? ⟨w.heap.size, 0, none⟩ = some (.slice A g.nd.length c) := HO.out.keeps (HGB.out.cell 0)
      by_cases hlt : k < o.length
      · obtain ⟨x, hx⟩ : ∃ x, o[k]? = some x := ⟨_, List.getElem?_eq_getElem hlt⟩
        obtain ⟨b1, o1, rfl, -, e0⟩ := sl_int HV.out ((O1.out.trans HO.out).below hB fun _ h => h.elim) hx
        have d0 := wat_cell g0
        have d1 := wat_cell e0
        have HC := Lib.hid (fun (w' : World) (b : Only nob wr w') => HPL.out x w' ((O1.out.trans HO.out).trans b))
        have hway : (x < 0 ∧ ordOk g.nd.length o = false) ∨ (0 ≤ x ∧ (g.nd.length : Int) ≤ x ∧ ordOk g.nd.length o = false) ∨ (0 ≤ x ∧ x < (g.nd.length : Int) ∧ (plc o x != (k : Int)) = true ∧ ordOk g.nd.length o = false) ∨ (0 ≤ x ∧ x < (g.nd.length : Int) ∧ (plc o x != (k : Int)) = false ∧ ordOk g.nd.length (o.take (k + 1)) = true) := by
          by_cases h0 : x < 0
          · exact .inl ⟨h0, ord_no hx (.inr (.inl h0))⟩
          by_cases h1 : (g.nd.length : Int) ≤ x
          · exact .inr (.inl ⟨by omega, h1, ord_no hx (.inr (.inr h1))⟩)
          by_cases h2 : x ∈ o.take k
          · refine .inr (.inr (.inl ⟨by omega, by omega, ?_, ord_no hx (.inl h2)⟩))
            have := mt (plc_here hx).1 (fun h => h h2)
            simpa using this
          · refine .inr (.inr (.inr ⟨by omega, by omega, ?_, ord_snoc hx HOK.out h2 (by omega) (by omega)⟩))
            simpa using (plc_here hx).2 h2
        obtain ⟨pl, hpl⟩ : ∃ pl, pl = plc o x := ⟨_, rfl⟩
        rw [← hpl] at hway HC
        have hkk : (0 : Int) ≤ (k : Int) := by omega
        have hkl : (k : Int) < (o.length : Int) := by omega
        clear hx hpl g0 e0
        rcases hway with ⟨h0, ho⟩ | ⟨h0, h1, ho⟩ | ⟨h0, h1, h2, ho⟩ | ⟨h0, h1, h2, ho⟩
        · have HE := Lib.hid (show q = 1 ∧ G = ⟨[], []⟩ by
            rcases HW.out with ⟨a, -⟩ | ⟨-, -, a, b⟩ | ⟨-, a, -⟩
            · rw [hok] at a; cases a
            · exact ⟨HQ.out.1.trans a, HQ.out.2.trans b⟩
            · rw [ho] at a; cases a)
          clear ho
          go_upto_region 6 with fail
          refine wp_region_only mixed16 (by kernel_rfl) ?_
          repeat (with_reducible refine wpQuiet_step ?_; intro K' hK'; go_simp; first | (with_reducible refine hK' _ ?_; clear hK' K') | (rw [if_neg]; rotate_left; (· simp [undef]); with_reducible refine hK' _ ?_; clear hK' K') | (apply Exists.intro; with_reducible refine ⟨fun _ => ?_, hK' _ ?_⟩; (go_at_call 42; with_reducible refine wat_call (HC.out _ (only_wat _ _ _))); clear hK' K'))
          refine wpQuiet_nil ?_
          rintro w' ⟨⟨nq, osq⟩, rfl⟩
          obtain ⟨W7, hW7, O7⟩ := wat_name wr nq osq
          rw [hW7]
          have O8 := Lib.hid ((O1.out.trans HO.out).trans O7.out)
          have B1 := HRB.out.keep (HO.out.trans O7.out) id
          have b0 : W7.cell? ⟨w.heap.size + 1, 0, none⟩ = some (.slice none 0 0) := B1.cell 0
          have b1 : W7.cell? ⟨w.heap.size + 1, 1, none⟩ = some (.slice none 0 0) := B1.cell 1
          have fb0 := B1.free 0
          have fb1 := B1.free 1
          obtain ⟨U, hU, oU, U1⟩ := put_graph16 B1 (.slice none 0 0) (.slice none 0 0)
          have HU := Lib.hid hU
          have OU := Lib.hid (O8.out.andThen oU fun i hi e => by unfold isb at e; omega)
          clear hW7 d0 d1 B1 hU oU
          go_wp2
          rw [HU.out]
          have r0 : U.cell? ⟨w.heap.size + 1, 0, none⟩ = some (.slice none 0 0) := U1.cell 0
          have r1 : U.cell? ⟨w.heap.size + 1, 1, none⟩ = some (.slice none 0 0) := U1.cell 1
          refine bodyPost_ret (v := .tuple #[.agg #[.slice none 0 0, .slice none 0 0], .int .i64 1]) (by simp [results, Try.results25, go_sem, r0, r1]) rfl ?_
          exact ⟨.slice none 0 0, .slice none 0 0, [], by rw [HE.out.1], by rw [HE.out.2]; exact rd_none _, OU.out⟩
        · have HE := Lib.hid (show q = 1 ∧ G = ⟨[], []⟩ by
            rcases HW.out with ⟨a, -⟩ | ⟨-, -, a, b⟩ | ⟨-, a, -⟩
            · rw [hok] at a; cases a
            · exact ⟨HQ.out.1.trans a, HQ.out.2.trans b⟩
            · rw [ho] at a; cases a)
          clear ho
          go_upto_region 6 with fail
          refine wp_region_only mixed16 (by kernel_rfl) ?_
          repeat (with_reducible refine wpQuiet_step ?_; intro K' hK'; go_simp; first | (with_reducible refine hK' _ ?_; clear hK' K') | (rw [if_neg]; rotate_left; (· simp [undef]); with_reducible refine hK' _ ?_; clear hK' K') | (apply Exists.intro; with_reducible refine ⟨fun _ => ?_, hK' _ ?_⟩; (go_at_call 42; with_reducible refine wat_call (HC.out _ (only_wat _ _ _))); clear hK' K'))
          refine wpQuiet_nil ?_
          rintro w' ⟨⟨nq, osq⟩, rfl⟩
          obtain ⟨W7, hW7, O7⟩ := wat_name wr nq osq
          rw [hW7]
          have O8 := Lib.hid ((O1.out.trans HO.out).trans O7.out)
          have B1 := HRB.out.keep (HO.out.trans O7.out) id
          have b0 : W7.cell? ⟨w.heap.size + 1, 0, none⟩ = some (.slice none 0 0) := B1.cell 0
          have b1 : W7.cell? ⟨w.heap.size + 1, 1, none⟩ = some (.slice none 0 0) := B1.cell 1
          have fb0 := B1.free 0
          have fb1 := B1.free 1
          obtain ⟨U, hU, oU, U1⟩ := put_graph16 B1 (.slice none 0 0) (.slice none 0 0)
          have HU := Lib.hid hU
          have OU := Lib.hid (O8.out.andThen oU fun i hi e => by unfold isb at e; omega)
          clear hW7 d0 d1 B1 hU oU
          go_wp2
          rw [HU.out]
          have r0 : U.cell? ⟨w.heap.size + 1, 0, none⟩ = some (.slice none 0 0) := U1.cell 0
          have r1 : U.cell? ⟨w.heap.size + 1, 1, none⟩ = some (.slice none 0 0) := U1.cell 1
          refine bodyPost_ret (v := .tuple #[.agg #[.slice none 0 0, .slice none 0 0], .int .i64 1]) (by simp [results, Try.results25, go_sem, r0, r1]) rfl ?_
          exact ⟨.slice none 0 0, .slice none 0 0, [], by rw [HE.out.1], by rw [HE.out.2]; exact rd_none _, OU.out⟩
        · have HE := Lib.hid (show q = 1 ∧ G = ⟨[], []⟩ by
            rcases HW.out with ⟨a, -⟩ | ⟨-, -, a, b⟩ | ⟨-, a, -⟩
            · rw [hok] at a; cases a
            · exact ⟨HQ.out.1.trans a, HQ.out.2.trans b⟩
            · rw [ho] at a; cases a)
          clear ho
          go_upto_region 6 with fail
          refine wp_region_only mixed16 (by kernel_rfl) ?_
          repeat (with_reducible refine wpQuiet_step ?_; intro K' hK'; go_simp; first | (with_reducible refine hK' _ ?_; clear hK' K') | (rw [if_neg]; rotate_left; (· simp [undef]); with_reducible refine hK' _ ?_; clear hK' K') | (apply Exists.intro; with_reducible refine ⟨fun _ => ?_, hK' _ ?_⟩; (go_at_call 42; with_reducible refine wat_call (HC.out _ (only_wat _ _ _))); clear hK' K'))
          refine wpQuiet_nil ?_
          rintro w' ⟨⟨nq, osq⟩, rfl⟩
          obtain ⟨W7, hW7, O7⟩ := wat_name wr nq osq
          rw [hW7]
          have O8 := Lib.hid ((O1.out.trans HO.out).trans O7.out)
          have B1 := HRB.out.keep (HO.out.trans O7.out) id
          have b0 : W7.cell? ⟨w.heap.size + 1, 0, none⟩ = some (.slice none 0 0) := B1.cell 0
          have b1 : W7.cell? ⟨w.heap.size + 1, 1, none⟩ = some (.slice none 0 0) := B1.cell 1
          have fb0 := B1.free 0
          have fb1 := B1.free 1
          obtain ⟨U, hU, oU, U1⟩ := put_graph16 B1 (.slice none 0 0) (.slice none 0 0)
          have HU := Lib.hid hU
          have OU := Lib.hid (O8.out.andThen oU fun i hi e => by unfold isb at e; omega)
          clear hW7 d0 d1 B1 hU oU
          go_wp2
          rw [HU.out]
          have r0 : U.cell? ⟨w.heap.size + 1, 0, none⟩ = some (.slice none 0 0) := U1.cell 0
          have r1 : U.cell? ⟨w.heap.size + 1, 1, none⟩ = some (.slice none 0 0) := U1.cell 1
          refine bodyPost_ret (v := .tuple #[.agg #[.slice none 0 0, .slice none 0 0], .int .i64 1]) (by simp [results, Try.results25, go_sem, r0, r1]) rfl ?_
          exact ⟨.slice none 0 0, .slice none 0 0, [], by rw [HE.out.1], by rw [HE.out.2]; exact rd_none _, OU.out⟩
        · have HOK2 := Lib.hid ho
          clear ho
          go_upto_region 6 with fail
          refine wp_region_only mixed16 (by kernel_rfl) ?_
          repeat (with_reducible refine wpQuiet_step ?_; intro K' hK'; go_simp; first | (with_reducible refine hK' _ ?_; clear hK' K') | (rw [if_neg]; rotate_left; (· simp [undef]); with_reducible refine hK' _ ?_; clear hK' K') | (apply Exists.intro; with_reducible refine ⟨fun _ => ?_, hK' _ ?_⟩; (go_at_call 42; with_reducible refine wat_call (HC.out _ (only_wat _ _ _))); clear hK' K'))
          refine wpQuiet_nil ?_
          rintro w' ⟨⟨nq, osq⟩, rfl⟩
          obtain ⟨W7, hW7, O7⟩ := wat_name wr nq osq
          rw [hW7]
          have O8 := Lib.hid (HO.out.trans O7.out)
          clear hW7 d0 d1
          go_wp2
          go_roundw
          case rel => exact ⟨k + 1, by omega, by go_num, HOK2, O8⟩
          case measure => simp [intOf]; omega
      · obtain rfl : k = o.length := by omega
        have hord : ordOk g.nd.length o = true := by have := HOK.out; rwa [List.take_length] at this
        have HE := Lib.hid (show ((allV ⟨pick g o, g.rt⟩).all (turnB o) = false → q = 2 ∧ G = ⟨[], []⟩) ∧ ((allV ⟨pick g o, g.rt⟩).all (turnB o) = true → q = 0 ∧ G = ⟨(pick g o).map (ndT o), turnT o g.rt⟩) by
          rcases HW.out with ⟨a, -⟩ | ⟨-, a, -⟩ | ⟨-, -, a, b⟩
          · rw [hok] at a; cases a
          · rw [hord] at a; cases a
          · exact ⟨fun h => ⟨HQ.out.1.trans (a h).1, HQ.out.2.trans (a h).2⟩, fun h => ⟨HQ.out.1.trans (b h).1, HQ.out.2.trans (b h).2⟩⟩)
        have HOR := Lib.hid (ordOk_iff.1 hord)
        obtain ⟨W8, hW8, o8, b8⟩ : ∃ W8, wr.alloc (.cells #[.slice none 0 0, .slice none 0 0] 25) = W8 ∧ Only nob wr W8 ∧ Blk W8 wr.heap.size 25 #[.slice none 0 0, .slice none 0 0] := ⟨_, rfl, (Only.refl nob wr).alloc _, Blk.new wr _ _⟩
        have HW8 := Lib.hid hW8
        obtain ⟨xb, hxb⟩ : ∃ xb, xb = wr.heap.size := ⟨_, rfl⟩
        have HXB := Lib.hid hxb
        rw [← hxb] at b8
        have hxb2 : w.heap.size + 1 < xb := by have := (HRB.out.keep HO.out id).lt; omega
        have G8 := Lib.hid (HGB.out.keep (HO.out.trans o8) id)
        have R8 := Lib.hid (HRB.out.keep (HO.out.trans o8) id)
        have X8 := Lib.hid b8
        have O8 := Lib.hid ((O1.out.trans HO.out).trans o8)
        clear hord hW8 hxb o8 b8 g0
        go_upto_region 9 with fail
        rw [HW8.out, ← HXB.out]
        clear HXB
        go_wp2_with fail
        obtain ⟨wo, rfl⟩ : ∃ wo : World, wo = wr := ⟨_, rfl⟩
        go_loopw [8, 9, 10, 11] (fun i _ _ _ wr => ∃ (k : Nat) (vo : Value) (js : List (Value × Value)), k ≤ o.length ∧ i = .int .i64 k ∧ Hid ((pick g (o.take k)).all (fun d => canT o d.fs) = true) ∧ Hid (Nds wr w.heap.size B ((pick g (o.take k)).map (ndT o)) js) ∧ Hid (wr.ownsRow w.heap.size 41 3 vo k (ndc (pick g (o.take k)) js)) ∧ Hid (Blk wr xb 25 #[vo, .slice none 0 0]) ∧ Hid (Blk wr w.heap.size 25 #[.slice A g.nd.length c, .slice Ar g.rt.length cr]) ∧ Hid (Blk wr (w.heap.size + 1) 25 #[.slice none 0 0, .slice none 0 0]) ∧ Hid (Only nob w wr)) (fun i _ _ _ _ => o.length - (intOf i).toNat)
        case atStart => exact ⟨0, .slice none 0 0, [], Nat.zero_le _, rfl, Lib.hid (by rw [List.take_zero]; rfl), Lib.hid ⟨rfl, fun i d h hd _ => by simp [pick] at hd⟩, Lib.hid (World.ownsRow_nil _ _ _ _), X8, G8, R8, O8⟩
        case round =>
          clear X8 G8 R8
          obtain ⟨k, vo, js, hk, rfl, HCA, HND, HRW, HX, HG, HRS, HO2⟩ := hrel
          have g0 : wr.cell? ⟨w.heap.size, 0, none⟩ = some (.slice A g.nd.length c) := HG.out.cell 0
          have g1 : wr.cell? ⟨w.heap.size, 1, none⟩ = some (.slice Ar g.rt.length cr) := HG.out.cell 1
          obtain ⟨Ax, cx, rfl, hcx, hmx⟩ := own_len HRW.out
          unfold maxLen at hmx
          have hBw : B ≤ wr.heap.size := Nat.le_trans hB HO2.out.size
          by_cases hlt : k < o.length
          · obtain ⟨x, hx⟩ : ∃ x, o[k]? = some x := ⟨_, List.getElem?_eq_getElem hlt⟩
            obtain ⟨hx0, hx1⟩ := HOR.out.1 x (List.mem_of_getElem? hx)
            obtain ⟨n, rfl⟩ : ∃ n : Nat, x = n := ⟨x.toNat, by omega⟩
            have hnn : n < g.nd.length := by omega
            obtain ⟨b1, o1, rfl, -, e0⟩ := sl_int HV.out (HO2.out.below hB fun _ h => h.elim) hx
            obtain ⟨d, hd⟩ : ∃ x, g.nd[n]? = some x := ⟨_, List.getElem?_eq_getElem hnn⟩
            obtain ⟨bb, oo, fv, rv, rfl, hbb, hh, q0, q1, q2, hnd⟩ := HR.out.at_ (HO2.out.below hB fun _ h => h.elim) hd
            obtain ⟨Af, cf, hfv, -⟩ := hnd.fields.form
            obtain ⟨Ar2, cr2, hrv, -⟩ := hnd.raws.form
            simp only at hfv hrv
            subst hfv hrv
            have HNR := Lib.hid hnd
            have HTK := Lib.hid (pick_snoc (g := g) hx hd)
            have HFL := Lib.hid (ndOk_iff.1 (HGO.out.1 d (List.mem_of_getElem? hd))).2.1
            have hk0 : (0 : Int) ≤ (k : Int) := by omega
            have hk1 : (k : Int) < (o.length : Int) := by omega
            have hn0 : (0 : Int) ≤ (n : Int) := by omega
            have hn1 : (n : Int) < (g.nd.length : Int) := by omega
            obtain ⟨kd, hkd⟩ : ∃ kd, kd = d.kd := ⟨_, rfl⟩
            have HKD := Lib.hid hkd
            rw [← hkd] at q0
            clear hx hd hh hnd hkd hx0 hx1 hnn
            go_upto_region 12 with fail
            have C1 := Lib.hid (And.intro g0 (And.intro e0 (And.intro q0 (And.intro q1 q2))))
            go_region_held3 (fun w' => w'.cell? ⟨w.heap.size, 0, none⟩ = some (.slice (some ⟨bb, oo, none⟩) g.nd.length c) ∧ w'.cell? ⟨b1, o1 + k, none⟩ = some (.int .i64 n) ∧ w'.cell? ⟨bb, oo + n * 3, none⟩ = some (.int .i64 kd) ∧ w'.cell? ⟨bb, oo + n * 3 + 1, none⟩ = some (.slice Af d.fs.length cf) ∧ w'.cell? ⟨bb, oo + n * 3 + 2, none⟩ = some (.slice Ar2 d.rs.length cr2)) (first | (with_reducible exact C1.out) | go_keep) (fail)
            obtain ⟨W2, hW2, o2, bn2⟩ : ∃ W2, (wr.alloc (.cells #[.int .i64 kd, .slice Af d.fs.length cf, .slice Ar2 d.rs.length cr2] 41)).drew = W2 ∧ Only nob wr W2 ∧ Blk W2 wr.heap.size 41 #[.int .i64 kd, .slice Af d.fs.length cf, .slice Ar2 d.rs.length cr2] :=
              ⟨_, rfl, ((Only.refl nob wr).alloc _).drewN 1, Blk.new wr _ _⟩
            rw [hW2]
            have O2 := Lib.hid o2
            have BN := Lib.hid bn2
            have d0 : W2.cell? ⟨wr.heap.size, 0, none⟩ = some (.int .i64 kd) := bn2.cell 0
            have d1 : W2.cell? ⟨wr.heap.size, 1, none⟩ = some (.slice Af d.fs.length cf) := bn2.cell 1
            have HTN := Lib.hid (rTurn16 (.slice Af d.fs.length cf) _ d.fs o B W2 (HNR.out.fields.below (o2.below hBw fun _ h => h.elim)) (HV.out.below ((HO2.out.trans o2).below hB fun _ h => h.elim)) (Nat.le_trans hBw o2.size) (by have := HFL.out; omega))
            clear hW2 o2 bn2 g0 g1 e0 q0 q1 q2 C1
            go_wp2_with fail
            go_at_call 43
            refine HTN.out.mono ?_
            cases hcan : canT o d.fs with
            | false =>
              have HF := Lib.hid (HE.out.1 (by
                rw [← canAll, show (pick g o).all (fun d => canT o d.fs) = false from by
                  rw [List.all_eq_false]
                  have hm : d ∈ pick g (o.take (k + 1)) := by rw [HTK.out]; simp
                  refine ⟨d, ?_, by rw [hcan]; simp⟩
                  unfold pick at hm ⊢
                  obtain ⟨z, hz, e⟩ := List.mem_map.1 hm
                  exact List.mem_map.2 ⟨z, List.mem_of_mem_take hz, e⟩]
                rfl))
              clear hcan
              rintro e w5 ⟨-, hno, o5⟩
              obtain rfl := hno rfl
              have O5 := Lib.hid (O2.out.trans o5)
              have B1 := HRS.out.keep O5.out id
              have b0 : w5.cell? ⟨w.heap.size + 1, 0, none⟩ = some (.slice none 0 0) := B1.cell 0
              have b1 : w5.cell? ⟨w.heap.size + 1, 1, none⟩ = some (.slice none 0 0) := B1.cell 1
              have fb0 := B1.free 0
              have fb1 := B1.free 1
              obtain ⟨U, hU, oU, U1⟩ := put_graph16 B1 (.slice none 0 0) (.slice none 0 0)
              have HU := Lib.hid hU
              have OU := Lib.hid ((HO2.out.trans O5.out).andThen oU fun i hi e => by unfold isb at e; omega)
              clear o5 hno d0 d1 B1 hU oU
              go_wp2
              rw [HU.out]
              have r0 : U.cell? ⟨w.heap.size + 1, 0, none⟩ = some (.slice none 0 0) := U1.cell 0
              have r1 : U.cell? ⟨w.heap.size + 1, 1, none⟩ = some (.slice none 0 0) := U1.cell 1
              refine bodyPost_ret (v := .tuple #[.agg #[.slice none 0 0, .slice none 0 0], .int .i64 2]) (by simp [results, Try.results25, go_sem, r0, r1]) rfl ?_
              exact ⟨.slice none 0 0, .slice none 0 0, [], by rw [HF.out.1], by rw [HF.out.2]; exact rd_none _, OU.out⟩
            | true =>
              have HCA2 := Lib.hid (show (pick g (o.take (k + 1))).all (fun d => canT o d.fs) = true by
                rw [HTK.out, List.all_append, HCA.out]
                simp [hcan])
              clear hcan
              rintro e w5 ⟨hyes, -, o5⟩
              obtain ⟨v', rfl, own5⟩ := hyes rfl
              obtain ⟨A5, c5, rfl, -⟩ := own_len own5
              have O5 := Lib.hid (O2.out.trans o5)
              have F5 := Lib.hid own5
              have BN5 := BN.out.keep o5 id
              have X5 := HX.out.keep O5.out id
              have x0 : w5.cell? ⟨xb, 0, none⟩ = some (.slice Ax k cx) := X5.cell 0
              have x1 : w5.cell? ⟨xb, 1, none⟩ = some (.slice none 0 0) := X5.cell 1
              have k0 : w5.cell? ⟨wr.heap.size, 0, none⟩ = some (.int .i64 kd) := BN5.cell 0
              have k2 : w5.cell? ⟨wr.heap.size, 2, none⟩ = some (.slice Ar2 d.rs.length cr2) := BN5.cell 2
              have HX5 := Lib.hid X5
              have h5s : wr.heap.size ≤ w5.heap.size := O5.out.size
              have hws : w.heap.size ≤ wr.heap.size := HO2.out.size
              have HW2s := Lib.hid O2.out.size
              obtain ⟨m5, hm5⟩ : ∃ m5, m5 = (turnT o d.fs).length := ⟨_, rfl⟩
              have HM5 := Lib.hid hm5
              rw [← hm5]
              have oA := (Only.refl nob w5).alloc (.cells #[.int .i64 kd, .slice A5 m5 c5, .slice Ar2 d.rs.length cr2] 41)
              have hox := Lib.hid (own_only (own_only HRW.out O5.out fun _ _ => id) oA fun _ _ => id)
              have XA := Lib.hid (X5.keep oA id)
              have OA := Lib.hid oA
              clear hyes own5 o5 BN5 X5 d0 d1 hm5 oA
              go_wp2_with (with_reducible refine wpList_append_sl (o := ⟨some 84, _, _, _, _, _⟩) _ rfl (.tmp 76) (.tmp 83) _ rfl w.heap.size 41 i0 _ 3 56 Try.underlying22 hi0 hz0 hz1 hz2 rfl (by decide) (.slice Ax k cx) k (ndc (pick g (o.take k)) js) rfl ?c1 (w5.heap.size + 1) (.slice (some ⟨w5.heap.size, 0, none⟩) 1 1) 1 [.int .i64 kd, .slice A5 m5 c5, .slice Ar2 d.rs.length cr2] rfl ?c6 (one_node16 _ _ _ _ _ _ _) ?c2 ?c3 ?c4 ?c5)
              case c1 => exact hox.out
              case c6 => exact (Sl.of_blk (size := 3) (n := 1) (c := 1) (Blk.new w5 41 #[.int .i64 kd, .slice A5 m5 c5, .slice Ar2 d.rs.length cr2]) rfl (Nat.le_refl _) (by decide)).more (by simp)
              case c2 => unfold maxLen; omega
              case c3 => omega
              case c4 => simp; omega
              case c5 =>
                intro v6 w6 H6 o6 _
                obtain ⟨A6, c6, rfl, -⟩ := own_len H6.out
                have X6 := XA.out.keep o6 (blk_own_ne16 XA.out hox.out (by decide))
                have y0 : w6.cell? ⟨xb, 0, none⟩ = some (.slice Ax k cx) := X6.cell 0
                have fy0 := X6.free 0
                obtain ⟨W7, hW7, o7, X7⟩ : ∃ W7, w6.setCell ⟨xb, 0, none⟩ (.slice A6 (k + 1) c6) = W7 ∧ Only (isb xb) w6 W7 ∧ Blk W7 xb 25 #[.slice A6 (k + 1) c6, .slice none 0 0] := ⟨_, rfl, only_set _ _ _ _, by simpa using X6.put 0 (.slice A6 (k + 1) c6)⟩
                have HW7 := Lib.hid hW7
                have HX7 := Lib.hid X7
                have o56 := O5.out.trans OA.out
                have G6 := (HG.out.keep o56 id).keep o6 (blk_own_ne16 (HG.out.keep o56 id) hox.out (by decide))
                have R6 := (HRS.out.keep o56 id).keep o6 (blk_own_ne16 (HRS.out.keep o56 id) hox.out (by decide))
                have G7 := Lib.hid (G6.keep o7 (by unfold isb; omega))
                have R7 := Lib.hid (R6.keep o7 (by unfold isb; omega))
                have HJL := HND.out.len
                rw [List.length_map] at HJL
                have hrow : w6.ownsRow w.heap.size 41 3 (.slice A6 (k + 1) c6) (k + 1) (ndc (pick g (o.take (k + 1))) (js ++ [(.slice A5 m5 c5, .slice Ar2 d.rs.length cr2)])) := by
                  rw [HTK.out, ndc_snoc _ _ _ _ HJL, ← HKD.out]; exact H6.out
                have HRW7 := Lib.hid (own_only hrow o7 (fun j e e2 => by unfold isb at e2; subst e2; exact blk_own_ne16 X6 hrow (by decide) e))
                have hn1 : Nds w5 w.heap.size B ((pick g (o.take (k + 1))).map (ndT o)) (js ++ [(.slice A5 m5 c5, .slice Ar2 d.rs.length cr2)]) := by
                  rw [HTK.out, List.map_append]
                  refine (HND.out.nob O5.out hBw).snoc ?_ ?_
                  · show w5.ownsRow w.heap.size 43 2 (.slice A5 m5 c5) (turnT o d.fs).length (spc (turnT o d.fs))
                    have := F5.out
                    rw [← HM5.out] at this ⊢
                    exact own_more this (fun j e => Nat.le_trans (Nat.le_trans hws HW2s.out) (own_lt this e).1)
                  · exact HNR.out.raws.below (O5.out.below hBw fun _ h => h.elim)
                have hn2 := hn1.nob OA.out (Nat.le_trans hBw h5s)
                have hn3 := hn2.keep o6 (Nat.le_trans hBw (Nat.le_trans h5s OA.out.size)) (fun j e => Nat.le_trans hB (own_lt hox.out e).1) (fun _ _ _ _ hw => own_apart16 hw hox.out (by decide))
                have HN7 := Lib.hid (hn3.keep o7 (Nat.le_trans hBw (Nat.le_trans h5s (Nat.le_trans OA.out.size o6.size))) (fun j e => by unfold isb at e; subst e; exact Nat.le_trans hB (Nat.le_of_lt (Nat.lt_of_succ_lt hxb2))) (fun _ _ _ _ hw j e e2 => by unfold isb at e2; subst e2; exact blk_own_ne16 X6 hw (by decide) e))
                have O7 := Lib.hid ((own_nob (HO2.out.trans o56) hox.out o6 (Nat.le_refl _)).andThen o7 fun i hi e => by unfold isb at e; omega)
                clear H6 o6 hW7 o7 X7 X6 G6 R6 hrow hn1 hn2 hn3 o56 HJL x0 x1 k0 k2
                go_wp2_with (with_reducible rw [HW7.out])
                go_roundw
                case rel => exact ⟨k + 1, _, _, by omega, by go_num, HCA2, HN7, HRW7, HX7, G7, R7, O7⟩
                case measure => simp [intOf]; omega
          · obtain rfl : k = o.length := by omega
            have HTK := Lib.hid (show o.take o.length = o from List.take_length)
            have HTN := Lib.hid (rTurn16 (.slice Ar g.rt.length cr) (.slice Al o.length cl) g.rt o B wr (HR.out.roots.below (HO2.out.below hB fun _ h => h.elim)) (HV.out.below (HO2.out.below hB fun _ h => h.elim)) hBw (by omega))
            go_wp2_with fail
            go_at_call 43
            refine HTN.out.mono ?_
            cases hcan : canT o g.rt with
            | false =>
              have HF := Lib.hid (HE.out.1 (by rw [← canAll, hcan, Bool.and_false]))
              clear hcan
              rintro e w5 ⟨-, hno, o5⟩
              obtain rfl := hno rfl
              have O5 := Lib.hid o5
              have B1 := HRS.out.keep O5.out id
              have b0 : w5.cell? ⟨w.heap.size + 1, 0, none⟩ = some (.slice none 0 0) := B1.cell 0
              have b1 : w5.cell? ⟨w.heap.size + 1, 1, none⟩ = some (.slice none 0 0) := B1.cell 1
              have fb0 := B1.free 0
              have fb1 := B1.free 1
              obtain ⟨U, hU, oU, U1⟩ := put_graph16 B1 (.slice none 0 0) (.slice none 0 0)
              have HU := Lib.hid hU
              have OU := Lib.hid ((HO2.out.trans O5.out).andThen oU fun i hi e => by unfold isb at e; omega)
              clear o5 hno B1 hU oU g0 g1
              go_wp2
              rw [HU.out]
              have r0 : U.cell? ⟨w.heap.size + 1, 0, none⟩ = some (.slice none 0 0) := U1.cell 0
              have r1 : U.cell? ⟨w.heap.size + 1, 1, none⟩ = some (.slice none 0 0) := U1.cell 1
              refine bodyPost_ret (v := .tuple #[.agg #[.slice none 0 0, .slice none 0 0], .int .i64 2]) (by simp [results, Try.results25, go_sem, r0, r1]) rfl ?_
              exact ⟨.slice none 0 0, .slice none 0 0, [], by rw [HF.out.1], by rw [HF.out.2]; exact rd_none _, OU.out⟩
            | true =>
              have HF := Lib.hid (HE.out.2 (by rw [← canAll, hcan, Bool.and_true]; have := HCA.out; rw [HTK.out] at this; exact this))
              clear hcan
              rintro e w5 ⟨hyes, -, o5⟩
              obtain ⟨v', rfl, own5⟩ := hyes rfl
              obtain ⟨A5, c5, rfl, -⟩ := own_len own5
              have O5 := Lib.hid o5
              have F5 := Lib.hid own5
              have X5 := HX.out.keep O5.out id
              have x0 : w5.cell? ⟨xb, 0, none⟩ = some (.slice Ax o.length cx) := X5.cell 0
              have x1 : w5.cell? ⟨xb, 1, none⟩ = some (.slice none 0 0) := X5.cell 1
              have fx1 := X5.free 1
              obtain ⟨m5, hm5⟩ : ∃ m5, m5 = (turnT o g.rt).length := ⟨_, rfl⟩
              have HM5 := Lib.hid hm5
              rw [← hm5]
              obtain ⟨W7, hW7, o7, X7⟩ : ∃ W7, w5.setCell ⟨xb, 1, none⟩ (.slice A5 m5 c5) = W7 ∧ Only (isb xb) w5 W7 ∧ Blk W7 xb 25 #[.slice Ax o.length cx, .slice A5 m5 c5] := ⟨_, rfl, only_set _ _ _ _, by simpa using X5.put 1 (.slice A5 m5 c5)⟩
              have HW7 := Lib.hid hW7
              have B1 := (HRS.out.keep O5.out id).keep o7 (by unfold isb; omega)
              have b0 : W7.cell? ⟨w.heap.size + 1, 0, none⟩ = some (.slice none 0 0) := B1.cell 0
              have b1 : W7.cell? ⟨w.heap.size + 1, 1, none⟩ = some (.slice none 0 0) := B1.cell 1
              have fb0 := B1.free 0
              have fb1 := B1.free 1
              have z0 : W7.cell? ⟨xb, 0, none⟩ = some (.slice Ax o.length cx) := X7.cell 0
              have z1 : W7.cell? ⟨xb, 1, none⟩ = some (.slice A5 m5 c5) := X7.cell 1
              obtain ⟨U, hU, oU, U1⟩ := put_graph16 B1 (.slice Ax o.length cx) (.slice A5 m5 c5)
              have HU := Lib.hid hU
              have OU := Lib.hid (((HO2.out.trans O5.out).andThen o7 fun i hi e => by unfold isb at e; omega).andThen oU fun i hi e => by unfold isb at e; omega)
              have oF : Only (fun j => j = xb ∨ j = w.heap.size + 1) w5 U := (o7.mono fun j _ e => .inl e).trans (oU.mono fun j _ e => .inr e)
              have hne : ∀ {b E s n v x}, w5.ownsRow b E s v n x → E ≠ 25 → ∀ j, v.ownBlock = some j → ¬ (j = xb ∨ j = w.heap.size + 1) := fun hw hE j e e2 => by
                rcases e2 with rfl | rfl
                · exact blk_own_ne16 X5 hw (fun e => hE e.symm) e
                · exact blk_own_ne16 (HRS.out.keep O5.out id) hw (fun e => hE e.symm) e
              have hB5 : B ≤ w5.heap.size := Nat.le_trans hBw O5.out.size
              have hn := (HND.out.nob O5.out hBw).keep oF hB5 (fun j e => by rcases e with rfl | rfl <;> omega) (fun _ _ _ _ hw => hne hw (by decide))
              have hrw := HRW.out
              rw [HTK.out] at hn hrw
              have hrw5 := own_only hrw O5.out fun _ _ => id
              have hrwU := own_only hrw5 oF (hne hrw5 (by decide))
              have hrtU := own_only F5.out oF (hne F5.out (by decide))
              have hBU : B ≤ U.heap.size := Nat.le_trans hB5 oF.size
              have HRD := Lib.hid (show RdG U U.heap.size ⟨(pick g o).map (ndT o), turnT o g.rt⟩ (.slice Ax o.length cx) (.slice A5 m5 c5) js from ⟨hn.len, by
                simp only [List.length_map, pick_len]
                rw [ndc_map16]
                exact Sl.of_own hrwU hrwU.1, fun i d h hd hh => ⟨Sl.of_own (hn.each i d h hd hh).1 (hn.each i d h hd hh).1.1, (hn.each i d h hd hh).2.more hBU⟩, by
                have := Sl.of_own hrtU hrtU.1
                rw [← HM5.out] at this ⊢
                exact this⟩)
              clear hyes own5 o5 X5 hW7 o7 X7 B1 hU oU oF hne hn hrw hrw5 hrwU hrtU hm5 g0 g1
              go_wp2_with (with_reducible rw [HW7.out])
              rw [HU.out]
              have r0 : U.cell? ⟨w.heap.size + 1, 0, none⟩ = some (.slice Ax o.length cx) := U1.cell 0
              have r1 : U.cell? ⟨w.heap.size + 1, 1, none⟩ = some (.slice A5 m5 c5) := U1.cell 1
              refine bodyPost_ret (v := .tuple #[.agg #[.slice Ax o.length cx, .slice A5 m5 c5], .int .i64 0]) (by simp [results, Try.results25, go_sem, r0, r1]) rfl ?_
              exact ⟨_, _, js, by rw [HF.out.1], by rw [HF.out.2]; exact HRD.out, OU.out⟩
end Go.Proofs.Ytmnehonmbjnnaaa

/- The document's own answer for graphs: two graphs held against one another. -/
namespace Go.Proofs.Ytmnehonmbjnnaaa
open Go.RowKit Go.Lib
set_option maxRecDepth 100000
set_option linter.unusedSimpArgs false
set_option linter.unusedVariables false

theorem sameG_rt {a b : Gr} (h : decide (a.rt = b.rt) = false) : sameG a b = false := by
  cases e : sameG a b with
  | false => rfl
  | true => exact absurd (sameG_iff.1 e).2 (of_decide_eq_false h)
theorem sameG_len {a b : Gr} (h : a.nd.length ≠ b.nd.length) : sameG a b = false := by
  cases e : sameG a b with
  | false => rfl
  | true => exact absurd (by rw [(sameG_iff.1 e).1]) h
theorem sameG_at {a b : Gr} {k : Nat} {x y : Nd} (hx : a.nd[k]? = some x) (hy : b.nd[k]? = some y) (h : sameN x y = false) : sameG a b = false := by
  cases e : sameG a b with
  | false => rfl
  | true =>
    have e2 := (sameG_iff.1 e).1
    rw [e2, hy] at hx
    rw [sameN_iff.2 (Option.some.inj hx).symm] at h
    cases h
theorem sameG_all {a b : Gr} (hl : a.nd.length = b.nd.length) (hr : decide (a.rt = b.rt) = true) (h : ∀ (j : Nat) x, j < a.nd.length → a.nd[j]? = some x → b.nd[j]? = some x) : sameG a b = true :=
  sameG_iff.2 ⟨eq_all16 hl h, of_decide_eq_true hr⟩
theorem two_nodes16 (w : World) (k k' : Int) (fv rv fv' rv' : Value) : ∃ V, ((w.alloc (.cells #[.int .i64 k, fv, rv] 41)).alloc (.cells #[.int .i64 k', fv', rv'] 41)).drew = V ∧ Only nob w V ∧ Blk V w.heap.size 41 #[.int .i64 k, fv, rv] ∧ Blk V (w.heap.size + 1) 41 #[.int .i64 k', fv', rv'] := by
  have h1 := (Blk.new w 41 #[.int .i64 k, fv, rv]).alloc (.cells #[.int .i64 k', fv', rv'] 41)
  have h2 := Blk.newAt (w.alloc (.cells #[.int .i64 k, fv, rv] 41)) 41 #[.int .i64 k', fv', rv'] (w.heap.size + 1) (by simp)
  exact ⟨_, rfl, (((Only.refl nob w).alloc _).alloc _).drewN 1, h1, h2⟩
set_option maxHeartbeats 8000000 in
theorem rSame16 : SameGC 14 := by
  intro g k vn vr un ur hs js B B' w hg hk hB hB' hf hf'
  have HG := Lib.hid hg
  have HK := Lib.hid hk
  have HVR := Lib.hid (fun (w' : World) (o : Only nob w w') => rVals16 vr ur g.rt k.rt B B' w' (hg.roots.below (o.below hB fun _ h => h.elim)) (hk.roots.below (o.below hB' fun _ h => h.elim)))
  obtain ⟨A, c, rfl, hac, hcm⟩ := hg.nodes.form
  obtain ⟨Ar, cr, rfl, -⟩ := hg.roots.form
  obtain ⟨A', c', rfl, hac', hcm'⟩ := hk.nodes.form
  obtain ⟨Ar', cr', rfl, -⟩ := hk.roots.form
  unfold maxLen at hcm hcm'
  obtain ⟨V, hV, oV, gV, kV⟩ : ∃ V, ((w.alloc (.cells #[.slice A g.nd.length c, .slice Ar g.rt.length cr] 25)).alloc (.cells #[.slice A' k.nd.length c', .slice Ar' k.rt.length cr'] 25)) = V ∧ Only nob w V ∧ Blk V w.heap.size 25 #[.slice A g.nd.length c, .slice Ar g.rt.length cr] ∧ Blk V (w.heap.size + 1) 25 #[.slice A' k.nd.length c', .slice Ar' k.rt.length cr'] :=
    ⟨_, rfl, ((Only.refl nob w).alloc _).alloc _, (Blk.new w _ _).alloc _, Blk.newAt _ _ _ _ (by simp)⟩
  have HV := Lib.hid hV
  have v0 : V.cell? ⟨w.heap.size, 0, none⟩ = some (.slice A g.nd.length c) := gV.cell 0
  have v1 : V.cell? ⟨w.heap.size, 1, none⟩ = some (.slice Ar g.rt.length cr) := gV.cell 1
  have u0 : V.cell? ⟨w.heap.size + 1, 0, none⟩ = some (.slice A' k.nd.length c') := kV.cell 0
  have u1 : V.cell? ⟨w.heap.size + 1, 1, none⟩ = some (.slice Ar' k.rt.length cr') := kV.cell 1
  have OV := Lib.hid oV
  have GV := Lib.hid gV
  have KV := Lib.hid kV
  obtain ⟨q, hq⟩ : ∃ q, q = sameG g k := ⟨_, rfl⟩
  have HQ := Lib.hid hq
  rw [← hq]
  clear hV oV gV kV hq hg hk hf hf'
  by_cases hlen : g.nd.length = k.nd.length
  · have HL := Lib.hid hlen
    obtain ⟨n, hn⟩ : ∃ n, n = g.nd.length := ⟨_, rfl⟩
    have hn2 := hn.trans hlen
    have HN1 := Lib.hid hn
    have HN2 := Lib.hid hn2
    rw [← hn] at HG hac HV v0 GV ⊢
    rw [← hn2] at HK hac' HV u0 KV ⊢
    clear hlen hn hn2
    go_enter Try.func14, Try.ntmps14
    go_upto_region 1 with fail
    rw [HV.out]
    go_wp2_with fail
    go_at_call 27
    refine (HVR.out V OV.out).mono ?_
    cases hrt : decide (g.rt = k.rt) with
    | false =>
      have HN := Lib.hid (show q = false from HQ.out.trans (sameG_rt hrt))
      clear hrt
      rintro e w1 ⟨rfl, o1⟩
      have O1 := Lib.hid (OV.out.trans o1)
      clear o1 v0 v1 u0 u1
      go_wp2
      go_ret
      exact ⟨ret_bool (by rw [HN.out]), O1.out⟩
    | true =>
      have HRT := Lib.hid hrt
      clear hrt
      rintro e w1 ⟨rfl, o1⟩
      have O1 := Lib.hid (OV.out.trans o1)
      have G1 := Lib.hid (GV.out.keep o1 id)
      have K1 := Lib.hid (KV.out.keep o1 id)
      clear o1 v0 v1 u0 u1
      go_wp2_with fail
      go_loopw [5, 6, 7] (fun i _ _ wr => ∃ m : Nat, m ≤ n ∧ i = .int .i64 m ∧ Hid (∀ (j : Nat) x, j < m → g.nd[j]? = some x → k.nd[j]? = some x) ∧ Hid (Only nob w1 wr)) (fun i _ _ _ => n - (intOf i).toNat)
      case atStart => exact ⟨0, Nat.zero_le _, rfl, fun j _ hj _ => absurd hj (Nat.not_lt_zero j), Lib.hid (Only.refl _ _)⟩
      case round =>
        obtain ⟨m, hm, rfl, hno, HO⟩ := hrel
        have g0 : wr.cell? ⟨w.heap.size, 0, none⟩ = some (.slice A n c) := HO.out.keeps (G1.out.cell 0)
        have k0 : wr.cell? ⟨w.heap.size + 1, 0, none⟩ = some (.slice A' n c') := HO.out.keeps (K1.out.cell 0)
        by_cases hlt : m < n
        · obtain ⟨x, hx⟩ : ∃ x, g.nd[m]? = some x := ⟨_, List.getElem?_eq_getElem (by rw [← HN1.out]; exact hlt)⟩
          obtain ⟨y, hy⟩ : ∃ y, k.nd[m]? = some y := ⟨_, List.getElem?_eq_getElem (by rw [← HN2.out]; exact hlt)⟩
          have RG := HG.out
          have RK := HK.out
          rw [HN1.out] at RG
          rw [HN2.out] at RK
          have OW := Lib.hid (O1.out.trans HO.out)
          obtain ⟨b1, o1, fv, rv, rfl, -, -, p0, p1, p2, hnd1⟩ := RG.at_ (OW.out.below hB fun _ h => h.elim) hx
          obtain ⟨b2, o2, fv', rv', rfl, -, -, q0, q1, q2, hnd2⟩ := RK.at_ (OW.out.below hB' fun _ h => h.elim) hy
          have HX := Lib.hid hx
          have HY := Lib.hid hy
          have HF := Lib.hid (fun (w' : World) (o : Only nob wr w') => rVals16 fv fv' x.fs y.fs B B' w' (hnd1.fields.below (o.below (Nat.le_trans hB OW.out.size) fun _ h => h.elim)) (hnd2.fields.below (o.below (Nat.le_trans hB' OW.out.size) fun _ h => h.elim)))
          have HR := Lib.hid (fun (w' : World) (o : Only nob wr w') => rWords16 rv rv' x.rs y.rs B B' w' (hnd1.raws.below (o.below (Nat.le_trans hB OW.out.size) fun _ h => h.elim)) (hnd2.raws.below (o.below (Nat.le_trans hB' OW.out.size) fun _ h => h.elim)))
          obtain ⟨Af, cf, hfv, -⟩ := hnd1.fields.form
          obtain ⟨Ar1, cr1, hrv, -⟩ := hnd1.raws.form
          obtain ⟨Af', cf', hfv', -⟩ := hnd2.fields.form
          obtain ⟨Ar1', cr1', hrv', -⟩ := hnd2.raws.form
          simp only at hfv hrv hfv' hrv'
          subst hfv hrv hfv' hrv'
          have hcs := sameN_cases x y
          obtain ⟨sn, hsn⟩ : ∃ sn, sn = sameN x y := ⟨_, rfl⟩
          have HSN := Lib.hid hsn
          obtain ⟨kx, hkx⟩ : ∃ z, z = x.kd := ⟨_, rfl⟩
          obtain ⟨ky, hky⟩ : ∃ z, z = y.kd := ⟨_, rfl⟩
          rw [← hkx] at p0
          rw [← hky] at q0
          rw [← hsn, ← hkx, ← hky] at hcs
          have hm0 : (0 : Int) ≤ (m : Int) := by omega
          have hm1 : (m : Int) < (n : Int) := by omega
          clear hx hy hnd1 hnd2 hkx hky RG RK hsn
          go_upto_region 6 with fail
          go_cut [6, 7] (fun s6 s7 wx => ∃ bx bY : Nat, s6 = .pointer (some ⟨bx, 0, none⟩) ∧ s7 = .pointer (some ⟨bY, 0, none⟩) ∧ Hid (Only nob wr wx ∧ Blk wx bx 41 #[.int .i64 kx, .slice Af x.fs.length cf, .slice Ar1 x.rs.length cr1] ∧ Blk wx bY 41 #[.int .i64 ky, .slice Af' y.fs.length cf', .slice Ar1' y.rs.length cr1']))
          case first =>
            have C1 := Lib.hid (And.intro g0 (And.intro k0 (And.intro p0 (And.intro p1 (And.intro p2 (And.intro q0 (And.intro q1 q2)))))))
            go_region_held3 (fun w' => w'.cell? ⟨w.heap.size, 0, none⟩ = some (.slice (some ⟨b1, o1, none⟩) n c) ∧ w'.cell? ⟨w.heap.size + 1, 0, none⟩ = some (.slice (some ⟨b2, o2, none⟩) n c') ∧ w'.cell? ⟨b1, o1 + m * 3, none⟩ = some (.int .i64 kx) ∧ w'.cell? ⟨b1, o1 + m * 3 + 1, none⟩ = some (.slice Af x.fs.length cf) ∧ w'.cell? ⟨b1, o1 + m * 3 + 2, none⟩ = some (.slice Ar1 x.rs.length cr1) ∧ w'.cell? ⟨b2, o2 + m * 3, none⟩ = some (.int .i64 ky) ∧ w'.cell? ⟨b2, o2 + m * 3 + 1, none⟩ = some (.slice Af' y.fs.length cf') ∧ w'.cell? ⟨b2, o2 + m * 3 + 2, none⟩ = some (.slice Ar1' y.rs.length cr1')) (first | (with_reducible exact C1.out) | go_keep) (fail)
            · obtain ⟨W5, hW5, oX, bX, bY⟩ := two_nodes16 wr kx ky (.slice Af x.fs.length cf) (.slice Ar1 x.rs.length cr1) (.slice Af' y.fs.length cf') (.slice Ar1' y.rs.length cr1')
              rw [hW5]
              clear hW5
              go_wp2
              go_meet
              exact ⟨_, _, rfl, rfl, Lib.hid ⟨oX, bX, bY⟩⟩
            · obtain ⟨W5, hW5, oX, bY, bX⟩ := two_nodes16 wr ky kx (.slice Af' y.fs.length cf') (.slice Ar1' y.rs.length cr1') (.slice Af x.fs.length cf) (.slice Ar1 x.rs.length cr1)
              rw [hW5]
              clear hW5
              go_wp2
              go_meet
              exact ⟨_, _, rfl, rfl, Lib.hid ⟨oX, bX, bY⟩⟩
          case rest =>
            obtain ⟨bx, bY, rfl, rfl, HC⟩ := hcut
            obtain ⟨W5, rfl⟩ : ∃ W5 : World, W5 = wc := ⟨_, rfl⟩
            have d0 : W5.cell? ⟨bx, 0, none⟩ = some (.int .i64 kx) := HC.out.2.1.cell 0
            have d1 : W5.cell? ⟨bx, 1, none⟩ = some (.slice Af x.fs.length cf) := HC.out.2.1.cell 1
            have d2 : W5.cell? ⟨bx, 2, none⟩ = some (.slice Ar1 x.rs.length cr1) := HC.out.2.1.cell 2
            have e0 : W5.cell? ⟨bY, 0, none⟩ = some (.int .i64 ky) := HC.out.2.2.cell 0
            have e1 : W5.cell? ⟨bY, 1, none⟩ = some (.slice Af' y.fs.length cf') := HC.out.2.2.cell 1
            have e2 : W5.cell? ⟨bY, 2, none⟩ = some (.slice Ar1' y.rs.length cr1') := HC.out.2.2.cell 2
            have OC := Lib.hid (HO.out.trans HC.out.1)
            clear g0 k0 p0 p1 p2 q0 q1 q2
            rcases hcs with ⟨h1, h2⟩ | ⟨rfl, h1, h2⟩ | ⟨rfl, h1, h2⟩
            · have HN := Lib.hid (show q = false from HQ.out.trans (sameG_at HX.out HY.out (HSN.out.symm.trans h2)))
              have hbq : (kx != ky) = true := by simpa using h1
              clear h1 h2
              go_wp2
              go_ret
              exact ⟨ret_bool (by rw [HN.out]), O1.out.trans OC.out⟩
            · have HN := Lib.hid (show q = false from HQ.out.trans (sameG_at HX.out HY.out (HSN.out.symm.trans h2)))
              rw [h1] at HF
              clear h1 h2
              go_wp2_with fail
              go_at_call 27
              refine (HF.out W5 HC.out.1).mono ?_
              rintro e w6 ⟨rfl, o6⟩
              have O6 := Lib.hid (OC.out.trans o6)
              clear o6 d0 d1 d2 e0 e1 e2
              go_wp2
              go_ret
              exact ⟨ret_bool (by rw [HN.out]), O1.out.trans O6.out⟩
            · rw [h1] at HF
              rw [← h2] at HR
              have HSS := Lib.hid HSN.out
              clear h1 h2
              go_wp2_with fail
              go_at_call 27
              refine (HF.out W5 HC.out.1).mono ?_
              rintro e w6 ⟨rfl, o6⟩
              have O6 := Lib.hid (OC.out.trans o6)
              have d2' := o6.keeps d2
              have e2' := o6.keeps e2
              have HC6 := Lib.hid (HC.out.1.trans o6)
              clear o6 d0 d1 d2 e0 e1 e2
              go_wp2_with fail
              go_at_call 28
              refine (HR.out w6 HC6.out).mono ?_
              cases sn with
              | false =>
                have HN := Lib.hid (show q = false from HQ.out.trans (sameG_at HX.out HY.out HSS.out.symm))
                rintro e w7 ⟨rfl, o7⟩
                have O7 := Lib.hid (O6.out.trans o7)
                clear o7 d2' e2'
                go_wp2
                go_ret
                exact ⟨ret_bool (by rw [HN.out]), O1.out.trans O7.out⟩
              | true =>
                have HEQ := Lib.hid (sameN_iff.1 HSS.out.symm)
                rintro e w7 ⟨rfl, o7⟩
                have O7 := Lib.hid (O6.out.trans o7)
                clear o7 d2' e2'
                go_wp2
                go_roundw
                case rel =>
                  refine ⟨m + 1, by omega, by go_num, fun j z hj hz => ?_, O7⟩
                  rcases Nat.lt_or_ge j m with h' | h'
                  · exact hno.out j z h' hz
                  · obtain rfl : j = m := by omega
                    rw [HX.out] at hz
                    rw [HY.out, ← HEQ.out]; exact hz
                case measure => simp [intOf]; omega
        · obtain rfl : m = n := by omega
          have HN := Lib.hid (show q = true from HQ.out.trans (sameG_all HL.out HRT.out fun j x hj => hno.out j x (by rw [HN1.out]; exact hj)))
          go_wp2
          go_ret
          exact ⟨ret_bool (by rw [HN.out]), O1.out.trans HO.out⟩
  · have HN := Lib.hid (show q = false from HQ.out.trans (sameG_len hlen))
    have hn1 : ¬ ((g.nd.length : Int) = (k.nd.length : Int)) := by omega
    go_enter Try.func14, Try.ntmps14
    go_upto_region 1 with fail
    rw [HV.out]
    go_wp2
    go_ret
    exact ⟨ret_bool (by rw [HN.out]), OV.out⟩
end Go.Proofs.Ytmnehonmbjnnaaa



/- The document's own answer for graphs: a copy. (Printed by wip/tools/gen_copy16.py.) -/
namespace Go.Proofs.Ytmnehonmbjnnaaa
open Go.RowKit Go.Lib
set_option maxRecDepth 100000
set_option linter.unusedSimpArgs false
set_option linter.unusedVariables false

theorem lit16 (w : World) (T : TypeId) (sz : Nat) : ∃ X, w.alloc (.cells #[] T) = X ∧ Only nob w X ∧ X.ownsRow w.heap.size T sz (.slice (some ⟨w.heap.size, 0, none⟩) 0 0) 0 [] := ⟨_, rfl, (Only.refl nob w).alloc _, lit_own w T sz⟩
/-- What the loop of Copy holds when k nodes are copied. -/
def CpI (w : World) (g : Gr) (vn vr ur : Value) (xb : Nat) (wx : World) (k : Nat) : Prop := ∃ Ax cx js, js.length = (g.nd.take k).length ∧ wx.ownsRow w.heap.size 41 3 (.slice Ax k cx) k (ndc (g.nd.take k) js) ∧ RwO wx w.heap.size (g.nd.take k) js ∧ wx.ownsRow w.heap.size 43 2 ur g.rt.length (spc g.rt) ∧
  Blk wx xb 25 #[.slice Ax k cx, ur] ∧ Blk wx w.heap.size 25 #[vn, vr] ∧ Blk wx (w.heap.size + 1) 25 #[.slice none 0 0, .slice none 0 0] ∧ Only nob w wx
end Go.Proofs.Ytmnehonmbjnnaaa
