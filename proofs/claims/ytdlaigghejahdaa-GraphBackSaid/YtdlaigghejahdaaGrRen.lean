/- Package graph: Renumber. -/
import Derived.Test.YtdlaigghejahdaaGrRenM
import Derived.OrdersIn
namespace Go.Proofs.Ytdlaigghejahdaa
open Go.RowKit Go.Lib Go.Shelf
set_option maxRecDepth 100000
set_option linter.unusedSimpArgs false
set_option linter.unusedVariables false
attribute [local go_sem] Oper.semAt_some

/-- An operation of a round that is no 'defer' statement is carried out as elsewhere. -/
theorem oper_round16 {m lp : Nat} {P : Program} {o : Oper} {a : Act} {w : World} {K : Act → World → Prop} {Q : Exit → Act → World → Prop} (hnd : ∀ c, o.op ≠ .defer c) (h : o.wpIn Fence.wide m P a w K Q) : o.wpIn (Fence.wide.inRound lp) m P a w K Q := by
  unfold Oper.wpIn at *
  refine ⟨fun _ _ => trivial, ?_⟩
  have h := h.2
  rw [show (Fence.wide.inRound lp).round = some lp from rfl, Oper.semAt_some lp _ o hnd]
  rw [show Fence.wide.round = none from rfl, Oper.semAt_none] at h
  generalize (execOp a.eval o).run P w = r at *
  cases r with
  | ok x w' => cases x <;> exact h
  | halt x w' => cases x <;> exact h
theorem any_round16 {m lp : Nat} {P : Program} {md : Region.Mode} {ops : Array Oper} {Q : Exit → Act → World → Prop} (hnd : ∀ (j : Nat) (o : Oper) c, ops[j]? = some o → o.op ≠ .defer c) :
    ∀ (f : Nat) (done : Array Bool) (a : Act) (w : World), wpAnyIn Fence.wide m P md ops Q f done a w → wpAnyIn (Fence.wide.inRound lp) m P md ops Q f done a w
  | 0, _, _, _, h => h
  | f + 1, done, a, w, h => by
    refine ⟨h.1, fun i hi => ?_⟩
    have h2 := h.2 i hi
    unfold wpOpIn at *
    cases ho : ops[i]? with
    | none =>
      simp only [ho] at h2 ⊢
      exact any_round16 hnd f _ _ _ h2
    | some o =>
      simp only [ho] at h2 ⊢
      split
      · rename_i hw
        simp only [hw, if_true] at h2
        exact oper_round16 (fun c => hnd i o c ho) (Oper.wpIn_mono (fun a' w' h' => any_round16 hnd f _ a' w' h') h2)
      · rename_i hw
        simp only [hw] at h2
        exact ⟨fun _ _ => trivial, any_round16 hnd f _ _ _ h2.2⟩
theorem region_round16 {m lp id : Nat} {P : Program} {l : List Oper} {Q : Exit → Act → World → Prop} {a : Act} {w : World} (hm : P.follows .mixedOrders = true) (hnd : (l.all fun o => match o.op with | .defer _ => false | _ => true) = true)
    (h : wpAnyIn Fence.wide m P .any l.toArray Q l.toArray.size (Array.replicate l.toArray.size false) a w.drew) : (Code.region id l.toArray true).wpIn (Fence.wide.inRound lp) m P Q a w := by
  refine wpIn_region_any hm (any_round16 (fun j o c ho e => ?_) _ _ _ _ h)
  have hmem : o ∈ l := by
    rw [List.getElem?_toArray] at ho
    exact List.mem_of_getElem? ho
  have := List.all_eq_true.1 hnd o hmem
  rw [e] at this
  cases this
theorem boxes_ren (w : World) (vn vr : Value) : ∃ V, (((w.alloc (.cells #[vn, vr] 25)).alloc (.cells #[.slice none 0 0, .slice none 0 0] 25)).alloc (.cells #[.int .i64 0] 39)) = V ∧ Hid (Only nob w V ∧ Blk V w.heap.size 25 #[vn, vr] ∧ Blk V (w.heap.size + 1) 25 #[.slice none 0 0, .slice none 0 0] ∧ Blk V (w.heap.size + 1 + 1) 39 #[.int .i64 0]) :=
  ⟨_, rfl, Lib.hid ⟨(((Only.refl nob w).alloc _).alloc _).alloc _, ((Blk.new w _ _).alloc _).alloc _, (Blk.newAt _ _ _ _ (by simp)).alloc _, Blk.newAt _ _ _ _ (by simp)⟩⟩
/-- The boxes of the places and of whether all is well. -/
theorem boxes_ok (w : World) (mv : Value) (b : Bool) : ∃ X W, ((w.alloc (.cells #[.map none] 60)).alloc (.cells #[.bool false] 4)) = X ∧ ((X.setCell ⟨w.heap.size, 0, none⟩ mv).setCell ⟨w.heap.size + 1, 0, none⟩ (.bool b)) = W ∧ Hid (Only nob w W ∧ Blk X w.heap.size 60 #[.map none] ∧ Blk X (w.heap.size + 1) 4 #[.bool false] ∧ Blk W w.heap.size 60 #[mv] ∧ Blk W (w.heap.size + 1) 4 #[.bool b]) := by
  have h1 : Blk ((w.alloc (.cells #[.map none] 60)).alloc (.cells #[.bool false] 4)) w.heap.size 60 #[.map none] := (Blk.new w _ _).alloc _
  have h2 : Blk ((w.alloc (.cells #[.map none] 60)).alloc (.cells #[.bool false] 4)) (w.heap.size + 1) 4 #[.bool false] := Blk.newAt _ _ _ _ (by simp)
  refine ⟨_, _, rfl, rfl, Lib.hid ⟨?_, h1, h2, ?_, ?_⟩⟩
  · exact ((((Only.refl nob w).alloc _).alloc _).setCell (p := ⟨w.heap.size, 0, none⟩) (fun h => absurd h (Nat.lt_irrefl _)) _).setCell (p := ⟨w.heap.size + 1, 0, none⟩) (fun h => absurd h (by show ¬ w.heap.size + 1 < w.heap.size; omega)) _
  · simpa using (h1.put 0 mv).other (p := ⟨w.heap.size + 1, 0, none⟩) (by show w.heap.size + 1 ≠ w.heap.size; omega) (.bool b)
  · simpa using (h2.other (p := ⟨w.heap.size, 0, none⟩) (by show w.heap.size ≠ w.heap.size + 1; omega) mv).put 0 (.bool b)
/-- The results' cells are written. -/
theorem res_ren {W : World} {rb eb : Nat} (B1 : Blk W rb 25 #[.slice none 0 0, .slice none 0 0]) (B2 : Blk W eb 39 #[.int .i64 0]) (hne : rb ≠ eb) (vn vr : Value) (e : Int) :
    ∃ U, (((W.setCell ⟨rb, 0, none⟩ vn).setCell ⟨rb, 1, none⟩ vr).setCell ⟨eb, 0, none⟩ (.int .i64 e)) = U ∧ Only (fun k => k = rb ∨ k = eb) W U ∧ Blk U rb 25 #[vn, vr] ∧ Blk U eb 39 #[.int .i64 e] := by
  refine ⟨_, rfl, ?_, ?_, ?_⟩
  · exact (((only_set W rb 0 vn).mono fun _ _ e => .inl e).trans ((only_set _ rb 1 vr).mono fun _ _ e => .inl e)).trans ((only_set _ eb 0 _).mono fun _ _ e => .inr e)
  · have := (((B1.put 0 vn).put 1 vr).other (p := ⟨eb, 0, none⟩) (fun e => hne e.symm) (.int .i64 e))
    simpa using this
  · have := (((B2.other (p := ⟨rb, 0, none⟩) hne vn).other (p := ⟨rb, 1, none⟩) hne vr).put 0 (.int .i64 e))
    simpa using this
set_option maxHeartbeats 8000000 in
theorem renumber_any16 : RenGC 18 := by
  intro g o vn vr v hs B w h hv hB hfit hn hrt hl hob
  have HR := Lib.hid h
  have HV := Lib.hid hv
  have HFIT := Lib.hid hfit
  have HOB := Lib.hid hob
  have HW := Lib.hid (rn_ways g o)
  obtain ⟨A, c, rfl, hac, hcm⟩ := h.nodes.form
  obtain ⟨Ar, cr, rfl, harc, hcrm⟩ := h.roots.form
  obtain ⟨Al, cl, rfl, hal, hcl⟩ := hv.form
  unfold maxLen at hcm hcrm hcl
  obtain ⟨V, hV, HVB⟩ := boxes_ren w (.slice A g.nd.length c) (.slice Ar g.rt.length cr)
  have HVE := Lib.hid hV
  have HRG := Lib.hid (right_any16 g _ _ hs B V (HR.out.only HVB.out.1 hB) (Nat.le_trans hB HVB.out.1.size) hfit)
  have v0 : V.cell? ⟨w.heap.size, 0, none⟩ = some (.slice A g.nd.length c) := HVB.out.2.1.cell 0
  have v1 : V.cell? ⟨w.heap.size, 1, none⟩ = some (.slice Ar g.rt.length cr) := HVB.out.2.1.cell 1
  obtain ⟨q, hq⟩ : ∃ q, q = rnE g o := ⟨_, rfl⟩
  obtain ⟨G, hG⟩ : ∃ G, G = rnG g o := ⟨_, rfl⟩
  have HQ := Lib.hid (And.intro hq hG)
  rw [← hq, ← hG]
  clear hV hq hG h hv hfit hob
  refine (callsIn_wide (n := 3)).1 ?_
  refine callsIn_of_wp_marks Try.func18 rfl trivial ?_ rfl
  simp only [Try.ntmps18, List.size_toArray, List.length_cons, List.length_nil, Nat.reduceAdd, Nat.reduceSub, Array.replicate_succ, Array.replicate_zero, List.push_toArray, List.append_toArray, List.nil_append, List.cons_append]
  gi_wp2_with (with_reducible rw [HVE.out])
  refine ⟨trivial, ?_⟩
  gi_at_call 11
  refine (callsIn_wide.2 HRG.out).mono ?_
  cases hok : grOk g with
  | false =>
    have HE := Lib.hid (show q = 4 ∧ G = ⟨[], []⟩ by
      rcases HW.out with ⟨-, a, b⟩ | ⟨a, -⟩ | ⟨a, -⟩
      · exact ⟨HQ.out.1.trans a, HQ.out.2.trans b⟩
      · rw [hok] at a; cases a
      · rw [hok] at a; cases a)
    clear hok
    rintro e w1 ⟨rfl, o1⟩
    have O1 := Lib.hid (HVB.out.1.trans o1)
    have B1 := HVB.out.2.2.1.keep o1 id
    have B2 := HVB.out.2.2.2.keep o1 id
    have b0 : w1.cell? ⟨w.heap.size + 1, 0, none⟩ = some (.slice none 0 0) := B1.cell 0
    have b1 : w1.cell? ⟨w.heap.size + 1, 1, none⟩ = some (.slice none 0 0) := B1.cell 1
    have e0 : w1.cell? ⟨w.heap.size + 1 + 1, 0, none⟩ = some (.int .i64 0) := B2.cell 0
    have fb0 := B1.free 0
    have fb1 := B1.free 1
    have fe0 := B2.free 0
    obtain ⟨U, hU, oU, U1, U2⟩ := res_ren B1 B2 (by omega) (.slice none 0 0) (.slice none 0 0) 4
    have HU := Lib.hid hU
    have OU := Lib.hid (O1.out.andThen oU fun i hi e => by omega)
    clear o1 B1 B2 hU oU v0 v1
    gi_wp2
    rw [HU.out]
    have r0 : U.cell? ⟨w.heap.size + 1, 0, none⟩ = some (.slice none 0 0) := U1.cell 0
    have r1 : U.cell? ⟨w.heap.size + 1, 1, none⟩ = some (.slice none 0 0) := U1.cell 1
    have s0 : U.cell? ⟨w.heap.size + 1 + 1, 0, none⟩ = some (.int .i64 4) := U2.cell 0
    refine ⟨.tuple #[.agg #[.slice none 0 0, .slice none 0 0], .int .i64 4], ?_, .slice none 0 0, .slice none 0 0, [], by rw [HE.out.1], by rw [HE.out.2]; exact rd_none _, OU.out⟩
    simp [results, Try.results18, go_sem, r0, r1, s0]
  | true =>
    rintro e w1 ⟨rfl, o1⟩
    have O1 := Lib.hid (HVB.out.1.trans o1)
    have u0 := o1.keeps v0
    have u1 := o1.keeps v1
    have HPL := Lib.hid (placesBy_any o g.nd.length (.slice Al o.length cl) B w1 (HV.out.below (O1.out.below hB fun _ h => h.elim)) (Nat.le_trans hB O1.out.size) (by omega) hl HOB.out)
    have B1 := Lib.hid (HVB.out.2.2.1.keep o1 id)
    have B2 := Lib.hid (HVB.out.2.2.2.keep o1 id)
    clear o1 v0 v1
    gi_wp2_with fail
    refine ⟨trivial, ?_⟩
    gi_at_call 32
    refine (callsIn_wide.2 HPL.out).mono ?_
    cases hord : ordOk g.nd.length o with
    | false =>
      have HE := Lib.hid (show q = 1 ∧ G = ⟨[], []⟩ by
        rcases HW.out with ⟨a, -⟩ | ⟨-, -, a, b⟩ | ⟨-, a, -⟩
        · rw [hok] at a; cases a
        · exact ⟨HQ.out.1.trans a, HQ.out.2.trans b⟩
        · rw [hord] at a; cases a)
      clear hok hord
      rintro e w2 ⟨-, hno, o2⟩
      obtain rfl := hno rfl
      obtain ⟨X3, W3, hX3, hW3, HB3⟩ := boxes_ok w2 (.map none) false
      have HX3 := Lib.hid hX3
      have HW3 := Lib.hid hW3
      have o4 := o2.trans HB3.out.1
      have bk := HB3.out.2.2.2.2
      have x0 : X3.cell? ⟨w2.heap.size, 0, none⟩ = some (.map none) := HB3.out.2.1.cell 0
      have x1 : X3.cell? ⟨w2.heap.size + 1, 0, none⟩ = some (.bool false) := HB3.out.2.2.1.cell 0
      have fx0 := HB3.out.2.1.free 0
      have fx1 := HB3.out.2.2.1.free 0
      have O3 := Lib.hid (O1.out.trans o4)
      have D1 := B1.out.keep o4 id
      have D2 := B2.out.keep o4 id
      have k0 : W3.cell? ⟨w2.heap.size + 1, 0, none⟩ = some (.bool false) := bk.cell 0
      have b0 : W3.cell? ⟨w.heap.size + 1, 0, none⟩ = some (.slice none 0 0) := D1.cell 0
      have b1 : W3.cell? ⟨w.heap.size + 1, 1, none⟩ = some (.slice none 0 0) := D1.cell 1
      have e0 : W3.cell? ⟨w.heap.size + 1 + 1, 0, none⟩ = some (.int .i64 0) := D2.cell 0
      have fb0 := D1.free 0
      have fb1 := D1.free 1
      have fe0 := D2.free 0
      obtain ⟨U, hU, oU, U1, U2⟩ := res_ren D1 D2 (by omega) (.slice none 0 0) (.slice none 0 0) 1
      have HU := Lib.hid hU
      have OU := Lib.hid (O3.out.andThen oU fun i hi e => by omega)
      clear o2 o4 hX3 hW3 bk D1 D2 hU oU u0 u1 hno
      gi_wp2_with (first | (with_reducible rw [HX3.out]) | (with_reducible rw [HW3.out]))
      rw [HU.out]
      have r0 : U.cell? ⟨w.heap.size + 1, 0, none⟩ = some (.slice none 0 0) := U1.cell 0
      have r1 : U.cell? ⟨w.heap.size + 1, 1, none⟩ = some (.slice none 0 0) := U1.cell 1
      have s0 : U.cell? ⟨w.heap.size + 1 + 1, 0, none⟩ = some (.int .i64 1) := U2.cell 0
      refine ⟨.tuple #[.agg #[.slice none 0 0, .slice none 0 0], .int .i64 1], ?_, .slice none 0 0, .slice none 0 0, [], by rw [HE.out.1], by rw [HE.out.2]; exact rd_none _, OU.out⟩
      simp [results, Try.results18, go_sem, r0, r1, s0]
    | true =>
      have HE := Lib.hid (show ((allV ⟨pick g o, g.rt⟩).all (turnB o) = false → q = 2 ∧ G = ⟨[], []⟩) ∧ ((allV ⟨pick g o, g.rt⟩).all (turnB o) = true → q = 0 ∧ G = ⟨(pick g o).map (ndT o), turnT o g.rt⟩) by
        rcases HW.out with ⟨a, -⟩ | ⟨-, a, -⟩ | ⟨-, -, a, b⟩
        · rw [hok] at a; cases a
        · rw [hord] at a; cases a
        · exact ⟨fun h => ⟨HQ.out.1.trans (a h).1, HQ.out.2.trans (a h).2⟩, fun h => ⟨HQ.out.1.trans (b h).1, HQ.out.2.trans (b h).2⟩⟩)
      have HGO := Lib.hid (grOk_iff.1 hok)
      have HOR := Lib.hid (ordOk_iff.1 hord)
      clear hok hord
      rintro e w2 ⟨hyes, -, o2⟩
      obtain ⟨mp, rfl, hmp, pm⟩ := hyes rfl
      obtain ⟨X3, W3, hX3, hW3, HB3⟩ := boxes_ok w2 (.map (some mp)) true
      have HX3 := Lib.hid hX3
      have HW3 := Lib.hid hW3
      have o4 := o2.trans HB3.out.1
      have O3 := Lib.hid (O1.out.trans o4)
      have PM3 := Lib.hid (pm.keep HB3.out.1 id)
      have D1 := Lib.hid (B1.out.keep o4 id)
      have D2 := Lib.hid (B2.out.keep o4 id)
      have y0 := o4.keeps u0
      have y1 := o4.keeps u1
      have bk : W3.cell? ⟨w2.heap.size + 1, 0, none⟩ = some (.bool true) := HB3.out.2.2.2.2.cell 0
      have x0 : X3.cell? ⟨w2.heap.size, 0, none⟩ = some (.map none) := HB3.out.2.1.cell 0
      have x1 : X3.cell? ⟨w2.heap.size + 1, 0, none⟩ = some (.bool false) := HB3.out.2.2.1.cell 0
      have fx0 := HB3.out.2.1.free 0
      have fx1 := HB3.out.2.2.1.free 0
      have hw12 : w1.heap.size ≤ w2.heap.size := o2.size
      have h13 : w.heap.size ≤ w1.heap.size := O1.out.size
      have HPK := Lib.hid (pick_any16 g o (.slice A g.nd.length c) (.slice Ar g.rt.length cr) (.slice Al o.length cl) hs B W3 (HR.out.only O3.out hB) (HV.out.below (O3.out.below hB fun _ h => h.elim)) (Nat.le_trans hB O3.out.size) (by omega) hl HOR.out.1)
      have hmpW : w.heap.size ≤ mp := by omega
      clear o2 o4 hX3 hW3 u0 u1 hyes pm hmp
      gi_wp2_with (first | (with_reducible rw [HX3.out]) | (with_reducible rw [HW3.out]))
      clear x0 x1 fx0 fx1
      refine ⟨trivial, ?_⟩
      gi_at_call 33
      refine (callsIn_wide.2 HPK.out).mono ?_
      rintro e w4 ⟨un, rfl, hr4, o4⟩
      obtain ⟨A4, c4, rfl, -⟩ := hr4.nodes.form
      have HCP := Lib.hid (copy_any16 ⟨pick g o, g.rt⟩ _ _ _ w4.heap.size w4 hr4 (Nat.le_refl _) (by simp only [pick_len]; omega) (fun d hd => by
        obtain ⟨-, q1, q2, -⟩ := ndOk_iff.1 (HGO.out.1 d (mem_pick HOR.out.1 hd))
        omega) (by simp only; omega))
      have O4 := Lib.hid (O3.out.trans o4)
      have P4 := Lib.hid (PM3.out.keep o4 id)
      have D41 := Lib.hid (D1.out.keep o4 id)
      have D42 := Lib.hid (D2.out.keep o4 id)
      have K41 := Lib.hid (HB3.out.2.2.2.1.keep o4 id)
      have K42 := Lib.hid (HB3.out.2.2.2.2.keep o4 id)
      clear o4 y0 y1 bk hr4
      gi_wp2_with fail
      refine ⟨trivial, ?_⟩
      gi_at_call 23
      refine (callsIn_wide.2 HCP.out).mono ?_
      rintro e w5 ⟨un, ur, js, rfl, hw5, o5⟩
      obtain ⟨A5, c5, rfl, -⟩ := own_len hw5.nodes
      obtain ⟨A6, c6, rfl, -⟩ := own_len hw5.roots
      have HG5 := Lib.hid hw5
      simp only [pick_len] at HG5
      have O5 := Lib.hid (O4.out.trans o5)
      have P5 := Lib.hid (P4.out.keep o5 id)
      have D51 := Lib.hid (D41.out.keep o5 id)
      have D52 := Lib.hid (D42.out.keep o5 id)
      have K51 := Lib.hid (K41.out.keep o5 id)
      have K52 := Lib.hid (K42.out.keep o5 id)
      have h45 : w4.heap.size ≤ w5.heap.size := o5.size
      have h04 : w.heap.size ≤ w4.heap.size := O4.out.size
      clear o5 hw5
      simp only [pick_len]
      gi_wp2_with (refine ⟨trivial, ?_⟩; gi_at_call 26; refine (values_in _ _ _ _).mono ?_; rintro e w' ⟨rfl, rfl⟩)
      obtain ⟨W0, hW0, o0, hz0, bm0, bB0⟩ : ∃ W0, ((w5.alloc (.cells #[.slice A5 o.length c5, .slice A6 g.rt.length c6] 25)).alloc (.cells #[.slice A5 o.length c5, .slice A6 g.rt.length c6] 25)) = W0 ∧ Only nob w5 W0 ∧ w5.heap.size + 2 ≤ W0.heap.size ∧ Blk W0 w5.heap.size 25 #[.slice A5 o.length c5, .slice A6 g.rt.length c6] ∧ Blk W0 (w5.heap.size + 1) 25 #[.slice A5 o.length c5, .slice A6 g.rt.length c6] :=
        ⟨_, rfl, ((Only.refl nob w5).alloc _).alloc _, by simp, (Blk.new w5 _ _).alloc _, Blk.newAt _ _ _ _ (by simp)⟩
      rw [hW0]
      have HG0 := Lib.hid (HG5.out.nob o0)
      have P0 := Lib.hid (P5.out.keep o0 id)
      have HRB0 := Lib.hid (D51.out.keep o0 id)
      have HEB0 := Lib.hid (D52.out.keep o0 id)
      have HPB0 := Lib.hid (K51.out.keep o0 id)
      have HOB0 := Lib.hid (K52.out.keep o0 id)
      have HMB0 := Lib.hid bm0
      have OW0 := Lib.hid (O5.out.trans o0)
      have HVB2 := Lib.hid (show ∀ k t cs, Blk W0 k t cs → t ≠ 4 → t ≠ 46 → ¬ (k = w2.heap.size + 1 ∨ VG js (.slice A6 g.rt.length c6) k) from fun k t cs hb h1 h2 h3 => by
        rcases h3 with rfl | h3
        · exact absurd rfl (hb.ne HOB0.out h1)
        · obtain ⟨cs', h4⟩ := HG0.out.vals h3
          exact absurd rfl (hb.ne h4 h2))
      have HVM := Lib.hid (show ¬ (mp = w2.heap.size + 1 ∨ VG js (.slice A6 g.rt.length c6) mp) from fun h3 => by
        rcases h3 with h3 | h3
        · exact P0.out.ne_blk HOB0.out h3.symm
        · obtain ⟨cs', h4⟩ := HG0.out.vals h3
          exact P0.out.ne_blk h4 rfl)
      have HVC := Lib.hid (show ∀ k, (k = w2.heap.size + 1 ∨ VG js (.slice A6 g.rt.length c6) k) → ∃ t cs, Blk W0 k t cs ∧ t ≠ 34 from fun k h3 => by
        rcases h3 with rfl | h3
        · exact ⟨_, _, HOB0.out, by decide⟩
        · obtain ⟨cs', h4⟩ := HG0.out.vals h3
          exact ⟨_, _, h4, by decide⟩)
      have HVL := Lib.hid (show ∀ k, (k = w2.heap.size + 1 ∨ VG js (.slice A6 g.rt.length c6) k) → ¬ k < w.heap.size from fun k h3 hk => by
        rcases h3 with rfl | ⟨i, x, hx, e⟩ | e
        · omega
        · obtain ⟨d, hd⟩ : ∃ d, (pick g o)[i]? = some d := ⟨_, List.getElem?_eq_getElem (by have := (List.getElem?_eq_some_iff.1 hx).1; rw [HG0.out.len] at this; exact this)⟩
          have := (own_lt (HG0.out.rows i d x hd hx).fs e).1
          omega
        · have := (own_lt HG0.out.roots e).1
          omega)
      have hh0 : W0.cell? ⟨w5.heap.size + 1, 0, none⟩ = some (.slice A5 o.length c5) := bB0.cell 0
      have hh1 : W0.cell? ⟨w5.heap.size + 1, 1, none⟩ = some (.slice A6 g.rt.length c6) := bB0.cell 1
      have hVBn := HVB2.out _ _ _ bB0 (by decide) (by decide)
      clear hW0 o0 bm0 bB0
      refine wpIn_rangeFunc_ownH rfl (by decide) (gf := 44) (lb := #[.pointer (some ⟨w5.heap.size + 1, 0, none⟩)]) rfl trivial (enters_of Try.func44 (by kernel_rfl) rfl)
        (itValues (w5.heap.size + 1) W0.heap.size (fun k => k = w2.heap.size + 1 ∨ VG js (.slice A6 g.rt.length c6) k) ⟨pick g o, g.rt⟩ (.slice A5 o.length c5) (.slice A6 g.rt.length c6) js W0 (by omega) hVBn hh0 hh1 (HG0.out.hd (Nat.le_refl _) HVC.out) (Nat.le_refl _)) KeepsV.trans (fun W l o o' h1 _ _ _ => KeepsV.putObj W l o' h1) (Below.refl _ _) (fun _ => rfl)
        (fun pre W => ∃ cur, TurnI ⟨pick g o, g.rt⟩ o pre cur ∧ OwG W w4.heap.size cur (.slice A5 o.length c5) (.slice A6 g.rt.length c6) js ∧ Blk W (w2.heap.size + 1) 4 #[.bool true] ∧ Only (fun k => k = w2.heap.size + 1 ∨ VG js (.slice A6 g.rt.length c6) k) W0 W)
        (fun c pre W => c = .ret ∧ (∃ pre0 x cur, pre = pre0 ++ [x] ∧ TurnI ⟨pick g o, g.rt⟩ o pre0 cur ∧ turnB o (plcV cur x.1) = false) ∧ Blk W (w.heap.size + 1) 25 #[.slice none 0 0, .slice none 0 0] ∧ Blk W (w.heap.size + 1 + 1) 39 #[.int .i64 2] ∧ Only nob w W)
        ?hI ?hIx ⟨_, TurnI.nil _ _, HG0.out, HOB0.out, Only.refl _ _⟩
        (fun x a' W => a' = { tmps := #[.agg #[.slice A g.nd.length c, .slice Ar g.rt.length cr], .slice Al o.length cl, .pointer (some ⟨w.heap.size, 0, none⟩), undef, .pointer (some ⟨w.heap.size + 1, 0, none⟩), .pointer (some ⟨w.heap.size + 1 + 1, 0, none⟩), .pointer (some ⟨w2.heap.size, 0, none⟩), .pointer (some ⟨w2.heap.size + 1, 0, none⟩), .pointer (some ⟨w5.heap.size, 0, none⟩), .pointer (adr (hdr js (.slice A6 g.rt.length c6) x.1.1) x.1.2), .agg #[.slice A g.nd.length c, .slice Ar g.rt.length cr], .bool true, .bool false, undef, .tuple #[.map (some mp), .bool true], .slice Al o.length cl, .pointer (some ⟨w.heap.size, 0, none⟩), .slice A g.nd.length c, .int .i64 g.nd.length, .tuple #[.map (some mp), .bool true], .map (some mp), .bool true, .bool true, .bool false, undef, .agg #[.slice A g.nd.length c, .slice Ar g.rt.length cr], .slice Al o.length cl, .agg #[.slice A4 o.length c4, .slice Ar g.rt.length cr], .agg #[.slice A5 o.length c5, .slice A6 g.rt.length c6], .agg #[.slice A5 o.length c5, .slice A6 g.rt.length c6], .func (.func 44) #[] #[.pointer (some ⟨w5.heap.size + 1, 0, none⟩)], .pointer (adr (hdr js (.slice A6 g.rt.length c6) x.1.1) x.1.2), undef, undef, undef, undef, undef, undef, undef, undef, undef, undef, undef, undef, undef, undef, undef, undef, undef, undef, undef, undef, undef], defers := [] })
        (fun x a' _ X Y row hs hg hr => hs)
        ?assign ?body ?done ?stop
      case hI =>
        rintro pre W W' row ⟨cur, h1, h2, h3, h4⟩ hg hr
        exact ⟨cur, h1, h2.kept hg fun r e => (hr r e).2, blk_kept16 h3 hg fun r e => (hr r e).2, only_from16 h4 hg fun k e => (hr k e).1⟩
      case hIx =>
        rintro c pre W W' row ⟨rfl, h1, h2, h3, h4⟩ hg hr
        exact ⟨rfl, h1, blk_kept16 h2 hg fun r e => (hr r e).2, blk_kept16 h3 hg fun r e => (hr r e).2, only_from16 h4 hg fun k e => Nat.le_trans OW0.out.size (hr k e).1⟩
      case assign =>
        rintro lp pre x W K hI hK
        dsimp only [plcE]
        gi_wp2
        exact hK _ _ ((KeepsOthers.refl _).from _) (KeepsV.refl _ _ _) hI rfl
      case body =>
        rintro lp pre x a' W hlp ⟨r, hr⟩ ⟨cur, hT, hG, hK, hO⟩ rfl hlt
        have HT := Lib.hid hT
        have HG := Lib.hid hG
        have HK := Lib.hid hK
        have HO := Lib.hid hO
        have HP := Lib.hid (P0.out.keep (F := fun k => k = w2.heap.size + 1 ∨ VG js (.slice A6 g.rt.length c6) k) hO HVM.out)
        have HPB := Lib.hid (HPB0.out.keep (F := fun k => k = w2.heap.size + 1 ∨ VG js (.slice A6 g.rt.length c6) k) hO (HVB2.out _ _ _ HPB0.out (by decide) (by decide)))
        have HRB := Lib.hid (HRB0.out.keep (F := fun k => k = w2.heap.size + 1 ∨ VG js (.slice A6 g.rt.length c6) k) hO (HVB2.out _ _ _ HRB0.out (by decide) (by decide)))
        have HEB := Lib.hid (HEB0.out.keep (F := fun k => k = w2.heap.size + 1 ∨ VG js (.slice A6 g.rt.length c6) k) hO (HVB2.out _ _ _ HEB0.out (by decide) (by decide)))
        have HOW := Lib.hid (OW0.out.andThen hO fun i hi e => HVL.out i e hi)
        obtain ⟨bb, oo, had, hbb, c0, c1⟩ := plc_cells hG.rd (Below.refl _ _) ⟨x.1, hT.lt x⟩
        simp only at had c0 c1
        have HAD := Lib.hid had
        rw [had]
        have HBX0 : B64 (plcV cur x.1).2 := by rw [hT.val _ x.2]; exact itT_b64 hl (plc_b64 (fit_pick HFIT.out HOR.out.1) x.2) _
        obtain ⟨vk, hvk⟩ : ∃ z, z = (plcV cur x.1).1 := ⟨_, rfl⟩
        obtain ⟨vx, hvx⟩ : ∃ z, z = (plcV cur x.1).2 := ⟨_, rfl⟩
        rw [← hvk] at c0
        rw [← hvx] at c1 HBX0
        have HBX := Lib.hid HBX0
        have HXX := Lib.hid hvx.symm
        by_cases hk2 : vk = 2
        · have HX2 := Lib.hid (show (plcV cur x.1).1 = 2 from hvk.symm.trans hk2)
          have hbk : (vk != 2) = false := by simpa using hk2
          clear hT hG hK hO had hbb HBX0 hvk hvx
          by_cases hm : vx ∈ o
          · have hlk := (HP.out.same (w' := W.drew) rfl).look vx HBX.out
            rw [if_pos hm, decide_eq_true hm] at hlk
            obtain ⟨hput, hvg, ⟨cs0, hcs0, hoo⟩, hbb4⟩ := HG.out.put x.1 (HT.out.lt x) HAD.out (plc o vx)
            obtain ⟨U1, hU1, oU1, GU1, KU1⟩ : ∃ U1, (W.setCell ⟨bb, oo + 1, none⟩ (.int .i64 (plc o vx))).drew = U1 ∧ Only (isb bb) W U1 ∧ OwG U1 w4.heap.size (setG cur x.1 ((plcV cur x.1).1, plc o vx)) (.slice A5 o.length c5) (.slice A6 g.rt.length c6) js ∧ Blk U1 (w2.heap.size + 1) 4 #[.bool true] :=
              ⟨_, rfl, (only_set W bb (oo + 1) _).drewN 1, hput.heap rfl, (HK.out.other (p := ⟨bb, oo + 1, none⟩) (hcs0.ne HK.out (by decide)) _ : Blk (W.setCell ⟨bb, oo + 1, none⟩ _) _ _ _)⟩
            obtain ⟨U2, hU2, oU2, KU2⟩ : ∃ U2, U1.setCell ⟨w2.heap.size + 1, 0, none⟩ (.bool true) = U2 ∧ Only (isb (w2.heap.size + 1)) U1 U2 ∧ Blk U2 (w2.heap.size + 1) 4 #[.bool true] :=
              ⟨_, rfl, only_set _ _ _ _, by simpa using KU1.put 0 (.bool true)⟩
            have HU1 := Lib.hid hU1
            have HU2 := Lib.hid hU2
            have fz1 : W.drew.frozen? ⟨bb, oo + 1, none⟩ = false := hcs0.free (oo + 1)
            have d0 : W.drew.cell? ⟨w2.heap.size, 0, none⟩ = some (.map (some mp)) := HPB.out.cell 0
            have d1 : W.drew.cell? ⟨bb, oo + 1, none⟩ = some (.int .i64 vx) := c1
            have k1 : U1.cell? ⟨w2.heap.size + 1, 0, none⟩ = some (.bool true) := KU1.cell 0
            have fk1 := KU1.free 0
            have k2 : U2.cell? ⟨w2.heap.size + 1, 0, none⟩ = some (.bool true) := KU2.cell 0
            have KO := Lib.hid (show KeepsOthers W U2 from (show KeepsOthers W U1 from hU1 ▸ ((KeepsOthers.setCell _ _ _).trans (KeepsOthers.drew _))).trans (hU2 ▸ KeepsOthers.setCell _ _ _))
            have OV := Lib.hid (show Only (fun k => k = w2.heap.size + 1 ∨ VG js (.slice A6 g.rt.length c6) k) W U2 from ((oU1.mono fun k _ e => .inr (by unfold isb at e; subst e; exact hvg)).trans (oU2.mono fun k _ e => .inl e)))
            have GU2 := Lib.hid (GU1.other KU1 (by decide) (by decide) (by decide) oU2)
            have HTN := Lib.hid (HT.out.turn x HX2.out (by rw [HXX.out]; exact hm))
            have HK2 := Lib.hid KU2
            clear hm hput hvg hcs0 hoo hbb4 hU1 oU1 GU1 KU1 hU2 oU2 KU2
            gi_wp2_with fail
            refine region_round16 mixed16 (by kernel_rfl) ?_
            refine wpAnyIn_take (i := 0) (v := ?_) rfl rfl (by kernel_rfl) (by kernel_rfl) (by kernel_rfl) (fun _ _ _ h => h) ⟨Or.inl ⟨by rfl, ?_⟩, fun _ => rfl⟩ ?_
            rotate_left
            · intro w; go_simp; first | done | with_reducible rfl
            try simp only [Act.put, List.setIfInBounds_toArray, List.set_cons_zero, List.set_cons_succ]
            refine wpAnyIn_take (i := 2) (v := ?_) rfl rfl (by kernel_rfl) (by kernel_rfl) (by kernel_rfl) (fun _ _ _ h => h) ⟨Or.inl ⟨by rfl, ?_⟩, fun _ => rfl⟩ ?_
            rotate_left
            · intro w; go_simp; first | done | with_reducible rfl
            try simp only [Act.put, List.setIfInBounds_toArray, List.set_cons_zero, List.set_cons_succ]
            refine wpAnyIn_take (i := 3) (v := ?_) rfl rfl (by kernel_rfl) (by kernel_rfl) (by kernel_rfl) (fun _ _ _ h => h) ⟨Or.inl ⟨by rfl, ?_⟩, fun _ => rfl⟩ ?_
            rotate_left
            · intro w; go_simp; first | done | with_reducible rfl
            try simp only [Act.put, List.setIfInBounds_toArray, List.set_cons_zero, List.set_cons_succ]
            refine wpAnyIn_take (i := 4) (v := ?_) rfl rfl (by kernel_rfl) (by kernel_rfl) (by kernel_rfl) (fun _ _ _ h => h) ⟨Or.inl ⟨by rfl, ?_⟩, fun _ => rfl⟩ ?_
            rotate_left
            · intro w; go_simp; first | done | with_reducible rfl
            try simp only [Act.put, List.setIfInBounds_toArray, List.set_cons_zero, List.set_cons_succ]
            refine wpAnyIn_ready (rs := [1, 5]) (by kernel_rfl) (by simp) ?_
            refine AllReadyIn.cons rfl (fun K hK => ?_) (AllReadyIn.cons rfl (fun K hK => ?_) AllReadyIn.nil)
            · go_simp
              refine hK _ _ ?_
              clear hK K
              try simp only [Act.put, List.setIfInBounds_toArray, List.set_cons_zero, List.set_cons_succ]
              refine wpAnyIn_ready (rs := [5]) (by kernel_rfl) (by simp) ?_
              refine AllReadyIn.cons rfl (fun K hK => ?_) AllReadyIn.nil
              go_simp
              refine hK _ _ ?_
              clear hK K
              try simp only [Act.put, List.setIfInBounds_toArray, List.set_cons_zero, List.set_cons_succ]
              refine wpAnyIn_ready (rs := [6]) (by kernel_rfl) (by simp) ?_
              refine AllReadyIn.cons rfl (fun K hK => ?_) AllReadyIn.nil
              go_simp
              refine hK _ _ ?_
              clear hK K
              try simp only [Act.put, List.setIfInBounds_toArray, List.set_cons_zero, List.set_cons_succ]
              refine wpAnyIn_take (i := 7) (v := ?_) rfl rfl (by kernel_rfl) (by kernel_rfl) (by kernel_rfl) (fun _ _ _ h => h) ⟨Or.inl ⟨by rfl, ?_⟩, fun _ => rfl⟩ ?_
              rotate_left
              · intro w; go_simp; first | done | with_reducible rfl
              try simp only [Act.put, List.setIfInBounds_toArray, List.set_cons_zero, List.set_cons_succ]
              refine wpAnyIn_take (i := 8) (v := ?_) rfl rfl (by kernel_rfl) (by kernel_rfl) (by kernel_rfl) (fun _ _ _ h => h) ⟨Or.inl ⟨by rfl, ?_⟩, fun _ => rfl⟩ ?_
              rotate_left
              · intro w; go_simp; first | done | with_reducible rfl
              try simp only [Act.put, List.setIfInBounds_toArray, List.set_cons_zero, List.set_cons_succ]
              refine wpAnyIn_take (i := 9) (v := ?_) rfl rfl (by kernel_rfl) (by kernel_rfl) (by kernel_rfl) (fun _ _ _ h => h) ⟨Or.inl ⟨by rfl, ?_⟩, fun _ => rfl⟩ ?_
              rotate_left
              · intro w; go_simp; first | done | with_reducible rfl
              try simp only [Act.put, List.setIfInBounds_toArray, List.set_cons_zero, List.set_cons_succ]
              refine wpAnyIn_take (i := 10) (v := ?_) rfl rfl (by kernel_rfl) (by kernel_rfl) (by kernel_rfl) (fun _ _ _ h => h) ⟨Or.inl ⟨by rfl, ?_⟩, fun _ => rfl⟩ ?_
              rotate_left
              · intro w; go_simp; first | done | with_reducible rfl
              try simp only [Act.put, List.setIfInBounds_toArray, List.set_cons_zero, List.set_cons_succ]
              refine wpAnyIn_take (i := 11) (v := ?_) rfl rfl (by kernel_rfl) (by kernel_rfl) (by kernel_rfl) (fun _ _ _ h => h) ⟨Or.inl ⟨by rfl, ?_⟩, fun _ => rfl⟩ ?_
              rotate_left
              · intro w; go_simp; first | done | with_reducible rfl
              try simp only [Act.put, List.setIfInBounds_toArray, List.set_cons_zero, List.set_cons_succ]
              refine wpAnyIn_ready (rs := [12]) (by kernel_rfl) (by simp) ?_
              refine AllReadyIn.cons rfl (fun K hK => ?_) AllReadyIn.nil
              go_simp
              with_reducible rw [HU1.out]
              refine hK _ _ ?_
              clear hK K
              try simp only [Act.put, List.setIfInBounds_toArray, List.set_cons_zero, List.set_cons_succ]
              refine wpAnyIn_ready (rs := [13]) (by kernel_rfl) (by simp) ?_
              refine AllReadyIn.cons rfl (fun K hK => ?_) AllReadyIn.nil
              go_simp
              with_reducible rw [HU2.out]
              refine hK _ _ ?_
              clear hK K
              try simp only [Act.put, List.setIfInBounds_toArray, List.set_cons_zero, List.set_cons_succ]
              refine wpAnyIn_done (by kernel_rfl) ?_ _
              clear hlk fz1 d0 d1 k1 fk1
              gi_wp2
              exact ⟨KO.out.from _, KeepsV.only OV.out (fun _ _ h => h), _, HTN.out, by rw [HXX.out]; exact GU2.out, HK2.out, HO.out.trans OV.out⟩
            · go_simp
              refine hK _ _ ?_
              clear hK K
              try simp only [Act.put, List.setIfInBounds_toArray, List.set_cons_zero, List.set_cons_succ]
              refine wpAnyIn_ready (rs := [1]) (by kernel_rfl) (by simp) ?_
              refine AllReadyIn.cons rfl (fun K hK => ?_) AllReadyIn.nil
              go_simp
              refine hK _ _ ?_
              clear hK K
              try simp only [Act.put, List.setIfInBounds_toArray, List.set_cons_zero, List.set_cons_succ]
              refine wpAnyIn_ready (rs := [6]) (by kernel_rfl) (by simp) ?_
              refine AllReadyIn.cons rfl (fun K hK => ?_) AllReadyIn.nil
              go_simp
              refine hK _ _ ?_
              clear hK K
              try simp only [Act.put, List.setIfInBounds_toArray, List.set_cons_zero, List.set_cons_succ]
              refine wpAnyIn_take (i := 7) (v := ?_) rfl rfl (by kernel_rfl) (by kernel_rfl) (by kernel_rfl) (fun _ _ _ h => h) ⟨Or.inl ⟨by rfl, ?_⟩, fun _ => rfl⟩ ?_
              rotate_left
              · intro w; go_simp; first | done | with_reducible rfl
              try simp only [Act.put, List.setIfInBounds_toArray, List.set_cons_zero, List.set_cons_succ]
              refine wpAnyIn_take (i := 8) (v := ?_) rfl rfl (by kernel_rfl) (by kernel_rfl) (by kernel_rfl) (fun _ _ _ h => h) ⟨Or.inl ⟨by rfl, ?_⟩, fun _ => rfl⟩ ?_
              rotate_left
              · intro w; go_simp; first | done | with_reducible rfl
              try simp only [Act.put, List.setIfInBounds_toArray, List.set_cons_zero, List.set_cons_succ]
              refine wpAnyIn_take (i := 9) (v := ?_) rfl rfl (by kernel_rfl) (by kernel_rfl) (by kernel_rfl) (fun _ _ _ h => h) ⟨Or.inl ⟨by rfl, ?_⟩, fun _ => rfl⟩ ?_
              rotate_left
              · intro w; go_simp; first | done | with_reducible rfl
              try simp only [Act.put, List.setIfInBounds_toArray, List.set_cons_zero, List.set_cons_succ]
              refine wpAnyIn_take (i := 10) (v := ?_) rfl rfl (by kernel_rfl) (by kernel_rfl) (by kernel_rfl) (fun _ _ _ h => h) ⟨Or.inl ⟨by rfl, ?_⟩, fun _ => rfl⟩ ?_
              rotate_left
              · intro w; go_simp; first | done | with_reducible rfl
              try simp only [Act.put, List.setIfInBounds_toArray, List.set_cons_zero, List.set_cons_succ]
              refine wpAnyIn_take (i := 11) (v := ?_) rfl rfl (by kernel_rfl) (by kernel_rfl) (by kernel_rfl) (fun _ _ _ h => h) ⟨Or.inl ⟨by rfl, ?_⟩, fun _ => rfl⟩ ?_
              rotate_left
              · intro w; go_simp; first | done | with_reducible rfl
              try simp only [Act.put, List.setIfInBounds_toArray, List.set_cons_zero, List.set_cons_succ]
              refine wpAnyIn_ready (rs := [12]) (by kernel_rfl) (by simp) ?_
              refine AllReadyIn.cons rfl (fun K hK => ?_) AllReadyIn.nil
              go_simp
              with_reducible rw [HU1.out]
              refine hK _ _ ?_
              clear hK K
              try simp only [Act.put, List.setIfInBounds_toArray, List.set_cons_zero, List.set_cons_succ]
              refine wpAnyIn_ready (rs := [13]) (by kernel_rfl) (by simp) ?_
              refine AllReadyIn.cons rfl (fun K hK => ?_) AllReadyIn.nil
              go_simp
              with_reducible rw [HU2.out]
              refine hK _ _ ?_
              clear hK K
              try simp only [Act.put, List.setIfInBounds_toArray, List.set_cons_zero, List.set_cons_succ]
              refine wpAnyIn_done (by kernel_rfl) ?_ _
              clear hlk fz1 d0 d1 k1 fk1
              gi_wp2
              exact ⟨KO.out.from _, KeepsV.only OV.out (fun _ _ h => h), _, HTN.out, by rw [HXX.out]; exact GU2.out, HK2.out, HO.out.trans OV.out⟩
          · have hlk := (HP.out.same (w' := W.drew) rfl).look vx HBX.out
            rw [if_neg hm, decide_eq_false hm] at hlk
            obtain ⟨hput, hvg, ⟨cs0, hcs0, hoo⟩, hbb4⟩ := HG.out.put x.1 (HT.out.lt x) HAD.out (0)
            obtain ⟨U1, hU1, oU1, GU1, KU1⟩ : ∃ U1, (W.setCell ⟨bb, oo + 1, none⟩ (.int .i64 (0))).drew = U1 ∧ Only (isb bb) W U1 ∧ OwG U1 w4.heap.size (setG cur x.1 ((plcV cur x.1).1, 0)) (.slice A5 o.length c5) (.slice A6 g.rt.length c6) js ∧ Blk U1 (w2.heap.size + 1) 4 #[.bool true] :=
              ⟨_, rfl, (only_set W bb (oo + 1) _).drewN 1, hput.heap rfl, (HK.out.other (p := ⟨bb, oo + 1, none⟩) (hcs0.ne HK.out (by decide)) _ : Blk (W.setCell ⟨bb, oo + 1, none⟩ _) _ _ _)⟩
            obtain ⟨U2, hU2, oU2, KU2⟩ : ∃ U2, U1.setCell ⟨w2.heap.size + 1, 0, none⟩ (.bool false) = U2 ∧ Only (isb (w2.heap.size + 1)) U1 U2 ∧ Blk U2 (w2.heap.size + 1) 4 #[.bool false] :=
              ⟨_, rfl, only_set _ _ _ _, by simpa using KU1.put 0 (.bool false)⟩
            have HU1 := Lib.hid hU1
            have HU2 := Lib.hid hU2
            have fz1 : W.drew.frozen? ⟨bb, oo + 1, none⟩ = false := hcs0.free (oo + 1)
            have d0 : W.drew.cell? ⟨w2.heap.size, 0, none⟩ = some (.map (some mp)) := HPB.out.cell 0
            have d1 : W.drew.cell? ⟨bb, oo + 1, none⟩ = some (.int .i64 vx) := c1
            have k1 : U1.cell? ⟨w2.heap.size + 1, 0, none⟩ = some (.bool true) := KU1.cell 0
            have fk1 := KU1.free 0
            have k2 : U2.cell? ⟨w2.heap.size + 1, 0, none⟩ = some (.bool false) := KU2.cell 0
            have KO := Lib.hid (show KeepsOthers W U2 from (show KeepsOthers W U1 from hU1 ▸ ((KeepsOthers.setCell _ _ _).trans (KeepsOthers.drew _))).trans (hU2 ▸ KeepsOthers.setCell _ _ _))
            have OV := Lib.hid (show Only (fun k => k = w2.heap.size + 1 ∨ VG js (.slice A6 g.rt.length c6) k) W U2 from ((oU1.mono fun k _ e => .inr (by unfold isb at e; subst e; exact hvg)).trans (oU2.mono fun k _ e => .inl e)))
            have HNB := Lib.hid (show turnB o (plcV cur x.1) = false by unfold turnB; rw [HX2.out, HXX.out]; simp [hm])
            have E1 := HRB.out.keep (F := fun k => k = w2.heap.size + 1 ∨ VG js (.slice A6 g.rt.length c6) k) OV.out (HVB2.out _ _ _ (HRB0.out) (by decide) (by decide))
            have E2 := HEB.out.keep (F := fun k => k = w2.heap.size + 1 ∨ VG js (.slice A6 g.rt.length c6) k) OV.out (HVB2.out _ _ _ (HEB0.out) (by decide) (by decide))
            obtain ⟨U, hU, oU, UB1, UB2⟩ := res_ren E1 E2 (by omega) (.slice none 0 0) (.slice none 0 0) 2
            have HU := Lib.hid hU
            have q0 : U2.cell? ⟨w.heap.size + 1, 0, none⟩ = some (.slice none 0 0) := E1.cell 0
            have q1 : U2.cell? ⟨w.heap.size + 1, 1, none⟩ = some (.slice none 0 0) := E1.cell 1
            have q2 : U2.cell? ⟨w.heap.size + 1 + 1, 0, none⟩ = some (.int .i64 0) := E2.cell 0
            have fq0 := E1.free 0
            have fq1 := E1.free 1
            have fq2 := E2.free 0
            have KO2 := Lib.hid (show KeepsOthers U2 U from hU ▸ (((KeepsOthers.setCell _ _ _).trans (KeepsOthers.setCell _ _ _)).trans (KeepsOthers.setCell _ _ _)))
            have OU := Lib.hid ((HOW.out.andThen OV.out fun i hi e => HVL.out i e hi).andThen oU fun i hi e => by omega)
            have UB := Lib.hid (And.intro UB1 UB2)
            clear hm hput hvg hcs0 hoo hbb4 hU1 oU1 GU1 KU1 hU2 oU2 KU2 E1 E2 hU oU UB1 UB2
            gi_wp2_with fail
            refine region_round16 mixed16 (by kernel_rfl) ?_
            refine wpAnyIn_take (i := 0) (v := ?_) rfl rfl (by kernel_rfl) (by kernel_rfl) (by kernel_rfl) (fun _ _ _ h => h) ⟨Or.inl ⟨by rfl, ?_⟩, fun _ => rfl⟩ ?_
            rotate_left
            · intro w; go_simp; first | done | with_reducible rfl
            try simp only [Act.put, List.setIfInBounds_toArray, List.set_cons_zero, List.set_cons_succ]
            refine wpAnyIn_take (i := 2) (v := ?_) rfl rfl (by kernel_rfl) (by kernel_rfl) (by kernel_rfl) (fun _ _ _ h => h) ⟨Or.inl ⟨by rfl, ?_⟩, fun _ => rfl⟩ ?_
            rotate_left
            · intro w; go_simp; first | done | with_reducible rfl
            try simp only [Act.put, List.setIfInBounds_toArray, List.set_cons_zero, List.set_cons_succ]
            refine wpAnyIn_take (i := 3) (v := ?_) rfl rfl (by kernel_rfl) (by kernel_rfl) (by kernel_rfl) (fun _ _ _ h => h) ⟨Or.inl ⟨by rfl, ?_⟩, fun _ => rfl⟩ ?_
            rotate_left
            · intro w; go_simp; first | done | with_reducible rfl
            try simp only [Act.put, List.setIfInBounds_toArray, List.set_cons_zero, List.set_cons_succ]
            refine wpAnyIn_take (i := 4) (v := ?_) rfl rfl (by kernel_rfl) (by kernel_rfl) (by kernel_rfl) (fun _ _ _ h => h) ⟨Or.inl ⟨by rfl, ?_⟩, fun _ => rfl⟩ ?_
            rotate_left
            · intro w; go_simp; first | done | with_reducible rfl
            try simp only [Act.put, List.setIfInBounds_toArray, List.set_cons_zero, List.set_cons_succ]
            refine wpAnyIn_ready (rs := [1, 5]) (by kernel_rfl) (by simp) ?_
            refine AllReadyIn.cons rfl (fun K hK => ?_) (AllReadyIn.cons rfl (fun K hK => ?_) AllReadyIn.nil)
            · go_simp
              refine hK _ _ ?_
              clear hK K
              try simp only [Act.put, List.setIfInBounds_toArray, List.set_cons_zero, List.set_cons_succ]
              refine wpAnyIn_ready (rs := [5]) (by kernel_rfl) (by simp) ?_
              refine AllReadyIn.cons rfl (fun K hK => ?_) AllReadyIn.nil
              go_simp
              refine hK _ _ ?_
              clear hK K
              try simp only [Act.put, List.setIfInBounds_toArray, List.set_cons_zero, List.set_cons_succ]
              refine wpAnyIn_ready (rs := [6]) (by kernel_rfl) (by simp) ?_
              refine AllReadyIn.cons rfl (fun K hK => ?_) AllReadyIn.nil
              go_simp
              refine hK _ _ ?_
              clear hK K
              try simp only [Act.put, List.setIfInBounds_toArray, List.set_cons_zero, List.set_cons_succ]
              refine wpAnyIn_take (i := 7) (v := ?_) rfl rfl (by kernel_rfl) (by kernel_rfl) (by kernel_rfl) (fun _ _ _ h => h) ⟨Or.inl ⟨by rfl, ?_⟩, fun _ => rfl⟩ ?_
              rotate_left
              · intro w; go_simp; first | done | with_reducible rfl
              try simp only [Act.put, List.setIfInBounds_toArray, List.set_cons_zero, List.set_cons_succ]
              refine wpAnyIn_take (i := 8) (v := ?_) rfl rfl (by kernel_rfl) (by kernel_rfl) (by kernel_rfl) (fun _ _ _ h => h) ⟨Or.inl ⟨by rfl, ?_⟩, fun _ => rfl⟩ ?_
              rotate_left
              · intro w; go_simp; first | done | with_reducible rfl
              try simp only [Act.put, List.setIfInBounds_toArray, List.set_cons_zero, List.set_cons_succ]
              refine wpAnyIn_take (i := 9) (v := ?_) rfl rfl (by kernel_rfl) (by kernel_rfl) (by kernel_rfl) (fun _ _ _ h => h) ⟨Or.inl ⟨by rfl, ?_⟩, fun _ => rfl⟩ ?_
              rotate_left
              · intro w; go_simp; first | done | with_reducible rfl
              try simp only [Act.put, List.setIfInBounds_toArray, List.set_cons_zero, List.set_cons_succ]
              refine wpAnyIn_take (i := 10) (v := ?_) rfl rfl (by kernel_rfl) (by kernel_rfl) (by kernel_rfl) (fun _ _ _ h => h) ⟨Or.inl ⟨by rfl, ?_⟩, fun _ => rfl⟩ ?_
              rotate_left
              · intro w; go_simp; first | done | with_reducible rfl
              try simp only [Act.put, List.setIfInBounds_toArray, List.set_cons_zero, List.set_cons_succ]
              refine wpAnyIn_take (i := 11) (v := ?_) rfl rfl (by kernel_rfl) (by kernel_rfl) (by kernel_rfl) (fun _ _ _ h => h) ⟨Or.inl ⟨by rfl, ?_⟩, fun _ => rfl⟩ ?_
              rotate_left
              · intro w; go_simp; first | done | with_reducible rfl
              try simp only [Act.put, List.setIfInBounds_toArray, List.set_cons_zero, List.set_cons_succ]
              refine wpAnyIn_ready (rs := [12]) (by kernel_rfl) (by simp) ?_
              refine AllReadyIn.cons rfl (fun K hK => ?_) AllReadyIn.nil
              go_simp
              with_reducible rw [HU1.out]
              refine hK _ _ ?_
              clear hK K
              try simp only [Act.put, List.setIfInBounds_toArray, List.set_cons_zero, List.set_cons_succ]
              refine wpAnyIn_ready (rs := [13]) (by kernel_rfl) (by simp) ?_
              refine AllReadyIn.cons rfl (fun K hK => ?_) AllReadyIn.nil
              go_simp
              with_reducible rw [HU2.out]
              refine hK _ _ ?_
              clear hK K
              try simp only [Act.put, List.setIfInBounds_toArray, List.set_cons_zero, List.set_cons_succ]
              refine wpAnyIn_done (by kernel_rfl) ?_ _
              clear hlk fz1 d0 d1 k1 fk1
              gi_wp2
              with_reducible rw [HU.out]
              exact ⟨(KO.out.trans KO2.out).from _, rfl, ⟨pre, x, cur, rfl, HT.out, HNB.out⟩, UB.out.1, UB.out.2, OU.out⟩
            · go_simp
              refine hK _ _ ?_
              clear hK K
              try simp only [Act.put, List.setIfInBounds_toArray, List.set_cons_zero, List.set_cons_succ]
              refine wpAnyIn_ready (rs := [1]) (by kernel_rfl) (by simp) ?_
              refine AllReadyIn.cons rfl (fun K hK => ?_) AllReadyIn.nil
              go_simp
              refine hK _ _ ?_
              clear hK K
              try simp only [Act.put, List.setIfInBounds_toArray, List.set_cons_zero, List.set_cons_succ]
              refine wpAnyIn_ready (rs := [6]) (by kernel_rfl) (by simp) ?_
              refine AllReadyIn.cons rfl (fun K hK => ?_) AllReadyIn.nil
              go_simp
              refine hK _ _ ?_
              clear hK K
              try simp only [Act.put, List.setIfInBounds_toArray, List.set_cons_zero, List.set_cons_succ]
              refine wpAnyIn_take (i := 7) (v := ?_) rfl rfl (by kernel_rfl) (by kernel_rfl) (by kernel_rfl) (fun _ _ _ h => h) ⟨Or.inl ⟨by rfl, ?_⟩, fun _ => rfl⟩ ?_
              rotate_left
              · intro w; go_simp; first | done | with_reducible rfl
              try simp only [Act.put, List.setIfInBounds_toArray, List.set_cons_zero, List.set_cons_succ]
              refine wpAnyIn_take (i := 8) (v := ?_) rfl rfl (by kernel_rfl) (by kernel_rfl) (by kernel_rfl) (fun _ _ _ h => h) ⟨Or.inl ⟨by rfl, ?_⟩, fun _ => rfl⟩ ?_
              rotate_left
              · intro w; go_simp; first | done | with_reducible rfl
              try simp only [Act.put, List.setIfInBounds_toArray, List.set_cons_zero, List.set_cons_succ]
              refine wpAnyIn_take (i := 9) (v := ?_) rfl rfl (by kernel_rfl) (by kernel_rfl) (by kernel_rfl) (fun _ _ _ h => h) ⟨Or.inl ⟨by rfl, ?_⟩, fun _ => rfl⟩ ?_
              rotate_left
              · intro w; go_simp; first | done | with_reducible rfl
              try simp only [Act.put, List.setIfInBounds_toArray, List.set_cons_zero, List.set_cons_succ]
              refine wpAnyIn_take (i := 10) (v := ?_) rfl rfl (by kernel_rfl) (by kernel_rfl) (by kernel_rfl) (fun _ _ _ h => h) ⟨Or.inl ⟨by rfl, ?_⟩, fun _ => rfl⟩ ?_
              rotate_left
              · intro w; go_simp; first | done | with_reducible rfl
              try simp only [Act.put, List.setIfInBounds_toArray, List.set_cons_zero, List.set_cons_succ]
              refine wpAnyIn_take (i := 11) (v := ?_) rfl rfl (by kernel_rfl) (by kernel_rfl) (by kernel_rfl) (fun _ _ _ h => h) ⟨Or.inl ⟨by rfl, ?_⟩, fun _ => rfl⟩ ?_
              rotate_left
              · intro w; go_simp; first | done | with_reducible rfl
              try simp only [Act.put, List.setIfInBounds_toArray, List.set_cons_zero, List.set_cons_succ]
              refine wpAnyIn_ready (rs := [12]) (by kernel_rfl) (by simp) ?_
              refine AllReadyIn.cons rfl (fun K hK => ?_) AllReadyIn.nil
              go_simp
              with_reducible rw [HU1.out]
              refine hK _ _ ?_
              clear hK K
              try simp only [Act.put, List.setIfInBounds_toArray, List.set_cons_zero, List.set_cons_succ]
              refine wpAnyIn_ready (rs := [13]) (by kernel_rfl) (by simp) ?_
              refine AllReadyIn.cons rfl (fun K hK => ?_) AllReadyIn.nil
              go_simp
              with_reducible rw [HU2.out]
              refine hK _ _ ?_
              clear hK K
              try simp only [Act.put, List.setIfInBounds_toArray, List.set_cons_zero, List.set_cons_succ]
              refine wpAnyIn_done (by kernel_rfl) ?_ _
              clear hlk fz1 d0 d1 k1 fk1
              gi_wp2
              with_reducible rw [HU.out]
              exact ⟨(KO.out.trans KO2.out).from _, rfl, ⟨pre, x, cur, rfl, HT.out, HNB.out⟩, UB.out.1, UB.out.2, OU.out⟩
        · have hbk : (vk != 2) = true := by simpa using hk2
          have HTS := Lib.hid (hT.same x (fun e => hk2 (hvk.trans e)))
          clear hT hG hK hO had hbb HBX0 hvk hvx hk2
          gi_wp2
          exact ⟨(KeepsOthers.refl _).from _, KeepsV.refl _ _ _, cur, HTS.out, HG.out, HK.out, HO.out⟩
      case done =>
        rintro D ys W hD hS ⟨cur, hT, hG, hK, hO⟩ hK2
        obtain ⟨hcur, hall⟩ := hT.done hS
        have HN := Lib.hid (HE.out.2 hall)
        have HGW := Lib.hid hG
        have HCU := Lib.hid hcur
        have E1 := HRB0.out.keep (F := (fun k => k = w2.heap.size + 1 ∨ VG js (.slice A6 g.rt.length c6) k)) hO (HVB2.out _ _ _ HRB0.out (by decide) (by decide))
        have E2 := HEB0.out.keep (F := (fun k => k = w2.heap.size + 1 ∨ VG js (.slice A6 g.rt.length c6) k)) hO (HVB2.out _ _ _ HEB0.out (by decide) (by decide))
        have E3 := HMB0.out.keep (F := (fun k => k = w2.heap.size + 1 ∨ VG js (.slice A6 g.rt.length c6) k)) hO (HVB2.out _ _ _ HMB0.out (by decide) (by decide))
        obtain ⟨U, hU, oU, UB1, UB2⟩ := res_ren E1 E2 (by omega) (.slice A5 o.length c5) (.slice A6 g.rt.length c6) 0
        have HU := Lib.hid hU
        have m0 : W.cell? ⟨w5.heap.size, 0, none⟩ = some (.slice A5 o.length c5) := E3.cell 0
        have m1 : W.cell? ⟨w5.heap.size, 1, none⟩ = some (.slice A6 g.rt.length c6) := E3.cell 1
        have q0 : W.cell? ⟨w.heap.size + 1, 0, none⟩ = some (.slice none 0 0) := E1.cell 0
        have q1 : W.cell? ⟨w.heap.size + 1, 1, none⟩ = some (.slice none 0 0) := E1.cell 1
        have q2 : W.cell? ⟨w.heap.size + 1 + 1, 0, none⟩ = some (.int .i64 0) := E2.cell 0
        have fq0 := E1.free 0
        have fq1 := E1.free 1
        have fq2 := E2.free 0
        have KO2 := Lib.hid (show KeepsOthers W U from hU ▸ (((KeepsOthers.setCell _ _ _).trans (KeepsOthers.setCell _ _ _)).trans (KeepsOthers.setCell _ _ _)))
        have OU := Lib.hid ((OW0.out.andThen hO fun i hi e => HVL.out i e hi).andThen oU fun i hi e => by omega)
        have GU := Lib.hid (hG.apart2 oU fun k e => by
          rcases e with rfl | rfl
          · exact ⟨_, _, E1, by decide, by decide, by decide⟩
          · exact ⟨_, _, E2, by decide, by decide, by decide⟩)
        have UB := Lib.hid (And.intro UB1 UB2)
        have HKD := Lib.hid hK2
        have hD0 : w.heap.size ≤ D := Nat.le_trans OW0.out.size hD
        clear hT hG hK hO hK2 hcur hall E1 E2 E3 hU oU UB1 UB2 hS
        gi_wp2
        with_reducible rw [HU.out]
        have hK' := KO2.out.same D _ HKD.out rfl
        refine ⟨by simp, .inl ⟨_, _, rfl, run_takeDeferred hK', ?_⟩⟩
        have p1 := blk_putObj16 UB.out.1 (.deferred none) hK' rfl
        have p2 := blk_putObj16 UB.out.2 (.deferred none) hK' rfl
        have z0 := p1.cell 0
        have z1 := p1.cell 1
        have z2 := p2.cell 0
        simp at z0 z1 z2
        refine ⟨.tuple #[.agg #[.slice A5 o.length c5, .slice A6 g.rt.length c6], .int .i64 0], ?_, .slice A5 o.length c5, .slice A6 g.rt.length c6, by rw [HN.out.1], ⟨js, ?_⟩, below_done16 OU.out.whole hD0 hK'⟩
        · simp [results, Try.results18, go_sem, z0, z1, z2]
        · have hg := GU.out.kept (grownBy_putObj' U D (.deferred none)) (fun r e => by cases e; exact ⟨_, hK', rfl⟩)
          rw [HN.out.2, ← HCU.out]
          exact hg.rd
      case stop =>
        rintro D c' pre W hD hpre ⟨rfl, ⟨pre0, x, cur, rfl, hT, hb⟩, h1, h2, h3⟩ hK
        have HN := Lib.hid (HE.out.1 (hT.stop hpre hb))
        have HB1 := Lib.hid h1
        have HB2 := Lib.hid h2
        have HO3 := Lib.hid h3
        have HKD := Lib.hid hK
        have hD0 : w.heap.size ≤ D := Nat.le_trans OW0.out.size hD
        clear hT hb h1 h2 h3 hK hpre
        gi_wp2
        have hK' := HKD.out
        refine ⟨by simp, .inl ⟨_, _, rfl, run_takeDeferred hK', ?_⟩⟩
        have p1 := blk_putObj16 HB1.out (.deferred none) hK' rfl
        have p2 := blk_putObj16 HB2.out (.deferred none) hK' rfl
        have z0 := p1.cell 0
        have z1 := p1.cell 1
        have z2 := p2.cell 0
        simp at z0 z1 z2
        refine ⟨.tuple #[.agg #[.slice none 0 0, .slice none 0 0], .int .i64 2], ?_, .slice none 0 0, .slice none 0 0, [], by rw [HN.out.1], by rw [HN.out.2]; exact rd_none _, below_done16 HO3.out.whole hD0 hK'⟩
        simp [results, Try.results18, go_sem, z0, z1, z2]
end Go.Proofs.Ytdlaigghejahdaa
