/- Package graph: Right. -/
import Derived.Test.YtdlaigghejahdaaGrRight
namespace Go.Proofs.Ytdlaigghejahdaa
open Go.RowKit Go.Shelf
set_option maxRecDepth 100000
set_option linter.unusedSimpArgs false
set_option linter.unusedVariables false
attribute [local go_sem] Oper.semAt_some

theorem blk_kept16 {X Y : World} {g : Nat} {t : TypeId} {cs : Array Value} {row : Option Nat} (h : Blk X g t cs) (hg : X.grownBy Y row) (hr : ∀ r, row = some r → ∃ o : Obj, X.heap[r]? = some o ∧ o.isCells = false) : Blk Y g t cs :=
  (hg.block g h.lt (fun e => by obtain ⟨o, ho, hc⟩ := hr g e.symm; rw [show X.heap[g]? = _ from h] at ho; cases ho; cases hc)).trans h
theorem blk_putObj16 {X : World} {g D : Nat} {t : TypeId} {cs : Array Value} {o : Obj} (h : Blk X g t cs) (o' : Obj) (hk : X.heap[D]? = some o) (hc : o.isCells = false) : Blk (X.putObj D o') g t cs :=
  blk_kept16 h (grownBy_putObj' X D o') fun r e => by cases e; exact ⟨o, hk, hc⟩
theorem others16 {F : Nat → Prop} {W W' : World} (h : Only F W W') (hF : ∀ k o, F k → W.heap[k]? = some o → o.isCells = true) : KeepsOthers W W' :=
  ⟨h.size, fun k o ho hc => (h.block k (Array.getElem?_eq_some_iff.1 ho).1 (fun f => by rw [hF k o f ho] at hc; cases hc)).trans ho⟩
theorem others_nob16 {W W' : World} (h : Only nob W W') : KeepsOthers W W' := others16 h fun _ _ h => h.elim
theorem below_done16 {w W : World} {D : Nat} (h : Below w.heap.size w W) (hD : w.heap.size ≤ D) (hK : W.heap[D]? = some (.deferred (some []))) : Only nob w (W.putObj D (.deferred none)) :=
  Below.only (h.trans (belowK_b (w := w) (Nat.le_refl _) W D _ (.deferred none) hD hK rfl rfl))
/-- What only F has turned stays so, when a block from B on turns. -/
theorem only_from16 {F : Nat → Prop} {w W W' : World} {row : Option Nat} (h : Only F w W) (hg : W.grownBy W' row) (hr : ∀ k, row = some k → w.heap.size ≤ k) : Only F w W' :=
  ⟨hg.os.trans h.os, hg.tape.trans h.tape, hg.output.trans h.output, Nat.le_trans h.size hg.size, fun k hk hn => (hg.block k (Nat.lt_of_lt_of_le hk h.size) (fun e => by have := hr k e.symm; omega)).trans (h.block k hk hn)⟩
set_option maxHeartbeats 1000000 in
theorem values_in (n : Nat) (vn vr : Value) (w : World) : CallsIn Fence.wide n Try.prog 26 #[.agg #[vn, vr]] w fun e w' =>
    e = .returned (.func (.func 44) #[] #[.pointer (some ⟨w.heap.size, 0, none⟩)]) ∧ w' = w.alloc (.cells #[vn, vr] 25) := by
  refine callsIn_wide.2 ?_
  go_enter Try.func26, Try.ntmps26
  go_wp2_with fail
  go_ret
  exact ⟨rfl, rfl⟩
/-- The value at a place. -/
def plcV (g : Gr) (p : Nat × Nat) : Sp := ((lsts g).getD p.1 []).getD p.2 (0, 0)
theorem plc_mem (g : Gr) (p : Plc g) : ∃ l, (lsts g)[p.1.1]? = some l ∧ l[p.1.2]? = some (plcV g p.1) := by
  have h := p.2
  have h1 : p.1.1 < (lsts g).length := by
    refine Nat.lt_of_not_le fun h' => ?_
    rw [List.getD_eq_getElem?_getD, List.getElem?_eq_none h'] at h
    simp at h
  refine ⟨(lsts g)[p.1.1], List.getElem?_eq_getElem h1, ?_⟩
  unfold plcV
  rw [List.getD_eq_getElem?_getD, List.getElem?_eq_getElem h1, Option.getD_some] at h
  rw [List.getD_eq_getElem?_getD (l := lsts g), List.getElem?_eq_getElem h1, Option.getD_some, List.getD_eq_getElem?_getD, List.getElem?_eq_getElem h, Option.getD_some]
/-- All values of a graph. -/
def allV (g : Gr) : List Sp := (lsts g).flatten
theorem mem_allP {g : Gr} {p : Nat × Nat} : p ∈ allP g ↔ p.1 < g.nd.length + 1 ∧ p.2 < ((lsts g).getD p.1 []).length := by
  unfold allP allUp
  simp only [List.mem_flatMap, List.mem_range, List.mem_map]
  constructor
  · rintro ⟨i, hi, j, hj, rfl⟩
    exact ⟨hi, hj⟩
  · rintro ⟨h1, h2⟩
    exact ⟨p.1, h1, p.2, h2, rfl⟩
theorem lsts_len (g : Gr) : (lsts g).length = g.nd.length + 1 := by simp [lsts]
/-- A place for each value. -/
theorem plc_of {g : Gr} {v : Sp} (h : v ∈ allV g) : ∃ p ∈ allP g, plcV g p = v := by
  unfold allV at h
  obtain ⟨l, hl, hv⟩ := List.mem_flatten.1 h
  obtain ⟨i, hi⟩ := List.getElem?_of_mem hl
  obtain ⟨j, hj⟩ := List.getElem?_of_mem hv
  have e : (lsts g).getD i [] = l := by rw [List.getD_eq_getElem?_getD, hi]; rfl
  refine ⟨(i, j), mem_allP.2 ⟨by have := (List.getElem?_eq_some_iff.1 hi).1; rw [lsts_len] at this; exact this, ?_⟩, ?_⟩
  · rw [e]; exact (List.getElem?_eq_some_iff.1 hj).1
  · unfold plcV
    rw [e, List.getD_eq_getElem?_getD, hj]
    rfl
theorem grOk_all (g : Gr) : grOk g = (!g.nd.any ndBad && (allV g).all (vOk g.nd.length)) := by
  unfold grOk allV lsts
  rw [List.flatten_append, List.all_append]
  have h1 : g.nd.all (ndOk g.nd.length) = (!g.nd.any ndBad && (g.nd.map (·.fs)).flatten.all (vOk g.nd.length)) := by
    rw [show ndOk g.nd.length = fun d => !ndBad d && d.fs.all (vOk g.nd.length) from funext (ndOk_bad _)]
    generalize g.nd.length = n
    induction g.nd with
    | nil => rfl
    | cons d l ih =>
      simp only [List.all_cons, List.any_cons, List.map_cons, List.flatten_cons, List.all_append, ih, Bool.not_or]
      cases ndBad d <;> cases d.fs.all (vOk n) <;> cases l.any ndBad <;> simp
  rw [h1, Bool.and_assoc]
  simp
theorem lsts_mem {w : World} {B : Nat} {g : Gr} {vn vr : Value} {hs : List (Value × Value)} (h : RdG w B g vn vr hs) {i : Nat} {l : List Sp} (hi : (lsts g)[i]? = some l) : Sl w B 2 (hdr hs vr i) l.length (spc l) := by
  rcases Nat.lt_or_ge i g.nd.length with hlt | hge
  · obtain ⟨d, hd⟩ : ∃ x, g.nd[i]? = some x := ⟨_, List.getElem?_eq_getElem hlt⟩
    obtain ⟨x, hx⟩ : ∃ x, hs[i]? = some x := ⟨_, List.getElem?_eq_getElem (by rw [h.len]; exact hlt)⟩
    have e := lsts_at hd
    rw [List.getD_eq_getElem?_getD, hi] at e
    obtain rfl : l = d.fs := e
    rw [hdr_at hx]
    exact (h.each i d x hd hx).fields
  · have hl : i = g.nd.length := by have := (List.getElem?_eq_some_iff.1 hi).1; rw [lsts_len] at this; omega
    subst hl
    have e := lsts_root g
    rw [List.getD_eq_getElem?_getD, hi] at e
    obtain rfl : l = g.rt := e
    rw [← h.len, hdr_root]
    exact h.roots
/-- The cells at a place. -/
theorem plc_cells {w w' : World} {B : Nat} {g : Gr} {vn vr : Value} {hs : List (Value × Value)} (h : RdG w B g vn vr hs) (b : Below B w w') (p : Plc g) :
    ∃ bb o, adr (hdr hs vr p.1.1) p.1.2 = some ⟨bb, o, none⟩ ∧ bb < B ∧ w'.cell? ⟨bb, o, none⟩ = some (.int .i64 (plcV g p.1).1) ∧ w'.cell? ⟨bb, o + 1, none⟩ = some (.int .i64 (plcV g p.1).2) := by
  obtain ⟨l, hl, hv⟩ := plc_mem g p
  have hs' := lsts_mem h hl
  obtain ⟨A, c, e, -⟩ := hs'.form
  rw [e] at hs' ⊢
  obtain ⟨bb, o, rfl, hb, c0, c1⟩ := sl_span hs' b hv
  exact ⟨bb, o + p.1.2 * 2, rfl, hb, c0, c1⟩

set_option maxHeartbeats 4000000 in
theorem right_any16 : RightGC 11 := by
  intro g vn vr hs B w h hB hfit
  have HR := Lib.hid h
  obtain ⟨A, c, rfl, hac, hcm⟩ := h.nodes.form
  obtain ⟨Ar, cr, rfl, harc, hcrm⟩ := h.roots.form
  unfold maxLen at hcm hcrm
  have HG := Lib.hid (grOk_all g)
  obtain ⟨q, hq⟩ : ∃ q, q = grOk g := ⟨_, rfl⟩
  have HQ := Lib.hid hq
  rw [← hq]
  obtain ⟨V, hV, HV⟩ : ∃ V, ((w.alloc (.cells #[.slice A g.nd.length c, .slice Ar g.rt.length cr] 25)).alloc (.cells #[.bool false] 4)) = V ∧ Hid (Only nob w V ∧ V.heap.size = w.heap.size + 2 ∧ Blk V w.heap.size 25 #[.slice A g.nd.length c, .slice Ar g.rt.length cr] ∧ Blk V (w.heap.size + 1) 4 #[.bool false]) :=
    ⟨_, rfl, Lib.hid ⟨((Only.refl nob w).alloc _).alloc _, by simp, (Blk.new w _ _).alloc _, Blk.newAt _ _ _ _ (by simp)⟩⟩
  have HVE := Lib.hid hV
  have HCF := Lib.hid (fun (w' : World) (b : Only nob w w') => contains16 g (.slice A g.nd.length c) (.slice Ar g.rt.length cr) hs B w' (HR.out.only b hB) (Nat.le_trans hB b.size))
  have v0 : V.cell? ⟨w.heap.size, 0, none⟩ = some (.slice A g.nd.length c) := HV.out.2.2.1.cell 0
  have v1 : V.cell? ⟨w.heap.size, 1, none⟩ = some (.slice Ar g.rt.length cr) := HV.out.2.2.1.cell 1
  have r0 : V.cell? ⟨w.heap.size + 1, 0, none⟩ = some (.bool false) := HV.out.2.2.2.cell 0
  have fr0 := HV.out.2.2.2.free 0
  clear hV hq h hfit
  refine (callsIn_wide (n := 3)).1 ?_
  refine callsIn_of_wp_marks Try.func11 rfl trivial ?_ rfl
  simp only [Try.ntmps11, List.size_toArray, List.length_cons, List.length_nil, Nat.reduceAdd, Nat.reduceSub, Array.replicate_succ, Array.replicate_zero, List.push_toArray, List.append_toArray, List.nil_append, List.cons_append]
  gi_wp2_with (with_reducible rw [HVE.out])
  refine ⟨trivial, ?_⟩
  gi_at_call 24
  refine (callsIn_wide.2 (HCF.out V HV.out.1)).mono ?_
  cases hany : g.nd.any ndBad with
  | true =>
    have HN := Lib.hid (show q = false by rw [HQ.out, HG.out, hany]; rfl)
    clear hany
    rintro e w1 ⟨rfl, o1⟩
    have O1 := Lib.hid (HV.out.1.trans o1)
    have B1 := HV.out.2.2.2.keep o1 id
    have r1 : w1.cell? ⟨w.heap.size + 1, 0, none⟩ = some (.bool false) := B1.cell 0
    have fr1 := B1.free 0
    have B2 : Blk (w1.setCell ⟨w.heap.size + 1, 0, none⟩ (.bool false)) (w.heap.size + 1) 4 #[.bool false] := by simpa using B1.put 0 (.bool false)
    have c2 : (w1.setCell ⟨w.heap.size + 1, 0, none⟩ (.bool false)).cell? ⟨w.heap.size + 1, 0, none⟩ = some (.bool false) := B2.cell 0
    have O2 := Lib.hid (O1.out.setCell (p := ⟨w.heap.size + 1, 0, none⟩) (fun h => absurd h (by show ¬ w.heap.size + 1 < w.heap.size; omega)) (.bool false))
    clear o1 v0 v1 r0 fr0 B1 B2
    gi_wp2
    refine ⟨.bool false, ?_, by rw [HN.out], O2.out⟩
    simp [results, Try.results11, go_sem, c2]
  | false =>
    have HN := Lib.hid (show q = (allV g).all (vOk g.nd.length) by rw [HQ.out, HG.out, hany]; rfl)
    clear hany
    rintro e w1 ⟨rfl, o1⟩
    have O1 := Lib.hid (HV.out.1.trans o1)
    have u0 := o1.keeps v0
    have u1 := o1.keeps v1
    have hsz : w.heap.size + 2 ≤ w1.heap.size := Nat.le_trans (Nat.le_of_eq HV.out.2.1.symm) o1.size
    have B1 := Lib.hid (HV.out.2.2.2.keep o1 id)
    have G1 := Lib.hid (HV.out.2.2.1.keep o1 id)
    clear o1 v0 v1 r0 fr0
    gi_wp2_with (refine ⟨trivial, ?_⟩; gi_at_call 26; refine (values_in _ _ _ _).mono ?_; rintro e w' ⟨rfl, rfl⟩)
    obtain ⟨W0, hW0, o0, hz0, bg0⟩ : ∃ W0, w1.alloc (.cells #[.slice A g.nd.length c, .slice Ar g.rt.length cr] 25) = W0 ∧ Only nob w1 W0 ∧ W0.heap.size = w1.heap.size + 1 ∧ Blk W0 w1.heap.size 25 #[.slice A g.nd.length c, .slice Ar g.rt.length cr] :=
      ⟨_, rfl, (Only.refl nob w1).alloc _, by simp, Blk.new w1 _ _⟩
    rw [hW0]
    have OW0 := Lib.hid (O1.out.trans o0)
    have RW0 := Lib.hid (HR.out.only OW0.out hB)
    have hz1 : w1.heap.size < W0.heap.size := by omega
    have BR := Lib.hid (B1.out.keep o0 id)
    have BG := Lib.hid (G1.out.keep o0 id)
    have hh0 : W0.cell? ⟨w1.heap.size, 0, none⟩ = some (.slice A g.nd.length c) := bg0.cell 0
    have hh1 : W0.cell? ⟨w1.heap.size, 1, none⟩ = some (.slice Ar g.rt.length cr) := bg0.cell 1
    clear hW0 o0 hz0 bg0 u0 u1
    refine wpIn_rangeFunc_ownH rfl (by decide) (gf := 44) (lb := #[.pointer (some ⟨w1.heap.size, 0, none⟩)]) rfl trivial (enters_of Try.func44 (by kernel_rfl) rfl)
      (itValues w1.heap.size W0.heap.size nob g (.slice A g.nd.length c) (.slice Ar g.rt.length cr) hs W0 hz1 id hh0 hh1 (RdG.hd (RW0.out.more (Nat.le_trans hB OW0.out.size))) (Nat.le_refl _)) KeepsV.trans (fun W l o o' h1 _ _ _ => KeepsV.putObj W l o' h1) (Below.refl _ _) (fun _ => rfl)
      (fun pre W => (∀ p ∈ pre, vOk g.nd.length (plcV g p.1) = true) ∧ Only nob W0 W)
      (fun c pre W => c = .ret ∧ (∃ p ∈ pre, vOk g.nd.length (plcV g p.1) = false) ∧ Only (isb (w.heap.size + 1)) W0 W ∧ Blk W (w.heap.size + 1) 4 #[.bool false])
      ?hI ?hIx ⟨(fun _ h => by cases h), Only.refl _ _⟩
      (fun x a' W => a' = { tmps := #[.agg #[.slice A g.nd.length c, .slice Ar g.rt.length cr], .pointer (some ⟨w.heap.size, 0, none⟩), .pointer (some ⟨w.heap.size + 1, 0, none⟩), .pointer (adr (hdr hs (.slice Ar g.rt.length cr) x.1.1) x.1.2), .pointer (some ⟨w.heap.size, 0, none⟩), .slice A g.nd.length c, .bool false, .agg #[.slice A g.nd.length c, .slice Ar g.rt.length cr], .func (.func 44) #[] #[.pointer (some ⟨w1.heap.size, 0, none⟩)], .pointer (adr (hdr hs (.slice Ar g.rt.length cr) x.1.1) x.1.2), undef, undef, undef, undef, undef, undef, undef, undef], defers := [] })
      (fun x a' _ X Y row hs hg hr => hs)
      ?assign ?body ?done ?stop
    case hI =>
      rintro pre W W' row ⟨h1, h2⟩ hg hr
      exact ⟨h1, only_from16 h2 hg fun k e => (hr k e).1⟩
    case hIx =>
      rintro c pre W W' row ⟨rfl, h1, h2, h3⟩ hg hr
      exact ⟨rfl, h1, only_from16 h2 hg fun k e => (hr k e).1, blk_kept16 h3 hg fun r e => (hr r e).2⟩
    case assign =>
      rintro lp pre x W K hI hK
      dsimp only [plcE]
      gi_wp2
      exact hK _ _ ((KeepsOthers.refl _).from _) (KeepsV.refl _ _ _) hI rfl
    case body =>
      rintro lp pre x a' W hl ⟨r, hr⟩ ⟨hy, hO⟩ rfl hlt
      have HO := Lib.hid hO
      have HY := Lib.hid hy
      obtain ⟨bb, o, had, hbb, c0, c1⟩ := plc_cells (RW0.out.more (Nat.le_trans hB OW0.out.size)) (HO.out.below (Nat.le_refl _) fun _ h => h.elim) x
      rw [had]
      have g0 : W.cell? ⟨w.heap.size, 0, none⟩ = some (.slice A g.nd.length c) := HO.out.keeps (BG.out.cell 0)
      have BR1 := Lib.hid (BR.out.keep HO.out id)
      have r0 : W.cell? ⟨w.heap.size + 1, 0, none⟩ = some (.bool false) := BR1.out.cell 0
      obtain ⟨v, hv⟩ : ∃ v, v = plcV g x.1 := ⟨_, rfl⟩
      have HVV := Lib.hid hv
      rw [← hv] at c0 c1
      have HC := Lib.hid (fun (w' : World) => mayStand_any v.1 v.2 g.nd.length w')
      have e0 := wat_cell c0
      have e1 := wat_cell c1
      have e2 := wat_cell g0
      clear hO hy hv had c0 c1 g0
      cases hok : vOk g.nd.length (v.1, v.2) with
      | true =>
        rw [hok] at HC
        have HK := Lib.hid hok
        clear hok
        gi_wp2_with fail
        refine wpIn_region_only_tail (wideLike_in lp) 7 mixed16 (by kernel_rfl) (by kernel_rfl) ?_
        simp only [List.take_succ_cons, List.take_zero, List.drop_succ_cons, List.drop_zero]
        repeat (quiet_step (first | (go_at_call 27; with_reducible refine wat_call (HC.out _))))
        refine wpQuiet_nil ?_
        rintro w' ⟨⟨nq, osq⟩, rfl⟩
        obtain ⟨W2, hW2, O2⟩ := wat_name W nq osq
        rw [hW2]
        clear hW2 e0 e1 e2
        gi_wp2
        refine ⟨(others_nob16 O2.out).from _, KeepsV.only O2.out (fun _ _ h => h.elim), fun p hp => ?_, HO.out.trans O2.out⟩
        rcases List.mem_append.1 hp with h | h
        · exact HY.out p h
        · rw [List.mem_singleton.1 h, ← HVV.out]; exact HK.out
      | false =>
        rw [hok] at HC
        have HK := Lib.hid hok
        clear hok
        gi_wp2_with fail
        refine wpIn_region_only_tail (wideLike_in lp) 7 mixed16 (by kernel_rfl) (by kernel_rfl) ?_
        simp only [List.take_succ_cons, List.take_zero, List.drop_succ_cons, List.drop_zero]
        repeat (quiet_step (first | (go_at_call 27; with_reducible refine wat_call (HC.out _))))
        refine wpQuiet_nil ?_
        rintro w' ⟨⟨nq, osq⟩, rfl⟩
        obtain ⟨W2, hW2, O2⟩ := wat_name W nq osq
        rw [hW2]
        have BR2 := BR1.out.keep O2.out id
        have r2 : W2.cell? ⟨w.heap.size + 1, 0, none⟩ = some (.bool false) := BR2.cell 0
        have fr2 := BR2.free 0
        have BR3 : Blk (W2.setCell ⟨w.heap.size + 1, 0, none⟩ (.bool false)) (w.heap.size + 1) 4 #[.bool false] := by simpa using BR2.put 0 (.bool false)
        have HBR3 := Lib.hid BR3
        have O3 := Lib.hid (show Only (isb (w.heap.size + 1)) W0 (W2.setCell ⟨w.heap.size + 1, 0, none⟩ (.bool false)) from ((HO.out.trans O2.out).mono fun _ _ h => h.elim).trans (only_set _ _ _ _))
        clear hW2 e0 e1 e2 r0 BR2 BR3
        gi_wp2
        exact ⟨((others_nob16 O2.out).trans (KeepsOthers.setCell _ _ _)).from _, rfl, ⟨x, by simp, by rw [← HVV.out]; exact HK.out⟩, O3.out, HBR3.out⟩
    case done =>
      rintro D ys W hD hS ⟨hy, hO⟩ hK
      have HN2 := Lib.hid (show q = true by
        rw [HN.out, List.all_eq_true]
        intro v hv
        obtain ⟨p, hp, rfl⟩ := plc_of hv
        rw [← hS] at hp
        obtain ⟨y, hy1, rfl⟩ := List.mem_map.1 hp
        exact hy y hy1)
      have BR2 := BR.out.keep hO id
      have r2 : W.cell? ⟨w.heap.size + 1, 0, none⟩ = some (.bool false) := BR2.cell 0
      have fr2 := BR2.free 0
      have HB3 := Lib.hid (show Blk (W.setCell ⟨w.heap.size + 1, 0, none⟩ (.bool true)) (w.heap.size + 1) 4 #[.bool true] by simpa using BR2.put 0 (.bool true))
      have O3 := Lib.hid ((OW0.out.trans hO).setCell (p := ⟨w.heap.size + 1, 0, none⟩) (fun h => absurd h (by show ¬ w.heap.size + 1 < w.heap.size; omega)) (.bool true))
      have HKD := Lib.hid hK
      clear hy hO hK BR2
      gi_wp2
      have hK' := (KeepsOthers.setCell W ⟨w.heap.size + 1, 0, none⟩ (.bool true)).same D _ HKD.out rfl
      refine ⟨by simp, .inl ⟨_, _, rfl, run_takeDeferred hK', ?_⟩⟩
      have q0 := (blk_putObj16 HB3.out (.deferred none) hK' rfl).cell 0
      simp at q0
      refine ⟨.bool true, ?_, by rw [HN2.out], below_done16 (O3.out.whole) (by omega) hK'⟩
      simp [results, Try.results11, go_sem, q0]
    case stop =>
      rintro D c pre W hD hpre ⟨rfl, ⟨p, hp, hbad⟩, hO, hBR⟩ hK
      have HN2 := Lib.hid (show q = false by
        rw [HN.out]
        have hm : p.1 ∈ allP g := hpre.subset (List.mem_map.2 ⟨p, hp, rfl⟩)
        obtain ⟨l, hl, hv⟩ := plc_mem g p
        rw [List.all_eq_false]
        exact ⟨plcV g p.1, List.mem_flatten.2 ⟨l, List.mem_of_getElem? hl, List.mem_of_getElem? hv⟩, by rw [hbad]; simp⟩)
      have HBB := Lib.hid hBR
      have HKD := Lib.hid hK
      have O3 := Lib.hid (show Only nob w W from OW0.out.andThen hO fun i hi e => by unfold isb at e; omega)
      clear hO hBR hK
      gi_wp2
      have hK' := HKD.out
      refine ⟨by simp, .inl ⟨_, _, rfl, run_takeDeferred hK', ?_⟩⟩
      have q0 := (blk_putObj16 HBB.out (.deferred none) hK' rfl).cell 0
      simp at q0
      refine ⟨.bool false, ?_, by rw [HN2.out], below_done16 (O3.out.whole) (by omega) hK'⟩
      simp [results, Try.results11, go_sem, q0]
end Go.Proofs.Ytdlaigghejahdaa
