/- Package reach's tiers in memory: a map of rows; what waits in a block. -/
import Derived.Test.YtkjdnccnfnhkoaaReRun
import Derived.Test.YtkjdnccnfnhkoaaHeldX
import Derived.Maps.OwnSet
namespace Go.Proofs.Ytkjdnccnfnhkoaa
open Go.RowKit Go.Maps Go.ChangeMaps Go.Lib
set_option maxRecDepth 100000
set_option linter.unusedSimpArgs false
set_option linter.unusedVariables false

def nilV : Value := .slice none 0 0
def asIs17 (v : Value) : Option (DataW Value × List MemPlace) := some (.held v, [])
def I64b (z : Int) : Prop := 0 ≤ z ∧ z ≤ 9223372036854775807
theorem keyInt17 : Keyed Try.prog 3 := int_keyed Try.underlying3
theorem keyOf17 {p : Int} (h : I64b p) : keyOf Try.prog 3 (.int .i64 p) = some (.int .i64 p) := keyOf_int_mk Try.underlying3 (WalkArith.wf_i64 (by unfold I64b at h; omega))
theorem isKey17 (p : Int) : WideAt.IsKeyLit (.int .i64 p) := by
  unfold WideAt.IsKeyLit
  simp
theorem zeroRow17 (w : World) : (zeroValue 28).run Try.prog w = .ok nilV w := by kernel_rfl
/-- Block mp is a map that holds V's row at each number from 0 on. -/
def VMap (w : World) (mp n : Nat) (V : Int → Value) : Prop :=
  ∃ D : DataW Value, w.ownsMap Try.prog 3 asIs17 mp n D ∧ ∀ p : Int, I64b p → D.atKey (.int .i64 p) (.held nilV) = .held (V p)
section
variable {w w' : World} {mp n : Nat} {V V' : Int → Value} {F : Nat → Prop}
theorem VMap.lt (h : VMap w mp n V) : mp < w.heap.size := by
  obtain ⟨D, h, -⟩ := h
  exact h.lt
theorem VMap.keep (h : VMap w mp n V) (o : Only F w w') (hn : ¬ F mp) : VMap w' mp n V := by
  obtain ⟨D, ⟨es, clock, hb, r⟩, h2⟩ := h
  have hlt : mp < w.heap.size := (Array.getElem?_eq_some_iff.1 hb).1
  exact ⟨D, ⟨es, clock, (o.block mp hlt hn).trans hb, r⟩, h2⟩
theorem VMap.like (h : VMap w mp n V) (e : ∀ p, 0 ≤ p → V' p = V p) : VMap w mp n V' := by
  obtain ⟨D, h1, h2⟩ := h
  exact ⟨D, h1, fun p hp => by rw [h2 p hp, e p hp.1]⟩
theorem VMap.new (w : World) (hV : ∀ p, 0 ≤ p → V p = nilV) : VMap (w.alloc (.map #[] 0)) w.heap.size 0 V :=
  ⟨_, World.ownsMap_made w _ _ _, fun p hp => by rw [hV p hp.1]; rfl⟩
theorem turned17 (h : w.mapTurned w' mp) : Only (isb mp) w w' := by
  obtain ⟨es, clock, es', clock', hb, rfl⟩ := h
  exact ⟨rfl, rfl, rfl, by simp [setBlock], fun k _ hn => heap_setBlock_other hb _ hn⟩
theorem VMap.put (h : VMap w mp n V) (p : Int) (v : Value) (hp : I64b p) (hn : n < 4611686018427387904) :
    ∃ w', (Instr.mapUpdate 55 (.map (some mp)) (.int .i64 p) v).run Try.prog w = .ok () w' ∧ VMap w' mp (n + 1) (upd V p v) ∧ Only (isb mp) w w' := by
  obtain ⟨D, h, h2⟩ := h
  obtain ⟨w', e, h', ht⟩ := h.store keyInt17 Try.underlying55 (by unfold maxLen; omega) (keyOf17 hp) (show asIs17 v = some (.held v, []) from rfl)
  refine ⟨w', e, ⟨_, h', fun q hq => ?_⟩, turned17 ht⟩
  by_cases hpq : p = q
  · subst hpq
    rw [upd_same]
    exact atKey_put_same h.isMap (isKey17 p) _ _
  · have hne : (Lit.int .i64 q) ≠ (.int .i64 p) := fun e => hpq (by injection e with _ e; exact e.symm)
    rw [atKey_put_other hne, upd_other (Ne.symm hpq)]
    exact h2 q hq
theorem VMap.at_ (h : VMap w mp n V) (p : Int) (hp : I64b p) : (Instr.lookup 55 (.map (some mp)) (.int .i64 p) false).run Try.prog w = .ok (V p) w := by
  obtain ⟨D, h, h2⟩ := h
  obtain ⟨v, ps, e, hv⟩ := h.lookup keyInt17 Try.underlying55 (zeroRow17 w) (show asIs17 nilV = some (.held nilV, []) from rfl) (keyOf17 hp)
  unfold asIs17 at hv
  simp only [Option.some.injEq, Prod.mk.injEq] at hv
  rw [h2 p hp] at hv
  have : v = V p := by simpa using hv.1
  rw [← this]; exact e
theorem VMap.ne_blk {g : Nat} {t : TypeId} {cs : Array Value} (h : VMap w mp n V) (b : Blk w g t cs) : g ≠ mp := by
  rintro rfl
  obtain ⟨D, ⟨es, clock, hb, -⟩, -⟩ := h
  unfold Blk at b
  rw [b] at hb
  cases hb
theorem VMap.ne_rows {base : Nat} {E : TypeId} {U : Int → Value} {L : Int → List Int} (h : VMap w mp n V) (r : Rws w base E U L) : ¬ blks U mp := fun ⟨i, e⟩ => by
  obtain ⟨cur, hb⟩ := (r.own i).blk e
  exact h.ne_blk hb rfl
end

/-- The tiers' own box, and map. -/
structure Tq (W : World) (tb mp base b : Nat) (blk : Int) (V : Int → Value) (q : QSt) : Prop where
  box : Blk W tb 57 #[.pointer (some ⟨b, 0, none⟩), .int .i64 blk, .map (some mp), V (-5), .int .i64 q.last, .int .i64 q.tp]
  map : VMap W mp q.pt V
  nt : base ≤ tb
  np : base ≤ mp
def Tf (tb mp : Nat) (V : Int → Value) (k : Nat) : Prop := k = tb ∨ k = mp ∨ blks V k
/-- The tiers have gone on: the plan's own rows lie where they lay. -/
structure Stt (tb mp : Nat) (V V' : Int → Value) (W w' : World) : Prop where
  only : Only (Tf tb mp V) W w'
  grow : ∀ k, blks V' k → k < W.heap.size → Tf tb mp V k
  same : ∀ i, i < 0 → i ≠ -5 → V' i = V i
section
variable {W w1 w' w'' : World} {b mb tb mp base : Nat} {vn vr : Value} {lim blk : Int} {n : Nat} {V V' V'' : Int → Value} {M : List Int} {q q' : QSt} {F : Nat → Prop}
theorem Stt.refl (tb mp : Nat) (V : Int → Value) (W : World) : Stt tb mp V V W W := ⟨Only.refl _ _, fun k h _ => .inr (.inr h), fun _ _ _ => rfl⟩
theorem Stt.kept (tb mp : Nat) (V : Int → Value) (o : Only nob W w') : Stt tb mp V V W w' := ⟨o.mono fun _ _ h => h.elim, fun k h _ => .inr (.inr h), fun _ _ _ => rfl⟩
theorem Stt.trans (h : Stt tb mp V V' W w') (k : Stt tb mp V' V'' w' w'') : Stt tb mp V V'' W w'' := by
  have hq : ∀ i, i < W.heap.size → Tf tb mp V' i → Tf tb mp V i := fun i hi e => by
    rcases e with e | e | e
    · exact .inl e
    · exact .inr (.inl e)
    · exact h.grow i e hi
  exact ⟨h.only.andThen k.only hq, fun i hi hlt => hq i hlt (k.grow i hi (Nat.lt_of_lt_of_le hlt h.only.size)), fun i hi h5 => (k.same i hi h5).trans (h.same i hi h5)⟩
theorem Stt.more (h : Stt tb mp V V' W w') (o : Only nob w' w'') : Stt tb mp V V' W w'' := h.trans (Stt.kept tb mp V' o)
theorem Tq.kept (h : Tq W tb mp base b blk V q) (o : Only nob W w') : Tq w' tb mp base b blk V q := ⟨h.box.keep o id, h.map.keep o id, h.nt, h.np⟩
theorem Tq.off (h : Tq W tb mp base b blk V q) (o : Only F W w') (h1 : ¬ F tb) (h2 : ¬ F mp) : Tq w' tb mp base b blk V q := ⟨h.box.keep o h1, h.map.keep o h2, h.nt, h.np⟩
theorem Tq.nm (h : Tq W tb mp base b blk V q) : tb ≠ mp := h.map.ne_blk h.box
/-- The plan has gone on. -/
theorem Tq.plan (h : Tq W tb mp base b blk V q) (p : Qp W b mb base vn vr lim n V M q) (s : Stp b mb V V' W w') (e1 : q'.last = q.last) (e2 : q'.tp = q.tp) (e3 : q'.pt = q.pt) : Tq w' tb mp base b blk V' q' := by
  have h1 : ¬ Qf b mb V tb := fun e => by
    rcases e with e | e | e
    · exact absurd e (h.box.ne p.box (by decide))
    · exact absurd e (h.box.ne p.fl (by decide))
    · exact p.rows.ne h.box (by decide) e
  have h2 : ¬ Qf b mb V mp := fun e => by
    rcases e with e | e | e
    · exact h.map.ne_blk p.box e.symm
    · exact h.map.ne_blk p.fl e.symm
    · exact h.map.ne_rows p.rows e
  have h3 := h.off s.only h1 h2
  refine ⟨?_, ?_, h.nt, h.np⟩
  · rw [s.same (-5) (.inl rfl), e1, e2]; exact h3.box
  · rw [e3]; exact h3.map.like fun p hp => s.same p (.inr hp)
/-- The plan lies as it lay, when the tiers have gone on. -/
theorem Qp.tier (p : Qp W b mb base vn vr lim n V M q) (h : Tq W tb mp base b blk V q) (o : Only F W w') (hF : ∀ k, F k → Tf tb mp V k) (hr : Rws w' base 3 V' (rowsQ q')) (hs : ∀ i, i < 0 → i ≠ -5 → V' i = V i) (hk : q'.k = q.k) : Qp w' b mb base vn vr lim n V' M q' := by
  have hb : ¬ F b := fun f => by
    rcases hF b f with e | e | e
    · exact absurd e (p.box.ne h.box (by decide))
    · exact h.map.ne_blk p.box e
    · exact p.bn e
  have hm : ¬ F mb := fun f => by
    rcases hF mb f with e | e | e
    · exact absurd e (p.fl.ne h.box (by decide))
    · exact h.map.ne_blk p.fl e
    · exact p.mn e
  refine ⟨?_, p.fl.keep o hm, hr, p.nb, p.nm⟩
  rw [hs (-1) (by decide) (by decide), hs (-2) (by decide) (by decide), hs (-3) (by decide) (by decide), hs (-4) (by decide) (by decide), hk]
  exact p.box.keep o hb
end
/-- A node waits. -/
def blkOf (blk : Int) (q : QSt) : Int := q.tp.tdiv blk
def waitQ (g : Gr) (blk : Int) (q : QSt) (x : Int) : QSt :=
  { q with last := blkOf blk q, tp := wrap64 (q.tp + ndSz (ndAt g x)), bg := if q.wt (blkOf blk q) = [] then q.bg ++ [blkOf blk q] else q.bg, wt := upd q.wt (blkOf blk q) (q.wt (blkOf blk q) ++ [x]), pt := q.pt + 1 }
def firstInQ (z : Int) (q : QSt) : Option Int × QSt :=
  match q.wt z with
  | [] => (none, q)
  | x :: r => (some x, { q with wt := upd q.wt z r, pt := q.pt + 1 })
def scanQ : List Int → QSt → Option Int × QSt
  | [], q => (none, { q with bg := [] })
  | z :: r, q => match q.wt z with
    | x :: l => (some x, { q with bg := z :: r, wt := upd q.wt z l, pt := q.pt + 1 })
    | [] => scanQ r q
def nearT (blk : Int) (q : QSt) : Option Int × QSt :=
  match firstInQ q.last q with
  | (some x, q') => (some x, q')
  | (none, q') => scanQ q'.bg q'
def nearQ (g : Gr) (lim blk : Int) (q : QSt) : Option Int × QSt :=
  nearT blk (((allS g lim q).small.drop q.s.small.length).foldl (waitQ g blk) (allQ g lim q))
theorem rows_wt {q : QSt} {z : Int} {l : List Int} (hz : 0 ≤ z) {q' : QSt} (e1 : q'.s = q.s) (e2 : q'.ah = q.ah) (e3 : q'.bg = q.bg) (e4 : q'.wt = upd q.wt z l) : rowsQ q' = upd (rowsQ q) z l := by
  funext i
  unfold rowsQ
  rw [e1, e2, e3, e4]
  unfold upd
  by_cases h : i = z
  · subst h
    simp [show ¬ i = -1 by omega, show ¬ i = -2 by omega, show ¬ i = -3 by omega, show ¬ i = -4 by omega, show ¬ i = -5 by omega]
  · simp [h]
theorem rows_bg {q : QSt} {l : List Int} {q' : QSt} (e1 : q'.s = q.s) (e2 : q'.ah = q.ah) (e3 : q'.bg = l) (e4 : q'.wt = q.wt) : rowsQ q' = upd (rowsQ q) (-5) l := by
  funext i
  unfold rowsQ
  rw [e1, e2, e3, e4]
  unfold upd
  by_cases h : i = -5 <;> simp [h]
theorem rows_at {q : QSt} {z : Int} (hz : 0 ≤ z) : rowsQ q z = q.wt z := by
  unfold rowsQ
  simp [show ¬ z = -1 by omega, show ¬ z = -2 by omega, show ¬ z = -3 by omega, show ¬ z = -4 by omega, show ¬ z = -5 by omega]
/-- A store into a map, whose run is known, as a step of a region that draws its order. -/
theorem step_put17 {P : Program} (w : World) {ops : Array Oper} {o : Oper} {a : Act} {K : Act → World → Prop} {Q : Exit → Act → World → Prop} {X : Prop} (hg : o.guard = none) (m x v : Operand) (t : TypeId) (hop : o.op = Op.mapUpdate t m x v) (mv kv vv : Value)
    (hm : a.eval m = mv) (hx : a.eval x = kv) (hv : a.eval v = vv) (w' : World) (hrun : (Instr.mapUpdate t mv kv vv).run P w = .ok () w') (hK : K (a.put o.dst undef) w') : if Region.wanted o (yielded ops a.tmps) = true then Oper.wp P o a w K Q else X := by
  have hw : Region.wanted o (yielded ops a.tmps) = true := by simp [Region.wanted, hg]
  rw [if_pos hw]
  unfold Oper.wp
  simp [execOp, hop, hm, hx, hv, hrun, Result.andThen]
  exact hK
set_option maxHeartbeats 8000000 in
theorem firstIn17 (W : World) (b mb tb mp base : Nat) (n : Nat) (vn vr : Value) (lim blk : Int) (V : Int → Value) (M : List Int) (q : QSt) (z : Int) (h : Qp W b mb base vn vr lim n V M q) (t : Tq W tb mp base b blk V q) (hz : I64b z) (hpt : q.pt ≤ 4000000000000) :
    Calls Try.prog 42 #[.pointer (some ⟨tb, 0, none⟩), .int .i64 z] W fun e w' => ∃ V', e = .returned (.tuple #[.int .i64 ((firstInQ z q).1.getD 0), .bool (firstInQ z q).1.isSome]) ∧
      Qp w' b mb base vn vr lim n V' M (firstInQ z q).2 ∧ Tq w' tb mp base b blk V' (firstInQ z q).2 ∧ Stt tb mp V V' W w' := by
  obtain ⟨j0, hj0, hy0, hy1, hy2⟩ := info_parts info_int
  have hlk := t.map.at_ z hz
  obtain ⟨A, c, hv, hc, hm⟩ := (h.rows.own z).form
  rw [hv, rows_at hz.1] at hlk
  have c2 : W.cell? ⟨tb, 2, none⟩ = some (.map (some mp)) := t.box.cell 2
  rw [rows_at hz.1] at hv hc
  cases hw : q.wt z with
  | nil =>
    have HF := Lib.hid (show firstInQ z q = (none, q) by unfold firstInQ; rw [hw])
    have HQ := Lib.hid h
    have HT := Lib.hid t
    rw [hw] at hlk
    simp only [List.length_nil] at hlk
    clear h t hv hc hm hw
    go_enter Try.func42, Try.ntmps42
    go_wp2
    go_ret2
    refine ⟨V, ?_, ?_, ?_, Stt.refl _ _ _ _⟩
    · rw [HF.out]; rfl
    · rw [HF.out]; exact HQ.out
    · rw [HF.out]; exact HT.out
  | cons x r =>
    have HF := Lib.hid (show firstInQ z q = (some x, { q with wt := upd q.wt z r, pt := q.pt + 1 }) by unfold firstInQ; rw [hw])
    have HQ := Lib.hid h
    have HT := Lib.hid t
    have how := h.rows.own z
    rw [rows_at hz.1, hw, hv, hw] at how
    rw [hw] at hlk hc hv
    simp only [List.length_cons] at hlk hc how hv
    obtain ⟨n1, hn1⟩ : ∃ m, m = r.length + 1 := ⟨_, rfl⟩
    have HN1 := Lib.hid hn1
    have hcons : i64s (x :: r) = .int .i64 x :: i64s r := rfl
    rw [hcons] at how
    obtain ⟨ht1, ht2⟩ := how.tail
    obtain ⟨g8, o8, cur8, rfl, -, -, hc8⟩ := how.at_ (by omega)
    have hx8 : W.cell? ⟨g8, o8, none⟩ = some (.int .i64 x) := by simpa using hc8 0 _ rfl
    have hcut := run_cut_l (P := Try.prog) Try.underlying28 hj0 (some ⟨g8, o8, none⟩) (r.length + 1) c 1 (by omega)
    rw [hy1] at hcut
    obtain ⟨u, hu⟩ : ∃ u, cutv (some ⟨g8, o8, none⟩) 1 (r.length + 1) c 1 = u := ⟨_, rfl⟩
    rw [hu] at hcut ht1 ht2
    have hcut : ∀ w, (Instr.sliceAt 28 (.slice (some ⟨g8, o8, none⟩) (r.length + 1) c) (some (.int .i64 1)) none none).run Try.prog w = .ok u w := hcut
    rw [← hn1] at hlk hc hcut hv
    have hn1p : 0 < n1 := by omega
    have hn1z : ((n1 : Int) == 0) = false := by
      have : ¬ ((n1 : Int) = 0) := by omega
      simpa using this
    unfold maxLen at hm
    have HV := Lib.hid hv
    have HU1 := Lib.hid ht1
    have HU2 := Lib.hid ht2
    clear h t how hc8 hcons ht1 ht2 hn1 hu hv
    go_enter Try.func42, Try.ntmps42
    go_wp2_with fail
    refine region_heldX (stop := 7) (S := fun w' : World => w'.cell? ⟨tb, 2, none⟩ = some (.map (some mp))) (by kernel_rfl) c2 (fun hHeld => ?_)
    clear c2
    obtain ⟨WD, hWD, oD⟩ : ∃ X, W.drew = X ∧ Only nob W X := ⟨_, rfl, (Only.refl nob W).drewN 1⟩
    rw [hWD] at hHeld ⊢
    have OD := Lib.hid oD
    clear hWD oD
    refine anyX_take (i := 0) (v := ?_) rfl (by kernel_rfl) (by kernel_rfl) (by kernel_rfl) (by kernel_rfl) (fun _ _ _ h => h) (Or.inl ⟨by rfl, ?_⟩) hHeld ?_
    rotate_left
    · intro w hSw; (try dsimp only at hSw); go_simp; first | done | with_reducible rfl
    try simp only [Act.put, List.setIfInBounds_toArray, List.set_cons_zero, List.set_cons_succ, List.getElem_toArray, List.getElem_cons_succ, List.getElem_cons_zero]
    refine anyX_take (i := 1) (v := ?_) rfl (by kernel_rfl) (by kernel_rfl) (by kernel_rfl) (by kernel_rfl) (fun _ _ _ h => h) (Or.inl ⟨by rfl, ?_⟩) hHeld ?_
    rotate_left
    · intro w hSw; (try dsimp only at hSw); go_simp; first | done | with_reducible rfl
    try simp only [Act.put, List.setIfInBounds_toArray, List.set_cons_zero, List.set_cons_succ, List.getElem_toArray, List.getElem_cons_succ, List.getElem_cons_zero]
    refine anyX_take (i := 2) (v := ?_) rfl (by kernel_rfl) (by kernel_rfl) (by kernel_rfl) (by kernel_rfl) (fun _ _ _ h => h) (Or.inl ⟨by rfl, ?_⟩) hHeld ?_
    rotate_left
    · intro w hSw; (try dsimp only at hSw); go_simp; first | done | with_reducible rfl
    try simp only [Act.put, List.setIfInBounds_toArray, List.set_cons_zero, List.set_cons_succ, List.getElem_toArray, List.getElem_cons_succ, List.getElem_cons_zero]
    refine anyX_take (i := 3) (v := ?_) rfl (by kernel_rfl) (by kernel_rfl) (by kernel_rfl) (by kernel_rfl) (fun _ _ _ h => h) (Or.inl ⟨by rfl, ?_⟩) hHeld ?_
    rotate_left
    · intro w hSw; (try dsimp only at hSw); go_simp; first | done | with_reducible rfl
    try simp only [Act.put, List.setIfInBounds_toArray, List.set_cons_zero, List.set_cons_succ, List.getElem_toArray, List.getElem_cons_succ, List.getElem_cons_zero]
    refine anyX_take (i := 4) (v := ?_) rfl (by kernel_rfl) (by kernel_rfl) (by kernel_rfl) (by kernel_rfl) (fun _ _ _ h => h) (Or.inl ⟨by rfl, ?_⟩) hHeld ?_
    rotate_left
    · intro w hSw; (try dsimp only at hSw); go_simp; first | done | with_reducible rfl
    try simp only [Act.put, List.setIfInBounds_toArray, List.set_cons_zero, List.set_cons_succ, List.getElem_toArray, List.getElem_cons_succ, List.getElem_cons_zero]
    refine anyX_take (i := 5) (v := ?_) rfl (by kernel_rfl) (by kernel_rfl) (by kernel_rfl) (by kernel_rfl) (fun _ _ _ h => h) (Or.inl ⟨by rfl, ?_⟩) hHeld ?_
    rotate_left
    · intro w hSw; (try dsimp only at hSw); go_simp; first | done | with_reducible rfl
    try simp only [Act.put, List.setIfInBounds_toArray, List.set_cons_zero, List.set_cons_succ, List.getElem_toArray, List.getElem_cons_succ, List.getElem_cons_zero]
    refine anyX_take (i := 6) (v := ?_) rfl (by kernel_rfl) (by kernel_rfl) (by kernel_rfl) (by kernel_rfl) (fun _ _ _ h => h) (Or.inl ⟨by rfl, ?_⟩) hHeld ?_
    rotate_left
    · intro w hSw; (try dsimp only at hSw); go_simp; first | done | with_reducible rfl
    try simp only [Act.put, List.setIfInBounds_toArray, List.set_cons_zero, List.set_cons_succ, List.getElem_toArray, List.getElem_cons_succ, List.getElem_cons_zero]
    obtain ⟨W2, hrun2, hm2, o2⟩ := (HT.out.map.keep OD.out id).put z u hz (by omega)
    have HR2 := Lib.hid hrun2
    have O2 := Lib.hid (show Only (isb mp) W W2 from (OD.out.mono fun _ _ h => h.elim).trans o2)
    have HM2 := Lib.hid hm2
    have hg8 : g8 ≠ mp := fun e => HT.out.map.ne_rows HQ.out.rows ⟨z, by rw [HV.out, ← e]; rfl⟩
    have e8 : W2.cell? ⟨g8, o8, none⟩ = some (.int .i64 x) := by rw [O2.out.cell (World.block_lt_of_cell? W _ hx8) hg8]; exact hx8
    clear hrun2 hm2 o2 hx8
    refine anyX_ready (rs := [7]) (by kernel_rfl) (by simp) ?_
    refine (AllX.cons rfl (fun K hK => ?_) AllX.nil)
    refine step_put17 _ (by rfl) _ _ _ _ (by rfl) _ _ _ (by rfl) (by rfl) (by rfl) _ HR2.out ?_
    refine hK.out _ _ (fun h => absurd rfl h) (fun hHeld2 => ?_)
    clear hK K hHeld hHeld2
    try simp only [Act.put, List.setIfInBounds_toArray, List.set_cons_zero, List.set_cons_succ, List.getElem_toArray, List.getElem_cons_succ, List.getElem_cons_zero]
    refine anyX_done (by kernel_rfl) ?_ _
    go_wp2
    go_ret2
    have hrw := (HQ.out.rows.cut z (l := r) HU1.out (fun k e => by rw [HV.out, HN1.out]; exact HU2.out k e)).only O2.out (fun k hk e => by
      unfold isb at e
      subst e
      obtain ⟨i, hi⟩ := hk
      by_cases h : i = z
      · subst h
        rw [upd_same] at hi
        exact HT.out.map.ne_rows HQ.out.rows ⟨i, by rw [HV.out, HN1.out]; exact HU2.out _ hi⟩
      · rw [upd_other h] at hi
        exact HT.out.map.ne_rows HQ.out.rows ⟨i, hi⟩)
    refine ⟨upd V z u, by rw [HF.out]; rfl, ?_, ?_, ?_⟩
    · rw [HF.out]
      refine HQ.out.tier HT.out O2.out (fun k e => .inr (.inl e)) (hrw.like rfl (rows_wt hz.1 rfl rfl rfl rfl)) (fun i hi _ => upd_other (by have := hz.1; omega)) rfl
    · rw [HF.out]
      refine ⟨?_, HM2.out, HT.out.nt, HT.out.np⟩
      rw [upd_other (by have := hz.1; omega)]
      exact HT.out.box.keep O2.out HT.out.nm
    · refine ⟨O2.out.mono fun k _ e => .inr (.inl e), ?_, fun i hi _ => upd_other (by have := hz.1; omega)⟩
      rintro k ⟨i, hi⟩ hlt
      by_cases h : i = z
      · subst h
        rw [upd_same] at hi
        exact .inr (.inr ⟨i, by rw [HV.out, HN1.out]; exact HU2.out k hi⟩)
      · rw [upd_other h] at hi
        exact .inr (.inr ⟨i, hi⟩)
end Go.Proofs.Ytkjdnccnfnhkoaa
