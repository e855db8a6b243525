/- Package reach's tiers in memory: a map of rows; what waits in a block. -/
import Derived.Test.YtmnehonmbjnnaaaRePl2
import Derived.Test.YtmnehonmbjnnaaaHeld
import Derived.Maps.OwnSet
namespace Go.Proofs.Ytmnehonmbjnnaaa
open Go.RowKit Go.Maps Go.ChangeMaps Go.Lib
set_option maxRecDepth 100000
set_option linter.unusedSimpArgs false
set_option linter.unusedVariables false

def nilV : Value := .slice none 0 0
def asIs17 (v : Value) : Option (DataW Value × List MemPlace) := some (.held v, [])
def I64b (z : Int) : Prop := 0 ≤ z ∧ z ≤ 9223372036854775807
theorem keyInt17 : Keyed Try.prog 3 := int_keyed Try.underlying3
theorem keyOf17 {p : Int} (h : I64b p) : keyOf Try.prog 3 (.int .i64 p) = some (.int .i64 p) := keyOf_int_mk Try.underlying3 (WalkArith.wf_i64 (by unfold I64b at h; omega))
theorem isKey17 (p : Int) : WideAt.IsKeyLit (.int .i64 p) := by
  unfold WideAt.IsKeyLit
  simp
theorem zeroRow17 (w : World) : (zeroValue 28).run Try.prog w = .ok nilV w := by kernel_rfl
/-- Block mp is a map that holds V's row at each number from 0 on. -/
def VMap (w : World) (mp n : Nat) (V : Int → Value) : Prop :=
  ∃ D : DataW Value, w.ownsMap Try.prog 3 asIs17 mp n D ∧ ∀ p : Int, I64b p → D.atKey (.int .i64 p) (.held nilV) = .held (V p)
section
variable {w w' : World} {mp n : Nat} {V V' : Int → Value} {F : Nat → Prop}
theorem VMap.lt (h : VMap w mp n V) : mp < w.heap.size := by
  obtain ⟨D, h, -⟩ := h
  exact h.lt
theorem VMap.keep (h : VMap w mp n V) (o : Only F w w') (hn : ¬ F mp) : VMap w' mp n V := by
  obtain ⟨D, ⟨es, clock, hb, r⟩, h2⟩ := h
  have hlt : mp < w.heap.size := (Array.getElem?_eq_some_iff.1 hb).1
  exact ⟨D, ⟨es, clock, (o.block mp hlt hn).trans hb, r⟩, h2⟩
theorem VMap.like (h : VMap w mp n V) (e : ∀ p, 0 ≤ p → V' p = V p) : VMap w mp n V' := by
  obtain ⟨D, h1, h2⟩ := h
  exact ⟨D, h1, fun p hp => by rw [h2 p hp, e p hp.1]⟩
theorem VMap.new (w : World) (hV : ∀ p, 0 ≤ p → V p = nilV) : VMap (w.alloc (.map #[] 0)) w.heap.size 0 V :=
  ⟨_, World.ownsMap_made w _ _ _, fun p hp => by rw [hV p hp.1]; rfl⟩
theorem turned17 (h : w.mapTurned w' mp) : Only (isb mp) w w' := by
  obtain ⟨es, clock, es', clock', hb, rfl⟩ := h
  exact ⟨rfl, rfl, rfl, by simp [setBlock], fun k _ hn => heap_setBlock_other hb _ hn⟩
theorem VMap.put (h : VMap w mp n V) (p : Int) (v : Value) (hp : I64b p) (hn : n < 4611686018427387904) :
    ∃ w', (Instr.mapUpdate 96 (.map (some mp)) (.int .i64 p) v).run Try.prog w = .ok () w' ∧ VMap w' mp (n + 1) (upd V p v) ∧ Only (isb mp) w w' := by
  obtain ⟨D, h, h2⟩ := h
  obtain ⟨w', e, h', ht⟩ := h.store keyInt17 Try.underlying96 (by unfold maxLen; omega) (keyOf17 hp) (show asIs17 v = some (.held v, []) from rfl)
  refine ⟨w', e, ⟨_, h', fun q hq => ?_⟩, turned17 ht⟩
  by_cases hpq : p = q
  · subst hpq
    rw [upd_same]
    exact atKey_put_same h.isMap (isKey17 p) _ _
  · have hne : (Lit.int .i64 q) ≠ (.int .i64 p) := fun e => hpq (by injection e with _ e; exact e.symm)
    rw [atKey_put_other hne, upd_other (Ne.symm hpq)]
    exact h2 q hq
theorem VMap.at_ (h : VMap w mp n V) (p : Int) (hp : I64b p) : (Instr.lookup 96 (.map (some mp)) (.int .i64 p) false).run Try.prog w = .ok (V p) w := by
  obtain ⟨D, h, h2⟩ := h
  obtain ⟨v, ps, e, hv⟩ := h.lookup keyInt17 Try.underlying96 (zeroRow17 w) (show asIs17 nilV = some (.held nilV, []) from rfl) (keyOf17 hp)
  unfold asIs17 at hv
  simp only [Option.some.injEq, Prod.mk.injEq] at hv
  rw [h2 p hp] at hv
  have : v = V p := by simpa using hv.1
  rw [← this]; exact e
theorem VMap.ne_blk {g : Nat} {t : TypeId} {cs : Array Value} (h : VMap w mp n V) (b : Blk w g t cs) : g ≠ mp := by
  rintro rfl
  obtain ⟨D, ⟨es, clock, hb, -⟩, -⟩ := h
  unfold Blk at b
  rw [b] at hb
  cases hb
theorem VMap.ne_rows {base : Nat} {E : TypeId} {U : Int → Value} {L : Int → List Int} (h : VMap w mp n V) (r : Rws w base E U L) : ¬ blks U mp := fun ⟨i, e⟩ => by
  obtain ⟨cur, hb⟩ := (r.own i).blk e
  exact h.ne_blk hb rfl
end

/-- The tiers' own box, and map. -/
structure Tq (W : World) (tb mp base b : Nat) (blk : Int) (V : Int → Value) (q : QSt) : Prop where
  box : Blk W tb 98 #[.pointer (some ⟨b, 0, none⟩), .int .i64 blk, .map (some mp), V (-5), .int .i64 q.last, .int .i64 q.tp]
  map : VMap W mp q.pt V
  nt : base ≤ tb
  np : base ≤ mp
def Tf (tb mp : Nat) (V : Int → Value) (k : Nat) : Prop := k = tb ∨ k = mp ∨ blks V k
/-- The tiers have gone on: the plan's own rows lie where they lay. -/
structure Stt (tb mp : Nat) (V V' : Int → Value) (W w' : World) : Prop where
  only : Only (Tf tb mp V) W w'
  grow : ∀ k, blks V' k → k < W.heap.size → Tf tb mp V k
  same : ∀ i, i < 0 → i ≠ -5 → V' i = V i
section
variable {W w1 w' w'' : World} {b mb tb mp base : Nat} {vn vr : Value} {lim blk : Int} {n : Nat} {V V' V'' : Int → Value} {M : List Int} {q q' : QSt} {F : Nat → Prop}
theorem Stt.refl (tb mp : Nat) (V : Int → Value) (W : World) : Stt tb mp V V W W := ⟨Only.refl _ _, fun k h _ => .inr (.inr h), fun _ _ _ => rfl⟩
theorem Stt.kept (tb mp : Nat) (V : Int → Value) (o : Only nob W w') : Stt tb mp V V W w' := ⟨o.mono fun _ _ h => h.elim, fun k h _ => .inr (.inr h), fun _ _ _ => rfl⟩
theorem Stt.trans (h : Stt tb mp V V' W w') (k : Stt tb mp V' V'' w' w'') : Stt tb mp V V'' W w'' := by
  have hq : ∀ i, i < W.heap.size → Tf tb mp V' i → Tf tb mp V i := fun i hi e => by
    rcases e with e | e | e
    · exact .inl e
    · exact .inr (.inl e)
    · exact h.grow i e hi
  exact ⟨h.only.andThen k.only hq, fun i hi hlt => hq i hlt (k.grow i hi (Nat.lt_of_lt_of_le hlt h.only.size)), fun i hi h5 => (k.same i hi h5).trans (h.same i hi h5)⟩
theorem Stt.more (h : Stt tb mp V V' W w') (o : Only nob w' w'') : Stt tb mp V V' W w'' := h.trans (Stt.kept tb mp V' o)
theorem Tq.kept (h : Tq W tb mp base b blk V q) (o : Only nob W w') : Tq w' tb mp base b blk V q := ⟨h.box.keep o id, h.map.keep o id, h.nt, h.np⟩
theorem Tq.off (h : Tq W tb mp base b blk V q) (o : Only F W w') (h1 : ¬ F tb) (h2 : ¬ F mp) : Tq w' tb mp base b blk V q := ⟨h.box.keep o h1, h.map.keep o h2, h.nt, h.np⟩
theorem Tq.nm (h : Tq W tb mp base b blk V q) : tb ≠ mp := h.map.ne_blk h.box
/-- The plan has gone on. -/
theorem Tq.plan (h : Tq W tb mp base b blk V q) (p : Qp W b mb base vn vr lim n V M q) (s : Stp b mb V V' W w') (e1 : q'.last = q.last) (e2 : q'.tp = q.tp) (e3 : q'.pt = q.pt) : Tq w' tb mp base b blk V' q' := by
  have h1 : ¬ Qf b mb V tb := fun e => by
    rcases e with e | e | e
    · exact absurd e (h.box.ne p.box (by decide))
    · exact absurd e (h.box.ne p.fl (by decide))
    · exact p.rows.ne h.box (by decide) e
  have h2 : ¬ Qf b mb V mp := fun e => by
    rcases e with e | e | e
    · exact h.map.ne_blk p.box e.symm
    · exact h.map.ne_blk p.fl e.symm
    · exact h.map.ne_rows p.rows e
  have h3 := h.off s.only h1 h2
  refine ⟨?_, ?_, h.nt, h.np⟩
  · rw [s.same (-5) (.inl rfl), e1, e2]; exact h3.box
  · rw [e3]; exact h3.map.like fun p hp => s.same p (.inr hp)
/-- The plan lies as it lay, when the tiers have gone on. -/
theorem Qp.tier (p : Qp W b mb base vn vr lim n V M q) (h : Tq W tb mp base b blk V q) (o : Only F W w') (hF : ∀ k, F k → Tf tb mp V k) (hr : Rws w' base 3 V' (rowsQ q')) (hs : ∀ i, i < 0 → i ≠ -5 → V' i = V i) (hk : q'.k = q.k) : Qp w' b mb base vn vr lim n V' M q' := by
  have hb : ¬ F b := fun f => by
    rcases hF b f with e | e | e
    · exact absurd e (p.box.ne h.box (by decide))
    · exact h.map.ne_blk p.box e
    · exact p.bn e
  have hm : ¬ F mb := fun f => by
    rcases hF mb f with e | e | e
    · exact absurd e (p.fl.ne h.box (by decide))
    · exact h.map.ne_blk p.fl e
    · exact p.mn e
  refine ⟨?_, p.fl.keep o hm, hr, p.nb, p.nm⟩
  rw [hs (-1) (by decide) (by decide), hs (-2) (by decide) (by decide), hs (-3) (by decide) (by decide), hs (-4) (by decide) (by decide), hk]
  exact p.box.keep o hb
end
/-- A node waits. -/
def blkOf (blk : Int) (q : QSt) : Int := q.tp.tdiv blk
def waitQ (g : Gr) (blk : Int) (q : QSt) (x : Int) : QSt :=
  { q with last := blkOf blk q, tp := wrap64 (q.tp + ndSz (ndAt g x)), bg := if q.wt (blkOf blk q) = [] then q.bg ++ [blkOf blk q] else q.bg, wt := upd q.wt (blkOf blk q) (q.wt (blkOf blk q) ++ [x]), pt := q.pt + 1 }
def firstInQ (z : Int) (q : QSt) : Option Int × QSt :=
  match q.wt z with
  | [] => (none, q)
  | x :: r => (some x, { q with wt := upd q.wt z r, pt := q.pt + 1 })
def scanQ : List Int → QSt → Option Int × QSt
  | [], q => (none, { q with bg := [] })
  | z :: r, q => match q.wt z with
    | x :: l => (some x, { q with bg := z :: r, wt := upd q.wt z l, pt := q.pt + 1 })
    | [] => scanQ r q
def nearT (blk : Int) (q : QSt) : Option Int × QSt :=
  match firstInQ q.last q with
  | (some x, q') => (some x, q')
  | (none, q') => scanQ q'.bg q'
def nearQ (g : Gr) (lim blk : Int) (q : QSt) : Option Int × QSt :=
  nearT blk (((allS g lim q).small.drop q.s.small.length).foldl (waitQ g blk) (allQ g lim q))
theorem rows_wt {q : QSt} {z : Int} {l : List Int} (hz : 0 ≤ z) {q' : QSt} (e1 : q'.s = q.s) (e2 : q'.ah = q.ah) (e3 : q'.bg = q.bg) (e4 : q'.wt = upd q.wt z l) : rowsQ q' = upd (rowsQ q) z l := by
  funext i
  unfold rowsQ
  rw [e1, e2, e3, e4]
  unfold upd
  by_cases h : i = z
  · subst h
    simp [show ¬ i = -1 by omega, show ¬ i = -2 by omega, show ¬ i = -3 by omega, show ¬ i = -4 by omega, show ¬ i = -5 by omega]
  · simp [h]
theorem rows_bg {q : QSt} {l : List Int} {q' : QSt} (e1 : q'.s = q.s) (e2 : q'.ah = q.ah) (e3 : q'.bg = l) (e4 : q'.wt = q.wt) : rowsQ q' = upd (rowsQ q) (-5) l := by
  funext i
  unfold rowsQ
  rw [e1, e2, e3, e4]
  unfold upd
  by_cases h : i = -5 <;> simp [h]
theorem rows_at {q : QSt} {z : Int} (hz : 0 ≤ z) : rowsQ q z = q.wt z := by
  unfold rowsQ
  simp [show ¬ z = -1 by omega, show ¬ z = -2 by omega, show ¬ z = -3 by omega, show ¬ z = -4 by omega, show ¬ z = -5 by omega]
/-- A store into a map, whose run is known, as a step of a region that draws its order. -/
theorem step_put17 {P : Program} (w : World) {ops : Array Oper} {o : Oper} {a : Act} {K : Act → World → Prop} {Q : Exit → Act → World → Prop} {X : Prop} (hg : o.guard = none) (m x v : Operand) (t : TypeId) (hop : o.op = Op.mapUpdate t m x v) (mv kv vv : Value)
    (hm : a.eval m = mv) (hx : a.eval x = kv) (hv : a.eval v = vv) (w' : World) (hrun : (Instr.mapUpdate t mv kv vv).run P w = .ok () w') (hK : K (a.put o.dst undef) w') : if Region.wanted o (yielded ops a.tmps) = true then Oper.wp P o a w K Q else X := by
  have hw : Region.wanted o (yielded ops a.tmps) = true := by simp [Region.wanted, hg]
  rw [if_pos hw]
  unfold Oper.wp
  simp [execOp, hop, hm, hx, hv, hrun, Result.andThen]
  exact hK
set_option maxHeartbeats 8000000 in
theorem firstIn17 (W : World) (b mb tb mp base : Nat) (n : Nat) (vn vr : Value) (lim blk : Int) (V : Int → Value) (M : List Int) (q : QSt) (z : Int) (h : Qp W b mb base vn vr lim n V M q) (t : Tq W tb mp base b blk V q) (hz : I64b z) (hpt : q.pt ≤ 4000000000000) :
    Calls Try.prog 67 #[.pointer (some ⟨tb, 0, none⟩), .int .i64 z] W fun e w' => ∃ V', e = .returned (.tuple #[.int .i64 ((firstInQ z q).1.getD 0), .bool (firstInQ z q).1.isSome]) ∧
      Qp w' b mb base vn vr lim n V' M (firstInQ z q).2 ∧ Tq w' tb mp base b blk V' (firstInQ z q).2 ∧ Stt tb mp V V' W w' := by
  obtain ⟨j0, hj0, hy0, hy1, hy2⟩ := info_parts info_int
  have hlk := t.map.at_ z hz
  obtain ⟨A, c, hv, hc, hm⟩ := (h.rows.own z).form
  rw [hv, rows_at hz.1] at hlk
  have c2 : W.cell? ⟨tb, 2, none⟩ = some (.map (some mp)) := t.box.cell 2
  rw [rows_at hz.1] at hv hc
  cases hw : q.wt z with
  | nil =>
    have HF := Lib.hid (show firstInQ z q = (none, q) by unfold firstInQ; rw [hw])
    have HQ := Lib.hid h
    have HT := Lib.hid t
    rw [hw] at hlk
    simp only [List.length_nil] at hlk
    clear h t hv hc hm hw
    go_enter Try.func67, Try.ntmps67
    go_wp2
    go_ret2
    refine ⟨V, ?_, ?_, ?_, Stt.refl _ _ _ _⟩
    · rw [HF.out]; rfl
    · rw [HF.out]; exact HQ.out
    · rw [HF.out]; exact HT.out
  | cons x r =>
    have HF := Lib.hid (show firstInQ z q = (some x, { q with wt := upd q.wt z r, pt := q.pt + 1 }) by unfold firstInQ; rw [hw])
    have HQ := Lib.hid h
    have HT := Lib.hid t
    have how := h.rows.own z
    rw [rows_at hz.1, hw, hv, hw] at how
    rw [hw] at hlk hc hv
    simp only [List.length_cons] at hlk hc how hv
    obtain ⟨n1, hn1⟩ : ∃ m, m = r.length + 1 := ⟨_, rfl⟩
    have HN1 := Lib.hid hn1
    have hcons : i64s (x :: r) = .int .i64 x :: i64s r := rfl
    rw [hcons] at how
    obtain ⟨ht1, ht2⟩ := how.tail
    obtain ⟨g8, o8, cur8, rfl, -, -, hc8⟩ := how.at_ (by omega)
    have hx8 : W.cell? ⟨g8, o8, none⟩ = some (.int .i64 x) := by simpa using hc8 0 _ rfl
    have hcut := run_cut_l (P := Try.prog) Try.underlying28 hj0 (some ⟨g8, o8, none⟩) (r.length + 1) c 1 (by omega)
    rw [hy1] at hcut
    obtain ⟨u, hu⟩ : ∃ u, cutv (some ⟨g8, o8, none⟩) 1 (r.length + 1) c 1 = u := ⟨_, rfl⟩
    rw [hu] at hcut ht1 ht2
    have hcut : ∀ w, (Instr.sliceAt 28 (.slice (some ⟨g8, o8, none⟩) (r.length + 1) c) (some (.int .i64 1)) none none).run Try.prog w = .ok u w := hcut
    rw [← hn1] at hlk hc hcut hv
    have hn1p : 0 < n1 := by omega
    have hn1z : ((n1 : Int) == 0) = false := by
      have : ¬ ((n1 : Int) = 0) := by omega
      simpa using this
    unfold maxLen at hm
    have HV := Lib.hid hv
    have HU1 := Lib.hid ht1
    have HU2 := Lib.hid ht2
    clear h t how hc8 hcons ht1 ht2 hn1 hu hv
    go_enter Try.func67, Try.ntmps67
    go_wp2_with fail
    refine region_heldX (stop := 7) (S := fun w' : World => w'.cell? ⟨tb, 2, none⟩ = some (.map (some mp))) (by kernel_rfl) c2 (fun hHeld => ?_)
    clear c2
    obtain ⟨WD, hWD, oD⟩ : ∃ X, W.drew = X ∧ Only nob W X := ⟨_, rfl, (Only.refl nob W).drewN 1⟩
    rw [hWD] at hHeld ⊢
    have OD := Lib.hid oD
    clear hWD oD
    refine anyX_take (i := 0) (v := ?_) rfl (by kernel_rfl) (by kernel_rfl) (by kernel_rfl) (by kernel_rfl) (fun _ _ _ h => h) (Or.inl ⟨by rfl, ?_⟩) hHeld ?_
    rotate_left
    · intro w hSw; (try dsimp only at hSw); go_simp; first | done | with_reducible rfl
    try simp only [Act.put, List.setIfInBounds_toArray, List.set_cons_zero, List.set_cons_succ, List.getElem_toArray, List.getElem_cons_succ, List.getElem_cons_zero]
    refine anyX_take (i := 1) (v := ?_) rfl (by kernel_rfl) (by kernel_rfl) (by kernel_rfl) (by kernel_rfl) (fun _ _ _ h => h) (Or.inl ⟨by rfl, ?_⟩) hHeld ?_
    rotate_left
    · intro w hSw; (try dsimp only at hSw); go_simp; first | done | with_reducible rfl
    try simp only [Act.put, List.setIfInBounds_toArray, List.set_cons_zero, List.set_cons_succ, List.getElem_toArray, List.getElem_cons_succ, List.getElem_cons_zero]
    refine anyX_take (i := 2) (v := ?_) rfl (by kernel_rfl) (by kernel_rfl) (by kernel_rfl) (by kernel_rfl) (fun _ _ _ h => h) (Or.inl ⟨by rfl, ?_⟩) hHeld ?_
    rotate_left
    · intro w hSw; (try dsimp only at hSw); go_simp; first | done | with_reducible rfl
    try simp only [Act.put, List.setIfInBounds_toArray, List.set_cons_zero, List.set_cons_succ, List.getElem_toArray, List.getElem_cons_succ, List.getElem_cons_zero]
    refine anyX_take (i := 3) (v := ?_) rfl (by kernel_rfl) (by kernel_rfl) (by kernel_rfl) (by kernel_rfl) (fun _ _ _ h => h) (Or.inl ⟨by rfl, ?_⟩) hHeld ?_
    rotate_left
    · intro w hSw; (try dsimp only at hSw); go_simp; first | done | with_reducible rfl
    try simp only [Act.put, List.setIfInBounds_toArray, List.set_cons_zero, List.set_cons_succ, List.getElem_toArray, List.getElem_cons_succ, List.getElem_cons_zero]
    refine anyX_take (i := 4) (v := ?_) rfl (by kernel_rfl) (by kernel_rfl) (by kernel_rfl) (by kernel_rfl) (fun _ _ _ h => h) (Or.inl ⟨by rfl, ?_⟩) hHeld ?_
    rotate_left
    · intro w hSw; (try dsimp only at hSw); go_simp; first | done | with_reducible rfl
    try simp only [Act.put, List.setIfInBounds_toArray, List.set_cons_zero, List.set_cons_succ, List.getElem_toArray, List.getElem_cons_succ, List.getElem_cons_zero]
    refine anyX_take (i := 5) (v := ?_) rfl (by kernel_rfl) (by kernel_rfl) (by kernel_rfl) (by kernel_rfl) (fun _ _ _ h => h) (Or.inl ⟨by rfl, ?_⟩) hHeld ?_
    rotate_left
    · intro w hSw; (try dsimp only at hSw); go_simp; first | done | with_reducible rfl
    try simp only [Act.put, List.setIfInBounds_toArray, List.set_cons_zero, List.set_cons_succ, List.getElem_toArray, List.getElem_cons_succ, List.getElem_cons_zero]
    refine anyX_take (i := 6) (v := ?_) rfl (by kernel_rfl) (by kernel_rfl) (by kernel_rfl) (by kernel_rfl) (fun _ _ _ h => h) (Or.inl ⟨by rfl, ?_⟩) hHeld ?_
    rotate_left
    · intro w hSw; (try dsimp only at hSw); go_simp; first | done | with_reducible rfl
    try simp only [Act.put, List.setIfInBounds_toArray, List.set_cons_zero, List.set_cons_succ, List.getElem_toArray, List.getElem_cons_succ, List.getElem_cons_zero]
    obtain ⟨W2, hrun2, hm2, o2⟩ := (HT.out.map.keep OD.out id).put z u hz (by omega)
    have HR2 := Lib.hid hrun2
    have O2 := Lib.hid (show Only (isb mp) W W2 from (OD.out.mono fun _ _ h => h.elim).trans o2)
    have HM2 := Lib.hid hm2
    have hg8 : g8 ≠ mp := fun e => HT.out.map.ne_rows HQ.out.rows ⟨z, by rw [HV.out, ← e]; rfl⟩
    have e8 : W2.cell? ⟨g8, o8, none⟩ = some (.int .i64 x) := by rw [O2.out.cell (World.block_lt_of_cell? W _ hx8) hg8]; exact hx8
    clear hrun2 hm2 o2 hx8
    refine anyX_ready (rs := [7]) (by kernel_rfl) (by simp) ?_
    refine (AllX.cons rfl (fun K hK => ?_) AllX.nil)
    refine step_put17 _ (by rfl) _ _ _ _ (by rfl) _ _ _ (by rfl) (by rfl) (by rfl) _ HR2.out ?_
    refine hK.out _ _ (fun h => absurd rfl h) (fun hHeld2 => ?_)
    clear hK K hHeld hHeld2
    try simp only [Act.put, List.setIfInBounds_toArray, List.set_cons_zero, List.set_cons_succ, List.getElem_toArray, List.getElem_cons_succ, List.getElem_cons_zero]
    refine anyX_done (by kernel_rfl) ?_ _
    go_wp2
    go_ret2
    have hrw := (HQ.out.rows.cut z (l := r) HU1.out (fun k e => by rw [HV.out, HN1.out]; exact HU2.out k e)).only O2.out (fun k hk e => by
      unfold isb at e
      subst e
      obtain ⟨i, hi⟩ := hk
      by_cases h : i = z
      · subst h
        rw [upd_same] at hi
        exact HT.out.map.ne_rows HQ.out.rows ⟨i, by rw [HV.out, HN1.out]; exact HU2.out _ hi⟩
      · rw [upd_other h] at hi
        exact HT.out.map.ne_rows HQ.out.rows ⟨i, hi⟩)
    refine ⟨upd V z u, by rw [HF.out]; rfl, ?_, ?_, ?_⟩
    · rw [HF.out]
      refine HQ.out.tier HT.out O2.out (fun k e => .inr (.inl e)) (hrw.like rfl (rows_wt hz.1 rfl rfl rfl rfl)) (fun i hi _ => upd_other (by have := hz.1; omega)) rfl
    · rw [HF.out]
      refine ⟨?_, HM2.out, HT.out.nt, HT.out.np⟩
      rw [upd_other (by have := hz.1; omega)]
      exact HT.out.box.keep O2.out HT.out.nm
    · refine ⟨O2.out.mono fun k _ e => .inr (.inl e), ?_, fun i hi _ => upd_other (by have := hz.1; omega)⟩
      rintro k ⟨i, hi⟩ hlt
      by_cases h : i = z
      · subst h
        rw [upd_same] at hi
        exact .inr (.inr ⟨i, by rw [HV.out, HN1.out]; exact HU2.out k hi⟩)
      · rw [upd_other h] at hi
        exact .inr (.inr ⟨i, hi⟩)
end Go.Proofs.Ytmnehonmbjnnaaa

/- Package reach's tiers: a node waits. (Printed by wip/tools/gen17wait.py.) -/
namespace Go.Proofs.Ytmnehonmbjnnaaa
open Go.RowKit Go.Maps Go.ChangeMaps Go.Lib
set_option maxRecDepth 100000
set_option linter.unusedSimpArgs false
set_option linter.unusedVariables false

section
variable {W w1 w' w2 : World} {b mb tb mp base : Nat} {vn vr : Value} {lim blk : Int} {n : Nat} {V : Int → Value} {M : List Int} {q : QSt}
theorem Tq.last (p : Qp W b mb base vn vr lim n V M q) (h : Tq W tb mp base b blk V q) (z : Int) :
    Qp (W.setCell ⟨tb, 4, none⟩ (.int .i64 z)) b mb base vn vr lim n V M { q with last := z } ∧ Tq (W.setCell ⟨tb, 4, none⟩ (.int .i64 z)) tb mp base b blk V { q with last := z } ∧ Stt tb mp V V W (W.setCell ⟨tb, 4, none⟩ (.int .i64 z)) := by
  have o := only_set W tb 4 (.int .i64 z)
  refine ⟨p.tier h o (fun k e => .inl e) ((p.rows.set h.box (by decide)).like rfl (by funext i; rfl)) (fun _ _ _ => rfl) rfl, ⟨by simpa using h.box.put 4 (.int .i64 z), h.map.keep o fun e => h.nm e.symm, h.nt, h.np⟩, ⟨o.mono fun k _ e => .inl e, fun k hk _ => .inr (.inr hk), fun _ _ _ => rfl⟩⟩
theorem Tq.top (p : Qp W b mb base vn vr lim n V M q) (h : Tq W tb mp base b blk V q) (z : Int) :
    Qp (W.setCell ⟨tb, 5, none⟩ (.int .i64 z)) b mb base vn vr lim n V M { q with tp := z } ∧ Tq (W.setCell ⟨tb, 5, none⟩ (.int .i64 z)) tb mp base b blk V { q with tp := z } ∧ Stt tb mp V V W (W.setCell ⟨tb, 5, none⟩ (.int .i64 z)) := by
  have o := only_set W tb 5 (.int .i64 z)
  refine ⟨p.tier h o (fun k e => .inl e) ((p.rows.set h.box (by decide)).like rfl (by funext i; rfl)) (fun _ _ _ => rfl) rfl, ⟨by simpa using h.box.put 5 (.int .i64 z), h.map.keep o fun e => h.nm e.symm, h.nt, h.np⟩, ⟨o.mono fun k _ e => .inl e, fun k hk _ => .inr (.inr hk), fun _ _ _ => rfl⟩⟩
theorem Tq.mid (p : Qp W b mb base vn vr lim n V M q) (h : Tq W tb mp base b blk V q) {i : Int} (oa : Only nob W w1) (o : Only (fun k => (V i).ownBlock = some k) w1 w') : Tq w' tb mp base b blk V q :=
  (h.kept oa).off o (fun e => p.rows.ne h.box (by decide) ⟨i, e⟩) (fun e => h.map.ne_rows p.rows ⟨i, e⟩)
/-- The row of blocks has turned, and is put into the box. -/
theorem Tq.begun (p : Qp W b mb base vn vr lim n V M q) (h : Tq W tb mp base b blk V q) {v' : Value} {l : List Int} (oa : Only nob W w1) (o : Only (fun k => (V (-5)).ownBlock = some k) w1 w') (H : OwR w' base 3 v' l.length (i64s l)) (hv : v'.ownBlock = (V (-5)).ownBlock ∨ v'.ownBlock = some w1.heap.size) :
    Qp (w'.setCell ⟨tb, 3, none⟩ v') b mb base vn vr lim n (upd V (-5) v') M { q with bg := l } ∧ Tq (w'.setCell ⟨tb, 3, none⟩ v') tb mp base b blk (upd V (-5) v') { q with bg := l } ∧ Stt tb mp V (upd V (-5) v') W (w'.setCell ⟨tb, 3, none⟩ v') := by
  have hF : ∀ k, (V (-5)).ownBlock = some k → blks V k := fun k e => ⟨_, e⟩
  have t1 := Tq.mid p h oa o
  have hr := ((p.rows.kept oa).turn (-5) o H hv).set (j := 3) (u := v') t1.box (by decide)
  have oo : Only (Tf tb mp V) W (w'.setCell ⟨tb, 3, none⟩ v') := ((oa.mono fun _ _ h => h.elim).andThen (o.mono fun k _ e => (.inr (.inr (hF k e)) : Tf tb mp V k)) fun _ _ h => h).andThen (only_set w' tb 3 v') fun k _ e => .inl e
  refine ⟨p.tier h oo (fun _ e => e) (hr.like rfl (rows_bg rfl rfl rfl rfl)) (fun i _ h5 => upd_other h5) rfl, ⟨?_, ?_, h.nt, h.np⟩, ⟨oo, ?_, fun i _ h5 => upd_other h5⟩⟩
  · have := t1.box.put 3 v'
    rw [upd_same]
    simpa using this
  · exact (t1.map.keep (only_set w' tb 3 v') fun e => t1.nm e.symm).like fun z hz => upd_other (by omega)
  · rintro k ⟨i, hi⟩ hlt
    by_cases hj : i = -5
    · subst hj
      rw [upd_same] at hi
      rcases hv with hv | hv
      · exact .inr (.inr (hF k (hv ▸ hi)))
      · rw [hv] at hi
        have := Option.some.inj hi
        have := oa.size
        omega
    · rw [upd_other hj] at hi
      exact .inr (.inr ⟨i, hi⟩)
/-- The row of blocks is cut. -/
theorem Tq.begunCut (p : Qp W b mb base vn vr lim n V M q) (h : Tq W tb mp base b blk V q) {v' : Value} {l : List Int} (H : OwR W base 3 v' l.length (i64s l)) (hv : ∀ k, v'.ownBlock = some k → (V (-5)).ownBlock = some k) :
    Qp (W.setCell ⟨tb, 3, none⟩ v') b mb base vn vr lim n (upd V (-5) v') M { q with bg := l } ∧ Tq (W.setCell ⟨tb, 3, none⟩ v') tb mp base b blk (upd V (-5) v') { q with bg := l } ∧ Stt tb mp V (upd V (-5) v') W (W.setCell ⟨tb, 3, none⟩ v') := by
  have hr := (p.rows.cut (-5) H hv).set (j := 3) (u := v') h.box (by decide)
  have oo := only_set W tb 3 v'
  refine ⟨p.tier h oo (fun _ e => .inl e) (hr.like rfl (rows_bg rfl rfl rfl rfl)) (fun i _ h5 => upd_other h5) rfl, ⟨?_, ?_, h.nt, h.np⟩, ⟨oo.mono fun k _ e => .inl e, ?_, fun i _ h5 => upd_other h5⟩⟩
  · have := h.box.put 3 v'
    rw [upd_same]
    simpa using this
  · exact (h.map.keep oo fun e => h.nm e.symm).like fun z hz => upd_other (by omega)
  · rintro k ⟨i, hi⟩ hlt
    by_cases hj : i = -5
    · subst hj
      rw [upd_same] at hi
      exact .inr (.inr ⟨_, hv k hi⟩)
    · rw [upd_other hj] at hi
      exact .inr (.inr ⟨i, hi⟩)
/-- What waits in a block has turned, and is put into the map. -/
theorem Tq.row (p : Qp W b mb base vn vr lim n V M q) (h : Tq W tb mp base b blk V q) {z : Int} (hz : 0 ≤ z) {v' : Value} {l : List Int} (oa : Only nob W w1) (o : Only (fun k => (V z).ownBlock = some k) w1 w') (H : OwR w' base 3 v' l.length (i64s l)) (hv : v'.ownBlock = (V z).ownBlock ∨ v'.ownBlock = some w1.heap.size)
    (o2 : Only (isb mp) w' w2) (hm : VMap w2 mp (q.pt + 1) (upd V z v')) :
    Qp w2 b mb base vn vr lim n (upd V z v') M { q with wt := upd q.wt z l, pt := q.pt + 1 } ∧ Tq w2 tb mp base b blk (upd V z v') { q with wt := upd q.wt z l, pt := q.pt + 1 } ∧ Stt tb mp V (upd V z v') W w2 := by
  have hF : ∀ k, (V z).ownBlock = some k → blks V k := fun k e => ⟨_, e⟩
  have t1 := Tq.mid p h oa o
  have hr1 := (p.rows.kept oa).turn z o H hv
  have hr := hr1.only o2 fun k hk e => by
    unfold isb at e
    subst e
    exact t1.map.ne_rows hr1 hk
  have oo : Only (Tf tb mp V) W w2 := ((oa.mono fun _ _ h => h.elim).andThen (o.mono fun k _ e => (.inr (.inr (hF k e)) : Tf tb mp V k)) fun _ _ h => h).andThen o2 fun k _ e => .inr (.inl e)
  refine ⟨p.tier h oo (fun _ e => e) (hr.like rfl (rows_wt hz rfl rfl rfl rfl)) (fun i hi _ => upd_other (by omega)) rfl, ⟨?_, hm, h.nt, h.np⟩, ⟨oo, ?_, fun i hi _ => upd_other (by omega)⟩⟩
  · rw [upd_other (by omega)]
    exact t1.box.keep o2 t1.nm
  · rintro k ⟨i, hi⟩ hlt
    by_cases hj : i = z
    · subst hj
      rw [upd_same] at hi
      rcases hv with hv | hv
      · exact .inr (.inr (hF k (hv ▸ hi)))
      · rw [hv] at hi
        have := Option.some.inj hi
        have := oa.size
        omega
    · rw [upd_other hj] at hi
      exact .inr (.inr ⟨i, hi⟩)
theorem Qp.below2 (p : Qp W b mb base vn vr lim n V M q) (h : Tq W tb mp base b blk V q) {V' : Int → Value} (s : Stt tb mp V V' W w') (hb : base ≤ W.heap.size) : Below base W w' := s.only.below hb fun k hk => by
  rcases hk with rfl | rfl | hk
  · exact h.nt
  · exact h.np
  · exact (p.rows.lt hk).1
end
theorem wrapP17 (z : Int) : IntKind.i64.wrap z = wrap64 z := by rw [IntKind.wrap_i64]; unfold wrap64; omega
theorem quoP17 (x y : Int) (h : -9223372036854775808 ≤ x ∧ x ≤ 9223372036854775807 ∧ 1 ≤ y) : IntKind.i64.wrap (x.tdiv y) = x.tdiv y := by
  first | exact Go.i64_quo' x y h | exact Go.IntWalk.i64_quo' x y h | exact Go.Lib.i64_quo' x y h
set_option maxHeartbeats 16000000 in
theorem wait17 (W : World) (b mb tb mp base B : Nat) (g : Gr) (vn vr : Value) (hs : List (Value × Value)) (lim blk : Int) (V : Int → Value) (M : List Int) (q : QSt) (x : Int) (h : Qp W b mb base vn vr lim g.nd.length V M q) (t : Tq W tb mp base b blk V q) (hr : RdG W B g vn vr hs) (hB : B ≤ base) (hbase : base ≤ W.heap.size)
    (hx : 0 ≤ x ∧ x < (g.nd.length : Int)) (hblk : 1 ≤ blk ∧ blk ≤ 9223372036854775807) (htp : 0 ≤ q.tp ∧ q.tp ≤ 9223372036854775807) (hpt : q.pt ≤ 4000000000000) (hbg : q.bg.length ≤ 16000000000) (hwt : (q.wt (blkOf blk q)).length ≤ 16000000000) :
    Calls Try.prog 66 #[.pointer (some ⟨tb, 0, none⟩), .int .i64 x] W fun e w' => ∃ V', e = .returned (.tuple #[]) ∧
      Qp w' b mb base vn vr lim g.nd.length V' M (waitQ g blk q x) ∧ Tq w' tb mp base b blk V' (waitQ g blk q x) ∧ Stt tb mp V V' W w' := by
  obtain ⟨j0, hj0, hy0, hy1, hy2⟩ := info_parts info_int
  obtain ⟨x, rfl⟩ : ∃ y : Nat, x = y := ⟨x.toNat, by omega⟩
  obtain ⟨An, cn, rfl, hacn, hcmn⟩ := hr.nodes.form
  have hlt : x < g.nd.length := by omega
  obtain ⟨d, hd⟩ : ∃ d, g.nd[x]? = some d := ⟨_, List.getElem?_eq_getElem hlt⟩
  obtain ⟨bb, oo, fv, rv, hA, hbb, hh', g0, g1, g2, hnd⟩ := hr.at_ (Below.refl _ _) hd
  obtain ⟨Af, cf, hfv, hafc, hcfm⟩ := hnd.fields.form
  obtain ⟨Arw, crw, hrv, harw, hcrw⟩ := hnd.raws.form
  simp only at hfv hrv
  subst hfv hrv
  obtain rfl : An = some ⟨bb, oo, none⟩ := hA
  have HZ := Lib.hid (show ndSz (ndAt g (x : Int)) = ndSz d by rw [show ndAt g (x : Int) = d by unfold ndAt; rw [Int.toNat_natCast, List.getD_eq_getElem?_getD, hd]; rfl])
  have HND := Lib.hid hnd
  have HG0 := Lib.hid g0
  have HG1 := Lib.hid g1
  have HG2 := Lib.hid g2
  have hbbB := Lib.hid hbb
  obtain ⟨N, hN⟩ : ∃ N, N = g.nd.length := ⟨_, rfl⟩
  have HNN := Lib.hid hN
  rw [← hN] at h hacn hlt ⊢
  have HQ := Lib.hid h
  have HT := Lib.hid t
  have HBB := Lib.hid (And.intro hB hbase)
  obtain ⟨z, hz⟩ : ∃ z, z = blkOf blk q := ⟨_, rfl⟩
  have HZZ := Lib.hid hz
  have hzb : I64b z := by
    rw [hz]
    unfold blkOf I64b
    rw [Int.tdiv_eq_ediv_of_nonneg htp.1]
    exact ⟨Int.ediv_nonneg htp.1 (by omega), Int.le_trans (Int.ediv_le_self _ htp.1) htp.2⟩
  obtain ⟨tp, htq⟩ : ∃ tp, tp = q.tp := ⟨_, rfl⟩
  have HTP := Lib.hid htq
  have hq0 : ¬ blk = 0 := by omega
  have hqw : IntKind.i64.wrap (tp.tdiv blk) = z := by rw [htq, quoP17 _ _ (by omega), hz]; rfl
  obtain ⟨sz, hsz⟩ : ∃ s, s = ndSz d := ⟨_, rfl⟩
  rw [← hsz] at HZ
  obtain ⟨kd, hkd⟩ : ∃ k, k = d.kd := ⟨_, rfl⟩
  have HSZ := Lib.hid (fun (W' : World) (o : Below B W W') => size_any16 d _ _ W' (hnd.below o))
  rw [← hsz, ← hkd] at HSZ
  rw [← hkd] at HG0
  have c5 : W.cell? ⟨tb, 5, none⟩ = some (.int .i64 tp) := by rw [htq]; exact t.box.cell 5
  have c1 : W.cell? ⟨tb, 1, none⟩ = some (.int .i64 blk) := t.box.cell 1
  have HPT := Lib.hid hpt
  have HBG := Lib.hid hbg
  have HWT := Lib.hid hwt
  unfold maxLen at hcmn
  have HZB := Lib.hid hzb
  clear hd hh' hnd g0 g1 g2 hbb h t hr hB hbase hz htq hsz hkd hbg hwt htp hpt hafc hcfm harw hcrw hx hN hzb
  go_enter Try.func66, Try.ntmps66
  go_upto_region 0 with fail
  refine region_heldX (stop := 12) (S := fun w' : World => w'.cell? ⟨tb, 5, none⟩ = some (.int .i64 tp) ∧ w'.cell? ⟨tb, 1, none⟩ = some (.int .i64 blk)) (by kernel_rfl) ⟨c5, c1⟩ (fun hHeld => ?_)
  clear c5 c1
  obtain ⟨WA, hWA, oA⟩ : ∃ X, W.drew = X ∧ Only nob W X := ⟨_, rfl, (Only.refl nob W).drewN 1⟩
  rw [hWA] at hHeld ⊢
  have HQA := Lib.hid (HQ.out.kept oA)
  have HTA := Lib.hid (HT.out.kept oA)
  have HSA := Lib.hid (Stt.kept tb mp V oA)
  clear hWA oA
  obtain ⟨Q1, T1, S1⟩ := Tq.last HQA.out HTA.out z
  obtain ⟨W1, hW1⟩ : ∃ X, WA.setCell ⟨tb, 4, none⟩ (.int .i64 z) = X := ⟨_, rfl⟩
  rw [hW1] at Q1 T1 S1
  have HW1 := Lib.hid hW1
  have HQ1 := Lib.hid Q1
  have HT1 := Lib.hid T1
  have HS1 := Lib.hid (HSA.out.trans S1)
  have c4 := HTA.out.box.cell 4
  have f4 := HTA.out.box.free 4
  clear hW1 Q1 T1 S1
  refine anyX_take (i := 0) (v := ?_) rfl (by kernel_rfl) (by kernel_rfl) (by kernel_rfl) (by kernel_rfl) (fun _ _ _ h => h) (Or.inl ⟨by rfl, ?_⟩) hHeld ?_
  rotate_left
  · intro w hSw; (try dsimp only at hSw); go_simp; first | done | with_reducible rfl
  try simp only [Act.put, List.setIfInBounds_toArray, List.set_cons_zero, List.set_cons_succ, List.getElem_toArray, List.getElem_cons_succ, List.getElem_cons_zero]
  refine anyX_take (i := 1) (v := ?_) rfl (by kernel_rfl) (by kernel_rfl) (by kernel_rfl) (by kernel_rfl) (fun _ _ _ h => h) (Or.inl ⟨by rfl, ?_⟩) hHeld ?_
  rotate_left
  · intro w hSw; (try dsimp only at hSw); go_simp; first | done | with_reducible rfl
  try simp only [Act.put, List.setIfInBounds_toArray, List.set_cons_zero, List.set_cons_succ, List.getElem_toArray, List.getElem_cons_succ, List.getElem_cons_zero]
  refine anyX_take (i := 2) (v := ?_) rfl (by kernel_rfl) (by kernel_rfl) (by kernel_rfl) (by kernel_rfl) (fun _ _ _ h => h) (Or.inl ⟨by rfl, ?_⟩) hHeld ?_
  rotate_left
  · intro w hSw; (try dsimp only at hSw); go_simp; first | done | with_reducible rfl
  try simp only [Act.put, List.setIfInBounds_toArray, List.set_cons_zero, List.set_cons_succ, List.getElem_toArray, List.getElem_cons_succ, List.getElem_cons_zero]
  refine anyX_take (i := 3) (v := ?_) rfl (by kernel_rfl) (by kernel_rfl) (by kernel_rfl) (by kernel_rfl) (fun _ _ _ h => h) (Or.inl ⟨by rfl, ?_⟩) hHeld ?_
  rotate_left
  · intro w hSw; (try dsimp only at hSw); go_simp; first | done | with_reducible rfl
  try simp only [Act.put, List.setIfInBounds_toArray, List.set_cons_zero, List.set_cons_succ, List.getElem_toArray, List.getElem_cons_succ, List.getElem_cons_zero]
  refine anyX_take (i := 4) (v := ?_) rfl (by kernel_rfl) (by kernel_rfl) (by kernel_rfl) (by kernel_rfl) (fun _ _ _ h => h) (Or.inl ⟨by rfl, ?_⟩) hHeld ?_
  rotate_left
  · intro w hSw; (try dsimp only at hSw); go_simp; first | done | with_reducible rfl
  try simp only [Act.put, List.setIfInBounds_toArray, List.set_cons_zero, List.set_cons_succ, List.getElem_toArray, List.getElem_cons_succ, List.getElem_cons_zero]
  refine anyX_take (i := 5) (v := ?_) rfl (by kernel_rfl) (by kernel_rfl) (by kernel_rfl) (by kernel_rfl) (fun _ _ _ h => h) (Or.inl ⟨by rfl, ?_⟩) hHeld ?_
  rotate_left
  · intro w hSw; (try dsimp only at hSw); go_simp; first | done | with_reducible rfl
  try simp only [Act.put, List.setIfInBounds_toArray, List.set_cons_zero, List.set_cons_succ, List.getElem_toArray, List.getElem_cons_succ, List.getElem_cons_zero]
  refine anyX_take (i := 6) (v := ?_) rfl (by kernel_rfl) (by kernel_rfl) (by kernel_rfl) (by kernel_rfl) (fun _ _ _ h => h) (Or.inl ⟨by rfl, ?_⟩) hHeld ?_
  rotate_left
  · intro w hSw; (try dsimp only at hSw); go_simp; first | done | with_reducible rfl
  try simp only [Act.put, List.setIfInBounds_toArray, List.set_cons_zero, List.set_cons_succ, List.getElem_toArray, List.getElem_cons_succ, List.getElem_cons_zero]
  refine anyX_take (i := 7) (v := ?_) rfl (by kernel_rfl) (by kernel_rfl) (by kernel_rfl) (by kernel_rfl) (fun _ _ _ h => h) (Or.inl ⟨by rfl, ?_⟩) hHeld ?_
  rotate_left
  · intro w hSw; (try dsimp only at hSw); go_simp; first | done | with_reducible rfl
  try simp only [Act.put, List.setIfInBounds_toArray, List.set_cons_zero, List.set_cons_succ, List.getElem_toArray, List.getElem_cons_succ, List.getElem_cons_zero]
  refine anyX_take (i := 8) (v := ?_) rfl (by kernel_rfl) (by kernel_rfl) (by kernel_rfl) (by kernel_rfl) (fun _ _ _ h => h) (Or.inl ⟨by rfl, ?_⟩) hHeld ?_
  rotate_left
  · intro w hSw; (try dsimp only at hSw); go_simp; first | done | with_reducible rfl
  try simp only [Act.put, List.setIfInBounds_toArray, List.set_cons_zero, List.set_cons_succ, List.getElem_toArray, List.getElem_cons_succ, List.getElem_cons_zero]
  refine anyX_take (i := 9) (v := ?_) rfl (by kernel_rfl) (by kernel_rfl) (by kernel_rfl) (by kernel_rfl) (fun _ _ _ h => h) (Or.inl ⟨by rfl, ?_⟩) hHeld ?_
  rotate_left
  · intro w hSw; (try dsimp only at hSw); go_simp; first | done | with_reducible rfl
  try simp only [Act.put, List.setIfInBounds_toArray, List.set_cons_zero, List.set_cons_succ, List.getElem_toArray, List.getElem_cons_succ, List.getElem_cons_zero]
  refine anyX_ready (rs := [10]) (by kernel_rfl) (by simp) ?_
  refine (AllX.cons rfl (fun K hK => ?_) AllX.nil)
  go_simp
  refine hK.out _ _ (fun _ => hHeld) (fun hHeld2 => ?_)
  clear hK K hHeld
  have hHeld := hHeld2 (by decide)
  clear hHeld2
  try simp only [Act.put, List.setIfInBounds_toArray, List.set_cons_zero, List.set_cons_succ, List.getElem_toArray, List.getElem_cons_succ, List.getElem_cons_zero]
  refine anyX_ready (rs := [11]) (by kernel_rfl) (by simp) ?_
  refine (AllX.cons rfl (fun K hK => ?_) AllX.nil)
  go_simp
  refine hK.out _ _ (fun _ => hHeld) (fun hHeld2 => ?_)
  clear hK K hHeld
  have hHeld := hHeld2 (by decide)
  clear hHeld2
  try simp only [Act.put, List.setIfInBounds_toArray, List.set_cons_zero, List.set_cons_succ, List.getElem_toArray, List.getElem_cons_succ, List.getElem_cons_zero]
  refine anyX_ready (rs := [12]) (by kernel_rfl) (by simp) ?_
  refine (AllX.cons rfl (fun K hK => ?_) AllX.nil)
  go_simp
  with_reducible rw [HW1.out]
  refine hK.out _ _ (fun h => absurd rfl h) (fun hHeld2 => ?_)
  clear hK K hHeld hHeld2
  try simp only [Act.put, List.setIfInBounds_toArray, List.set_cons_zero, List.set_cons_succ, List.getElem_toArray, List.getElem_cons_succ, List.getElem_cons_zero]
  refine anyX_done (by kernel_rfl) ?_ _
  clear c4 f4
  have HBl1 := Lib.hid ((HQ.out.below2 HT.out HS1.out HBB.out.2).mono HBB.out.1)
  have c5 : W1.cell? ⟨tb, 5, none⟩ = some (.int .i64 tp) := by rw [HT1.out.box.cell]; rw [HTP.out]; rfl
  have c0 : W1.cell? ⟨tb, 0, none⟩ = some (.pointer (some ⟨b, 0, none⟩)) := HT1.out.box.cell 0
  have n0 : W1.cell? ⟨b, 0, none⟩ = some (.slice (some ⟨bb, oo, none⟩) N cn) := HQ1.out.box.cell 0
  have g0 : W1.cell? ⟨bb, oo + x * 3, none⟩ = some (.int .i64 kd) := (HBl1.out.cell hbbB.out).trans HG0.out
  have g1 : W1.cell? ⟨bb, oo + x * 3 + 1, none⟩ = some (.slice Af d.fs.length cf) := (HBl1.out.cell hbbB.out).trans HG1.out
  have g2 : W1.cell? ⟨bb, oo + x * 3 + 2, none⟩ = some (.slice Arw d.rs.length crw) := (HBl1.out.cell hbbB.out).trans HG2.out
  go_upto_region 1 with fail
  refine region_heldX (stop := 19) (S := fun w' : World => w'.cell? ⟨tb, 5, none⟩ = some (.int .i64 tp) ∧ w'.cell? ⟨tb, 0, none⟩ = some (.pointer (some ⟨b, 0, none⟩)) ∧ w'.cell? ⟨b, 0, none⟩ = some (.slice (some ⟨bb, oo, none⟩) N cn) ∧ w'.cell? ⟨bb, oo + x * 3, none⟩ = some (.int .i64 kd) ∧ w'.cell? ⟨bb, oo + x * 3 + 1, none⟩ = some (.slice Af d.fs.length cf) ∧ w'.cell? ⟨bb, oo + x * 3 + 2, none⟩ = some (.slice Arw d.rs.length crw)) (by kernel_rfl) ⟨c5, c0, n0, g0, g1, g2⟩ (fun hHeld => ?_)
  clear c5 c0 n0 g0 g1 g2
  obtain ⟨WB, hWB, oB⟩ : ∃ X, W1.drew = X ∧ Only nob W1 X := ⟨_, rfl, (Only.refl nob W1).drewN 1⟩
  rw [hWB] at hHeld ⊢
  have OB := Lib.hid oB
  have HSB := Lib.hid (HS1.out.more oB)
  clear hWB oB
  have HCS := Lib.hid (HSZ.out WB ((HQ.out.below2 HT.out HSB.out HBB.out.2).mono HBB.out.1))
  refine anyX_take (i := 0) (v := ?_) rfl (by kernel_rfl) (by kernel_rfl) (by kernel_rfl) (by kernel_rfl) (fun _ _ _ h => h) (Or.inl ⟨by rfl, ?_⟩) hHeld ?_
  rotate_left
  · intro w hSw; (try dsimp only at hSw); go_simp; first | done | with_reducible rfl
  try simp only [Act.put, List.setIfInBounds_toArray, List.set_cons_zero, List.set_cons_succ, List.getElem_toArray, List.getElem_cons_succ, List.getElem_cons_zero]
  refine anyX_take (i := 1) (v := ?_) rfl (by kernel_rfl) (by kernel_rfl) (by kernel_rfl) (by kernel_rfl) (fun _ _ _ h => h) (Or.inl ⟨by rfl, ?_⟩) hHeld ?_
  rotate_left
  · intro w hSw; (try dsimp only at hSw); go_simp; first | done | with_reducible rfl
  try simp only [Act.put, List.setIfInBounds_toArray, List.set_cons_zero, List.set_cons_succ, List.getElem_toArray, List.getElem_cons_succ, List.getElem_cons_zero]
  refine anyX_take (i := 2) (v := ?_) rfl (by kernel_rfl) (by kernel_rfl) (by kernel_rfl) (by kernel_rfl) (fun _ _ _ h => h) (Or.inl ⟨by rfl, ?_⟩) hHeld ?_
  rotate_left
  · intro w hSw; (try dsimp only at hSw); go_simp; first | done | with_reducible rfl
  try simp only [Act.put, List.setIfInBounds_toArray, List.set_cons_zero, List.set_cons_succ, List.getElem_toArray, List.getElem_cons_succ, List.getElem_cons_zero]
  refine anyX_take (i := 3) (v := ?_) rfl (by kernel_rfl) (by kernel_rfl) (by kernel_rfl) (by kernel_rfl) (fun _ _ _ h => h) (Or.inl ⟨by rfl, ?_⟩) hHeld ?_
  rotate_left
  · intro w hSw; (try dsimp only at hSw); go_simp; first | done | with_reducible rfl
  try simp only [Act.put, List.setIfInBounds_toArray, List.set_cons_zero, List.set_cons_succ, List.getElem_toArray, List.getElem_cons_succ, List.getElem_cons_zero]
  refine anyX_take (i := 4) (v := ?_) rfl (by kernel_rfl) (by kernel_rfl) (by kernel_rfl) (by kernel_rfl) (fun _ _ _ h => h) (Or.inl ⟨by rfl, ?_⟩) hHeld ?_
  rotate_left
  · intro w hSw; (try dsimp only at hSw); go_simp; first | done | with_reducible rfl
  try simp only [Act.put, List.setIfInBounds_toArray, List.set_cons_zero, List.set_cons_succ, List.getElem_toArray, List.getElem_cons_succ, List.getElem_cons_zero]
  refine anyX_take (i := 5) (v := ?_) rfl (by kernel_rfl) (by kernel_rfl) (by kernel_rfl) (by kernel_rfl) (fun _ _ _ h => h) (Or.inl ⟨by rfl, ?_⟩) hHeld ?_
  rotate_left
  · intro w hSw; (try dsimp only at hSw); go_simp; first | done | with_reducible rfl
  try simp only [Act.put, List.setIfInBounds_toArray, List.set_cons_zero, List.set_cons_succ, List.getElem_toArray, List.getElem_cons_succ, List.getElem_cons_zero]
  refine anyX_take (i := 6) (v := ?_) rfl (by kernel_rfl) (by kernel_rfl) (by kernel_rfl) (by kernel_rfl) (fun _ _ _ h => h) (Or.inl ⟨by rfl, ?_⟩) hHeld ?_
  rotate_left
  · intro w hSw; (try dsimp only at hSw); go_simp; first | done | with_reducible rfl
  try simp only [Act.put, List.setIfInBounds_toArray, List.set_cons_zero, List.set_cons_succ, List.getElem_toArray, List.getElem_cons_succ, List.getElem_cons_zero]
  refine anyX_take (i := 7) (v := ?_) rfl (by kernel_rfl) (by kernel_rfl) (by kernel_rfl) (by kernel_rfl) (fun _ _ _ h => h) (Or.inl ⟨by rfl, ?_⟩) hHeld ?_
  rotate_left
  · intro w hSw; (try dsimp only at hSw); go_simp; first | done | with_reducible rfl
  try simp only [Act.put, List.setIfInBounds_toArray, List.set_cons_zero, List.set_cons_succ, List.getElem_toArray, List.getElem_cons_succ, List.getElem_cons_zero]
  refine anyX_take (i := 8) (v := ?_) rfl (by kernel_rfl) (by kernel_rfl) (by kernel_rfl) (by kernel_rfl) (fun _ _ _ h => h) (Or.inl ⟨by rfl, ?_⟩) hHeld ?_
  rotate_left
  · intro w hSw; (try dsimp only at hSw); go_simp; first | done | with_reducible rfl
  try simp only [Act.put, List.setIfInBounds_toArray, List.set_cons_zero, List.set_cons_succ, List.getElem_toArray, List.getElem_cons_succ, List.getElem_cons_zero]
  refine anyX_take (i := 9) (v := ?_) rfl (by kernel_rfl) (by kernel_rfl) (by kernel_rfl) (by kernel_rfl) (fun _ _ _ h => h) (Or.inl ⟨by rfl, ?_⟩) hHeld ?_
  rotate_left
  · intro w hSw; (try dsimp only at hSw); go_simp; first | done | with_reducible rfl
  try simp only [Act.put, List.setIfInBounds_toArray, List.set_cons_zero, List.set_cons_succ, List.getElem_toArray, List.getElem_cons_succ, List.getElem_cons_zero]
  refine anyX_take (i := 10) (v := ?_) rfl (by kernel_rfl) (by kernel_rfl) (by kernel_rfl) (by kernel_rfl) (fun _ _ _ h => h) (Or.inl ⟨by rfl, ?_⟩) hHeld ?_
  rotate_left
  · intro w hSw; (try dsimp only at hSw); go_simp; first | done | with_reducible rfl
  try simp only [Act.put, List.setIfInBounds_toArray, List.set_cons_zero, List.set_cons_succ, List.getElem_toArray, List.getElem_cons_succ, List.getElem_cons_zero]
  refine anyX_take (i := 11) (v := ?_) rfl (by kernel_rfl) (by kernel_rfl) (by kernel_rfl) (by kernel_rfl) (fun _ _ _ h => h) (Or.inl ⟨by rfl, ?_⟩) hHeld ?_
  rotate_left
  · intro w hSw; (try dsimp only at hSw); go_simp; first | done | with_reducible rfl
  try simp only [Act.put, List.setIfInBounds_toArray, List.set_cons_zero, List.set_cons_succ, List.getElem_toArray, List.getElem_cons_succ, List.getElem_cons_zero]
  refine anyX_take (i := 12) (v := ?_) rfl (by kernel_rfl) (by kernel_rfl) (by kernel_rfl) (by kernel_rfl) (fun _ _ _ h => h) (Or.inl ⟨by rfl, ?_⟩) hHeld ?_
  rotate_left
  · intro w hSw; (try dsimp only at hSw); go_simp; first | done | with_reducible rfl
  try simp only [Act.put, List.setIfInBounds_toArray, List.set_cons_zero, List.set_cons_succ, List.getElem_toArray, List.getElem_cons_succ, List.getElem_cons_zero]
  refine anyX_take (i := 13) (v := ?_) rfl (by kernel_rfl) (by kernel_rfl) (by kernel_rfl) (by kernel_rfl) (fun _ _ _ h => h) (Or.inl ⟨by rfl, ?_⟩) hHeld ?_
  rotate_left
  · intro w hSw; (try dsimp only at hSw); go_simp; first | done | with_reducible rfl
  try simp only [Act.put, List.setIfInBounds_toArray, List.set_cons_zero, List.set_cons_succ, List.getElem_toArray, List.getElem_cons_succ, List.getElem_cons_zero]
  refine anyX_take (i := 14) (v := ?_) rfl (by kernel_rfl) (by kernel_rfl) (by kernel_rfl) (by kernel_rfl) (fun _ _ _ h => h) (Or.inl ⟨by rfl, ?_⟩) hHeld ?_
  rotate_left
  · intro w hSw; (try dsimp only at hSw); go_simp; first | done | with_reducible rfl
  try simp only [Act.put, List.setIfInBounds_toArray, List.set_cons_zero, List.set_cons_succ, List.getElem_toArray, List.getElem_cons_succ, List.getElem_cons_zero]
  refine anyX_ready (rs := [15]) (by kernel_rfl) (by simp) ?_
  refine (AllX.cons rfl (fun K hK => ?_) AllX.nil)
  rw [if_pos (by rfl)]
  go_simp
  go_at_call 65
  refine HCS.out.mono ?_
  rintro e w5 ⟨rfl, o5⟩
  have O5 := Lib.hid (OB.out.trans o5)
  have o5 := Lib.hid o5
  dsimp only
  refine hK.out _ _ (fun _ => ⟨o5.out.keeps hHeld.1, o5.out.keeps hHeld.2.1, o5.out.keeps hHeld.2.2.1, o5.out.keeps hHeld.2.2.2.1, o5.out.keeps hHeld.2.2.2.2.1, o5.out.keeps hHeld.2.2.2.2.2⟩) (fun hHeld2 => ?_)
  clear hK K hHeld
  have hHeld := hHeld2 (by decide)
  clear hHeld2
  try simp only [Act.put, List.setIfInBounds_toArray, List.set_cons_zero, List.set_cons_succ, List.getElem_toArray, List.getElem_cons_succ, List.getElem_cons_zero]
  refine anyX_take (i := 16) (v := ?_) rfl (by kernel_rfl) (by kernel_rfl) (by kernel_rfl) (by kernel_rfl) (fun _ _ _ h => h) (Or.inl ⟨by rfl, ?_⟩) hHeld ?_
  rotate_left
  · intro w hSw; (try dsimp only at hSw); go_simp; first | done | with_reducible rfl
  try simp only [Act.put, List.setIfInBounds_toArray, List.set_cons_zero, List.set_cons_succ, List.getElem_toArray, List.getElem_cons_succ, List.getElem_cons_zero]
  refine anyX_ready (rs := [17]) (by kernel_rfl) (by simp) ?_
  refine (AllX.cons rfl (fun K hK => ?_) AllX.nil)
  go_simp
  refine hK.out _ _ (fun _ => hHeld) (fun hHeld2 => ?_)
  clear hK K hHeld
  have hHeld := hHeld2 (by decide)
  clear hHeld2
  try simp only [Act.put, List.setIfInBounds_toArray, List.set_cons_zero, List.set_cons_succ, List.getElem_toArray, List.getElem_cons_succ, List.getElem_cons_zero]
  refine anyX_ready (rs := [18]) (by kernel_rfl) (by simp) ?_
  refine (AllX.cons rfl (fun K hK => ?_) AllX.nil)
  go_simp
  refine hK.out _ _ (fun _ => hHeld) (fun hHeld2 => ?_)
  clear hK K hHeld
  have hHeld := hHeld2 (by decide)
  clear hHeld2
  try simp only [Act.put, List.setIfInBounds_toArray, List.set_cons_zero, List.set_cons_succ, List.getElem_toArray, List.getElem_cons_succ, List.getElem_cons_zero]
  have HQ5 := Lib.hid (HQ1.out.kept O5.out)
  have HT5 := Lib.hid (HT1.out.kept O5.out)
  have HS5 := Lib.hid (HS1.out.more O5.out)
  obtain ⟨Q2, T2, S2⟩ := Tq.top HQ5.out HT5.out (IntKind.i64.wrap (tp + sz))
  obtain ⟨W2, hW2⟩ : ∃ X, w5.setCell ⟨tb, 5, none⟩ (.int .i64 (IntKind.i64.wrap (tp + sz))) = X := ⟨_, rfl⟩
  rw [hW2] at Q2 T2 S2
  have HW2 := Lib.hid hW2
  have HQ2 := Lib.hid Q2
  have HT2 := Lib.hid T2
  have HS2 := Lib.hid (HS5.out.trans S2)
  have f5 := HT5.out.box.free 5
  clear hW2 Q2 T2 S2
  refine anyX_ready (rs := [19]) (by kernel_rfl) (by simp) ?_
  refine (AllX.cons rfl (fun K hK => ?_) AllX.nil)
  go_simp
  with_reducible rw [HW2.out]
  refine hK.out _ _ (fun h => absurd rfl h) (fun hHeld2 => ?_)
  clear hK K hHeld hHeld2
  try simp only [Act.put, List.setIfInBounds_toArray, List.set_cons_zero, List.set_cons_succ, List.getElem_toArray, List.getElem_cons_succ, List.getElem_cons_zero]
  refine anyX_done (by kernel_rfl) ?_ _
  clear f5
  have hrz : rowsQ { { q with last := z } with tp := IntKind.i64.wrap (tp + sz) } z = q.wt z := rows_at HZB.out.1
  obtain ⟨Az, kz, hvz, hkz, hmz⟩ := (HQ2.out.rows.own z).form
  rw [hrz] at hvz hkz
  have HVZ := Lib.hid hvz
  have HLK := Lib.hid (fun (w : World) (hm : VMap w mp q.pt V) => (hm.at_ z HZB.out).trans (by rw [hvz]))
  have c4 : W2.cell? ⟨tb, 4, none⟩ = some (.int .i64 z) := HT2.out.box.cell 4
  have c2 : W2.cell? ⟨tb, 2, none⟩ = some (.map (some mp)) := HT2.out.box.cell 2
  have hlk := HLK.out W2 HT2.out.map
  obtain ⟨nz, hnz⟩ : ∃ m, m = (q.wt z).length := ⟨_, rfl⟩
  have HNZ := Lib.hid hnz
  rw [← hnz] at HVZ HLK hlk
  have hnb : nz ≤ 16000000000 := by rw [HNZ.out, HZZ.out]; exact HWT.out
  have TAIL := Lib.hid (show True from trivial)
  clear hvz hkz hnz hrz hmz
  go_upto_region 2 with fail
  have mixed := mixedP17
  go_region_held3 (fun w' => w'.cell? ⟨tb, 2, none⟩ = some (.map (some mp)) ∧ w'.cell? ⟨tb, 4, none⟩ = some (.int .i64 z) ∧ (Instr.lookup 96 (.map (some mp)) (.int .i64 z) false).run Try.prog w' = .ok (.slice Az nz kz) w')
    (first | exact And.intro c2 (And.intro c4 (HLK.out _ (VMap.keep HT2.out.map ((Only.refl nob W2).drewN 1) id))) | go_keep) (fail)
  obtain ⟨W3, hW3, o3⟩ : ∃ X, W2.drew = X ∧ Only nob W2 X := ⟨_, rfl, (Only.refl nob W2).drewN 1⟩
  rw [hW3]
  have HQ3 := Lib.hid (HQ2.out.kept o3)
  have HT3 := Lib.hid (HT2.out.kept o3)
  have HS3 := Lib.hid (HS2.out.more o3)
  clear hW3 o3 c2 c4 hlk
  by_cases hn0 : nz = 0
  · have hnil : q.wt z = [] := List.eq_nil_of_length_eq_zero (by rw [← HNZ.out]; exact hn0)
    have hz1 : ((nz : Int) == 0) = true := by simp [hn0]
    have HWQ := Lib.hid (show waitQ g blk q (x : Int) = { ({ ({ ({ q with last := z } : QSt) with tp := IntKind.i64.wrap (tp + sz) } : QSt) with bg := q.bg ++ [z] } : QSt) with wt := upd q.wt z (q.wt z ++ [(x : Int)]), pt := q.pt + 1 } by
      unfold waitQ
      rw [← HZZ.out, if_pos hnil, HZ.out, ← HTP.out, ← wrapP17])
    obtain ⟨A5, k5, hv5, -, -⟩ := (HQ3.out.rows.own (-5)).form
    have c3 : W3.cell? ⟨tb, 3, none⟩ = some (V (-5)) := HT3.out.box.cell 3
    have c4 : W3.cell? ⟨tb, 4, none⟩ = some (.int .i64 z) := HT3.out.box.cell 4
    have hr5 : rowsQ ({ ({ q with last := z } : QSt) with tp := IntKind.i64.wrap (tp + sz) } : QSt) (-5) = q.bg := rfl
    obtain ⟨n5, hn5⟩ : ∃ m, m = q.bg.length := ⟨_, rfl⟩
    have HN5 := Lib.hid hn5
    rw [hr5, ← hn5] at hv5
    have HV5 := Lib.hid hv5
    have how5 := HQ3.out.rows.own (-5)
    rw [hv5, hr5, ← hn5] at how5
    have HOW5 := Lib.hid how5
    rw [hv5] at c3
    have hn5b : n5 ≤ 16000000000 := by rw [HN5.out]; exact HBG.out
    clear hn0 hnil hr5 hn5 hv5 how5
    go_upto_region 3 with fail
    refine region_heldX (stop := 13) (S := fun w' : World => w'.cell? ⟨tb, 3, none⟩ = some (.slice A5 n5 k5) ∧ w'.cell? ⟨tb, 4, none⟩ = some (.int .i64 z)) (by kernel_rfl) ⟨c3, c4⟩ (fun hHeld => ?_)
    clear c3 c4
    obtain ⟨WD, hWD, oD⟩ : ∃ X, W3.drew = X ∧ Only nob W3 X := ⟨_, rfl, (Only.refl nob W3).drewN 1⟩
    rw [hWD] at hHeld ⊢
    have OD := Lib.hid oD
    clear hWD oD
    refine anyX_take (i := 0) (v := ?_) rfl (by kernel_rfl) (by kernel_rfl) (by kernel_rfl) (by kernel_rfl) (fun _ _ _ h => h) (Or.inl ⟨by rfl, ?_⟩) hHeld ?_
    rotate_left
    · intro w hSw; (try dsimp only at hSw); go_simp; first | done | with_reducible rfl
    try simp only [Act.put, List.setIfInBounds_toArray, List.set_cons_zero, List.set_cons_succ, List.getElem_toArray, List.getElem_cons_succ, List.getElem_cons_zero]
    refine anyX_take (i := 1) (v := ?_) rfl (by kernel_rfl) (by kernel_rfl) (by kernel_rfl) (by kernel_rfl) (fun _ _ _ h => h) (Or.inl ⟨by rfl, ?_⟩) hHeld ?_
    rotate_left
    · intro w hSw; (try dsimp only at hSw); go_simp; first | done | with_reducible rfl
    try simp only [Act.put, List.setIfInBounds_toArray, List.set_cons_zero, List.set_cons_succ, List.getElem_toArray, List.getElem_cons_succ, List.getElem_cons_zero]
    refine anyX_take (i := 2) (v := ?_) rfl (by kernel_rfl) (by kernel_rfl) (by kernel_rfl) (by kernel_rfl) (fun _ _ _ h => h) (Or.inl ⟨by rfl, ?_⟩) hHeld ?_
    rotate_left
    · intro w hSw; (try dsimp only at hSw); go_simp; first | done | with_reducible rfl
    try simp only [Act.put, List.setIfInBounds_toArray, List.set_cons_zero, List.set_cons_succ, List.getElem_toArray, List.getElem_cons_succ, List.getElem_cons_zero]
    refine anyX_take (i := 3) (v := ?_) rfl (by kernel_rfl) (by kernel_rfl) (by kernel_rfl) (by kernel_rfl) (fun _ _ _ h => h) (Or.inl ⟨by rfl, ?_⟩) hHeld ?_
    rotate_left
    · intro w hSw; (try dsimp only at hSw); go_simp; first | done | with_reducible rfl
    try simp only [Act.put, List.setIfInBounds_toArray, List.set_cons_zero, List.set_cons_succ, List.getElem_toArray, List.getElem_cons_succ, List.getElem_cons_zero]
    refine anyX_take (i := 4) (v := ?_) rfl (by kernel_rfl) (by kernel_rfl) (by kernel_rfl) (by kernel_rfl) (fun _ _ _ h => h) (Or.inl ⟨by rfl, ?_⟩) hHeld ?_
    rotate_left
    · intro w hSw; (try dsimp only at hSw); go_simp; first | done | with_reducible rfl
    try simp only [Act.put, List.setIfInBounds_toArray, List.set_cons_zero, List.set_cons_succ, List.getElem_toArray, List.getElem_cons_succ, List.getElem_cons_zero]
    refine anyX_take (i := 5) (v := ?_) rfl (by kernel_rfl) (by kernel_rfl) (by kernel_rfl) (by kernel_rfl) (fun _ _ _ h => h) (Or.inl ⟨by rfl, ?_⟩) hHeld ?_
    rotate_left
    · intro w hSw; (try dsimp only at hSw); go_simp; first | done | with_reducible rfl
    try simp only [Act.put, List.setIfInBounds_toArray, List.set_cons_zero, List.set_cons_succ, List.getElem_toArray, List.getElem_cons_succ, List.getElem_cons_zero]
    refine anyX_take (i := 6) (v := ?_) rfl (by kernel_rfl) (by kernel_rfl) (by kernel_rfl) (by kernel_rfl) (fun _ _ _ h => h) (Or.inl ⟨by rfl, ?_⟩) hHeld ?_
    rotate_left
    · intro w hSw; (try dsimp only at hSw); go_simp; first | done | with_reducible rfl
    try simp only [Act.put, List.setIfInBounds_toArray, List.set_cons_zero, List.set_cons_succ, List.getElem_toArray, List.getElem_cons_succ, List.getElem_cons_zero]
    refine anyX_take (i := 7) (v := ?_) rfl (by kernel_rfl) (by kernel_rfl) (by kernel_rfl) (by kernel_rfl) (fun _ _ _ h => h) (Or.inl ⟨by rfl, ?_⟩) hHeld ?_
    rotate_left
    · intro w hSw; (try dsimp only at hSw); go_simp; first | done | with_reducible rfl
    try simp only [Act.put, List.setIfInBounds_toArray, List.set_cons_zero, List.set_cons_succ, List.getElem_toArray, List.getElem_cons_succ, List.getElem_cons_zero]
    refine anyX_take (i := 8) (v := ?_) rfl (by kernel_rfl) (by kernel_rfl) (by kernel_rfl) (by kernel_rfl) (fun _ _ _ h => h) (Or.inl ⟨by rfl, ?_⟩) hHeld ?_
    rotate_left
    · intro w hSw; (try dsimp only at hSw); go_simp; first | done | with_reducible rfl
    try simp only [Act.put, List.setIfInBounds_toArray, List.set_cons_zero, List.set_cons_succ, List.getElem_toArray, List.getElem_cons_succ, List.getElem_cons_zero]
    obtain ⟨XL, hX, oX, sX⟩ : ∃ X, WD.alloc (.cells #[.int .i64 z] 3) = X ∧ Only nob WD X ∧ Sl X (WD.heap.size + 1) 1 (.slice (some ⟨WD.heap.size, 0, none⟩) 1 1) 1 [.int .i64 z] := ⟨_, rfl, (Only.refl nob WD).alloc _, one_of16 WD z⟩
    have HWE := Lib.hid hX
    have OL := Lib.hid oX
    have SLx := Lib.hid sX
    clear hX oX sX
    refine anyX_ready (rs := [9]) (by kernel_rfl) (by simp) ?_
    refine (AllX.cons rfl (fun K hK => ?_) AllX.nil)
    go_simp
    with_reducible rw [HWE.out]
    refine hK.out _ _ (fun _ => ⟨OL.out.keeps hHeld.1, OL.out.keeps hHeld.2⟩) (fun hHeld2 => ?_)
    clear hK K hHeld
    have hHeld := hHeld2 (by decide)
    clear hHeld2
    try simp only [Act.put, List.setIfInBounds_toArray, List.set_cons_zero, List.set_cons_succ, List.getElem_toArray, List.getElem_cons_succ, List.getElem_cons_zero]
    refine anyX_ready (rs := [10]) (by kernel_rfl) (by simp) ?_
    refine (AllX.cons rfl (fun K hK => ?_) AllX.nil)
    refine step_append_or _ (by rfl) _ _ _ (by rfl) base 3 j0 _ 8 Try.underlying28 hj0 hy0 hy1 hy2 (by rfl) (.slice A5 n5 k5) n5 (i64s q.bg) (by rfl) (HOW5.out.only (OD.out.trans OL.out) fun _ _ h => h) (WD.heap.size + 1) (.slice (some ⟨WD.heap.size, 0, none⟩) 1 1) (.int .i64 z) (by rfl) SLx.out (by rfl) (fits17 (by omega)).1 (fits17 (by omega)).2 (by have h1 := HBB.out.2; have h2 := HS3.out.only.size; have h3 := OD.out.size; have h4 := OL.out.size; omega) ?_
    intro v9 w9 H9 o9 ho9
    obtain ⟨B9, k9, rfl, -, -⟩ := H9.out.form
    rw [← HV5.out] at o9 ho9
    have TM := Tq.mid HQ3.out HT3.out (OD.out.trans OL.out) o9
    have d3 : w9.cell? ⟨tb, 3, none⟩ = some (.slice A5 n5 k5) := by rw [TM.box.cell]; exact congrArg some HV5.out
    have d4 : w9.cell? ⟨tb, 4, none⟩ = some (.int .i64 z) := TM.box.cell 4
    have f3 := TM.box.free 3
    have hl9 : (q.bg ++ [z]).length = n5 + 1 := by rw [List.length_append, ← HN5.out]; rfl
    obtain ⟨Q4, T4, S4⟩ := Tq.begun HQ3.out HT3.out (l := q.bg ++ [z]) (OD.out.trans OL.out) o9 (by rw [hl9, i64s_append]; exact H9.out) ho9
    obtain ⟨W4, hW4⟩ : ∃ X, w9.setCell ⟨tb, 3, none⟩ (.slice B9 (n5 + 1) k9) = X := ⟨_, rfl⟩
    rw [hW4] at Q4 T4 S4
    have HW4 := Lib.hid hW4
    have HQ4 := Lib.hid Q4
    have HT4 := Lib.hid T4
    have HS4 := Lib.hid (HS3.out.trans S4)
    clear hW4 Q4 T4 S4 hl9 TM H9 o9 ho9
    refine hK.out _ _ (fun _ => ⟨d3, d4⟩) (fun hHeld2 => ?_)
    clear hK K hHeld
    have hHeld := hHeld2 (by decide)
    clear hHeld2
    try simp only [Act.put, List.setIfInBounds_toArray, List.set_cons_zero, List.set_cons_succ, List.getElem_toArray, List.getElem_cons_succ, List.getElem_cons_zero]
    refine anyX_ready (rs := [11]) (by kernel_rfl) (by simp) ?_
    refine (AllX.cons rfl (fun K hK => ?_) AllX.nil)
    go_simp
    refine hK.out _ _ (fun _ => hHeld) (fun hHeld2 => ?_)
    clear hK K hHeld
    have hHeld := hHeld2 (by decide)
    clear hHeld2
    try simp only [Act.put, List.setIfInBounds_toArray, List.set_cons_zero, List.set_cons_succ, List.getElem_toArray, List.getElem_cons_succ, List.getElem_cons_zero]
    refine anyX_ready (rs := [12]) (by kernel_rfl) (by simp) ?_
    refine (AllX.cons rfl (fun K hK => ?_) AllX.nil)
    go_simp
    refine hK.out _ _ (fun _ => hHeld) (fun hHeld2 => ?_)
    clear hK K hHeld
    have hHeld := hHeld2 (by decide)
    clear hHeld2
    try simp only [Act.put, List.setIfInBounds_toArray, List.set_cons_zero, List.set_cons_succ, List.getElem_toArray, List.getElem_cons_succ, List.getElem_cons_zero]
    refine anyX_ready (rs := [13]) (by kernel_rfl) (by simp) ?_
    refine (AllX.cons rfl (fun K hK => ?_) AllX.nil)
    go_simp
    with_reducible rw [HW4.out]
    refine hK.out _ _ (fun h => absurd rfl h) (fun hHeld2 => ?_)
    clear hK K hHeld hHeld2
    try simp only [Act.put, List.setIfInBounds_toArray, List.set_cons_zero, List.set_cons_succ, List.getElem_toArray, List.getElem_cons_succ, List.getElem_cons_zero]
    refine anyX_done (by kernel_rfl) ?_ _
    clear d3 d4 f3 OD OL SLx HWE
    obtain ⟨c2, c4⟩ : W4.cell? ⟨tb, 2, none⟩ = some (.map (some mp)) ∧ W4.cell? ⟨tb, 4, none⟩ = some (.int .i64 z) := ⟨HT4.out.box.cell 2, HT4.out.box.cell 4⟩
    have hVz : (upd V (-5) (.slice B9 (n5 + 1) k9)) z = .slice Az nz kz := by rw [upd_other (by have := HZB.out.1; omega)]; exact HVZ.out
    have HVz := Lib.hid hVz
    have HLZ := Lib.hid (fun (w : World) (hm : VMap w mp q.pt (upd V (-5) (.slice B9 (n5 + 1) k9))) => (hm.at_ z HZB.out).trans (by rw [hVz]))
    have how := HQ4.out.rows.own z
    rw [hVz, show rowsQ ({ ({ ({ q with last := z } : QSt) with tp := IntKind.i64.wrap (tp + sz) } : QSt) with bg := q.bg ++ [z] } : QSt) z = q.wt z from rows_at HZB.out.1, ← HNZ.out] at how
    have HOW := Lib.hid how
    have hmap := HT4.out.map
    clear hVz how
    go_upto_region 4 with fail
    refine region_heldX (stop := 20) (S := fun w' : World => w'.cell? ⟨tb, 2, none⟩ = some (.map (some mp)) ∧ w'.cell? ⟨tb, 4, none⟩ = some (.int .i64 z) ∧ VMap w' mp q.pt (upd V (-5) (.slice B9 (n5 + 1) k9))) (by kernel_rfl) ⟨c2, c4, hmap.keep ((Only.refl nob W4).drewN 1) id⟩ (fun hHeld => ?_)
    clear c2 c4 hmap
    obtain ⟨WD, hWD, oD⟩ : ∃ X, W4.drew = X ∧ Only nob W4 X := ⟨_, rfl, (Only.refl nob W4).drewN 1⟩
    rw [hWD] at hHeld ⊢
    have OD := Lib.hid oD
    clear hWD oD
    refine anyX_take (i := 0) (v := ?_) rfl (by kernel_rfl) (by kernel_rfl) (by kernel_rfl) (by kernel_rfl) (fun _ _ _ h => h) (Or.inl ⟨by rfl, ?_⟩) hHeld ?_
    rotate_left
    · intro w hSw; (try dsimp only at hSw); go_simp; first | done | with_reducible rfl
    try simp only [Act.put, List.setIfInBounds_toArray, List.set_cons_zero, List.set_cons_succ, List.getElem_toArray, List.getElem_cons_succ, List.getElem_cons_zero]
    refine anyX_take (i := 1) (v := ?_) rfl (by kernel_rfl) (by kernel_rfl) (by kernel_rfl) (by kernel_rfl) (fun _ _ _ h => h) (Or.inl ⟨by rfl, ?_⟩) hHeld ?_
    rotate_left
    · intro w hSw; (try dsimp only at hSw); go_simp; first | done | with_reducible rfl
    try simp only [Act.put, List.setIfInBounds_toArray, List.set_cons_zero, List.set_cons_succ, List.getElem_toArray, List.getElem_cons_succ, List.getElem_cons_zero]
    refine anyX_take (i := 2) (v := ?_) rfl (by kernel_rfl) (by kernel_rfl) (by kernel_rfl) (by kernel_rfl) (fun _ _ _ h => h) (Or.inl ⟨by rfl, ?_⟩) hHeld ?_
    rotate_left
    · intro w hSw; (try dsimp only at hSw); go_simp; first | done | with_reducible rfl
    try simp only [Act.put, List.setIfInBounds_toArray, List.set_cons_zero, List.set_cons_succ, List.getElem_toArray, List.getElem_cons_succ, List.getElem_cons_zero]
    refine anyX_take (i := 3) (v := ?_) rfl (by kernel_rfl) (by kernel_rfl) (by kernel_rfl) (by kernel_rfl) (fun _ _ _ h => h) (Or.inl ⟨by rfl, ?_⟩) hHeld ?_
    rotate_left
    · intro w hSw; (try dsimp only at hSw); go_simp; first | done | with_reducible rfl
    try simp only [Act.put, List.setIfInBounds_toArray, List.set_cons_zero, List.set_cons_succ, List.getElem_toArray, List.getElem_cons_succ, List.getElem_cons_zero]
    refine anyX_take (i := 4) (v := ?_) rfl (by kernel_rfl) (by kernel_rfl) (by kernel_rfl) (by kernel_rfl) (fun _ _ _ h => h) (Or.inl ⟨by rfl, ?_⟩) hHeld ?_
    rotate_left
    · intro w hSw; (try dsimp only at hSw); go_simp; first | done | with_reducible rfl
    try simp only [Act.put, List.setIfInBounds_toArray, List.set_cons_zero, List.set_cons_succ, List.getElem_toArray, List.getElem_cons_succ, List.getElem_cons_zero]
    refine anyX_take (i := 5) (v := ?_) rfl (by kernel_rfl) (by kernel_rfl) (by kernel_rfl) (by kernel_rfl) (fun _ _ _ h => h) (Or.inl ⟨by rfl, ?_⟩) hHeld ?_
    rotate_left
    · intro w hSw; (try dsimp only at hSw); go_simp; first | done | with_reducible rfl
    try simp only [Act.put, List.setIfInBounds_toArray, List.set_cons_zero, List.set_cons_succ, List.getElem_toArray, List.getElem_cons_succ, List.getElem_cons_zero]
    refine anyX_take (i := 6) (v := ?_) rfl (by kernel_rfl) (by kernel_rfl) (by kernel_rfl) (by kernel_rfl) (fun _ _ _ h => h) (Or.inl ⟨by rfl, ?_⟩) hHeld ?_
    rotate_left
    · intro w hSw; (try dsimp only at hSw); go_simp; first | done | with_reducible rfl
    try simp only [Act.put, List.setIfInBounds_toArray, List.set_cons_zero, List.set_cons_succ, List.getElem_toArray, List.getElem_cons_succ, List.getElem_cons_zero]
    refine anyX_take (i := 7) (v := ?_) rfl (by kernel_rfl) (by kernel_rfl) (by kernel_rfl) (by kernel_rfl) (fun _ _ _ h => h) (Or.inl ⟨by rfl, ?_⟩) hHeld ?_
    rotate_left
    · intro w hSw; (try dsimp only at hSw); go_simp; first | done | with_reducible rfl
    try simp only [Act.put, List.setIfInBounds_toArray, List.set_cons_zero, List.set_cons_succ, List.getElem_toArray, List.getElem_cons_succ, List.getElem_cons_zero]
    refine anyX_take (i := 8) (v := ?_) rfl (by kernel_rfl) (by kernel_rfl) (by kernel_rfl) (by kernel_rfl) (fun _ _ _ h => h) (Or.inl ⟨by rfl, ?_⟩) hHeld ?_
    rotate_left
    · intro w hSw; (try dsimp only at hSw); go_simp; first | done | with_reducible rfl
    try simp only [Act.put, List.setIfInBounds_toArray, List.set_cons_zero, List.set_cons_succ, List.getElem_toArray, List.getElem_cons_succ, List.getElem_cons_zero]
    refine anyX_take (i := 9) (v := ?_) rfl (by kernel_rfl) (by kernel_rfl) (by kernel_rfl) (by kernel_rfl) (fun _ _ _ h => h) (Or.inl ⟨by rfl, ?_⟩) hHeld ?_
    rotate_left
    · intro w hSw; (try dsimp only at hSw); go_simp; first | done | with_reducible rfl
    try simp only [Act.put, List.setIfInBounds_toArray, List.set_cons_zero, List.set_cons_succ, List.getElem_toArray, List.getElem_cons_succ, List.getElem_cons_zero]
    refine anyX_take (i := 10) (v := ?_) rfl (by kernel_rfl) (by kernel_rfl) (by kernel_rfl) (by kernel_rfl) (fun _ _ _ h => h) (Or.inl ⟨by rfl, ?_⟩) hHeld ?_
    rotate_left
    · intro w hSw; (try dsimp only at hSw); go_simp; first | done | with_reducible rfl
    try simp only [Act.put, List.setIfInBounds_toArray, List.set_cons_zero, List.set_cons_succ, List.getElem_toArray, List.getElem_cons_succ, List.getElem_cons_zero]
    refine anyX_take (i := 11) (v := ?_) rfl (by kernel_rfl) (by kernel_rfl) (by kernel_rfl) (by kernel_rfl) (fun _ _ _ h => h) (Or.inl ⟨by rfl, ?_⟩) hHeld ?_
    rotate_left
    · intro w hSw; (try dsimp only at hSw); go_simp; first | done | with_reducible rfl
    try simp only [Act.put, List.setIfInBounds_toArray, List.set_cons_zero, List.set_cons_succ, List.getElem_toArray, List.getElem_cons_succ, List.getElem_cons_zero]
    refine anyX_take (i := 12) (v := ?_) rfl (by kernel_rfl) (by kernel_rfl) (by kernel_rfl) (by kernel_rfl) (fun _ _ _ h => h) (Or.inl ⟨by rfl, ?_⟩) hHeld ?_
    rotate_left
    · intro w hSw; (try dsimp only at hSw); go_simp; first | done | with_reducible rfl
    try simp only [Act.put, List.setIfInBounds_toArray, List.set_cons_zero, List.set_cons_succ, List.getElem_toArray, List.getElem_cons_succ, List.getElem_cons_zero]
    refine anyX_take (i := 13) (v := ?_) rfl (by kernel_rfl) (by kernel_rfl) (by kernel_rfl) (by kernel_rfl) (fun _ _ _ h => h) (Or.inl ⟨by rfl, ?_⟩) hHeld ?_
    rotate_left
    · intro w hSw; (try dsimp only at hSw); go_simp; first | done | with_reducible rfl
    try simp only [Act.put, List.setIfInBounds_toArray, List.set_cons_zero, List.set_cons_succ, List.getElem_toArray, List.getElem_cons_succ, List.getElem_cons_zero]
    refine anyX_take (i := 14) (v := ?_) rfl (by kernel_rfl) (by kernel_rfl) (by kernel_rfl) (by kernel_rfl) (fun _ _ _ h => h) (Or.inl ⟨by rfl, ?_⟩) hHeld ?_
    rotate_left
    · intro w hSw; (try dsimp only at hSw); go_simp; first | done | with_reducible rfl
    try simp only [Act.put, List.setIfInBounds_toArray, List.set_cons_zero, List.set_cons_succ, List.getElem_toArray, List.getElem_cons_succ, List.getElem_cons_zero]
    refine anyX_take (i := 15) (v := ?_) rfl (by kernel_rfl) (by kernel_rfl) (by kernel_rfl) (by kernel_rfl) (fun _ _ _ h => h) (Or.inl ⟨by rfl, ?_⟩) hHeld ?_
    rotate_left
    · intro w hSw; (try dsimp only at hSw); go_simp; first | done | with_reducible rfl
    try simp only [Act.put, List.setIfInBounds_toArray, List.set_cons_zero, List.set_cons_succ, List.getElem_toArray, List.getElem_cons_succ, List.getElem_cons_zero]
    refine anyX_take (i := 16) (v := ?_) rfl (by kernel_rfl) (by kernel_rfl) (by kernel_rfl) (by kernel_rfl) (fun _ _ _ h => h) (Or.inl ⟨by rfl, ?_⟩) hHeld ?_
    rotate_left
    · intro w hSw; have hl := HLZ.out w hSw.2.2; go_simp; first | done | with_reducible rfl
    try simp only [Act.put, List.setIfInBounds_toArray, List.set_cons_zero, List.set_cons_succ, List.getElem_toArray, List.getElem_cons_succ, List.getElem_cons_zero]
    refine anyX_take (i := 17) (v := ?_) rfl (by kernel_rfl) (by kernel_rfl) (by kernel_rfl) (by kernel_rfl) (fun _ _ _ h => h) (Or.inl ⟨by rfl, ?_⟩) hHeld ?_
    rotate_left
    · intro w hSw; (try dsimp only at hSw); go_simp; first | done | with_reducible rfl
    try simp only [Act.put, List.setIfInBounds_toArray, List.set_cons_zero, List.set_cons_succ, List.getElem_toArray, List.getElem_cons_succ, List.getElem_cons_zero]
    obtain ⟨XL, hX, oX, sX⟩ : ∃ X, WD.alloc (.cells #[.int .i64 (x : Int)] 3) = X ∧ Only nob WD X ∧ Sl X (WD.heap.size + 1) 1 (.slice (some ⟨WD.heap.size, 0, none⟩) 1 1) 1 [.int .i64 (x : Int)] := ⟨_, rfl, (Only.refl nob WD).alloc _, one_of16 WD x⟩
    have HWE := Lib.hid hX
    have OL := Lib.hid oX
    have SLx := Lib.hid sX
    clear hX oX sX
    refine anyX_ready (rs := [18]) (by kernel_rfl) (by simp) ?_
    refine (AllX.cons rfl (fun K hK => ?_) AllX.nil)
    go_simp
    with_reducible rw [HWE.out]
    refine hK.out _ _ (fun _ => ⟨OL.out.keeps hHeld.1, OL.out.keeps hHeld.2.1, hHeld.2.2.keep OL.out id⟩) (fun hHeld2 => ?_)
    clear hK K hHeld
    have hHeld := hHeld2 (by decide)
    clear hHeld2
    try simp only [Act.put, List.setIfInBounds_toArray, List.set_cons_zero, List.set_cons_succ, List.getElem_toArray, List.getElem_cons_succ, List.getElem_cons_zero]
    refine anyX_ready (rs := [19]) (by kernel_rfl) (by simp) ?_
    refine (AllX.cons rfl (fun K hK => ?_) AllX.nil)
    refine step_append_or _ (by rfl) _ _ _ (by rfl) base 3 j0 _ 8 Try.underlying28 hj0 hy0 hy1 hy2 (by rfl) (.slice Az nz kz) nz (i64s (q.wt z)) (by rfl) (HOW.out.only (OD.out.trans OL.out) fun _ _ h => h) (WD.heap.size + 1) (.slice (some ⟨WD.heap.size, 0, none⟩) 1 1) (.int .i64 (x : Int)) (by rfl) SLx.out (by rfl) (fits17 (by omega)).1 (fits17 (by omega)).2 (by have h1 := HBB.out.2; have h2 := HS4.out.only.size; have h3 := OD.out.size; have h4 := OL.out.size; omega) ?_
    intro v9 w9 H9 o9 ho9
    obtain ⟨B9, k9, rfl, -, -⟩ := H9.out.form
    rw [← HVz.out] at o9 ho9
    have TM := Tq.mid HQ4.out HT4.out (OD.out.trans OL.out) o9
    have d2 : w9.cell? ⟨tb, 2, none⟩ = some (.map (some mp)) := TM.box.cell 2
    have d4 : w9.cell? ⟨tb, 4, none⟩ = some (.int .i64 z) := TM.box.cell 4
    have HMM := Lib.hid TM.map
    obtain ⟨W6, hrun6, hm6, o6⟩ := TM.map.put z (.slice B9 (nz + 1) k9) HZB.out (by have := HPT.out; simp only; omega)
    have HR6 := Lib.hid hrun6
    have hl9 : (q.wt z ++ [(x : Int)]).length = nz + 1 := by rw [List.length_append, ← HNZ.out]; rfl
    obtain ⟨Q6, T6, S6⟩ := Tq.row HQ4.out HT4.out HZB.out.1 (l := q.wt z ++ [(x : Int)]) (OD.out.trans OL.out) o9 (by rw [hl9, i64s_append]; exact H9.out) ho9 o6 hm6
    have HQ6 := Lib.hid Q6
    have HT6 := Lib.hid T6
    have HS6 := Lib.hid (HS4.out.trans S6)
    clear hrun6 hm6 o6 Q6 T6 S6 hl9 TM H9 o9 ho9
    refine hK.out _ _ (fun _ => ⟨d2, d4, HMM.out⟩) (fun hHeld2 => ?_)
    clear hK K hHeld
    have hHeld := hHeld2 (by decide)
    clear hHeld2 d2 d4
    try simp only [Act.put, List.setIfInBounds_toArray, List.set_cons_zero, List.set_cons_succ, List.getElem_toArray, List.getElem_cons_succ, List.getElem_cons_zero]
    refine anyX_ready (rs := [20]) (by kernel_rfl) (by simp) ?_
    refine (AllX.cons rfl (fun K hK => ?_) AllX.nil)
    refine step_put17 _ (by rfl) _ _ _ _ (by rfl) _ _ _ (by rfl) (by rfl) (by rfl) _ HR6.out ?_
    refine hK.out _ _ (fun h => absurd rfl h) (fun hHeld2 => ?_)
    clear hK K hHeld hHeld2
    try simp only [Act.put, List.setIfInBounds_toArray, List.set_cons_zero, List.set_cons_succ, List.getElem_toArray, List.getElem_cons_succ, List.getElem_cons_zero]
    refine anyX_done (by kernel_rfl) ?_ _
    go_wp2
    go_end0
    refine ⟨rfl, _, ?_, ?_, HS6.out⟩
    · rw [HWQ.out]; exact HQ6.out
    · rw [HWQ.out]; exact HT6.out
  · have hz1 : ((nz : Int) == 0) = false := by
      have : ¬ ((nz : Int) = 0) := by omega
      simpa using this
    have HWQ := Lib.hid (show waitQ g blk q (x : Int) = { ({ ({ q with last := z } : QSt) with tp := IntKind.i64.wrap (tp + sz) } : QSt) with wt := upd q.wt z (q.wt z ++ [(x : Int)]), pt := q.pt + 1 } by
      unfold waitQ
      rw [← HZZ.out, if_neg (fun e => hn0 (by rw [HNZ.out, e]; rfl)), HZ.out, ← HTP.out, ← wrapP17])
    clear hn0
    obtain ⟨c2, c4⟩ : W3.cell? ⟨tb, 2, none⟩ = some (.map (some mp)) ∧ W3.cell? ⟨tb, 4, none⟩ = some (.int .i64 z) := ⟨HT3.out.box.cell 2, HT3.out.box.cell 4⟩
    have hVz : (V) z = .slice Az nz kz := HVZ.out
    have HVz := Lib.hid hVz
    have HLZ := Lib.hid (fun (w : World) (hm : VMap w mp q.pt (V)) => (hm.at_ z HZB.out).trans (by rw [hVz]))
    have how := HQ3.out.rows.own z
    rw [hVz, show rowsQ ({ ({ q with last := z } : QSt) with tp := IntKind.i64.wrap (tp + sz) } : QSt) z = q.wt z from rows_at HZB.out.1, ← HNZ.out] at how
    have HOW := Lib.hid how
    have hmap := HT3.out.map
    clear hVz how
    go_upto_region 4 with fail
    refine region_heldX (stop := 20) (S := fun w' : World => w'.cell? ⟨tb, 2, none⟩ = some (.map (some mp)) ∧ w'.cell? ⟨tb, 4, none⟩ = some (.int .i64 z) ∧ VMap w' mp q.pt (V)) (by kernel_rfl) ⟨c2, c4, hmap.keep ((Only.refl nob W3).drewN 1) id⟩ (fun hHeld => ?_)
    clear c2 c4 hmap
    obtain ⟨WD, hWD, oD⟩ : ∃ X, W3.drew = X ∧ Only nob W3 X := ⟨_, rfl, (Only.refl nob W3).drewN 1⟩
    rw [hWD] at hHeld ⊢
    have OD := Lib.hid oD
    clear hWD oD
    refine anyX_take (i := 0) (v := ?_) rfl (by kernel_rfl) (by kernel_rfl) (by kernel_rfl) (by kernel_rfl) (fun _ _ _ h => h) (Or.inl ⟨by rfl, ?_⟩) hHeld ?_
    rotate_left
    · intro w hSw; (try dsimp only at hSw); go_simp; first | done | with_reducible rfl
    try simp only [Act.put, List.setIfInBounds_toArray, List.set_cons_zero, List.set_cons_succ, List.getElem_toArray, List.getElem_cons_succ, List.getElem_cons_zero]
    refine anyX_take (i := 1) (v := ?_) rfl (by kernel_rfl) (by kernel_rfl) (by kernel_rfl) (by kernel_rfl) (fun _ _ _ h => h) (Or.inl ⟨by rfl, ?_⟩) hHeld ?_
    rotate_left
    · intro w hSw; (try dsimp only at hSw); go_simp; first | done | with_reducible rfl
    try simp only [Act.put, List.setIfInBounds_toArray, List.set_cons_zero, List.set_cons_succ, List.getElem_toArray, List.getElem_cons_succ, List.getElem_cons_zero]
    refine anyX_take (i := 2) (v := ?_) rfl (by kernel_rfl) (by kernel_rfl) (by kernel_rfl) (by kernel_rfl) (fun _ _ _ h => h) (Or.inl ⟨by rfl, ?_⟩) hHeld ?_
    rotate_left
    · intro w hSw; (try dsimp only at hSw); go_simp; first | done | with_reducible rfl
    try simp only [Act.put, List.setIfInBounds_toArray, List.set_cons_zero, List.set_cons_succ, List.getElem_toArray, List.getElem_cons_succ, List.getElem_cons_zero]
    refine anyX_take (i := 3) (v := ?_) rfl (by kernel_rfl) (by kernel_rfl) (by kernel_rfl) (by kernel_rfl) (fun _ _ _ h => h) (Or.inl ⟨by rfl, ?_⟩) hHeld ?_
    rotate_left
    · intro w hSw; (try dsimp only at hSw); go_simp; first | done | with_reducible rfl
    try simp only [Act.put, List.setIfInBounds_toArray, List.set_cons_zero, List.set_cons_succ, List.getElem_toArray, List.getElem_cons_succ, List.getElem_cons_zero]
    refine anyX_take (i := 4) (v := ?_) rfl (by kernel_rfl) (by kernel_rfl) (by kernel_rfl) (by kernel_rfl) (fun _ _ _ h => h) (Or.inl ⟨by rfl, ?_⟩) hHeld ?_
    rotate_left
    · intro w hSw; (try dsimp only at hSw); go_simp; first | done | with_reducible rfl
    try simp only [Act.put, List.setIfInBounds_toArray, List.set_cons_zero, List.set_cons_succ, List.getElem_toArray, List.getElem_cons_succ, List.getElem_cons_zero]
    refine anyX_take (i := 5) (v := ?_) rfl (by kernel_rfl) (by kernel_rfl) (by kernel_rfl) (by kernel_rfl) (fun _ _ _ h => h) (Or.inl ⟨by rfl, ?_⟩) hHeld ?_
    rotate_left
    · intro w hSw; (try dsimp only at hSw); go_simp; first | done | with_reducible rfl
    try simp only [Act.put, List.setIfInBounds_toArray, List.set_cons_zero, List.set_cons_succ, List.getElem_toArray, List.getElem_cons_succ, List.getElem_cons_zero]
    refine anyX_take (i := 6) (v := ?_) rfl (by kernel_rfl) (by kernel_rfl) (by kernel_rfl) (by kernel_rfl) (fun _ _ _ h => h) (Or.inl ⟨by rfl, ?_⟩) hHeld ?_
    rotate_left
    · intro w hSw; (try dsimp only at hSw); go_simp; first | done | with_reducible rfl
    try simp only [Act.put, List.setIfInBounds_toArray, List.set_cons_zero, List.set_cons_succ, List.getElem_toArray, List.getElem_cons_succ, List.getElem_cons_zero]
    refine anyX_take (i := 7) (v := ?_) rfl (by kernel_rfl) (by kernel_rfl) (by kernel_rfl) (by kernel_rfl) (fun _ _ _ h => h) (Or.inl ⟨by rfl, ?_⟩) hHeld ?_
    rotate_left
    · intro w hSw; (try dsimp only at hSw); go_simp; first | done | with_reducible rfl
    try simp only [Act.put, List.setIfInBounds_toArray, List.set_cons_zero, List.set_cons_succ, List.getElem_toArray, List.getElem_cons_succ, List.getElem_cons_zero]
    refine anyX_take (i := 8) (v := ?_) rfl (by kernel_rfl) (by kernel_rfl) (by kernel_rfl) (by kernel_rfl) (fun _ _ _ h => h) (Or.inl ⟨by rfl, ?_⟩) hHeld ?_
    rotate_left
    · intro w hSw; (try dsimp only at hSw); go_simp; first | done | with_reducible rfl
    try simp only [Act.put, List.setIfInBounds_toArray, List.set_cons_zero, List.set_cons_succ, List.getElem_toArray, List.getElem_cons_succ, List.getElem_cons_zero]
    refine anyX_take (i := 9) (v := ?_) rfl (by kernel_rfl) (by kernel_rfl) (by kernel_rfl) (by kernel_rfl) (fun _ _ _ h => h) (Or.inl ⟨by rfl, ?_⟩) hHeld ?_
    rotate_left
    · intro w hSw; (try dsimp only at hSw); go_simp; first | done | with_reducible rfl
    try simp only [Act.put, List.setIfInBounds_toArray, List.set_cons_zero, List.set_cons_succ, List.getElem_toArray, List.getElem_cons_succ, List.getElem_cons_zero]
    refine anyX_take (i := 10) (v := ?_) rfl (by kernel_rfl) (by kernel_rfl) (by kernel_rfl) (by kernel_rfl) (fun _ _ _ h => h) (Or.inl ⟨by rfl, ?_⟩) hHeld ?_
    rotate_left
    · intro w hSw; (try dsimp only at hSw); go_simp; first | done | with_reducible rfl
    try simp only [Act.put, List.setIfInBounds_toArray, List.set_cons_zero, List.set_cons_succ, List.getElem_toArray, List.getElem_cons_succ, List.getElem_cons_zero]
    refine anyX_take (i := 11) (v := ?_) rfl (by kernel_rfl) (by kernel_rfl) (by kernel_rfl) (by kernel_rfl) (fun _ _ _ h => h) (Or.inl ⟨by rfl, ?_⟩) hHeld ?_
    rotate_left
    · intro w hSw; (try dsimp only at hSw); go_simp; first | done | with_reducible rfl
    try simp only [Act.put, List.setIfInBounds_toArray, List.set_cons_zero, List.set_cons_succ, List.getElem_toArray, List.getElem_cons_succ, List.getElem_cons_zero]
    refine anyX_take (i := 12) (v := ?_) rfl (by kernel_rfl) (by kernel_rfl) (by kernel_rfl) (by kernel_rfl) (fun _ _ _ h => h) (Or.inl ⟨by rfl, ?_⟩) hHeld ?_
    rotate_left
    · intro w hSw; (try dsimp only at hSw); go_simp; first | done | with_reducible rfl
    try simp only [Act.put, List.setIfInBounds_toArray, List.set_cons_zero, List.set_cons_succ, List.getElem_toArray, List.getElem_cons_succ, List.getElem_cons_zero]
    refine anyX_take (i := 13) (v := ?_) rfl (by kernel_rfl) (by kernel_rfl) (by kernel_rfl) (by kernel_rfl) (fun _ _ _ h => h) (Or.inl ⟨by rfl, ?_⟩) hHeld ?_
    rotate_left
    · intro w hSw; (try dsimp only at hSw); go_simp; first | done | with_reducible rfl
    try simp only [Act.put, List.setIfInBounds_toArray, List.set_cons_zero, List.set_cons_succ, List.getElem_toArray, List.getElem_cons_succ, List.getElem_cons_zero]
    refine anyX_take (i := 14) (v := ?_) rfl (by kernel_rfl) (by kernel_rfl) (by kernel_rfl) (by kernel_rfl) (fun _ _ _ h => h) (Or.inl ⟨by rfl, ?_⟩) hHeld ?_
    rotate_left
    · intro w hSw; (try dsimp only at hSw); go_simp; first | done | with_reducible rfl
    try simp only [Act.put, List.setIfInBounds_toArray, List.set_cons_zero, List.set_cons_succ, List.getElem_toArray, List.getElem_cons_succ, List.getElem_cons_zero]
    refine anyX_take (i := 15) (v := ?_) rfl (by kernel_rfl) (by kernel_rfl) (by kernel_rfl) (by kernel_rfl) (fun _ _ _ h => h) (Or.inl ⟨by rfl, ?_⟩) hHeld ?_
    rotate_left
    · intro w hSw; (try dsimp only at hSw); go_simp; first | done | with_reducible rfl
    try simp only [Act.put, List.setIfInBounds_toArray, List.set_cons_zero, List.set_cons_succ, List.getElem_toArray, List.getElem_cons_succ, List.getElem_cons_zero]
    refine anyX_take (i := 16) (v := ?_) rfl (by kernel_rfl) (by kernel_rfl) (by kernel_rfl) (by kernel_rfl) (fun _ _ _ h => h) (Or.inl ⟨by rfl, ?_⟩) hHeld ?_
    rotate_left
    · intro w hSw; have hl := HLZ.out w hSw.2.2; go_simp; first | done | with_reducible rfl
    try simp only [Act.put, List.setIfInBounds_toArray, List.set_cons_zero, List.set_cons_succ, List.getElem_toArray, List.getElem_cons_succ, List.getElem_cons_zero]
    refine anyX_take (i := 17) (v := ?_) rfl (by kernel_rfl) (by kernel_rfl) (by kernel_rfl) (by kernel_rfl) (fun _ _ _ h => h) (Or.inl ⟨by rfl, ?_⟩) hHeld ?_
    rotate_left
    · intro w hSw; (try dsimp only at hSw); go_simp; first | done | with_reducible rfl
    try simp only [Act.put, List.setIfInBounds_toArray, List.set_cons_zero, List.set_cons_succ, List.getElem_toArray, List.getElem_cons_succ, List.getElem_cons_zero]
    obtain ⟨XL, hX, oX, sX⟩ : ∃ X, WD.alloc (.cells #[.int .i64 (x : Int)] 3) = X ∧ Only nob WD X ∧ Sl X (WD.heap.size + 1) 1 (.slice (some ⟨WD.heap.size, 0, none⟩) 1 1) 1 [.int .i64 (x : Int)] := ⟨_, rfl, (Only.refl nob WD).alloc _, one_of16 WD x⟩
    have HWE := Lib.hid hX
    have OL := Lib.hid oX
    have SLx := Lib.hid sX
    clear hX oX sX
    refine anyX_ready (rs := [18]) (by kernel_rfl) (by simp) ?_
    refine (AllX.cons rfl (fun K hK => ?_) AllX.nil)
    go_simp
    with_reducible rw [HWE.out]
    refine hK.out _ _ (fun _ => ⟨OL.out.keeps hHeld.1, OL.out.keeps hHeld.2.1, hHeld.2.2.keep OL.out id⟩) (fun hHeld2 => ?_)
    clear hK K hHeld
    have hHeld := hHeld2 (by decide)
    clear hHeld2
    try simp only [Act.put, List.setIfInBounds_toArray, List.set_cons_zero, List.set_cons_succ, List.getElem_toArray, List.getElem_cons_succ, List.getElem_cons_zero]
    refine anyX_ready (rs := [19]) (by kernel_rfl) (by simp) ?_
    refine (AllX.cons rfl (fun K hK => ?_) AllX.nil)
    refine step_append_or _ (by rfl) _ _ _ (by rfl) base 3 j0 _ 8 Try.underlying28 hj0 hy0 hy1 hy2 (by rfl) (.slice Az nz kz) nz (i64s (q.wt z)) (by rfl) (HOW.out.only (OD.out.trans OL.out) fun _ _ h => h) (WD.heap.size + 1) (.slice (some ⟨WD.heap.size, 0, none⟩) 1 1) (.int .i64 (x : Int)) (by rfl) SLx.out (by rfl) (fits17 (by omega)).1 (fits17 (by omega)).2 (by have h1 := HBB.out.2; have h2 := HS3.out.only.size; have h3 := OD.out.size; have h4 := OL.out.size; omega) ?_
    intro v9 w9 H9 o9 ho9
    obtain ⟨B9, k9, rfl, -, -⟩ := H9.out.form
    rw [← HVz.out] at o9 ho9
    have TM := Tq.mid HQ3.out HT3.out (OD.out.trans OL.out) o9
    have d2 : w9.cell? ⟨tb, 2, none⟩ = some (.map (some mp)) := TM.box.cell 2
    have d4 : w9.cell? ⟨tb, 4, none⟩ = some (.int .i64 z) := TM.box.cell 4
    have HMM := Lib.hid TM.map
    obtain ⟨W6, hrun6, hm6, o6⟩ := TM.map.put z (.slice B9 (nz + 1) k9) HZB.out (by have := HPT.out; simp only; omega)
    have HR6 := Lib.hid hrun6
    have hl9 : (q.wt z ++ [(x : Int)]).length = nz + 1 := by rw [List.length_append, ← HNZ.out]; rfl
    obtain ⟨Q6, T6, S6⟩ := Tq.row HQ3.out HT3.out HZB.out.1 (l := q.wt z ++ [(x : Int)]) (OD.out.trans OL.out) o9 (by rw [hl9, i64s_append]; exact H9.out) ho9 o6 hm6
    have HQ6 := Lib.hid Q6
    have HT6 := Lib.hid T6
    have HS6 := Lib.hid (HS3.out.trans S6)
    clear hrun6 hm6 o6 Q6 T6 S6 hl9 TM H9 o9 ho9
    refine hK.out _ _ (fun _ => ⟨d2, d4, HMM.out⟩) (fun hHeld2 => ?_)
    clear hK K hHeld
    have hHeld := hHeld2 (by decide)
    clear hHeld2 d2 d4
    try simp only [Act.put, List.setIfInBounds_toArray, List.set_cons_zero, List.set_cons_succ, List.getElem_toArray, List.getElem_cons_succ, List.getElem_cons_zero]
    refine anyX_ready (rs := [20]) (by kernel_rfl) (by simp) ?_
    refine (AllX.cons rfl (fun K hK => ?_) AllX.nil)
    refine step_put17 _ (by rfl) _ _ _ _ (by rfl) _ _ _ (by rfl) (by rfl) (by rfl) _ HR6.out ?_
    refine hK.out _ _ (fun h => absurd rfl h) (fun hHeld2 => ?_)
    clear hK K hHeld hHeld2
    try simp only [Act.put, List.setIfInBounds_toArray, List.set_cons_zero, List.set_cons_succ, List.getElem_toArray, List.getElem_cons_succ, List.getElem_cons_zero]
    refine anyX_done (by kernel_rfl) ?_ _
    go_wp2
    go_end0
    refine ⟨rfl, _, ?_, ?_, HS6.out⟩
    · rw [HWQ.out]; exact HQ6.out
    · rw [HWQ.out]; exact HT6.out
end Go.Proofs.Ytmnehonmbjnnaaa

/- Package reach's tiers: what is looked at next. -/
namespace Go.Proofs.Ytmnehonmbjnnaaa
open Go.RowKit Go.Maps Go.ChangeMaps Go.Lib
set_option maxRecDepth 100000
set_option linter.unusedSimpArgs false
set_option linter.unusedVariables false

/-- Bounds: c have come to wait, d were taken. -/
structure TB (c d : Nat) (q : QSt) : Prop where
  tp : 0 ≤ q.tp ∧ q.tp ≤ 8193 * (c : Int)
  pt : q.pt ≤ c + d
  bg : q.bg.length ≤ c
  wt : ∀ z, (q.wt z).length ≤ c
  lt : I64b q.last
  bs : ∀ z ∈ q.bg, I64b z
theorem sz_ok17 {g : Gr} (hg : grOk g = true) {x : Int} (hx : 0 ≤ x ∧ x < (g.nd.length : Int)) : 1 ≤ ndSz (ndAt g x) ∧ ndSz (ndAt g x) ≤ 8193 := by
  have hlt : x.toNat < g.nd.length := by omega
  have hm : ndAt g x ∈ g.nd := by
    unfold ndAt
    rw [List.getD_eq_getElem?_getD, List.getElem?_eq_getElem hlt]
    exact List.getElem_mem hlt
  obtain ⟨-, h2, h3, -⟩ := ndOk_iff.1 ((grOk_iff.1 hg).1 _ hm)
  unfold ndSz ndRaw
  rw [wrap64_id _ (by omega) (by omega)]
  omega
theorem blk_ok17 {blk : Int} {q : QSt} {c d : Nat} (hb : 1 ≤ blk) (h : TB c d q) (hc : c ≤ 1000000) : I64b (blkOf blk q) := by
  unfold blkOf I64b
  have := h.tp
  rw [Int.tdiv_eq_ediv_of_nonneg this.1]
  exact ⟨Int.ediv_nonneg this.1 (by omega), Int.le_trans (Int.ediv_le_self _ this.1) (by omega)⟩
theorem TB.wait {g : Gr} (hg : grOk g = true) {blk : Int} {q : QSt} {c d : Nat} {x : Int} (hb : 1 ≤ blk) (h : TB c d q) (hc : c ≤ 1000000) (hx : 0 ≤ x ∧ x < (g.nd.length : Int)) : TB (c + 1) d (waitQ g blk q x) := by
  have hz := blk_ok17 hb h hc
  have hs := sz_ok17 hg hx
  have ht := h.tp
  have hp := h.pt
  have hl := h.bg
  refine ⟨?_, ?_, ?_, ?_, hz, ?_⟩
  · show 0 ≤ wrap64 (q.tp + ndSz (ndAt g x)) ∧ wrap64 (q.tp + ndSz (ndAt g x)) ≤ 8193 * ((c + 1 : Nat) : Int)
    rw [wrap64_id _ (by omega) (by omega)]
    omega
  · show q.pt + 1 ≤ _
    omega
  · show (if q.wt (blkOf blk q) = [] then q.bg ++ [blkOf blk q] else q.bg).length ≤ _
    split
    · simp; omega
    · omega
  · intro z
    show (upd q.wt (blkOf blk q) (q.wt (blkOf blk q) ++ [x]) z).length ≤ _
    have h1 := h.wt z
    have h2 := h.wt (blkOf blk q)
    unfold upd
    split
    · simp; omega
    · omega
  · intro z hm
    have hm : z ∈ (if q.wt (blkOf blk q) = [] then q.bg ++ [blkOf blk q] else q.bg) := hm
    split at hm
    · rcases List.mem_append.1 hm with h1 | h1
      · exact h.bs z h1
      · rw [List.mem_singleton.1 h1]; exact hz
    · exact h.bs z hm
theorem wait_s (g : Gr) (blk : Int) : ∀ (l : List Int) (q : QSt), (l.foldl (waitQ g blk) q).s = q.s ∧ (l.foldl (waitQ g blk) q).ah = q.ah ∧ (l.foldl (waitQ g blk) q).k = q.k
  | [], q => ⟨rfl, rfl, rfl⟩
  | x :: l, q => by
    obtain ⟨h1, h2, h3⟩ := wait_s g blk l (waitQ g blk q x)
    exact ⟨h1, h2, h3⟩
theorem TB.waits {g : Gr} (hg : grOk g = true) {blk : Int} (hb : 1 ≤ blk) {d : Nat} : ∀ (l : List Int) (c : Nat) (q : QSt), TB c d q → c + l.length ≤ 1000000 → (∀ x ∈ l, 0 ≤ x ∧ x < (g.nd.length : Int)) → TB (c + l.length) d (l.foldl (waitQ g blk) q)
  | [], c, q, h, _, _ => h
  | x :: l, c, q, h, hc, hx => by
    simp only [List.length_cons] at hc ⊢
    have := TB.waits hg hb l (c + 1) (waitQ g blk q x) (h.wait hg hb (by omega) (hx x (List.mem_cons_self ..))) (by omega) fun y hy => hx y (List.mem_cons_of_mem _ hy)
    rw [show c + (l.length + 1) = c + 1 + l.length by omega]
    exact this
theorem foldl_take17 {g : Gr} {blk : Int} {l : List Int} {q : QSt} {j : Nat} {x : Int} (h : l[j]? = some x) : (l.take (j + 1)).foldl (waitQ g blk) q = waitQ g blk ((l.take j).foldl (waitQ g blk) q) x := by
  rw [List.take_add_one, h, List.foldl_append]
  rfl
set_option maxHeartbeats 16000000 in
theorem near17 (W : World) (b mb tb mp base B : Nat) (g : Gr) (vn vr : Value) (hs : List (Value × Value)) (lim blk : Int) (V : Int → Value) (q : QSt) (d : Nat) (hg : grOk g = true) (h : Qp W b mb base vn vr lim g.nd.length V q.s.met q) (t : Tq W tb mp base b blk V q) (hr : RdG W B g vn vr hs) (hB : B ≤ base) (hbase : base ≤ W.heap.size) (ok : Okq g q) (hn : g.nd.length ≤ 1000000)
    (hblk : 1 ≤ blk ∧ blk ≤ 9223372036854775807) (tb0 : TB q.s.small.length d q) (hd : d ≤ 1000000000) :
    Calls Try.prog 54 #[.pointer (some ⟨tb, 0, none⟩)] W fun e w' => ∃ V', e = .returned (.tuple #[.int .i64 ((nearQ g lim blk q).1.getD 0), .bool (nearQ g lim blk q).1.isSome]) ∧
      Qp w' b mb base vn vr lim g.nd.length V' (nearQ g lim blk q).2.s.met (nearQ g lim blk q).2 ∧ Tq w' tb mp base b blk V' (nearQ g lim blk q).2 ∧ Only (geB base) W w' := by
  obtain ⟨j0, hj0, hy0, hy1, hy2⟩ := info_parts info_int
  have HM := Lib.hid (meetAll17 W b mb base B g vn vr hs lim V q h hr hB hbase ok hn)
  obtain ⟨HX1, HX2⟩ := look_ok (lim := lim) ok
  have HNR := Lib.hid (show (allS g lim q).small.length ≤ 1000000 by have := HX1.room; rw [met_len] at this; omega)
  have HNL := Lib.hid HX2.sm.length_le
  have HIN := Lib.hid (show ∀ x ∈ (allS g lim q).small.drop q.s.small.length, 0 ≤ x ∧ x < (g.nd.length : Int) from fun x hx => HX1.rng x (List.mem_append.2 (.inl (List.mem_of_mem_drop hx))))
  obtain ⟨S0, hS0⟩ : ∃ s, s = (allS g lim q).small := ⟨_, rfl⟩
  obtain ⟨L, hL⟩ : ∃ l, l = S0.drop q.s.small.length := ⟨_, rfl⟩
  have HL := Lib.hid hL
  obtain ⟨qa, hqa⟩ : ∃ q', q' = allQ g lim q := ⟨_, rfl⟩
  have HQA := Lib.hid hqa
  obtain ⟨qe, hqe⟩ : ∃ q', q' = L.foldl (waitQ g blk) qa := ⟨_, rfl⟩
  have HQE := Lib.hid hqe
  obtain ⟨R, hR⟩ : ∃ R, R = nearQ g lim blk q := ⟨_, rfl⟩
  have HR := Lib.hid (show R = nearT blk qe by rw [hR, hqe, hL, hS0, hqa]; rfl)
  rw [← hR]
  have HTB := Lib.hid (show TB q.s.small.length d qa by rw [hqa]; exact ⟨tb0.tp, tb0.pt, tb0.bg, tb0.wt, tb0.lt, tb0.bs⟩)
  have HSA := Lib.hid (show qa.s.small = S0 by rw [hqa, hS0]; rfl)
  rw [← hS0] at HM HNR HNL HIN
  rw [← hL] at HIN
  rw [← hqa] at HM
  have HAM := Lib.hid (show (allS g lim q).met = qa.s.met by rw [hqa]; rfl)
  rw [HAM.out] at HM
  have HQ := Lib.hid h
  have HT := Lib.hid t
  have HG := Lib.hid hr
  have HBB := Lib.hid (And.intro hB hbase)
  have HE := Lib.hid (show qe.s.met = qa.s.met by rw [hqe, (wait_s g blk L qa).1])
  have HTE := Lib.hid (show TB (q.s.small.length + L.length) d qe by
    rw [hqe]
    refine TB.waits hg hblk.1 L _ _ HTB.out ?_ HIN.out
    rw [hL, List.length_drop]
    have := HNR.out; have := HNL.out
    omega)
  have HLL := Lib.hid (show q.s.small.length + L.length ≤ 1000000 by
    rw [hL, List.length_drop]
    have := HNR.out; have := HNL.out
    omega)
  have HQT := Lib.hid (show qa.last = q.last ∧ qa.tp = q.tp ∧ qa.pt = q.pt by rw [hqa]; exact ⟨rfl, rfl, rfl⟩)
  have HGG := Lib.hid hg
  have c0 : W.cell? ⟨tb, 0, none⟩ = some (.pointer (some ⟨b, 0, none⟩)) := t.box.cell 0
  clear hR hqe hqa hL hS0 HX1 HX2 h t hr hB hbase ok hn tb0 hg
  go_enter Try.func54, Try.ntmps54
  go_wp2_with fail
  go_at_call 63
  refine HM.out.mono ?_
  rintro e w1 ⟨V1, A1, k1, rfl, hv1, Q1, S1⟩
  have HQ1 := Lib.hid Q1
  have HT1 := Lib.hid (HT.out.plan HQ.out S1 HQT.out.1 HQT.out.2.1 HQT.out.2.2)
  have HO1 := Lib.hid (show Only (geB base) W w1 from S1.only.mono fun k _ hk => HQ.out.ge hk)
  have HV1 := Lib.hid hv1
  have hLe : (((i64s S0).drop (q.s.small.length * 1)).take ((S0.length - q.s.small.length) * 1)) = i64s L := by
    rw [HL.out, Nat.mul_one, Nat.mul_one]
    unfold i64s
    rw [← List.map_drop, ← List.map_take, List.take_of_length_le (by simp)]
  obtain ⟨nl, hnl⟩ : ∃ m, m = S0.length - q.s.small.length := ⟨_, rfl⟩
  have HNLL := Lib.hid (show nl = L.length by rw [hnl, HL.out, List.length_drop])
  have HSL := Lib.hid (show ∀ (w : World) (V' : Int → Value) (qj : QSt), Qp w b mb base vn vr lim g.nd.length V' qa.s.met qj → V' (-1) = V1 (-1) → qj.s = qa.s → Sl w w.heap.size 1 (cutv A1 q.s.small.length S0.length k1 1) nl (i64s L) from fun w V' qj hq hV hs => by
    have how := hq.rows.own (-1)
    rw [hV, hv1, show rowsQ qj (-1) = S0 by rw [← HSA.out, ← hs]; rfl] at how
    have := how.sl.cut (l := q.s.small.length) (k := S0.length) HNL.out (Nat.le_refl _)
    rw [hLe, ← hnl] at this
    exact this)
  have hsl := HSL.out w1 V1 qa Q1 rfl rfl
  obtain ⟨A2, k2, hu, hk2, hm2⟩ := hsl.form
  have HU := Lib.hid hu
  rw [hu] at HSL ⊢
  unfold maxLen at hm2
  have hnl9 : nl ≤ 1000000 := by rw [HNLL.out]; have := HLL.out; omega
  clear hnl hsl hLe Q1 S1 hv1 c0 hu
  go_wp2_with fail
  go_loopw [5, 16] (fun _ i wr => ∃ (j : Nat) (V' : Int → Value) (qj : QSt), j ≤ nl ∧ i = .int .i64 j ∧ Hid (qj = (L.take j).foldl (waitQ g blk) qa) ∧ Hid (Qp wr b mb base vn vr lim g.nd.length V' qa.s.met qj) ∧ Hid (Tq wr tb mp base b blk V' qj) ∧ Hid (V' (-1) = V1 (-1)) ∧ Hid (Only (geB base) W wr)) (fun _ i _ => nl - (intOf i).toNat)
  case atStart => exact ⟨0, V1, qa, Nat.zero_le _, rfl, Lib.hid rfl, HQ1, HT1, Lib.hid rfl, HO1⟩
  case round =>
    obtain ⟨j, V', qj, hj, rfl, HJ, HQJ, HTJ, HVJ, HOJ⟩ := hrel
    by_cases hlt : j < nl
    · obtain ⟨x, hx⟩ : ∃ x, L[j]? = some x := ⟨_, List.getElem?_eq_getElem (by rw [← HNLL.out]; exact hlt)⟩
      have hxr := HIN.out x (List.mem_of_getElem? hx)
      obtain ⟨bs, os, c2, es, _, _, hbs, hcs⟩ := (HSL.out wr V' qj HQJ.out HVJ.out (by rw [HJ.out, (wait_s g blk _ qa).1])).at_ (by omega)
      obtain ⟨rfl, rfl⟩ : A2 = some ⟨bs, os, none⟩ ∧ k2 = c2 := by simpa using es
      have hxc : wr.cell? ⟨bs, os + j, none⟩ = some (.int .i64 x) := hcs j _ (i64s_at hx)
      have htb : TB (q.s.small.length + (L.take j).length) d qj := by
        rw [HJ.out]
        exact TB.waits HGG.out hblk.1 (L.take j) _ _ HTB.out (by have := HLL.out; rw [List.length_take]; omega) fun y hy => HIN.out y (List.mem_of_mem_take hy)
      have hcb : q.s.small.length + (L.take j).length ≤ 1000000 := by have := HLL.out; rw [List.length_take]; omega
      have htp := htb.tp
      have hpt := htb.pt
      have hbg := htb.bg
      have hwt := htb.wt (blkOf blk qj)
      have HCW := Lib.hid (wait17 wr b mb tb mp base B g vn vr hs lim blk V' qa.s.met qj x HQJ.out HTJ.out (HG.out.below (HOJ.out.below (Nat.le_trans HBB.out.1 HBB.out.2) fun _ hk => Nat.le_trans HBB.out.1 hk)) HBB.out.1 (Nat.le_trans HBB.out.2 HOJ.out.size) hxr hblk ⟨htp.1, by omega⟩ (by omega) (by omega) (by omega))
      have HJ2 := Lib.hid (show waitQ g blk qj x = (L.take (j + 1)).foldl (waitQ g blk) qa by rw [HJ.out]; exact (foldl_take17 hx).symm)
      clear hx hxr es hcs htb hcb htp hpt hbg hwt
      go_wp2_with fail
      go_at_call 66
      refine HCW.out.mono ?_
      rintro e w2 ⟨V2, rfl, Q2, T2, S2⟩
      have HQ2 := Lib.hid Q2
      have HT2 := Lib.hid T2
      have HV2 := Lib.hid ((S2.same (-1) (by decide) (by decide)).trans HVJ.out)
      have HO2 := Lib.hid (show Only (geB base) W w2 from HOJ.out.trans (S2.only.mono fun k _ hk => by
        rcases hk with rfl | rfl | hk
        · exact HTJ.out.nt
        · exact HTJ.out.np
        · exact (HQJ.out.rows.lt hk).1))
      clear Q2 T2 S2 hxc
      go_wp2
      go_roundw
      case rel => exact ⟨j + 1, V2, _, by omega, by go_num, HJ2, HQ2, HT2, HV2, HO2⟩
      case measure => simp [intOf]; omega
    · obtain rfl : j = nl := by omega
      have HJE := Lib.hid (show qj = qe by rw [HJ.out, HQE.out, List.take_of_length_le (by rw [← HNLL.out]; exact Nat.le_refl _)])
      rw [HJE.out] at HQJ HTJ
      have hte := HTE.out
      have hlt1 := hte.lt
      have hpt := hte.pt
      have c4 : wr.cell? ⟨tb, 4, none⟩ = some (.int .i64 qe.last) := HTJ.out.box.cell 4
      have HLT := Lib.hid hlt1
      have HLT2 := HLL.out
      have HCF := Lib.hid (firstIn17 wr b mb tb mp base g.nd.length vn vr lim blk V' qa.s.met qe qe.last HQJ.out HTJ.out hlt1 (by omega))
      obtain ⟨ql, hql⟩ : ∃ z, z = qe.last := ⟨_, rfl⟩
      have HQL := Lib.hid hql
      rw [← hql] at c4 HCF
      clear hql hte hlt1 hpt HLT2 hlt
      go_wp2_with fail
      go_at_call 67
      refine HCF.out.mono ?_
      rintro e w2 ⟨V2, rfl, Q2, T2, S2⟩
      have HO2 := Lib.hid (show Only (geB base) W w2 from HOJ.out.trans (S2.only.mono fun k _ hk => by
        rcases hk with rfl | rfl | hk
        · exact HTJ.out.nt
        · exact HTJ.out.np
        · exact (HQJ.out.rows.lt hk).1))
      cases hwz : qe.wt ql with
      | cons x l =>
        have hfi : firstInQ ql qe = (some x, { qe with wt := upd qe.wt ql l, pt := qe.pt + 1 }) := by unfold firstInQ; rw [hwz]
        have HF := Lib.hid (show R = (some x, { qe with wt := upd qe.wt ql l, pt := qe.pt + 1 }) by
          have e1 : firstInQ qe.last qe = _ := HQL.out ▸ hfi
          rw [HR.out]; unfold nearT; rw [e1] <;> rw [HQL.out])
        rw [hfi] at Q2 T2 ⊢
        simp only [Option.getD_some, Option.isSome_some]
        have HQ2 := Lib.hid Q2
        have HT2 := Lib.hid T2
        clear Q2 T2 S2 hfi hwz c4
        go_wp2
        go_ret2
        first | refine ⟨?_, V2, ?_, ?_, HO2.out⟩ | refine ⟨V2, ?_, ?_, ?_, HO2.out⟩
        · rw [HF.out]; rfl
        · rw [HF.out]; exact HE.out.symm ▸ HQ2.out
        · rw [HF.out]; exact HT2.out
      | nil =>
        have hfi : firstInQ ql qe = (none, qe) := by unfold firstInQ; rw [hwz]
        have HF := Lib.hid (show R = scanQ qe.bg qe by
          have e1 : firstInQ qe.last qe = _ := HQL.out ▸ hfi
          rw [HR.out]; unfold nearT; rw [e1] <;> rw [HQL.out])
        rw [hfi] at Q2 T2 ⊢
        simp only [Option.getD_none, Option.isSome_none]
        have HQ2 := Lib.hid Q2
        have HT2 := Lib.hid T2
        clear Q2 T2 S2 hfi hwz c4
        go_wp2_with fail
        go_loopw [8, 9] (fun _ _ wr => ∃ (V' : Int → Value) (r : List Int), Hid (Qp wr b mb base vn vr lim g.nd.length V' qa.s.met { qe with bg := r }) ∧ Hid (Tq wr tb mp base b blk V' { qe with bg := r }) ∧ Hid (R = scanQ r qe) ∧ Hid (∀ z ∈ r, I64b z) ∧ Hid (Only (geB base) W wr)) (fun _ _ wr => mLen tb 3 wr)
        case atStart => exact ⟨V2, qe.bg, HQ2, HT2, HF, Lib.hid HTE.out.bs, HO2⟩
        case round =>
          obtain ⟨V', r, HQr, HTr, HFr, HBr, HOr⟩ := hrel
          obtain ⟨A3, k3, hv3, hk3, hm3⟩ := (HQr.out.rows.own (-5)).form
          have c3 : wr.cell? ⟨tb, 3, none⟩ = some (V' (-5)) := HTr.out.box.cell 3
          rw [hv3] at c3
          have hr3 : rowsQ ({ qe with bg := r } : QSt) (-5) = r := rfl
          rw [hr3] at c3 hk3 hv3
          have hms := mLen_of c3
          have HMS := Lib.hid hms
          cases r with
          | nil =>
            have HF2 := Lib.hid (show R = (none, { qe with bg := [] }) from HFr.out)
            simp only [List.length_nil] at c3 hk3
            clear hv3 hr3 hm3 hms
            go_wp2
            go_ret2
            first | refine ⟨?_, V', ?_, ?_, HOr.out⟩ | refine ⟨V', ?_, ?_, ?_, HOr.out⟩
            · rw [HF2.out]; rfl
            · rw [HF2.out]; exact HE.out.symm ▸ HQr.out
            · rw [HF2.out]; exact HTr.out
          | cons z r =>
            have hzb := HBr.out z (List.mem_cons_self ..)
            have hpt := HTE.out.pt
            have HLT2 := HLL.out
            have HCZ := Lib.hid (firstIn17 wr b mb tb mp base g.nd.length vn vr lim blk V' qa.s.met { qe with bg := z :: r } z HQr.out HTr.out hzb (by simp only; omega))
            have how := HQr.out.rows.own (-5)
            rw [hv3, hr3] at how
            obtain ⟨g5, o5, cur5, rfl, -, -, hc5⟩ := how.at_ (by simp)
            have hz5 : wr.cell? ⟨g5, o5, none⟩ = some (.int .i64 z) := by simpa using hc5 0 _ rfl
            obtain ⟨n5, hn5⟩ : ∃ m, m = r.length + 1 := ⟨_, rfl⟩
            have HN5 := Lib.hid hn5
            simp only [List.length_cons] at c3 hk3 hv3 HMS
            rw [← hn5] at c3 hk3 hv3 HMS
            have hn5p : 0 < n5 := by omega
            unfold maxLen at hm3
            clear hn5 hms hpt HLT2 hzb hc5 how hr3 hv3
            go_wp2_with fail
            go_at_call 67
            refine HCZ.out.mono ?_
            rintro e w3 ⟨V3, rfl, Q3, T3, S3⟩
            have HO3 := Lib.hid (show Only (geB base) W w3 from HOr.out.trans (S3.only.mono fun k _ hk => by
              rcases hk with rfl | rfl | hk
              · exact HTr.out.nt
              · exact HTr.out.np
              · exact (HQr.out.rows.lt hk).1))
            cases hwz : qe.wt z with
            | cons x l =>
              have hfi : firstInQ z ({ qe with bg := z :: r } : QSt) = (some x, { qe with bg := z :: r, wt := upd qe.wt z l, pt := qe.pt + 1 }) := by unfold firstInQ; simp only [hwz]
              have HF2 := Lib.hid (show R = (some x, { qe with bg := z :: r, wt := upd qe.wt z l, pt := qe.pt + 1 }) by rw [HFr.out, scanQ, hwz])
              rw [hfi] at Q3 T3 ⊢
              simp only [Option.getD_some, Option.isSome_some]
              have HQ3 := Lib.hid Q3
              have HT3 := Lib.hid T3
              clear Q3 T3 S3 hfi hwz c3 hz5
              go_wp2
              go_ret2
              first | refine ⟨?_, V3, ?_, ?_, HO3.out⟩ | refine ⟨V3, ?_, ?_, ?_, HO3.out⟩
              · rw [HF2.out]; rfl
              · rw [HF2.out]; exact HE.out.symm ▸ HQ3.out
              · rw [HF2.out]; exact HT3.out
            | nil =>
              have hfi : firstInQ z ({ qe with bg := z :: r } : QSt) = (none, { qe with bg := z :: r }) := by unfold firstInQ; simp only [hwz]
              have HF2 := Lib.hid (show R = scanQ r qe by rw [HFr.out, scanQ, hwz])
              rw [hfi] at Q3 T3 ⊢
              simp only [Option.getD_none, Option.isSome_none]
              have how := Q3.rows.own (-5)
              obtain ⟨A6, k6, hv6, hk6, hm6⟩ := how.form
              rw [hv6, show rowsQ ({ qe with bg := z :: r } : QSt) (-5) = z :: r from rfl, show i64s (z :: r) = .int .i64 z :: i64s r from rfl, List.length_cons] at how
              obtain ⟨ht1, ht2⟩ := how.tail
              have d3 : w3.cell? ⟨tb, 3, none⟩ = some (.slice A6 n5 k6) := by rw [T3.box.cell, HN5.out]; exact congrArg some hv6
              have f3 := T3.box.free 3
              have hk6' : n5 ≤ k6 := by rw [HN5.out]; exact hk6
              have hcut := run_cut_l (P := Try.prog) Try.underlying28 hj0 A6 n5 k6 1 (by omega)
              rw [hy1] at hcut
              obtain ⟨u, hu⟩ : ∃ u, cutv A6 1 n5 k6 1 = u := ⟨_, rfl⟩
              have hcut : ∀ w, (Instr.sliceAt 28 (.slice A6 n5 k6) (some (.int .i64 1)) none none).run Try.prog w = .ok u w := by rw [← hu]; exact hcut
              rw [← HN5.out, hu] at ht1 ht2
              obtain ⟨Q4, T4, S4⟩ := Tq.begunCut Q3 T3 (l := r) ht1 (fun k e => by rw [hv6]; have := ht2 k e; rw [HN5.out] at this; exact this)
              obtain ⟨A7, k7, hu7, -, -⟩ := ht1.form
              subst hu7
              obtain ⟨W4, hW4⟩ : ∃ X, w3.setCell ⟨tb, 3, none⟩ (.slice A7 r.length k7) = X := ⟨_, rfl⟩
              rw [hW4] at Q4 T4 S4
              have HW4 := Lib.hid hW4
              have HQ4 := Lib.hid Q4
              have HT4 := Lib.hid T4
              have HO4 := Lib.hid (show Only (geB base) W W4 from HO3.out.trans (S4.only.mono fun k _ hk => by
                rcases hk with rfl | rfl | hk
                · exact T3.nt
                · exact T3.np
                · exact (Q3.rows.lt hk).1))
              have HM4 := Lib.hid (show mLen tb 3 W4 < mLen tb 3 wr by
                rw [HMS.out, HN5.out]
                have e4 := T4.box.cell 3
                have e5 : W4.cell? ⟨tb, 3, none⟩ = some (.slice A7 r.length k7) := by
                  rw [e4]
                  show some (upd V3 (-5) (.slice A7 r.length k7) (-5)) = _
                  rw [upd_same]
                rw [mLen_of e5]
                omega)
              have HB4 := Lib.hid (show ∀ y ∈ r, I64b y from fun y hy => HBr.out y (List.mem_cons_of_mem _ hy))
              unfold maxLen at hm6
              clear Q3 T3 S3 hfi hwz c3 hz5 how hk6 ht1 ht2 hu Q4 T4 S4 hW4 hv6
              go_wp2
              with_reducible rw [HW4.out]
              go_roundw
              case rel => exact ⟨_, r, HQ4, HT4, HF2, HB4, HO4⟩
              case measure => exact HM4.out
end Go.Proofs.Ytmnehonmbjnnaaa
