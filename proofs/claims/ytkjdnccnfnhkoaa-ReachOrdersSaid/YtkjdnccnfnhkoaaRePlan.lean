/- Package reach's plan in memory: its box, its flags, its rows; the last one taken off a row. -/
import Derived.Test.YtkjdnccnfnhkoaaReMath
import Derived.Test.YtkjdnccnfnhkoaaReRows
import Derived.Test.YtkjdnccnfnhkoaaGrBase
import Derived.Test.YtkjdnccnfnhkoaaGrProgA
import Derived.BigQuiet
import Derived.IntWalk
import Derived.Deep.RegionHeld3
namespace Go.Proofs.Ytkjdnccnfnhkoaa
open Go.RowKit Go.Lib
set_option maxRecDepth 100000
set_option linter.unusedSimpArgs false
set_option linter.unusedVariables false

/-- A plan of the program's: what was met, as the document has it; the references ahead, the next one first; how many were looked at; what waits, by blocks. -/
structure QSt where
  s : PSt
  ah : List Int
  k : Nat
  wt : Int → List Int
  bg : List Int
  last : Int
  tp : Int
  pt : Nat
/-- References are followed up to one that meets a small node. -/
def freshQ (g : Gr) (lim : Int) : List Int → PSt → Option Int × List Int × PSt
  | [], s => (none, [], s)
  | x :: ah, s => if meetB g lim (2, x) s = true then (some x, ah, meetS g lim (2, x) s) else freshQ g lim ah (meetS g lim (2, x) s)
def QSt.put (q : QSt) (r : Option Int × List Int × PSt) : QSt := { q with ah := r.2.1, s := r.2.2 }
def rowsQ (q : QSt) : Int → List Int := fun i => if i = -1 then q.s.small else if i = -2 then q.s.large else if i = -3 then q.s.pile else if i = -4 then q.ah.reverse else if i = -5 then q.bg else q.wt i
theorem rows_sm (q : QSt) (l : List Int) (bs : List Int) (lk : List Bool) (tp : Int) : rowsQ { q with s := { q.s with small := l, begins := bs, looked := lk, top := tp } } = upd (rowsQ q) (-1) l := by
  funext i; unfold rowsQ upd; by_cases h : i = -1 <;> simp [h]
theorem rows_lg (q : QSt) (l : List Int) : rowsQ { q with s := { q.s with large := l } } = upd (rowsQ q) (-2) l := by
  funext i; unfold rowsQ upd; by_cases h : i = -2 <;> simp [h]
theorem rows_pl (q : QSt) (l : List Int) : rowsQ { q with s := { q.s with pile := l } } = upd (rowsQ q) (-3) l := by
  funext i; unfold rowsQ upd; by_cases h : i = -3 <;> simp [h]
theorem rows_ah (q : QSt) (l : List Int) : rowsQ { q with ah := l } = upd (rowsQ q) (-4) l.reverse := by
  funext i; unfold rowsQ upd; by_cases h : i = -4 <;> simp [h]
/-- Flags of what was met. -/
def flQ (n : Nat) (l : List Int) : Array Value := ((List.range n).map fun j : Nat => Value.bool (decide ((j : Int) ∈ l))).toArray
theorem flQ_size (n : Nat) (l : List Int) : (flQ n l).size = n := by simp [flQ]
theorem flQ_at {n : Nat} {l : List Int} {k : Nat} (h : k < n) : (flQ n l)[k]? = some (.bool (decide ((k : Int) ∈ l))) := by simp [flQ, h]
theorem flQ_put {n : Nat} {l m : List Int} {k : Nat} (hm : ∀ x, x ∈ m ↔ x ∈ l ∨ x = (k : Int)) : (flQ n l).setIfInBounds k (.bool true) = flQ n m := by
  apply Array.ext'
  simp only [flQ, Array.toList_setIfInBounds]
  apply List.ext_getElem?
  intro j
  rw [List.getElem?_set]
  by_cases e : k = j
  · subst e
    by_cases hj : k < n
    · simp [hj, (hm k).2 (.inr rfl)]
    · simp [hj]
  · rw [if_neg e]
    by_cases hj : j < n
    · have : ((j : Int) ∈ m) ↔ ((j : Int) ∈ l) := (hm j).trans ⟨fun h => h.resolve_right fun e2 => e (by omega), .inl⟩
      simp [hj, this]
    · simp [hj]
theorem flQ_like {n : Nat} {l m : List Int} (hm : ∀ x, x ∈ m ↔ x ∈ l) : flQ n l = flQ n m := by
  unfold flQ
  congr 1
  refine List.map_congr_left fun j _ => ?_
  congr 1
  exact decide_eq_decide.2 (hm j).symm

/-- A plan in memory; its flags tell M. -/
structure Qp (W : World) (b mb base : Nat) (vn vr : Value) (lim : Int) (n : Nat) (V : Int → Value) (M : List Int) (q : QSt) : Prop where
  box : Blk W b 51 #[vn, vr, .int .i64 lim, .slice (some ⟨mb, 0, none⟩) n n, V (-1), V (-2), .int .i64 (q.k : Int), V (-3), V (-4)]
  fl : Blk W mb 4 (flQ n M)
  rows : Rws W base 3 V (rowsQ q)
  nb : base ≤ b
  nm : base ≤ mb
/-- The blocks that a plan may turn. -/
def Qf (b mb : Nat) (V : Int → Value) (k : Nat) : Prop := k = b ∨ k = mb ∨ blks V k
/-- A plan has gone on: its own blocks have turned alone; what waits by blocks lies where it lay. -/
structure Stp (b mb : Nat) (V V' : Int → Value) (W w' : World) : Prop where
  only : Only (Qf b mb V) W w'
  grow : ∀ k, blks V' k → k < W.heap.size → Qf b mb V k
  same : ∀ i, i = -5 ∨ 0 ≤ i → V' i = V i
section
variable {W w' w'' : World} {b mb base : Nat} {vn vr : Value} {lim : Int} {n : Nat} {V V' V'' : Int → Value} {M M' : List Int} {q : QSt} {F : Nat → Prop}
theorem Stp.refl (b mb : Nat) (V : Int → Value) (W : World) : Stp b mb V V W W := ⟨Only.refl _ _, fun k h _ => .inr (.inr h), fun _ _ => rfl⟩
theorem Stp.kept (b mb : Nat) (V : Int → Value) (o : Only nob W w') : Stp b mb V V W w' := ⟨o.mono fun _ _ h => h.elim, fun k h _ => .inr (.inr h), fun _ _ => rfl⟩
theorem Stp.trans (h : Stp b mb V V' W w') (k : Stp b mb V' V'' w' w'') : Stp b mb V V'' W w'' := by
  have hq : ∀ i, i < W.heap.size → Qf b mb V' i → Qf b mb V i := fun i hi e => by
    rcases e with e | e | e
    · exact .inl e
    · exact .inr (.inl e)
    · exact h.grow i e hi
  exact ⟨h.only.andThen k.only hq, fun i hi hlt => hq i hlt (k.grow i hi (Nat.lt_of_lt_of_le hlt h.only.size)), fun i hi => (k.same i hi).trans (h.same i hi)⟩
theorem Stp.more (h : Stp b mb V V' W w') (o : Only nob w' w'') : Stp b mb V V' W w'' := h.trans (Stp.kept b mb V' o)
theorem Qp.ge (h : Qp W b mb base vn vr lim n V M q) {k : Nat} (hk : Qf b mb V k) : base ≤ k := by
  rcases hk with rfl | rfl | hk
  · exact h.nb
  · exact h.nm
  · exact (h.rows.lt hk).1
theorem Qp.below (h : Qp W b mb base vn vr lim n V M q) (s : Stp b mb V V' W w') (hb : base ≤ W.heap.size) : Below base W w' := s.only.below hb fun _ hk => h.ge hk
theorem Qp.kept (h : Qp W b mb base vn vr lim n V M q) (o : Only nob W w') : Qp w' b mb base vn vr lim n V M q := ⟨h.box.keep o id, h.fl.keep o id, h.rows.kept o, h.nb, h.nm⟩
theorem Qp.off (h : Qp W b mb base vn vr lim n V M q) (o : Only F W w') (hF : ∀ k, Qf b mb V k → ¬ F k) : Qp w' b mb base vn vr lim n V M q :=
  ⟨h.box.keep o (hF b (.inl rfl)), h.fl.keep o (hF mb (.inr (.inl rfl))), h.rows.only o fun k hk => hF k (.inr (.inr hk)), h.nb, h.nm⟩
theorem Qp.bm (h : Qp W b mb base vn vr lim n V M q) : b ≠ mb := h.box.ne h.fl (by decide)
theorem Qp.bn (h : Qp W b mb base vn vr lim n V M q) : ¬ blks V b := h.rows.ne h.box (by decide)
theorem Qp.mn (h : Qp W b mb base vn vr lim n V M q) : ¬ blks V mb := h.rows.ne h.fl (by decide)
theorem Qp.tells (h : Qp W b mb base vn vr lim n V M q) (hm : ∀ x, x ∈ M' ↔ x ∈ M) : Qp W b mb base vn vr lim n V M' q := ⟨h.box, by rw [← flQ_like hm]; exact h.fl, h.rows, h.nb, h.nm⟩
theorem Qp.says (h : Qp W b mb base vn vr lim n V M q) {q' : QSt} (hq : rowsQ q' = rowsQ q) (hk : q'.k = q.k) : Qp W b mb base vn vr lim n V M q' := ⟨by rw [hk]; exact h.box, h.fl, by rw [hq]; exact h.rows, h.nb, h.nm⟩
end

/-- The cell of the plan's box where a row lies. -/
def atQ (i : Int) (j : Nat) : Prop := i = -1 ∧ j = 4 ∨ i = -2 ∧ j = 5 ∨ i = -3 ∧ j = 7 ∨ i = -4 ∧ j = 8
theorem at_sm : atQ (-1) 4 := .inl ⟨rfl, rfl⟩
theorem at_lg : atQ (-2) 5 := .inr (.inl ⟨rfl, rfl⟩)
theorem at_pl : atQ (-3) 7 := .inr (.inr (.inl ⟨rfl, rfl⟩))
theorem at_ah : atQ (-4) 8 := .inr (.inr (.inr ⟨rfl, rfl⟩))
section
variable {W w1 w' : World} {b mb base : Nat} {vn vr : Value} {lim : Int} {n j : Nat} {V V' : Int → Value} {M : List Int} {q q' : QSt} {i : Int}
theorem Qp.cell (h : Qp W b mb base vn vr lim n V M q) (hi : atQ i j) : W.cell? ⟨b, j, none⟩ = some (V i) := by
  rcases hi with ⟨rfl, rfl⟩ | ⟨rfl, rfl⟩ | ⟨rfl, rfl⟩ | ⟨rfl, rfl⟩ <;> exact h.box.cell _
/-- A row of the plan has turned: its box lies as it lay. -/
theorem Qp.mid (h : Qp W b mb base vn vr lim n V M q) (oa : Only nob W w1) (o : Only (fun k => (V i).ownBlock = some k) w1 w') :
    Blk w' b 51 #[vn, vr, .int .i64 lim, .slice (some ⟨mb, 0, none⟩) n n, V (-1), V (-2), .int .i64 (q.k : Int), V (-3), V (-4)] :=
  (h.box.keep oa id).keep o fun e => h.bn ⟨i, e⟩
/-- .. and is put into the box. -/
theorem Qp.turn (h : Qp W b mb base vn vr lim n V M q) (hi : atQ i j) {v' : Value} {l : List Int} (oa : Only nob W w1) (o : Only (fun k => (V i).ownBlock = some k) w1 w') (H : OwR w' base 3 v' l.length (i64s l)) (hv : v'.ownBlock = (V i).ownBlock ∨ v'.ownBlock = some w1.heap.size)
    (hq : rowsQ q' = upd (rowsQ q) i l) (hk : q'.k = q.k) :
    Qp (w'.setCell ⟨b, j, none⟩ v') b mb base vn vr lim n (upd V i v') M q' ∧ Stp b mb V (upd V i v') W (w'.setCell ⟨b, j, none⟩ v') := by
  have h1 := h.kept oa
  have hF : ∀ k, (V i).ownBlock = some k → blks V k := fun k e => ⟨i, e⟩
  have hb2 := h1.box.keep o fun e => h1.bn (hF b e)
  have hf2 := h1.fl.keep o fun e => h1.mn (hF mb e)
  have hr2 := h1.rows.turn i o H hv
  refine ⟨⟨?_, hf2.other (fun e => h.bm e) v', ?_, h.nb, h.nm⟩, ⟨?_, ?_, ?_⟩⟩
  · have := hb2.put j v'
    rw [hk]
    rcases hi with ⟨rfl, rfl⟩ | ⟨rfl, rfl⟩ | ⟨rfl, rfl⟩ | ⟨rfl, rfl⟩ <;> simpa [upd] using this
  · rw [hq]
    exact hr2.set hb2 (by decide)
  · exact ((oa.mono fun _ _ h => h.elim).andThen (o.mono fun k _ e => (.inr (.inr (hF k e)) : Qf b mb V k)) fun _ _ h => h).andThen (only_set w' b j v') fun k _ e => .inl e
  · rintro k ⟨a, e⟩ hlt
    by_cases hj : a = i
    · subst hj
      rw [upd_same] at e
      rcases hv with hv | hv
      · exact .inr (.inr (hF k (hv ▸ e)))
      · rw [hv] at e
        have := Option.some.inj e
        have := oa.size
        omega
    · rw [upd_other hj] at e
      exact .inr (.inr ⟨a, e⟩)
  · intro a ha
    exact upd_other (by rintro rfl; rcases hi with ⟨rfl, rfl⟩ | ⟨rfl, rfl⟩ | ⟨rfl, rfl⟩ | ⟨rfl, rfl⟩ <;> omega)
/-- A row of the plan is cut. -/
theorem Qp.cut (h : Qp W b mb base vn vr lim n V M q) (hi : atQ i j) {v' : Value} {l : List Int} (H : OwR W base 3 v' l.length (i64s l)) (hv : ∀ k, v'.ownBlock = some k → (V i).ownBlock = some k)
    (hq : rowsQ q' = upd (rowsQ q) i l) (hk : q'.k = q.k) :
    Qp (W.setCell ⟨b, j, none⟩ v') b mb base vn vr lim n (upd V i v') M q' ∧ Stp b mb V (upd V i v') W (W.setCell ⟨b, j, none⟩ v') := by
  have hr2 := h.rows.cut i H hv
  refine ⟨⟨?_, h.fl.other (fun e => h.bm e) v', ?_, h.nb, h.nm⟩, ⟨(only_set W b j v').mono fun k _ e => .inl e, ?_, ?_⟩⟩
  · have := h.box.put j v'
    rw [hk]
    rcases hi with ⟨rfl, rfl⟩ | ⟨rfl, rfl⟩ | ⟨rfl, rfl⟩ | ⟨rfl, rfl⟩ <;> simpa [upd] using this
  · rw [hq]
    exact hr2.set h.box (by decide)
  · rintro k ⟨a, e⟩ hlt
    by_cases hj : a = i
    · subst hj
      rw [upd_same] at e
      exact .inr (.inr ⟨a, hv k e⟩)
    · rw [upd_other hj] at e
      exact .inr (.inr ⟨a, e⟩)
  · intro a ha
    exact upd_other (by rintro rfl; rcases hi with ⟨rfl, rfl⟩ | ⟨rfl, rfl⟩ | ⟨rfl, rfl⟩ | ⟨rfl, rfl⟩ <;> omega)
/-- A flag is set. -/
theorem Qp.flag (h : Qp W b mb base vn vr lim n V M q) (x : Nat) :
    Qp (W.setCell ⟨mb, x, none⟩ (.bool true)) b mb base vn vr lim n V ((x : Int) :: M) q ∧ Stp b mb V V W (W.setCell ⟨mb, x, none⟩ (.bool true)) :=
  ⟨⟨h.box.other (fun e => h.bm e.symm) _, by rw [← flQ_put (l := M) (k := x) fun y => by simp [or_comm]]; exact h.fl.put x _, h.rows.set h.fl (by decide), h.nb, h.nm⟩, ⟨(only_set W mb x _).mono fun k _ e => .inr (.inl e), fun k hk _ => .inr (.inr hk), fun _ _ => rfl⟩⟩
end
theorem sl_ints17 : Try.prog.underlying 28 = some (.slice 3) := Try.underlying28
set_option maxHeartbeats 1000000 in
/-- The last one is taken off a row that lies in a box. -/
theorem takeLast17 (W : World) (b j : Nat) (t : TypeId) (cs : Array Value) (g o n c : Nat) (x : Int) (hb : Blk W b t cs) (hj : cs[j]? = some (.slice (some ⟨g, o, none⟩) (n + 1) c)) (hc : n + 1 ≤ c) (hm : c ≤ maxLen) (hx : W.cell? ⟨g, o + n, none⟩ = some (.int .i64 x)) :
    Calls Try.prog 39 #[.pointer (some ⟨b, j, none⟩)] W fun e w' => e = .returned (.int .i64 x) ∧ w' = W.setCell ⟨b, j, none⟩ (cutv (some ⟨g, o, none⟩) 0 n c 1) := by
  obtain ⟨j0, hj0, hy0, hy1, hy2⟩ := info_parts info_int
  have hcut := run_cut_h (P := Try.prog) Try.underlying28 hj0 (some ⟨g, o, none⟩) (n + 1) c n (by omega)
  rw [hy1] at hcut
  obtain ⟨u, hu⟩ : ∃ u, cutv (some ⟨g, o, none⟩) 0 n c 1 = u := ⟨_, rfl⟩
  have hform : u = .slice (some ⟨g, o, none⟩) n c := by
    rw [← hu]
    unfold cutv
    by_cases h0 : c = 0
    · omega
    · simp [h0, Addr.add]
  rw [hu] at hcut ⊢
  subst hform
  clear hu
  obtain ⟨m, hmn⟩ : ∃ m, m = n + 1 := ⟨_, rfl⟩
  have HMN := Lib.hid hmn
  have hws : IntKind.i64.wrap ((m : Int) - 1) = (n : Int) := by
    unfold maxLen at hm
    rw [IntWalk.i64_in _ (by omega)]; omega
  rw [← hmn] at hj hcut hc
  have hlt : n < m := by omega
  have c0 : W.cell? ⟨b, j, none⟩ = some (.slice (some ⟨g, o, none⟩) m c) := by rw [hb.cell]; exact hj
  have f0 := hb.free j
  unfold maxLen at hm
  clear hmn hj hb hy2
  go_enter Try.func39, Try.ntmps39
  go_wp2
  go_ret
  exact ⟨rfl, rfl⟩
end Go.Proofs.Ytkjdnccnfnhkoaa
