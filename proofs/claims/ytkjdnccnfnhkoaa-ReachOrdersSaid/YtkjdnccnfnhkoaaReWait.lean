/- Package reach's tiers: a node waits. (Printed by wip/tools/gen17wait.py.) -/
import Derived.Test.YtkjdnccnfnhkoaaReTier
namespace Go.Proofs.Ytkjdnccnfnhkoaa
open Go.RowKit Go.Maps Go.ChangeMaps Go.Lib
set_option maxRecDepth 100000
set_option linter.unusedSimpArgs false
set_option linter.unusedVariables false

section
variable {W w1 w' w2 : World} {b mb tb mp base : Nat} {vn vr : Value} {lim blk : Int} {n : Nat} {V : Int → Value} {M : List Int} {q : QSt}
theorem Tq.last (p : Qp W b mb base vn vr lim n V M q) (h : Tq W tb mp base b blk V q) (z : Int) :
    Qp (W.setCell ⟨tb, 4, none⟩ (.int .i64 z)) b mb base vn vr lim n V M { q with last := z } ∧ Tq (W.setCell ⟨tb, 4, none⟩ (.int .i64 z)) tb mp base b blk V { q with last := z } ∧ Stt tb mp V V W (W.setCell ⟨tb, 4, none⟩ (.int .i64 z)) := by
  have o := only_set W tb 4 (.int .i64 z)
  refine ⟨p.tier h o (fun k e => .inl e) ((p.rows.set h.box (by decide)).like rfl (by funext i; rfl)) (fun _ _ _ => rfl) rfl, ⟨by simpa using h.box.put 4 (.int .i64 z), h.map.keep o fun e => h.nm e.symm, h.nt, h.np⟩, ⟨o.mono fun k _ e => .inl e, fun k hk _ => .inr (.inr hk), fun _ _ _ => rfl⟩⟩
theorem Tq.top (p : Qp W b mb base vn vr lim n V M q) (h : Tq W tb mp base b blk V q) (z : Int) :
    Qp (W.setCell ⟨tb, 5, none⟩ (.int .i64 z)) b mb base vn vr lim n V M { q with tp := z } ∧ Tq (W.setCell ⟨tb, 5, none⟩ (.int .i64 z)) tb mp base b blk V { q with tp := z } ∧ Stt tb mp V V W (W.setCell ⟨tb, 5, none⟩ (.int .i64 z)) := by
  have o := only_set W tb 5 (.int .i64 z)
  refine ⟨p.tier h o (fun k e => .inl e) ((p.rows.set h.box (by decide)).like rfl (by funext i; rfl)) (fun _ _ _ => rfl) rfl, ⟨by simpa using h.box.put 5 (.int .i64 z), h.map.keep o fun e => h.nm e.symm, h.nt, h.np⟩, ⟨o.mono fun k _ e => .inl e, fun k hk _ => .inr (.inr hk), fun _ _ _ => rfl⟩⟩
theorem Tq.mid (p : Qp W b mb base vn vr lim n V M q) (h : Tq W tb mp base b blk V q) {i : Int} (oa : Only nob W w1) (o : Only (fun k => (V i).ownBlock = some k) w1 w') : Tq w' tb mp base b blk V q :=
  (h.kept oa).off o (fun e => p.rows.ne h.box (by decide) ⟨i, e⟩) (fun e => h.map.ne_rows p.rows ⟨i, e⟩)
/-- The row of blocks has turned, and is put into the box. -/
theorem Tq.begun (p : Qp W b mb base vn vr lim n V M q) (h : Tq W tb mp base b blk V q) {v' : Value} {l : List Int} (oa : Only nob W w1) (o : Only (fun k => (V (-5)).ownBlock = some k) w1 w') (H : OwR w' base 3 v' l.length (i64s l)) (hv : v'.ownBlock = (V (-5)).ownBlock ∨ v'.ownBlock = some w1.heap.size) :
    Qp (w'.setCell ⟨tb, 3, none⟩ v') b mb base vn vr lim n (upd V (-5) v') M { q with bg := l } ∧ Tq (w'.setCell ⟨tb, 3, none⟩ v') tb mp base b blk (upd V (-5) v') { q with bg := l } ∧ Stt tb mp V (upd V (-5) v') W (w'.setCell ⟨tb, 3, none⟩ v') := by
  have hF : ∀ k, (V (-5)).ownBlock = some k → blks V k := fun k e => ⟨_, e⟩
  have t1 := Tq.mid p h oa o
  have hr := ((p.rows.kept oa).turn (-5) o H hv).set (j := 3) (u := v') t1.box (by decide)
  have oo : Only (Tf tb mp V) W (w'.setCell ⟨tb, 3, none⟩ v') := ((oa.mono fun _ _ h => h.elim).andThen (o.mono fun k _ e => (.inr (.inr (hF k e)) : Tf tb mp V k)) fun _ _ h => h).andThen (only_set w' tb 3 v') fun k _ e => .inl e
  refine ⟨p.tier h oo (fun _ e => e) (hr.like rfl (rows_bg rfl rfl rfl rfl)) (fun i _ h5 => upd_other h5) rfl, ⟨?_, ?_, h.nt, h.np⟩, ⟨oo, ?_, fun i _ h5 => upd_other h5⟩⟩
  · have := t1.box.put 3 v'
    rw [upd_same]
    simpa using this
  · exact (t1.map.keep (only_set w' tb 3 v') fun e => t1.nm e.symm).like fun z hz => upd_other (by omega)
  · rintro k ⟨i, hi⟩ hlt
    by_cases hj : i = -5
    · subst hj
      rw [upd_same] at hi
      rcases hv with hv | hv
      · exact .inr (.inr (hF k (hv ▸ hi)))
      · rw [hv] at hi
        have := Option.some.inj hi
        have := oa.size
        omega
    · rw [upd_other hj] at hi
      exact .inr (.inr ⟨i, hi⟩)
/-- The row of blocks is cut. -/
theorem Tq.begunCut (p : Qp W b mb base vn vr lim n V M q) (h : Tq W tb mp base b blk V q) {v' : Value} {l : List Int} (H : OwR W base 3 v' l.length (i64s l)) (hv : ∀ k, v'.ownBlock = some k → (V (-5)).ownBlock = some k) :
    Qp (W.setCell ⟨tb, 3, none⟩ v') b mb base vn vr lim n (upd V (-5) v') M { q with bg := l } ∧ Tq (W.setCell ⟨tb, 3, none⟩ v') tb mp base b blk (upd V (-5) v') { q with bg := l } ∧ Stt tb mp V (upd V (-5) v') W (W.setCell ⟨tb, 3, none⟩ v') := by
  have hr := (p.rows.cut (-5) H hv).set (j := 3) (u := v') h.box (by decide)
  have oo := only_set W tb 3 v'
  refine ⟨p.tier h oo (fun _ e => .inl e) (hr.like rfl (rows_bg rfl rfl rfl rfl)) (fun i _ h5 => upd_other h5) rfl, ⟨?_, ?_, h.nt, h.np⟩, ⟨oo.mono fun k _ e => .inl e, ?_, fun i _ h5 => upd_other h5⟩⟩
  · have := h.box.put 3 v'
    rw [upd_same]
    simpa using this
  · exact (h.map.keep oo fun e => h.nm e.symm).like fun z hz => upd_other (by omega)
  · rintro k ⟨i, hi⟩ hlt
    by_cases hj : i = -5
    · subst hj
      rw [upd_same] at hi
      exact .inr (.inr ⟨_, hv k hi⟩)
    · rw [upd_other hj] at hi
      exact .inr (.inr ⟨i, hi⟩)
/-- What waits in a block has turned, and is put into the map. -/
theorem Tq.row (p : Qp W b mb base vn vr lim n V M q) (h : Tq W tb mp base b blk V q) {z : Int} (hz : 0 ≤ z) {v' : Value} {l : List Int} (oa : Only nob W w1) (o : Only (fun k => (V z).ownBlock = some k) w1 w') (H : OwR w' base 3 v' l.length (i64s l)) (hv : v'.ownBlock = (V z).ownBlock ∨ v'.ownBlock = some w1.heap.size)
    (o2 : Only (isb mp) w' w2) (hm : VMap w2 mp (q.pt + 1) (upd V z v')) :
    Qp w2 b mb base vn vr lim n (upd V z v') M { q with wt := upd q.wt z l, pt := q.pt + 1 } ∧ Tq w2 tb mp base b blk (upd V z v') { q with wt := upd q.wt z l, pt := q.pt + 1 } ∧ Stt tb mp V (upd V z v') W w2 := by
  have hF : ∀ k, (V z).ownBlock = some k → blks V k := fun k e => ⟨_, e⟩
  have t1 := Tq.mid p h oa o
  have hr1 := (p.rows.kept oa).turn z o H hv
  have hr := hr1.only o2 fun k hk e => by
    unfold isb at e
    subst e
    exact t1.map.ne_rows hr1 hk
  have oo : Only (Tf tb mp V) W w2 := ((oa.mono fun _ _ h => h.elim).andThen (o.mono fun k _ e => (.inr (.inr (hF k e)) : Tf tb mp V k)) fun _ _ h => h).andThen o2 fun k _ e => .inr (.inl e)
  refine ⟨p.tier h oo (fun _ e => e) (hr.like rfl (rows_wt hz rfl rfl rfl rfl)) (fun i hi _ => upd_other (by omega)) rfl, ⟨?_, hm, h.nt, h.np⟩, ⟨oo, ?_, fun i hi _ => upd_other (by omega)⟩⟩
  · rw [upd_other (by omega)]
    exact t1.box.keep o2 t1.nm
  · rintro k ⟨i, hi⟩ hlt
    by_cases hj : i = z
    · subst hj
      rw [upd_same] at hi
      rcases hv with hv | hv
      · exact .inr (.inr (hF k (hv ▸ hi)))
      · rw [hv] at hi
        have := Option.some.inj hi
        have := oa.size
        omega
    · rw [upd_other hj] at hi
      exact .inr (.inr ⟨i, hi⟩)
theorem Qp.below2 (p : Qp W b mb base vn vr lim n V M q) (h : Tq W tb mp base b blk V q) {V' : Int → Value} (s : Stt tb mp V V' W w') (hb : base ≤ W.heap.size) : Below base W w' := s.only.below hb fun k hk => by
  rcases hk with rfl | rfl | hk
  · exact h.nt
  · exact h.np
  · exact (p.rows.lt hk).1
end
theorem wrapP17 (z : Int) : IntKind.i64.wrap z = wrap64 z := by rw [IntKind.wrap_i64]; unfold wrap64; omega
theorem quoP17 (x y : Int) (h : -9223372036854775808 ≤ x ∧ x ≤ 9223372036854775807 ∧ 1 ≤ y) : IntKind.i64.wrap (x.tdiv y) = x.tdiv y := by
  first | exact Go.i64_quo' x y h | exact Go.IntWalk.i64_quo' x y h | exact Go.Lib.i64_quo' x y h
set_option maxHeartbeats 16000000 in
theorem wait17 (W : World) (b mb tb mp base B : Nat) (g : Gr) (vn vr : Value) (hs : List (Value × Value)) (lim blk : Int) (V : Int → Value) (M : List Int) (q : QSt) (x : Int) (h : Qp W b mb base vn vr lim g.nd.length V M q) (t : Tq W tb mp base b blk V q) (hr : RdG W B g vn vr hs) (hB : B ≤ base) (hbase : base ≤ W.heap.size)
    (hx : 0 ≤ x ∧ x < (g.nd.length : Int)) (hblk : 1 ≤ blk ∧ blk ≤ 9223372036854775807) (htp : 0 ≤ q.tp ∧ q.tp ≤ 9223372036854775807) (hpt : q.pt ≤ 4000000000000) (hbg : q.bg.length ≤ 16000000000) (hwt : (q.wt (blkOf blk q)).length ≤ 16000000000) :
    Calls Try.prog 41 #[.pointer (some ⟨tb, 0, none⟩), .int .i64 x] W fun e w' => ∃ V', e = .returned (.tuple #[]) ∧
      Qp w' b mb base vn vr lim g.nd.length V' M (waitQ g blk q x) ∧ Tq w' tb mp base b blk V' (waitQ g blk q x) ∧ Stt tb mp V V' W w' := by
  obtain ⟨j0, hj0, hy0, hy1, hy2⟩ := info_parts info_int
  obtain ⟨x, rfl⟩ : ∃ y : Nat, x = y := ⟨x.toNat, by omega⟩
  obtain ⟨An, cn, rfl, hacn, hcmn⟩ := hr.nodes.form
  have hlt : x < g.nd.length := by omega
  obtain ⟨d, hd⟩ : ∃ d, g.nd[x]? = some d := ⟨_, List.getElem?_eq_getElem hlt⟩
  obtain ⟨bb, oo, fv, rv, hA, hbb, hh', g0, g1, g2, hnd⟩ := hr.at_ (Below.refl _ _) hd
  obtain ⟨Af, cf, hfv, hafc, hcfm⟩ := hnd.fields.form
  obtain ⟨Arw, crw, hrv, harw, hcrw⟩ := hnd.raws.form
  simp only at hfv hrv
  subst hfv hrv
  obtain rfl : An = some ⟨bb, oo, none⟩ := hA
  have HZ := Lib.hid (show ndSz (ndAt g (x : Int)) = ndSz d by rw [show ndAt g (x : Int) = d by unfold ndAt; rw [Int.toNat_natCast, List.getD_eq_getElem?_getD, hd]; rfl])
  have HND := Lib.hid hnd
  have HG0 := Lib.hid g0
  have HG1 := Lib.hid g1
  have HG2 := Lib.hid g2
  have hbbB := Lib.hid hbb
  obtain ⟨N, hN⟩ : ∃ N, N = g.nd.length := ⟨_, rfl⟩
  have HNN := Lib.hid hN
  rw [← hN] at h hacn hlt ⊢
  have HQ := Lib.hid h
  have HT := Lib.hid t
  have HBB := Lib.hid (And.intro hB hbase)
  obtain ⟨z, hz⟩ : ∃ z, z = blkOf blk q := ⟨_, rfl⟩
  have HZZ := Lib.hid hz
  have hzb : I64b z := by
    rw [hz]
    unfold blkOf I64b
    rw [Int.tdiv_eq_ediv_of_nonneg htp.1]
    exact ⟨Int.ediv_nonneg htp.1 (by omega), Int.le_trans (Int.ediv_le_self _ htp.1) htp.2⟩
  obtain ⟨tp, htq⟩ : ∃ tp, tp = q.tp := ⟨_, rfl⟩
  have HTP := Lib.hid htq
  have hq0 : ¬ blk = 0 := by omega
  have hqw : IntKind.i64.wrap (tp.tdiv blk) = z := by rw [htq, quoP17 _ _ (by omega), hz]; rfl
  obtain ⟨sz, hsz⟩ : ∃ s, s = ndSz d := ⟨_, rfl⟩
  rw [← hsz] at HZ
  obtain ⟨kd, hkd⟩ : ∃ k, k = d.kd := ⟨_, rfl⟩
  have HSZ := Lib.hid (fun (W' : World) (o : Below B W W') => size_any16 d _ _ W' (hnd.below o))
  rw [← hsz, ← hkd] at HSZ
  rw [← hkd] at HG0
  have c5 : W.cell? ⟨tb, 5, none⟩ = some (.int .i64 tp) := by rw [htq]; exact t.box.cell 5
  have c1 : W.cell? ⟨tb, 1, none⟩ = some (.int .i64 blk) := t.box.cell 1
  have HPT := Lib.hid hpt
  have HBG := Lib.hid hbg
  have HWT := Lib.hid hwt
  unfold maxLen at hcmn
  have HZB := Lib.hid hzb
  clear hd hh' hnd g0 g1 g2 hbb h t hr hB hbase hz htq hsz hkd hbg hwt htp hpt hafc hcfm harw hcrw hx hN hzb
  go_enter Try.func41, Try.ntmps41
  go_upto_region 0 with fail
  refine region_heldX (stop := 12) (S := fun w' : World => w'.cell? ⟨tb, 5, none⟩ = some (.int .i64 tp) ∧ w'.cell? ⟨tb, 1, none⟩ = some (.int .i64 blk)) (by kernel_rfl) ⟨c5, c1⟩ (fun hHeld => ?_)
  clear c5 c1
  obtain ⟨WA, hWA, oA⟩ : ∃ X, W.drew = X ∧ Only nob W X := ⟨_, rfl, (Only.refl nob W).drewN 1⟩
  rw [hWA] at hHeld ⊢
  have HQA := Lib.hid (HQ.out.kept oA)
  have HTA := Lib.hid (HT.out.kept oA)
  have HSA := Lib.hid (Stt.kept tb mp V oA)
  clear hWA oA
  obtain ⟨Q1, T1, S1⟩ := Tq.last HQA.out HTA.out z
  obtain ⟨W1, hW1⟩ : ∃ X, WA.setCell ⟨tb, 4, none⟩ (.int .i64 z) = X := ⟨_, rfl⟩
  rw [hW1] at Q1 T1 S1
  have HW1 := Lib.hid hW1
  have HQ1 := Lib.hid Q1
  have HT1 := Lib.hid T1
  have HS1 := Lib.hid (HSA.out.trans S1)
  have c4 := HTA.out.box.cell 4
  have f4 := HTA.out.box.free 4
  clear hW1 Q1 T1 S1
  refine anyX_take (i := 0) (v := ?_) rfl (by kernel_rfl) (by kernel_rfl) (by kernel_rfl) (by kernel_rfl) (fun _ _ _ h => h) (Or.inl ⟨by rfl, ?_⟩) hHeld ?_
  rotate_left
  · intro w hSw; (try dsimp only at hSw); go_simp; first | done | with_reducible rfl
  try simp only [Act.put, List.setIfInBounds_toArray, List.set_cons_zero, List.set_cons_succ, List.getElem_toArray, List.getElem_cons_succ, List.getElem_cons_zero]
  refine anyX_take (i := 1) (v := ?_) rfl (by kernel_rfl) (by kernel_rfl) (by kernel_rfl) (by kernel_rfl) (fun _ _ _ h => h) (Or.inl ⟨by rfl, ?_⟩) hHeld ?_
  rotate_left
  · intro w hSw; (try dsimp only at hSw); go_simp; first | done | with_reducible rfl
  try simp only [Act.put, List.setIfInBounds_toArray, List.set_cons_zero, List.set_cons_succ, List.getElem_toArray, List.getElem_cons_succ, List.getElem_cons_zero]
  refine anyX_take (i := 2) (v := ?_) rfl (by kernel_rfl) (by kernel_rfl) (by kernel_rfl) (by kernel_rfl) (fun _ _ _ h => h) (Or.inl ⟨by rfl, ?_⟩) hHeld ?_
  rotate_left
  · intro w hSw; (try dsimp only at hSw); go_simp; first | done | with_reducible rfl
  try simp only [Act.put, List.setIfInBounds_toArray, List.set_cons_zero, List.set_cons_succ, List.getElem_toArray, List.getElem_cons_succ, List.getElem_cons_zero]
  refine anyX_take (i := 3) (v := ?_) rfl (by kernel_rfl) (by kernel_rfl) (by kernel_rfl) (by kernel_rfl) (fun _ _ _ h => h) (Or.inl ⟨by rfl, ?_⟩) hHeld ?_
  rotate_left
  · intro w hSw; (try dsimp only at hSw); go_simp; first | done | with_reducible rfl
  try simp only [Act.put, List.setIfInBounds_toArray, List.set_cons_zero, List.set_cons_succ, List.getElem_toArray, List.getElem_cons_succ, List.getElem_cons_zero]
  refine anyX_take (i := 4) (v := ?_) rfl (by kernel_rfl) (by kernel_rfl) (by kernel_rfl) (by kernel_rfl) (fun _ _ _ h => h) (Or.inl ⟨by rfl, ?_⟩) hHeld ?_
  rotate_left
  · intro w hSw; (try dsimp only at hSw); go_simp; first | done | with_reducible rfl
  try simp only [Act.put, List.setIfInBounds_toArray, List.set_cons_zero, List.set_cons_succ, List.getElem_toArray, List.getElem_cons_succ, List.getElem_cons_zero]
  refine anyX_take (i := 5) (v := ?_) rfl (by kernel_rfl) (by kernel_rfl) (by kernel_rfl) (by kernel_rfl) (fun _ _ _ h => h) (Or.inl ⟨by rfl, ?_⟩) hHeld ?_
  rotate_left
  · intro w hSw; (try dsimp only at hSw); go_simp; first | done | with_reducible rfl
  try simp only [Act.put, List.setIfInBounds_toArray, List.set_cons_zero, List.set_cons_succ, List.getElem_toArray, List.getElem_cons_succ, List.getElem_cons_zero]
  refine anyX_take (i := 6) (v := ?_) rfl (by kernel_rfl) (by kernel_rfl) (by kernel_rfl) (by kernel_rfl) (fun _ _ _ h => h) (Or.inl ⟨by rfl, ?_⟩) hHeld ?_
  rotate_left
  · intro w hSw; (try dsimp only at hSw); go_simp; first | done | with_reducible rfl
  try simp only [Act.put, List.setIfInBounds_toArray, List.set_cons_zero, List.set_cons_succ, List.getElem_toArray, List.getElem_cons_succ, List.getElem_cons_zero]
  refine anyX_take (i := 7) (v := ?_) rfl (by kernel_rfl) (by kernel_rfl) (by kernel_rfl) (by kernel_rfl) (fun _ _ _ h => h) (Or.inl ⟨by rfl, ?_⟩) hHeld ?_
  rotate_left
  · intro w hSw; (try dsimp only at hSw); go_simp; first | done | with_reducible rfl
  try simp only [Act.put, List.setIfInBounds_toArray, List.set_cons_zero, List.set_cons_succ, List.getElem_toArray, List.getElem_cons_succ, List.getElem_cons_zero]
  refine anyX_take (i := 8) (v := ?_) rfl (by kernel_rfl) (by kernel_rfl) (by kernel_rfl) (by kernel_rfl) (fun _ _ _ h => h) (Or.inl ⟨by rfl, ?_⟩) hHeld ?_
  rotate_left
  · intro w hSw; (try dsimp only at hSw); go_simp; first | done | with_reducible rfl
  try simp only [Act.put, List.setIfInBounds_toArray, List.set_cons_zero, List.set_cons_succ, List.getElem_toArray, List.getElem_cons_succ, List.getElem_cons_zero]
  refine anyX_take (i := 9) (v := ?_) rfl (by kernel_rfl) (by kernel_rfl) (by kernel_rfl) (by kernel_rfl) (fun _ _ _ h => h) (Or.inl ⟨by rfl, ?_⟩) hHeld ?_
  rotate_left
  · intro w hSw; (try dsimp only at hSw); go_simp; first | done | with_reducible rfl
  try simp only [Act.put, List.setIfInBounds_toArray, List.set_cons_zero, List.set_cons_succ, List.getElem_toArray, List.getElem_cons_succ, List.getElem_cons_zero]
  refine anyX_ready (rs := [10]) (by kernel_rfl) (by simp) ?_
  refine (AllX.cons rfl (fun K hK => ?_) AllX.nil)
  go_simp
  refine hK.out _ _ (fun _ => hHeld) (fun hHeld2 => ?_)
  clear hK K hHeld
  have hHeld := hHeld2 (by decide)
  clear hHeld2
  try simp only [Act.put, List.setIfInBounds_toArray, List.set_cons_zero, List.set_cons_succ, List.getElem_toArray, List.getElem_cons_succ, List.getElem_cons_zero]
  refine anyX_ready (rs := [11]) (by kernel_rfl) (by simp) ?_
  refine (AllX.cons rfl (fun K hK => ?_) AllX.nil)
  go_simp
  refine hK.out _ _ (fun _ => hHeld) (fun hHeld2 => ?_)
  clear hK K hHeld
  have hHeld := hHeld2 (by decide)
  clear hHeld2
  try simp only [Act.put, List.setIfInBounds_toArray, List.set_cons_zero, List.set_cons_succ, List.getElem_toArray, List.getElem_cons_succ, List.getElem_cons_zero]
  refine anyX_ready (rs := [12]) (by kernel_rfl) (by simp) ?_
  refine (AllX.cons rfl (fun K hK => ?_) AllX.nil)
  go_simp
  with_reducible rw [HW1.out]
  refine hK.out _ _ (fun h => absurd rfl h) (fun hHeld2 => ?_)
  clear hK K hHeld hHeld2
  try simp only [Act.put, List.setIfInBounds_toArray, List.set_cons_zero, List.set_cons_succ, List.getElem_toArray, List.getElem_cons_succ, List.getElem_cons_zero]
  refine anyX_done (by kernel_rfl) ?_ _
  clear c4 f4
  have HBl1 := Lib.hid ((HQ.out.below2 HT.out HS1.out HBB.out.2).mono HBB.out.1)
  have c5 : W1.cell? ⟨tb, 5, none⟩ = some (.int .i64 tp) := by rw [HT1.out.box.cell]; rw [HTP.out]; rfl
  have c0 : W1.cell? ⟨tb, 0, none⟩ = some (.pointer (some ⟨b, 0, none⟩)) := HT1.out.box.cell 0
  have n0 : W1.cell? ⟨b, 0, none⟩ = some (.slice (some ⟨bb, oo, none⟩) N cn) := HQ1.out.box.cell 0
  have g0 : W1.cell? ⟨bb, oo + x * 3, none⟩ = some (.int .i64 kd) := (HBl1.out.cell hbbB.out).trans HG0.out
  have g1 : W1.cell? ⟨bb, oo + x * 3 + 1, none⟩ = some (.slice Af d.fs.length cf) := (HBl1.out.cell hbbB.out).trans HG1.out
  have g2 : W1.cell? ⟨bb, oo + x * 3 + 2, none⟩ = some (.slice Arw d.rs.length crw) := (HBl1.out.cell hbbB.out).trans HG2.out
  go_upto_region 1 with fail
  refine region_heldX (stop := 19) (S := fun w' : World => w'.cell? ⟨tb, 5, none⟩ = some (.int .i64 tp) ∧ w'.cell? ⟨tb, 0, none⟩ = some (.pointer (some ⟨b, 0, none⟩)) ∧ w'.cell? ⟨b, 0, none⟩ = some (.slice (some ⟨bb, oo, none⟩) N cn) ∧ w'.cell? ⟨bb, oo + x * 3, none⟩ = some (.int .i64 kd) ∧ w'.cell? ⟨bb, oo + x * 3 + 1, none⟩ = some (.slice Af d.fs.length cf) ∧ w'.cell? ⟨bb, oo + x * 3 + 2, none⟩ = some (.slice Arw d.rs.length crw)) (by kernel_rfl) ⟨c5, c0, n0, g0, g1, g2⟩ (fun hHeld => ?_)
  clear c5 c0 n0 g0 g1 g2
  obtain ⟨WB, hWB, oB⟩ : ∃ X, W1.drew = X ∧ Only nob W1 X := ⟨_, rfl, (Only.refl nob W1).drewN 1⟩
  rw [hWB] at hHeld ⊢
  have OB := Lib.hid oB
  have HSB := Lib.hid (HS1.out.more oB)
  clear hWB oB
  have HCS := Lib.hid (HSZ.out WB ((HQ.out.below2 HT.out HSB.out HBB.out.2).mono HBB.out.1))
  refine anyX_take (i := 0) (v := ?_) rfl (by kernel_rfl) (by kernel_rfl) (by kernel_rfl) (by kernel_rfl) (fun _ _ _ h => h) (Or.inl ⟨by rfl, ?_⟩) hHeld ?_
  rotate_left
  · intro w hSw; (try dsimp only at hSw); go_simp; first | done | with_reducible rfl
  try simp only [Act.put, List.setIfInBounds_toArray, List.set_cons_zero, List.set_cons_succ, List.getElem_toArray, List.getElem_cons_succ, List.getElem_cons_zero]
  refine anyX_take (i := 1) (v := ?_) rfl (by kernel_rfl) (by kernel_rfl) (by kernel_rfl) (by kernel_rfl) (fun _ _ _ h => h) (Or.inl ⟨by rfl, ?_⟩) hHeld ?_
  rotate_left
  · intro w hSw; (try dsimp only at hSw); go_simp; first | done | with_reducible rfl
  try simp only [Act.put, List.setIfInBounds_toArray, List.set_cons_zero, List.set_cons_succ, List.getElem_toArray, List.getElem_cons_succ, List.getElem_cons_zero]
  refine anyX_take (i := 2) (v := ?_) rfl (by kernel_rfl) (by kernel_rfl) (by kernel_rfl) (by kernel_rfl) (fun _ _ _ h => h) (Or.inl ⟨by rfl, ?_⟩) hHeld ?_
  rotate_left
  · intro w hSw; (try dsimp only at hSw); go_simp; first | done | with_reducible rfl
  try simp only [Act.put, List.setIfInBounds_toArray, List.set_cons_zero, List.set_cons_succ, List.getElem_toArray, List.getElem_cons_succ, List.getElem_cons_zero]
  refine anyX_take (i := 3) (v := ?_) rfl (by kernel_rfl) (by kernel_rfl) (by kernel_rfl) (by kernel_rfl) (fun _ _ _ h => h) (Or.inl ⟨by rfl, ?_⟩) hHeld ?_
  rotate_left
  · intro w hSw; (try dsimp only at hSw); go_simp; first | done | with_reducible rfl
  try simp only [Act.put, List.setIfInBounds_toArray, List.set_cons_zero, List.set_cons_succ, List.getElem_toArray, List.getElem_cons_succ, List.getElem_cons_zero]
  refine anyX_take (i := 4) (v := ?_) rfl (by kernel_rfl) (by kernel_rfl) (by kernel_rfl) (by kernel_rfl) (fun _ _ _ h => h) (Or.inl ⟨by rfl, ?_⟩) hHeld ?_
  rotate_left
  · intro w hSw; (try dsimp only at hSw); go_simp; first | done | with_reducible rfl
  try simp only [Act.put, List.setIfInBounds_toArray, List.set_cons_zero, List.set_cons_succ, List.getElem_toArray, List.getElem_cons_succ, List.getElem_cons_zero]
  refine anyX_take (i := 5) (v := ?_) rfl (by kernel_rfl) (by kernel_rfl) (by kernel_rfl) (by kernel_rfl) (fun _ _ _ h => h) (Or.inl ⟨by rfl, ?_⟩) hHeld ?_
  rotate_left
  · intro w hSw; (try dsimp only at hSw); go_simp; first | done | with_reducible rfl
  try simp only [Act.put, List.setIfInBounds_toArray, List.set_cons_zero, List.set_cons_succ, List.getElem_toArray, List.getElem_cons_succ, List.getElem_cons_zero]
  refine anyX_take (i := 6) (v := ?_) rfl (by kernel_rfl) (by kernel_rfl) (by kernel_rfl) (by kernel_rfl) (fun _ _ _ h => h) (Or.inl ⟨by rfl, ?_⟩) hHeld ?_
  rotate_left
  · intro w hSw; (try dsimp only at hSw); go_simp; first | done | with_reducible rfl
  try simp only [Act.put, List.setIfInBounds_toArray, List.set_cons_zero, List.set_cons_succ, List.getElem_toArray, List.getElem_cons_succ, List.getElem_cons_zero]
  refine anyX_take (i := 7) (v := ?_) rfl (by kernel_rfl) (by kernel_rfl) (by kernel_rfl) (by kernel_rfl) (fun _ _ _ h => h) (Or.inl ⟨by rfl, ?_⟩) hHeld ?_
  rotate_left
  · intro w hSw; (try dsimp only at hSw); go_simp; first | done | with_reducible rfl
  try simp only [Act.put, List.setIfInBounds_toArray, List.set_cons_zero, List.set_cons_succ, List.getElem_toArray, List.getElem_cons_succ, List.getElem_cons_zero]
  refine anyX_take (i := 8) (v := ?_) rfl (by kernel_rfl) (by kernel_rfl) (by kernel_rfl) (by kernel_rfl) (fun _ _ _ h => h) (Or.inl ⟨by rfl, ?_⟩) hHeld ?_
  rotate_left
  · intro w hSw; (try dsimp only at hSw); go_simp; first | done | with_reducible rfl
  try simp only [Act.put, List.setIfInBounds_toArray, List.set_cons_zero, List.set_cons_succ, List.getElem_toArray, List.getElem_cons_succ, List.getElem_cons_zero]
  refine anyX_take (i := 9) (v := ?_) rfl (by kernel_rfl) (by kernel_rfl) (by kernel_rfl) (by kernel_rfl) (fun _ _ _ h => h) (Or.inl ⟨by rfl, ?_⟩) hHeld ?_
  rotate_left
  · intro w hSw; (try dsimp only at hSw); go_simp; first | done | with_reducible rfl
  try simp only [Act.put, List.setIfInBounds_toArray, List.set_cons_zero, List.set_cons_succ, List.getElem_toArray, List.getElem_cons_succ, List.getElem_cons_zero]
  refine anyX_take (i := 10) (v := ?_) rfl (by kernel_rfl) (by kernel_rfl) (by kernel_rfl) (by kernel_rfl) (fun _ _ _ h => h) (Or.inl ⟨by rfl, ?_⟩) hHeld ?_
  rotate_left
  · intro w hSw; (try dsimp only at hSw); go_simp; first | done | with_reducible rfl
  try simp only [Act.put, List.setIfInBounds_toArray, List.set_cons_zero, List.set_cons_succ, List.getElem_toArray, List.getElem_cons_succ, List.getElem_cons_zero]
  refine anyX_take (i := 11) (v := ?_) rfl (by kernel_rfl) (by kernel_rfl) (by kernel_rfl) (by kernel_rfl) (fun _ _ _ h => h) (Or.inl ⟨by rfl, ?_⟩) hHeld ?_
  rotate_left
  · intro w hSw; (try dsimp only at hSw); go_simp; first | done | with_reducible rfl
  try simp only [Act.put, List.setIfInBounds_toArray, List.set_cons_zero, List.set_cons_succ, List.getElem_toArray, List.getElem_cons_succ, List.getElem_cons_zero]
  refine anyX_take (i := 12) (v := ?_) rfl (by kernel_rfl) (by kernel_rfl) (by kernel_rfl) (by kernel_rfl) (fun _ _ _ h => h) (Or.inl ⟨by rfl, ?_⟩) hHeld ?_
  rotate_left
  · intro w hSw; (try dsimp only at hSw); go_simp; first | done | with_reducible rfl
  try simp only [Act.put, List.setIfInBounds_toArray, List.set_cons_zero, List.set_cons_succ, List.getElem_toArray, List.getElem_cons_succ, List.getElem_cons_zero]
  refine anyX_take (i := 13) (v := ?_) rfl (by kernel_rfl) (by kernel_rfl) (by kernel_rfl) (by kernel_rfl) (fun _ _ _ h => h) (Or.inl ⟨by rfl, ?_⟩) hHeld ?_
  rotate_left
  · intro w hSw; (try dsimp only at hSw); go_simp; first | done | with_reducible rfl
  try simp only [Act.put, List.setIfInBounds_toArray, List.set_cons_zero, List.set_cons_succ, List.getElem_toArray, List.getElem_cons_succ, List.getElem_cons_zero]
  refine anyX_take (i := 14) (v := ?_) rfl (by kernel_rfl) (by kernel_rfl) (by kernel_rfl) (by kernel_rfl) (fun _ _ _ h => h) (Or.inl ⟨by rfl, ?_⟩) hHeld ?_
  rotate_left
  · intro w hSw; (try dsimp only at hSw); go_simp; first | done | with_reducible rfl
  try simp only [Act.put, List.setIfInBounds_toArray, List.set_cons_zero, List.set_cons_succ, List.getElem_toArray, List.getElem_cons_succ, List.getElem_cons_zero]
  refine anyX_ready (rs := [15]) (by kernel_rfl) (by simp) ?_
  refine (AllX.cons rfl (fun K hK => ?_) AllX.nil)
  rw [if_pos (by rfl)]
  go_simp
  go_at_call 40
  refine HCS.out.mono ?_
  rintro e w5 ⟨rfl, o5⟩
  have O5 := Lib.hid (OB.out.trans o5)
  have o5 := Lib.hid o5
  dsimp only
  refine hK.out _ _ (fun _ => ⟨o5.out.keeps hHeld.1, o5.out.keeps hHeld.2.1, o5.out.keeps hHeld.2.2.1, o5.out.keeps hHeld.2.2.2.1, o5.out.keeps hHeld.2.2.2.2.1, o5.out.keeps hHeld.2.2.2.2.2⟩) (fun hHeld2 => ?_)
  clear hK K hHeld
  have hHeld := hHeld2 (by decide)
  clear hHeld2
  try simp only [Act.put, List.setIfInBounds_toArray, List.set_cons_zero, List.set_cons_succ, List.getElem_toArray, List.getElem_cons_succ, List.getElem_cons_zero]
  refine anyX_take (i := 16) (v := ?_) rfl (by kernel_rfl) (by kernel_rfl) (by kernel_rfl) (by kernel_rfl) (fun _ _ _ h => h) (Or.inl ⟨by rfl, ?_⟩) hHeld ?_
  rotate_left
  · intro w hSw; (try dsimp only at hSw); go_simp; first | done | with_reducible rfl
  try simp only [Act.put, List.setIfInBounds_toArray, List.set_cons_zero, List.set_cons_succ, List.getElem_toArray, List.getElem_cons_succ, List.getElem_cons_zero]
  refine anyX_ready (rs := [17]) (by kernel_rfl) (by simp) ?_
  refine (AllX.cons rfl (fun K hK => ?_) AllX.nil)
  go_simp
  refine hK.out _ _ (fun _ => hHeld) (fun hHeld2 => ?_)
  clear hK K hHeld
  have hHeld := hHeld2 (by decide)
  clear hHeld2
  try simp only [Act.put, List.setIfInBounds_toArray, List.set_cons_zero, List.set_cons_succ, List.getElem_toArray, List.getElem_cons_succ, List.getElem_cons_zero]
  refine anyX_ready (rs := [18]) (by kernel_rfl) (by simp) ?_
  refine (AllX.cons rfl (fun K hK => ?_) AllX.nil)
  go_simp
  refine hK.out _ _ (fun _ => hHeld) (fun hHeld2 => ?_)
  clear hK K hHeld
  have hHeld := hHeld2 (by decide)
  clear hHeld2
  try simp only [Act.put, List.setIfInBounds_toArray, List.set_cons_zero, List.set_cons_succ, List.getElem_toArray, List.getElem_cons_succ, List.getElem_cons_zero]
  have HQ5 := Lib.hid (HQ1.out.kept O5.out)
  have HT5 := Lib.hid (HT1.out.kept O5.out)
  have HS5 := Lib.hid (HS1.out.more O5.out)
  obtain ⟨Q2, T2, S2⟩ := Tq.top HQ5.out HT5.out (IntKind.i64.wrap (tp + sz))
  obtain ⟨W2, hW2⟩ : ∃ X, w5.setCell ⟨tb, 5, none⟩ (.int .i64 (IntKind.i64.wrap (tp + sz))) = X := ⟨_, rfl⟩
  rw [hW2] at Q2 T2 S2
  have HW2 := Lib.hid hW2
  have HQ2 := Lib.hid Q2
  have HT2 := Lib.hid T2
  have HS2 := Lib.hid (HS5.out.trans S2)
  have f5 := HT5.out.box.free 5
  clear hW2 Q2 T2 S2
  refine anyX_ready (rs := [19]) (by kernel_rfl) (by simp) ?_
  refine (AllX.cons rfl (fun K hK => ?_) AllX.nil)
  go_simp
  with_reducible rw [HW2.out]
  refine hK.out _ _ (fun h => absurd rfl h) (fun hHeld2 => ?_)
  clear hK K hHeld hHeld2
  try simp only [Act.put, List.setIfInBounds_toArray, List.set_cons_zero, List.set_cons_succ, List.getElem_toArray, List.getElem_cons_succ, List.getElem_cons_zero]
  refine anyX_done (by kernel_rfl) ?_ _
  clear f5
  have hrz : rowsQ { { q with last := z } with tp := IntKind.i64.wrap (tp + sz) } z = q.wt z := rows_at HZB.out.1
  obtain ⟨Az, kz, hvz, hkz, hmz⟩ := (HQ2.out.rows.own z).form
  rw [hrz] at hvz hkz
  have HVZ := Lib.hid hvz
  have HLK := Lib.hid (fun (w : World) (hm : VMap w mp q.pt V) => (hm.at_ z HZB.out).trans (by rw [hvz]))
  have c4 : W2.cell? ⟨tb, 4, none⟩ = some (.int .i64 z) := HT2.out.box.cell 4
  have c2 : W2.cell? ⟨tb, 2, none⟩ = some (.map (some mp)) := HT2.out.box.cell 2
  have hlk := HLK.out W2 HT2.out.map
  obtain ⟨nz, hnz⟩ : ∃ m, m = (q.wt z).length := ⟨_, rfl⟩
  have HNZ := Lib.hid hnz
  rw [← hnz] at HVZ HLK hlk
  have hnb : nz ≤ 16000000000 := by rw [HNZ.out, HZZ.out]; exact HWT.out
  have TAIL := Lib.hid (show True from trivial)
  clear hvz hkz hnz hrz hmz
  go_upto_region 2 with fail
  have mixed := mixedP17
  go_region_held3 (fun w' => w'.cell? ⟨tb, 2, none⟩ = some (.map (some mp)) ∧ w'.cell? ⟨tb, 4, none⟩ = some (.int .i64 z) ∧ (Instr.lookup 55 (.map (some mp)) (.int .i64 z) false).run Try.prog w' = .ok (.slice Az nz kz) w')
    (first | exact And.intro c2 (And.intro c4 (HLK.out _ (VMap.keep HT2.out.map ((Only.refl nob W2).drewN 1) id))) | go_keep) (fail)
  obtain ⟨W3, hW3, o3⟩ : ∃ X, W2.drew = X ∧ Only nob W2 X := ⟨_, rfl, (Only.refl nob W2).drewN 1⟩
  rw [hW3]
  have HQ3 := Lib.hid (HQ2.out.kept o3)
  have HT3 := Lib.hid (HT2.out.kept o3)
  have HS3 := Lib.hid (HS2.out.more o3)
  clear hW3 o3 c2 c4 hlk
  by_cases hn0 : nz = 0
  · have hnil : q.wt z = [] := List.eq_nil_of_length_eq_zero (by rw [← HNZ.out]; exact hn0)
    have hz1 : ((nz : Int) == 0) = true := by simp [hn0]
    have HWQ := Lib.hid (show waitQ g blk q (x : Int) = { ({ ({ ({ q with last := z } : QSt) with tp := IntKind.i64.wrap (tp + sz) } : QSt) with bg := q.bg ++ [z] } : QSt) with wt := upd q.wt z (q.wt z ++ [(x : Int)]), pt := q.pt + 1 } by
      unfold waitQ
      rw [← HZZ.out, if_pos hnil, HZ.out, ← HTP.out, ← wrapP17])
    obtain ⟨A5, k5, hv5, -, -⟩ := (HQ3.out.rows.own (-5)).form
    have c3 : W3.cell? ⟨tb, 3, none⟩ = some (V (-5)) := HT3.out.box.cell 3
    have c4 : W3.cell? ⟨tb, 4, none⟩ = some (.int .i64 z) := HT3.out.box.cell 4
    have hr5 : rowsQ ({ ({ q with last := z } : QSt) with tp := IntKind.i64.wrap (tp + sz) } : QSt) (-5) = q.bg := rfl
    obtain ⟨n5, hn5⟩ : ∃ m, m = q.bg.length := ⟨_, rfl⟩
    have HN5 := Lib.hid hn5
    rw [hr5, ← hn5] at hv5
    have HV5 := Lib.hid hv5
    have how5 := HQ3.out.rows.own (-5)
    rw [hv5, hr5, ← hn5] at how5
    have HOW5 := Lib.hid how5
    rw [hv5] at c3
    have hn5b : n5 ≤ 16000000000 := by rw [HN5.out]; exact HBG.out
    clear hn0 hnil hr5 hn5 hv5 how5
    go_upto_region 3 with fail
    refine region_heldX (stop := 13) (S := fun w' : World => w'.cell? ⟨tb, 3, none⟩ = some (.slice A5 n5 k5) ∧ w'.cell? ⟨tb, 4, none⟩ = some (.int .i64 z)) (by kernel_rfl) ⟨c3, c4⟩ (fun hHeld => ?_)
    clear c3 c4
    obtain ⟨WD, hWD, oD⟩ : ∃ X, W3.drew = X ∧ Only nob W3 X := ⟨_, rfl, (Only.refl nob W3).drewN 1⟩
    rw [hWD] at hHeld ⊢
    have OD := Lib.hid oD
    clear hWD oD
    refine anyX_take (i := 0) (v := ?_) rfl (by kernel_rfl) (by kernel_rfl) (by kernel_rfl) (by kernel_rfl) (fun _ _ _ h => h) (Or.inl ⟨by rfl, ?_⟩) hHeld ?_
    rotate_left
    · intro w hSw; (try dsimp only at hSw); go_simp; first | done | with_reducible rfl
    try simp only [Act.put, List.setIfInBounds_toArray, List.set_cons_zero, List.set_cons_succ, List.getElem_toArray, List.getElem_cons_succ, List.getElem_cons_zero]
    refine anyX_take (i := 1) (v := ?_) rfl (by kernel_rfl) (by kernel_rfl) (by kernel_rfl) (by kernel_rfl) (fun _ _ _ h => h) (Or.inl ⟨by rfl, ?_⟩) hHeld ?_
    rotate_left
    · intro w hSw; (try dsimp only at hSw); go_simp; first | done | with_reducible rfl
    try simp only [Act.put, List.setIfInBounds_toArray, List.set_cons_zero, List.set_cons_succ, List.getElem_toArray, List.getElem_cons_succ, List.getElem_cons_zero]
    refine anyX_take (i := 2) (v := ?_) rfl (by kernel_rfl) (by kernel_rfl) (by kernel_rfl) (by kernel_rfl) (fun _ _ _ h => h) (Or.inl ⟨by rfl, ?_⟩) hHeld ?_
    rotate_left
    · intro w hSw; (try dsimp only at hSw); go_simp; first | done | with_reducible rfl
    try simp only [Act.put, List.setIfInBounds_toArray, List.set_cons_zero, List.set_cons_succ, List.getElem_toArray, List.getElem_cons_succ, List.getElem_cons_zero]
    refine anyX_take (i := 3) (v := ?_) rfl (by kernel_rfl) (by kernel_rfl) (by kernel_rfl) (by kernel_rfl) (fun _ _ _ h => h) (Or.inl ⟨by rfl, ?_⟩) hHeld ?_
    rotate_left
    · intro w hSw; (try dsimp only at hSw); go_simp; first | done | with_reducible rfl
    try simp only [Act.put, List.setIfInBounds_toArray, List.set_cons_zero, List.set_cons_succ, List.getElem_toArray, List.getElem_cons_succ, List.getElem_cons_zero]
    refine anyX_take (i := 4) (v := ?_) rfl (by kernel_rfl) (by kernel_rfl) (by kernel_rfl) (by kernel_rfl) (fun _ _ _ h => h) (Or.inl ⟨by rfl, ?_⟩) hHeld ?_
    rotate_left
    · intro w hSw; (try dsimp only at hSw); go_simp; first | done | with_reducible rfl
    try simp only [Act.put, List.setIfInBounds_toArray, List.set_cons_zero, List.set_cons_succ, List.getElem_toArray, List.getElem_cons_succ, List.getElem_cons_zero]
    refine anyX_take (i := 5) (v := ?_) rfl (by kernel_rfl) (by kernel_rfl) (by kernel_rfl) (by kernel_rfl) (fun _ _ _ h => h) (Or.inl ⟨by rfl, ?_⟩) hHeld ?_
    rotate_left
    · intro w hSw; (try dsimp only at hSw); go_simp; first | done | with_reducible rfl
    try simp only [Act.put, List.setIfInBounds_toArray, List.set_cons_zero, List.set_cons_succ, List.getElem_toArray, List.getElem_cons_succ, List.getElem_cons_zero]
    refine anyX_take (i := 6) (v := ?_) rfl (by kernel_rfl) (by kernel_rfl) (by kernel_rfl) (by kernel_rfl) (fun _ _ _ h => h) (Or.inl ⟨by rfl, ?_⟩) hHeld ?_
    rotate_left
    · intro w hSw; (try dsimp only at hSw); go_simp; first | done | with_reducible rfl
    try simp only [Act.put, List.setIfInBounds_toArray, List.set_cons_zero, List.set_cons_succ, List.getElem_toArray, List.getElem_cons_succ, List.getElem_cons_zero]
    refine anyX_take (i := 7) (v := ?_) rfl (by kernel_rfl) (by kernel_rfl) (by kernel_rfl) (by kernel_rfl) (fun _ _ _ h => h) (Or.inl ⟨by rfl, ?_⟩) hHeld ?_
    rotate_left
    · intro w hSw; (try dsimp only at hSw); go_simp; first | done | with_reducible rfl
    try simp only [Act.put, List.setIfInBounds_toArray, List.set_cons_zero, List.set_cons_succ, List.getElem_toArray, List.getElem_cons_succ, List.getElem_cons_zero]
    refine anyX_take (i := 8) (v := ?_) rfl (by kernel_rfl) (by kernel_rfl) (by kernel_rfl) (by kernel_rfl) (fun _ _ _ h => h) (Or.inl ⟨by rfl, ?_⟩) hHeld ?_
    rotate_left
    · intro w hSw; (try dsimp only at hSw); go_simp; first | done | with_reducible rfl
    try simp only [Act.put, List.setIfInBounds_toArray, List.set_cons_zero, List.set_cons_succ, List.getElem_toArray, List.getElem_cons_succ, List.getElem_cons_zero]
    obtain ⟨XL, hX, oX, sX⟩ : ∃ X, WD.alloc (.cells #[.int .i64 z] 3) = X ∧ Only nob WD X ∧ Sl X (WD.heap.size + 1) 1 (.slice (some ⟨WD.heap.size, 0, none⟩) 1 1) 1 [.int .i64 z] := ⟨_, rfl, (Only.refl nob WD).alloc _, one_of16 WD z⟩
    have HWE := Lib.hid hX
    have OL := Lib.hid oX
    have SLx := Lib.hid sX
    clear hX oX sX
    refine anyX_ready (rs := [9]) (by kernel_rfl) (by simp) ?_
    refine (AllX.cons rfl (fun K hK => ?_) AllX.nil)
    go_simp
    with_reducible rw [HWE.out]
    refine hK.out _ _ (fun _ => ⟨OL.out.keeps hHeld.1, OL.out.keeps hHeld.2⟩) (fun hHeld2 => ?_)
    clear hK K hHeld
    have hHeld := hHeld2 (by decide)
    clear hHeld2
    try simp only [Act.put, List.setIfInBounds_toArray, List.set_cons_zero, List.set_cons_succ, List.getElem_toArray, List.getElem_cons_succ, List.getElem_cons_zero]
    refine anyX_ready (rs := [10]) (by kernel_rfl) (by simp) ?_
    refine (AllX.cons rfl (fun K hK => ?_) AllX.nil)
    refine step_append_or _ (by rfl) _ _ _ (by rfl) base 3 j0 _ 8 Try.underlying28 hj0 hy0 hy1 hy2 (by rfl) (.slice A5 n5 k5) n5 (i64s q.bg) (by rfl) (HOW5.out.only (OD.out.trans OL.out) fun _ _ h => h) (WD.heap.size + 1) (.slice (some ⟨WD.heap.size, 0, none⟩) 1 1) (.int .i64 z) (by rfl) SLx.out (by rfl) (fits17 (by omega)).1 (fits17 (by omega)).2 (by have h1 := HBB.out.2; have h2 := HS3.out.only.size; have h3 := OD.out.size; have h4 := OL.out.size; omega) ?_
    intro v9 w9 H9 o9 ho9
    obtain ⟨B9, k9, rfl, -, -⟩ := H9.out.form
    rw [← HV5.out] at o9 ho9
    have TM := Tq.mid HQ3.out HT3.out (OD.out.trans OL.out) o9
    have d3 : w9.cell? ⟨tb, 3, none⟩ = some (.slice A5 n5 k5) := by rw [TM.box.cell]; exact congrArg some HV5.out
    have d4 : w9.cell? ⟨tb, 4, none⟩ = some (.int .i64 z) := TM.box.cell 4
    have f3 := TM.box.free 3
    have hl9 : (q.bg ++ [z]).length = n5 + 1 := by rw [List.length_append, ← HN5.out]; rfl
    obtain ⟨Q4, T4, S4⟩ := Tq.begun HQ3.out HT3.out (l := q.bg ++ [z]) (OD.out.trans OL.out) o9 (by rw [hl9, i64s_append]; exact H9.out) ho9
    obtain ⟨W4, hW4⟩ : ∃ X, w9.setCell ⟨tb, 3, none⟩ (.slice B9 (n5 + 1) k9) = X := ⟨_, rfl⟩
    rw [hW4] at Q4 T4 S4
    have HW4 := Lib.hid hW4
    have HQ4 := Lib.hid Q4
    have HT4 := Lib.hid T4
    have HS4 := Lib.hid (HS3.out.trans S4)
    clear hW4 Q4 T4 S4 hl9 TM H9 o9 ho9
    refine hK.out _ _ (fun _ => ⟨d3, d4⟩) (fun hHeld2 => ?_)
    clear hK K hHeld
    have hHeld := hHeld2 (by decide)
    clear hHeld2
    try simp only [Act.put, List.setIfInBounds_toArray, List.set_cons_zero, List.set_cons_succ, List.getElem_toArray, List.getElem_cons_succ, List.getElem_cons_zero]
    refine anyX_ready (rs := [11]) (by kernel_rfl) (by simp) ?_
    refine (AllX.cons rfl (fun K hK => ?_) AllX.nil)
    go_simp
    refine hK.out _ _ (fun _ => hHeld) (fun hHeld2 => ?_)
    clear hK K hHeld
    have hHeld := hHeld2 (by decide)
    clear hHeld2
    try simp only [Act.put, List.setIfInBounds_toArray, List.set_cons_zero, List.set_cons_succ, List.getElem_toArray, List.getElem_cons_succ, List.getElem_cons_zero]
    refine anyX_ready (rs := [12]) (by kernel_rfl) (by simp) ?_
    refine (AllX.cons rfl (fun K hK => ?_) AllX.nil)
    go_simp
    refine hK.out _ _ (fun _ => hHeld) (fun hHeld2 => ?_)
    clear hK K hHeld
    have hHeld := hHeld2 (by decide)
    clear hHeld2
    try simp only [Act.put, List.setIfInBounds_toArray, List.set_cons_zero, List.set_cons_succ, List.getElem_toArray, List.getElem_cons_succ, List.getElem_cons_zero]
    refine anyX_ready (rs := [13]) (by kernel_rfl) (by simp) ?_
    refine (AllX.cons rfl (fun K hK => ?_) AllX.nil)
    go_simp
    with_reducible rw [HW4.out]
    refine hK.out _ _ (fun h => absurd rfl h) (fun hHeld2 => ?_)
    clear hK K hHeld hHeld2
    try simp only [Act.put, List.setIfInBounds_toArray, List.set_cons_zero, List.set_cons_succ, List.getElem_toArray, List.getElem_cons_succ, List.getElem_cons_zero]
    refine anyX_done (by kernel_rfl) ?_ _
    clear d3 d4 f3 OD OL SLx HWE
    obtain ⟨c2, c4⟩ : W4.cell? ⟨tb, 2, none⟩ = some (.map (some mp)) ∧ W4.cell? ⟨tb, 4, none⟩ = some (.int .i64 z) := ⟨HT4.out.box.cell 2, HT4.out.box.cell 4⟩
    have hVz : (upd V (-5) (.slice B9 (n5 + 1) k9)) z = .slice Az nz kz := by rw [upd_other (by have := HZB.out.1; omega)]; exact HVZ.out
    have HVz := Lib.hid hVz
    have HLZ := Lib.hid (fun (w : World) (hm : VMap w mp q.pt (upd V (-5) (.slice B9 (n5 + 1) k9))) => (hm.at_ z HZB.out).trans (by rw [hVz]))
    have how := HQ4.out.rows.own z
    rw [hVz, show rowsQ ({ ({ ({ q with last := z } : QSt) with tp := IntKind.i64.wrap (tp + sz) } : QSt) with bg := q.bg ++ [z] } : QSt) z = q.wt z from rows_at HZB.out.1, ← HNZ.out] at how
    have HOW := Lib.hid how
    have hmap := HT4.out.map
    clear hVz how
    go_upto_region 4 with fail
    refine region_heldX (stop := 20) (S := fun w' : World => w'.cell? ⟨tb, 2, none⟩ = some (.map (some mp)) ∧ w'.cell? ⟨tb, 4, none⟩ = some (.int .i64 z) ∧ VMap w' mp q.pt (upd V (-5) (.slice B9 (n5 + 1) k9))) (by kernel_rfl) ⟨c2, c4, hmap.keep ((Only.refl nob W4).drewN 1) id⟩ (fun hHeld => ?_)
    clear c2 c4 hmap
    obtain ⟨WD, hWD, oD⟩ : ∃ X, W4.drew = X ∧ Only nob W4 X := ⟨_, rfl, (Only.refl nob W4).drewN 1⟩
    rw [hWD] at hHeld ⊢
    have OD := Lib.hid oD
    clear hWD oD
    refine anyX_take (i := 0) (v := ?_) rfl (by kernel_rfl) (by kernel_rfl) (by kernel_rfl) (by kernel_rfl) (fun _ _ _ h => h) (Or.inl ⟨by rfl, ?_⟩) hHeld ?_
    rotate_left
    · intro w hSw; (try dsimp only at hSw); go_simp; first | done | with_reducible rfl
    try simp only [Act.put, List.setIfInBounds_toArray, List.set_cons_zero, List.set_cons_succ, List.getElem_toArray, List.getElem_cons_succ, List.getElem_cons_zero]
    refine anyX_take (i := 1) (v := ?_) rfl (by kernel_rfl) (by kernel_rfl) (by kernel_rfl) (by kernel_rfl) (fun _ _ _ h => h) (Or.inl ⟨by rfl, ?_⟩) hHeld ?_
    rotate_left
    · intro w hSw; (try dsimp only at hSw); go_simp; first | done | with_reducible rfl
    try simp only [Act.put, List.setIfInBounds_toArray, List.set_cons_zero, List.set_cons_succ, List.getElem_toArray, List.getElem_cons_succ, List.getElem_cons_zero]
    refine anyX_take (i := 2) (v := ?_) rfl (by kernel_rfl) (by kernel_rfl) (by kernel_rfl) (by kernel_rfl) (fun _ _ _ h => h) (Or.inl ⟨by rfl, ?_⟩) hHeld ?_
    rotate_left
    · intro w hSw; (try dsimp only at hSw); go_simp; first | done | with_reducible rfl
    try simp only [Act.put, List.setIfInBounds_toArray, List.set_cons_zero, List.set_cons_succ, List.getElem_toArray, List.getElem_cons_succ, List.getElem_cons_zero]
    refine anyX_take (i := 3) (v := ?_) rfl (by kernel_rfl) (by kernel_rfl) (by kernel_rfl) (by kernel_rfl) (fun _ _ _ h => h) (Or.inl ⟨by rfl, ?_⟩) hHeld ?_
    rotate_left
    · intro w hSw; (try dsimp only at hSw); go_simp; first | done | with_reducible rfl
    try simp only [Act.put, List.setIfInBounds_toArray, List.set_cons_zero, List.set_cons_succ, List.getElem_toArray, List.getElem_cons_succ, List.getElem_cons_zero]
    refine anyX_take (i := 4) (v := ?_) rfl (by kernel_rfl) (by kernel_rfl) (by kernel_rfl) (by kernel_rfl) (fun _ _ _ h => h) (Or.inl ⟨by rfl, ?_⟩) hHeld ?_
    rotate_left
    · intro w hSw; (try dsimp only at hSw); go_simp; first | done | with_reducible rfl
    try simp only [Act.put, List.setIfInBounds_toArray, List.set_cons_zero, List.set_cons_succ, List.getElem_toArray, List.getElem_cons_succ, List.getElem_cons_zero]
    refine anyX_take (i := 5) (v := ?_) rfl (by kernel_rfl) (by kernel_rfl) (by kernel_rfl) (by kernel_rfl) (fun _ _ _ h => h) (Or.inl ⟨by rfl, ?_⟩) hHeld ?_
    rotate_left
    · intro w hSw; (try dsimp only at hSw); go_simp; first | done | with_reducible rfl
    try simp only [Act.put, List.setIfInBounds_toArray, List.set_cons_zero, List.set_cons_succ, List.getElem_toArray, List.getElem_cons_succ, List.getElem_cons_zero]
    refine anyX_take (i := 6) (v := ?_) rfl (by kernel_rfl) (by kernel_rfl) (by kernel_rfl) (by kernel_rfl) (fun _ _ _ h => h) (Or.inl ⟨by rfl, ?_⟩) hHeld ?_
    rotate_left
    · intro w hSw; (try dsimp only at hSw); go_simp; first | done | with_reducible rfl
    try simp only [Act.put, List.setIfInBounds_toArray, List.set_cons_zero, List.set_cons_succ, List.getElem_toArray, List.getElem_cons_succ, List.getElem_cons_zero]
    refine anyX_take (i := 7) (v := ?_) rfl (by kernel_rfl) (by kernel_rfl) (by kernel_rfl) (by kernel_rfl) (fun _ _ _ h => h) (Or.inl ⟨by rfl, ?_⟩) hHeld ?_
    rotate_left
    · intro w hSw; (try dsimp only at hSw); go_simp; first | done | with_reducible rfl
    try simp only [Act.put, List.setIfInBounds_toArray, List.set_cons_zero, List.set_cons_succ, List.getElem_toArray, List.getElem_cons_succ, List.getElem_cons_zero]
    refine anyX_take (i := 8) (v := ?_) rfl (by kernel_rfl) (by kernel_rfl) (by kernel_rfl) (by kernel_rfl) (fun _ _ _ h => h) (Or.inl ⟨by rfl, ?_⟩) hHeld ?_
    rotate_left
    · intro w hSw; (try dsimp only at hSw); go_simp; first | done | with_reducible rfl
    try simp only [Act.put, List.setIfInBounds_toArray, List.set_cons_zero, List.set_cons_succ, List.getElem_toArray, List.getElem_cons_succ, List.getElem_cons_zero]
    refine anyX_take (i := 9) (v := ?_) rfl (by kernel_rfl) (by kernel_rfl) (by kernel_rfl) (by kernel_rfl) (fun _ _ _ h => h) (Or.inl ⟨by rfl, ?_⟩) hHeld ?_
    rotate_left
    · intro w hSw; (try dsimp only at hSw); go_simp; first | done | with_reducible rfl
    try simp only [Act.put, List.setIfInBounds_toArray, List.set_cons_zero, List.set_cons_succ, List.getElem_toArray, List.getElem_cons_succ, List.getElem_cons_zero]
    refine anyX_take (i := 10) (v := ?_) rfl (by kernel_rfl) (by kernel_rfl) (by kernel_rfl) (by kernel_rfl) (fun _ _ _ h => h) (Or.inl ⟨by rfl, ?_⟩) hHeld ?_
    rotate_left
    · intro w hSw; (try dsimp only at hSw); go_simp; first | done | with_reducible rfl
    try simp only [Act.put, List.setIfInBounds_toArray, List.set_cons_zero, List.set_cons_succ, List.getElem_toArray, List.getElem_cons_succ, List.getElem_cons_zero]
    refine anyX_take (i := 11) (v := ?_) rfl (by kernel_rfl) (by kernel_rfl) (by kernel_rfl) (by kernel_rfl) (fun _ _ _ h => h) (Or.inl ⟨by rfl, ?_⟩) hHeld ?_
    rotate_left
    · intro w hSw; (try dsimp only at hSw); go_simp; first | done | with_reducible rfl
    try simp only [Act.put, List.setIfInBounds_toArray, List.set_cons_zero, List.set_cons_succ, List.getElem_toArray, List.getElem_cons_succ, List.getElem_cons_zero]
    refine anyX_take (i := 12) (v := ?_) rfl (by kernel_rfl) (by kernel_rfl) (by kernel_rfl) (by kernel_rfl) (fun _ _ _ h => h) (Or.inl ⟨by rfl, ?_⟩) hHeld ?_
    rotate_left
    · intro w hSw; (try dsimp only at hSw); go_simp; first | done | with_reducible rfl
    try simp only [Act.put, List.setIfInBounds_toArray, List.set_cons_zero, List.set_cons_succ, List.getElem_toArray, List.getElem_cons_succ, List.getElem_cons_zero]
    refine anyX_take (i := 13) (v := ?_) rfl (by kernel_rfl) (by kernel_rfl) (by kernel_rfl) (by kernel_rfl) (fun _ _ _ h => h) (Or.inl ⟨by rfl, ?_⟩) hHeld ?_
    rotate_left
    · intro w hSw; (try dsimp only at hSw); go_simp; first | done | with_reducible rfl
    try simp only [Act.put, List.setIfInBounds_toArray, List.set_cons_zero, List.set_cons_succ, List.getElem_toArray, List.getElem_cons_succ, List.getElem_cons_zero]
    refine anyX_take (i := 14) (v := ?_) rfl (by kernel_rfl) (by kernel_rfl) (by kernel_rfl) (by kernel_rfl) (fun _ _ _ h => h) (Or.inl ⟨by rfl, ?_⟩) hHeld ?_
    rotate_left
    · intro w hSw; (try dsimp only at hSw); go_simp; first | done | with_reducible rfl
    try simp only [Act.put, List.setIfInBounds_toArray, List.set_cons_zero, List.set_cons_succ, List.getElem_toArray, List.getElem_cons_succ, List.getElem_cons_zero]
    refine anyX_take (i := 15) (v := ?_) rfl (by kernel_rfl) (by kernel_rfl) (by kernel_rfl) (by kernel_rfl) (fun _ _ _ h => h) (Or.inl ⟨by rfl, ?_⟩) hHeld ?_
    rotate_left
    · intro w hSw; (try dsimp only at hSw); go_simp; first | done | with_reducible rfl
    try simp only [Act.put, List.setIfInBounds_toArray, List.set_cons_zero, List.set_cons_succ, List.getElem_toArray, List.getElem_cons_succ, List.getElem_cons_zero]
    refine anyX_take (i := 16) (v := ?_) rfl (by kernel_rfl) (by kernel_rfl) (by kernel_rfl) (by kernel_rfl) (fun _ _ _ h => h) (Or.inl ⟨by rfl, ?_⟩) hHeld ?_
    rotate_left
    · intro w hSw; have hl := HLZ.out w hSw.2.2; go_simp; first | done | with_reducible rfl
    try simp only [Act.put, List.setIfInBounds_toArray, List.set_cons_zero, List.set_cons_succ, List.getElem_toArray, List.getElem_cons_succ, List.getElem_cons_zero]
    refine anyX_take (i := 17) (v := ?_) rfl (by kernel_rfl) (by kernel_rfl) (by kernel_rfl) (by kernel_rfl) (fun _ _ _ h => h) (Or.inl ⟨by rfl, ?_⟩) hHeld ?_
    rotate_left
    · intro w hSw; (try dsimp only at hSw); go_simp; first | done | with_reducible rfl
    try simp only [Act.put, List.setIfInBounds_toArray, List.set_cons_zero, List.set_cons_succ, List.getElem_toArray, List.getElem_cons_succ, List.getElem_cons_zero]
    obtain ⟨XL, hX, oX, sX⟩ : ∃ X, WD.alloc (.cells #[.int .i64 (x : Int)] 3) = X ∧ Only nob WD X ∧ Sl X (WD.heap.size + 1) 1 (.slice (some ⟨WD.heap.size, 0, none⟩) 1 1) 1 [.int .i64 (x : Int)] := ⟨_, rfl, (Only.refl nob WD).alloc _, one_of16 WD x⟩
    have HWE := Lib.hid hX
    have OL := Lib.hid oX
    have SLx := Lib.hid sX
    clear hX oX sX
    refine anyX_ready (rs := [18]) (by kernel_rfl) (by simp) ?_
    refine (AllX.cons rfl (fun K hK => ?_) AllX.nil)
    go_simp
    with_reducible rw [HWE.out]
    refine hK.out _ _ (fun _ => ⟨OL.out.keeps hHeld.1, OL.out.keeps hHeld.2.1, hHeld.2.2.keep OL.out id⟩) (fun hHeld2 => ?_)
    clear hK K hHeld
    have hHeld := hHeld2 (by decide)
    clear hHeld2
    try simp only [Act.put, List.setIfInBounds_toArray, List.set_cons_zero, List.set_cons_succ, List.getElem_toArray, List.getElem_cons_succ, List.getElem_cons_zero]
    refine anyX_ready (rs := [19]) (by kernel_rfl) (by simp) ?_
    refine (AllX.cons rfl (fun K hK => ?_) AllX.nil)
    refine step_append_or _ (by rfl) _ _ _ (by rfl) base 3 j0 _ 8 Try.underlying28 hj0 hy0 hy1 hy2 (by rfl) (.slice Az nz kz) nz (i64s (q.wt z)) (by rfl) (HOW.out.only (OD.out.trans OL.out) fun _ _ h => h) (WD.heap.size + 1) (.slice (some ⟨WD.heap.size, 0, none⟩) 1 1) (.int .i64 (x : Int)) (by rfl) SLx.out (by rfl) (fits17 (by omega)).1 (fits17 (by omega)).2 (by have h1 := HBB.out.2; have h2 := HS4.out.only.size; have h3 := OD.out.size; have h4 := OL.out.size; omega) ?_
    intro v9 w9 H9 o9 ho9
    obtain ⟨B9, k9, rfl, -, -⟩ := H9.out.form
    rw [← HVz.out] at o9 ho9
    have TM := Tq.mid HQ4.out HT4.out (OD.out.trans OL.out) o9
    have d2 : w9.cell? ⟨tb, 2, none⟩ = some (.map (some mp)) := TM.box.cell 2
    have d4 : w9.cell? ⟨tb, 4, none⟩ = some (.int .i64 z) := TM.box.cell 4
    have HMM := Lib.hid TM.map
    obtain ⟨W6, hrun6, hm6, o6⟩ := TM.map.put z (.slice B9 (nz + 1) k9) HZB.out (by have := HPT.out; simp only; omega)
    have HR6 := Lib.hid hrun6
    have hl9 : (q.wt z ++ [(x : Int)]).length = nz + 1 := by rw [List.length_append, ← HNZ.out]; rfl
    obtain ⟨Q6, T6, S6⟩ := Tq.row HQ4.out HT4.out HZB.out.1 (l := q.wt z ++ [(x : Int)]) (OD.out.trans OL.out) o9 (by rw [hl9, i64s_append]; exact H9.out) ho9 o6 hm6
    have HQ6 := Lib.hid Q6
    have HT6 := Lib.hid T6
    have HS6 := Lib.hid (HS4.out.trans S6)
    clear hrun6 hm6 o6 Q6 T6 S6 hl9 TM H9 o9 ho9
    refine hK.out _ _ (fun _ => ⟨d2, d4, HMM.out⟩) (fun hHeld2 => ?_)
    clear hK K hHeld
    have hHeld := hHeld2 (by decide)
    clear hHeld2 d2 d4
    try simp only [Act.put, List.setIfInBounds_toArray, List.set_cons_zero, List.set_cons_succ, List.getElem_toArray, List.getElem_cons_succ, List.getElem_cons_zero]
    refine anyX_ready (rs := [20]) (by kernel_rfl) (by simp) ?_
    refine (AllX.cons rfl (fun K hK => ?_) AllX.nil)
    refine step_put17 _ (by rfl) _ _ _ _ (by rfl) _ _ _ (by rfl) (by rfl) (by rfl) _ HR6.out ?_
    refine hK.out _ _ (fun h => absurd rfl h) (fun hHeld2 => ?_)
    clear hK K hHeld hHeld2
    try simp only [Act.put, List.setIfInBounds_toArray, List.set_cons_zero, List.set_cons_succ, List.getElem_toArray, List.getElem_cons_succ, List.getElem_cons_zero]
    refine anyX_done (by kernel_rfl) ?_ _
    go_wp2
    go_end0
    refine ⟨rfl, _, ?_, ?_, HS6.out⟩
    · rw [HWQ.out]; exact HQ6.out
    · rw [HWQ.out]; exact HT6.out
  · have hz1 : ((nz : Int) == 0) = false := by
      have : ¬ ((nz : Int) = 0) := by omega
      simpa using this
    have HWQ := Lib.hid (show waitQ g blk q (x : Int) = { ({ ({ q with last := z } : QSt) with tp := IntKind.i64.wrap (tp + sz) } : QSt) with wt := upd q.wt z (q.wt z ++ [(x : Int)]), pt := q.pt + 1 } by
      unfold waitQ
      rw [← HZZ.out, if_neg (fun e => hn0 (by rw [HNZ.out, e]; rfl)), HZ.out, ← HTP.out, ← wrapP17])
    clear hn0
    obtain ⟨c2, c4⟩ : W3.cell? ⟨tb, 2, none⟩ = some (.map (some mp)) ∧ W3.cell? ⟨tb, 4, none⟩ = some (.int .i64 z) := ⟨HT3.out.box.cell 2, HT3.out.box.cell 4⟩
    have hVz : (V) z = .slice Az nz kz := HVZ.out
    have HVz := Lib.hid hVz
    have HLZ := Lib.hid (fun (w : World) (hm : VMap w mp q.pt (V)) => (hm.at_ z HZB.out).trans (by rw [hVz]))
    have how := HQ3.out.rows.own z
    rw [hVz, show rowsQ ({ ({ q with last := z } : QSt) with tp := IntKind.i64.wrap (tp + sz) } : QSt) z = q.wt z from rows_at HZB.out.1, ← HNZ.out] at how
    have HOW := Lib.hid how
    have hmap := HT3.out.map
    clear hVz how
    go_upto_region 4 with fail
    refine region_heldX (stop := 20) (S := fun w' : World => w'.cell? ⟨tb, 2, none⟩ = some (.map (some mp)) ∧ w'.cell? ⟨tb, 4, none⟩ = some (.int .i64 z) ∧ VMap w' mp q.pt (V)) (by kernel_rfl) ⟨c2, c4, hmap.keep ((Only.refl nob W3).drewN 1) id⟩ (fun hHeld => ?_)
    clear c2 c4 hmap
    obtain ⟨WD, hWD, oD⟩ : ∃ X, W3.drew = X ∧ Only nob W3 X := ⟨_, rfl, (Only.refl nob W3).drewN 1⟩
    rw [hWD] at hHeld ⊢
    have OD := Lib.hid oD
    clear hWD oD
    refine anyX_take (i := 0) (v := ?_) rfl (by kernel_rfl) (by kernel_rfl) (by kernel_rfl) (by kernel_rfl) (fun _ _ _ h => h) (Or.inl ⟨by rfl, ?_⟩) hHeld ?_
    rotate_left
    · intro w hSw; (try dsimp only at hSw); go_simp; first | done | with_reducible rfl
    try simp only [Act.put, List.setIfInBounds_toArray, List.set_cons_zero, List.set_cons_succ, List.getElem_toArray, List.getElem_cons_succ, List.getElem_cons_zero]
    refine anyX_take (i := 1) (v := ?_) rfl (by kernel_rfl) (by kernel_rfl) (by kernel_rfl) (by kernel_rfl) (fun _ _ _ h => h) (Or.inl ⟨by rfl, ?_⟩) hHeld ?_
    rotate_left
    · intro w hSw; (try dsimp only at hSw); go_simp; first | done | with_reducible rfl
    try simp only [Act.put, List.setIfInBounds_toArray, List.set_cons_zero, List.set_cons_succ, List.getElem_toArray, List.getElem_cons_succ, List.getElem_cons_zero]
    refine anyX_take (i := 2) (v := ?_) rfl (by kernel_rfl) (by kernel_rfl) (by kernel_rfl) (by kernel_rfl) (fun _ _ _ h => h) (Or.inl ⟨by rfl, ?_⟩) hHeld ?_
    rotate_left
    · intro w hSw; (try dsimp only at hSw); go_simp; first | done | with_reducible rfl
    try simp only [Act.put, List.setIfInBounds_toArray, List.set_cons_zero, List.set_cons_succ, List.getElem_toArray, List.getElem_cons_succ, List.getElem_cons_zero]
    refine anyX_take (i := 3) (v := ?_) rfl (by kernel_rfl) (by kernel_rfl) (by kernel_rfl) (by kernel_rfl) (fun _ _ _ h => h) (Or.inl ⟨by rfl, ?_⟩) hHeld ?_
    rotate_left
    · intro w hSw; (try dsimp only at hSw); go_simp; first | done | with_reducible rfl
    try simp only [Act.put, List.setIfInBounds_toArray, List.set_cons_zero, List.set_cons_succ, List.getElem_toArray, List.getElem_cons_succ, List.getElem_cons_zero]
    refine anyX_take (i := 4) (v := ?_) rfl (by kernel_rfl) (by kernel_rfl) (by kernel_rfl) (by kernel_rfl) (fun _ _ _ h => h) (Or.inl ⟨by rfl, ?_⟩) hHeld ?_
    rotate_left
    · intro w hSw; (try dsimp only at hSw); go_simp; first | done | with_reducible rfl
    try simp only [Act.put, List.setIfInBounds_toArray, List.set_cons_zero, List.set_cons_succ, List.getElem_toArray, List.getElem_cons_succ, List.getElem_cons_zero]
    refine anyX_take (i := 5) (v := ?_) rfl (by kernel_rfl) (by kernel_rfl) (by kernel_rfl) (by kernel_rfl) (fun _ _ _ h => h) (Or.inl ⟨by rfl, ?_⟩) hHeld ?_
    rotate_left
    · intro w hSw; (try dsimp only at hSw); go_simp; first | done | with_reducible rfl
    try simp only [Act.put, List.setIfInBounds_toArray, List.set_cons_zero, List.set_cons_succ, List.getElem_toArray, List.getElem_cons_succ, List.getElem_cons_zero]
    refine anyX_take (i := 6) (v := ?_) rfl (by kernel_rfl) (by kernel_rfl) (by kernel_rfl) (by kernel_rfl) (fun _ _ _ h => h) (Or.inl ⟨by rfl, ?_⟩) hHeld ?_
    rotate_left
    · intro w hSw; (try dsimp only at hSw); go_simp; first | done | with_reducible rfl
    try simp only [Act.put, List.setIfInBounds_toArray, List.set_cons_zero, List.set_cons_succ, List.getElem_toArray, List.getElem_cons_succ, List.getElem_cons_zero]
    refine anyX_take (i := 7) (v := ?_) rfl (by kernel_rfl) (by kernel_rfl) (by kernel_rfl) (by kernel_rfl) (fun _ _ _ h => h) (Or.inl ⟨by rfl, ?_⟩) hHeld ?_
    rotate_left
    · intro w hSw; (try dsimp only at hSw); go_simp; first | done | with_reducible rfl
    try simp only [Act.put, List.setIfInBounds_toArray, List.set_cons_zero, List.set_cons_succ, List.getElem_toArray, List.getElem_cons_succ, List.getElem_cons_zero]
    refine anyX_take (i := 8) (v := ?_) rfl (by kernel_rfl) (by kernel_rfl) (by kernel_rfl) (by kernel_rfl) (fun _ _ _ h => h) (Or.inl ⟨by rfl, ?_⟩) hHeld ?_
    rotate_left
    · intro w hSw; (try dsimp only at hSw); go_simp; first | done | with_reducible rfl
    try simp only [Act.put, List.setIfInBounds_toArray, List.set_cons_zero, List.set_cons_succ, List.getElem_toArray, List.getElem_cons_succ, List.getElem_cons_zero]
    refine anyX_take (i := 9) (v := ?_) rfl (by kernel_rfl) (by kernel_rfl) (by kernel_rfl) (by kernel_rfl) (fun _ _ _ h => h) (Or.inl ⟨by rfl, ?_⟩) hHeld ?_
    rotate_left
    · intro w hSw; (try dsimp only at hSw); go_simp; first | done | with_reducible rfl
    try simp only [Act.put, List.setIfInBounds_toArray, List.set_cons_zero, List.set_cons_succ, List.getElem_toArray, List.getElem_cons_succ, List.getElem_cons_zero]
    refine anyX_take (i := 10) (v := ?_) rfl (by kernel_rfl) (by kernel_rfl) (by kernel_rfl) (by kernel_rfl) (fun _ _ _ h => h) (Or.inl ⟨by rfl, ?_⟩) hHeld ?_
    rotate_left
    · intro w hSw; (try dsimp only at hSw); go_simp; first | done | with_reducible rfl
    try simp only [Act.put, List.setIfInBounds_toArray, List.set_cons_zero, List.set_cons_succ, List.getElem_toArray, List.getElem_cons_succ, List.getElem_cons_zero]
    refine anyX_take (i := 11) (v := ?_) rfl (by kernel_rfl) (by kernel_rfl) (by kernel_rfl) (by kernel_rfl) (fun _ _ _ h => h) (Or.inl ⟨by rfl, ?_⟩) hHeld ?_
    rotate_left
    · intro w hSw; (try dsimp only at hSw); go_simp; first | done | with_reducible rfl
    try simp only [Act.put, List.setIfInBounds_toArray, List.set_cons_zero, List.set_cons_succ, List.getElem_toArray, List.getElem_cons_succ, List.getElem_cons_zero]
    refine anyX_take (i := 12) (v := ?_) rfl (by kernel_rfl) (by kernel_rfl) (by kernel_rfl) (by kernel_rfl) (fun _ _ _ h => h) (Or.inl ⟨by rfl, ?_⟩) hHeld ?_
    rotate_left
    · intro w hSw; (try dsimp only at hSw); go_simp; first | done | with_reducible rfl
    try simp only [Act.put, List.setIfInBounds_toArray, List.set_cons_zero, List.set_cons_succ, List.getElem_toArray, List.getElem_cons_succ, List.getElem_cons_zero]
    refine anyX_take (i := 13) (v := ?_) rfl (by kernel_rfl) (by kernel_rfl) (by kernel_rfl) (by kernel_rfl) (fun _ _ _ h => h) (Or.inl ⟨by rfl, ?_⟩) hHeld ?_
    rotate_left
    · intro w hSw; (try dsimp only at hSw); go_simp; first | done | with_reducible rfl
    try simp only [Act.put, List.setIfInBounds_toArray, List.set_cons_zero, List.set_cons_succ, List.getElem_toArray, List.getElem_cons_succ, List.getElem_cons_zero]
    refine anyX_take (i := 14) (v := ?_) rfl (by kernel_rfl) (by kernel_rfl) (by kernel_rfl) (by kernel_rfl) (fun _ _ _ h => h) (Or.inl ⟨by rfl, ?_⟩) hHeld ?_
    rotate_left
    · intro w hSw; (try dsimp only at hSw); go_simp; first | done | with_reducible rfl
    try simp only [Act.put, List.setIfInBounds_toArray, List.set_cons_zero, List.set_cons_succ, List.getElem_toArray, List.getElem_cons_succ, List.getElem_cons_zero]
    refine anyX_take (i := 15) (v := ?_) rfl (by kernel_rfl) (by kernel_rfl) (by kernel_rfl) (by kernel_rfl) (fun _ _ _ h => h) (Or.inl ⟨by rfl, ?_⟩) hHeld ?_
    rotate_left
    · intro w hSw; (try dsimp only at hSw); go_simp; first | done | with_reducible rfl
    try simp only [Act.put, List.setIfInBounds_toArray, List.set_cons_zero, List.set_cons_succ, List.getElem_toArray, List.getElem_cons_succ, List.getElem_cons_zero]
    refine anyX_take (i := 16) (v := ?_) rfl (by kernel_rfl) (by kernel_rfl) (by kernel_rfl) (by kernel_rfl) (fun _ _ _ h => h) (Or.inl ⟨by rfl, ?_⟩) hHeld ?_
    rotate_left
    · intro w hSw; have hl := HLZ.out w hSw.2.2; go_simp; first | done | with_reducible rfl
    try simp only [Act.put, List.setIfInBounds_toArray, List.set_cons_zero, List.set_cons_succ, List.getElem_toArray, List.getElem_cons_succ, List.getElem_cons_zero]
    refine anyX_take (i := 17) (v := ?_) rfl (by kernel_rfl) (by kernel_rfl) (by kernel_rfl) (by kernel_rfl) (fun _ _ _ h => h) (Or.inl ⟨by rfl, ?_⟩) hHeld ?_
    rotate_left
    · intro w hSw; (try dsimp only at hSw); go_simp; first | done | with_reducible rfl
    try simp only [Act.put, List.setIfInBounds_toArray, List.set_cons_zero, List.set_cons_succ, List.getElem_toArray, List.getElem_cons_succ, List.getElem_cons_zero]
    obtain ⟨XL, hX, oX, sX⟩ : ∃ X, WD.alloc (.cells #[.int .i64 (x : Int)] 3) = X ∧ Only nob WD X ∧ Sl X (WD.heap.size + 1) 1 (.slice (some ⟨WD.heap.size, 0, none⟩) 1 1) 1 [.int .i64 (x : Int)] := ⟨_, rfl, (Only.refl nob WD).alloc _, one_of16 WD x⟩
    have HWE := Lib.hid hX
    have OL := Lib.hid oX
    have SLx := Lib.hid sX
    clear hX oX sX
    refine anyX_ready (rs := [18]) (by kernel_rfl) (by simp) ?_
    refine (AllX.cons rfl (fun K hK => ?_) AllX.nil)
    go_simp
    with_reducible rw [HWE.out]
    refine hK.out _ _ (fun _ => ⟨OL.out.keeps hHeld.1, OL.out.keeps hHeld.2.1, hHeld.2.2.keep OL.out id⟩) (fun hHeld2 => ?_)
    clear hK K hHeld
    have hHeld := hHeld2 (by decide)
    clear hHeld2
    try simp only [Act.put, List.setIfInBounds_toArray, List.set_cons_zero, List.set_cons_succ, List.getElem_toArray, List.getElem_cons_succ, List.getElem_cons_zero]
    refine anyX_ready (rs := [19]) (by kernel_rfl) (by simp) ?_
    refine (AllX.cons rfl (fun K hK => ?_) AllX.nil)
    refine step_append_or _ (by rfl) _ _ _ (by rfl) base 3 j0 _ 8 Try.underlying28 hj0 hy0 hy1 hy2 (by rfl) (.slice Az nz kz) nz (i64s (q.wt z)) (by rfl) (HOW.out.only (OD.out.trans OL.out) fun _ _ h => h) (WD.heap.size + 1) (.slice (some ⟨WD.heap.size, 0, none⟩) 1 1) (.int .i64 (x : Int)) (by rfl) SLx.out (by rfl) (fits17 (by omega)).1 (fits17 (by omega)).2 (by have h1 := HBB.out.2; have h2 := HS3.out.only.size; have h3 := OD.out.size; have h4 := OL.out.size; omega) ?_
    intro v9 w9 H9 o9 ho9
    obtain ⟨B9, k9, rfl, -, -⟩ := H9.out.form
    rw [← HVz.out] at o9 ho9
    have TM := Tq.mid HQ3.out HT3.out (OD.out.trans OL.out) o9
    have d2 : w9.cell? ⟨tb, 2, none⟩ = some (.map (some mp)) := TM.box.cell 2
    have d4 : w9.cell? ⟨tb, 4, none⟩ = some (.int .i64 z) := TM.box.cell 4
    have HMM := Lib.hid TM.map
    obtain ⟨W6, hrun6, hm6, o6⟩ := TM.map.put z (.slice B9 (nz + 1) k9) HZB.out (by have := HPT.out; simp only; omega)
    have HR6 := Lib.hid hrun6
    have hl9 : (q.wt z ++ [(x : Int)]).length = nz + 1 := by rw [List.length_append, ← HNZ.out]; rfl
    obtain ⟨Q6, T6, S6⟩ := Tq.row HQ3.out HT3.out HZB.out.1 (l := q.wt z ++ [(x : Int)]) (OD.out.trans OL.out) o9 (by rw [hl9, i64s_append]; exact H9.out) ho9 o6 hm6
    have HQ6 := Lib.hid Q6
    have HT6 := Lib.hid T6
    have HS6 := Lib.hid (HS3.out.trans S6)
    clear hrun6 hm6 o6 Q6 T6 S6 hl9 TM H9 o9 ho9
    refine hK.out _ _ (fun _ => ⟨d2, d4, HMM.out⟩) (fun hHeld2 => ?_)
    clear hK K hHeld
    have hHeld := hHeld2 (by decide)
    clear hHeld2 d2 d4
    try simp only [Act.put, List.setIfInBounds_toArray, List.set_cons_zero, List.set_cons_succ, List.getElem_toArray, List.getElem_cons_succ, List.getElem_cons_zero]
    refine anyX_ready (rs := [20]) (by kernel_rfl) (by simp) ?_
    refine (AllX.cons rfl (fun K hK => ?_) AllX.nil)
    refine step_put17 _ (by rfl) _ _ _ _ (by rfl) _ _ _ (by rfl) (by rfl) (by rfl) _ HR6.out ?_
    refine hK.out _ _ (fun h => absurd rfl h) (fun hHeld2 => ?_)
    clear hK K hHeld hHeld2
    try simp only [Act.put, List.setIfInBounds_toArray, List.set_cons_zero, List.set_cons_succ, List.getElem_toArray, List.getElem_cons_succ, List.getElem_cons_zero]
    refine anyX_done (by kernel_rfl) ?_ _
    go_wp2
    go_end0
    refine ⟨rfl, _, ?_, ?_, HS6.out⟩
    · rw [HWQ.out]; exact HQ6.out
    · rw [HWQ.out]; exact HT6.out
end Go.Proofs.Ytkjdnccnfnhkoaa
