/- The program's runs are the document's plans: what is looked at next, what is met. No program walked in it. -/
import Derived.Test.YtkjdnccnfnhkoaaReNear
namespace Go.Proofs.Ytkjdnccnfnhkoaa
open Go.RowKit
set_option linter.unusedVariables false

def q0 : QSt := ⟨.none, [], 0, fun _ => [], [], 0, 0, 0⟩
theorem lookW_refs {g : Gr} {lim : Int} : ∀ (l : List Sp) (s : PSt), lookW g lim (refL (refsOf l)) s = lookW g lim l s
  | [], s => rfl
  | (a, x) :: l, s => by
    by_cases h : a = 2
    · subst h
      have : refL (refsOf ((2, x) :: l)) = (2, x) :: refL (refsOf l) := by simp [refL, refsOf]
      rw [this]
      exact lookW_refs l _
    · have : refL (refsOf ((a, x) :: l)) = refL (refsOf l) := by simp [refL, refsOf, h]
      rw [this, lookW_refs l s]
      have hn : newS (a, x) s = false := by unfold newS; simp [h]
      show _ = lookW g lim l (meetS g lim (a, x) s)
      rw [show meetS g lim (a, x) s = s by unfold meetS; rw [hn]; exact if_neg (by simp)]
theorem okl_refs {g : Gr} {l : List Sp} (h : Okl g l) : ∀ x ∈ refsOf l, (0 ≤ x ∧ x < (g.nd.length : Int)) ∧ Rch g x := by
  intro x hx
  unfold refsOf at hx
  obtain ⟨v, hv, rfl⟩ := List.mem_map.1 hx
  obtain ⟨h1, h2⟩ := List.mem_filter.1 hv
  exact h v h1 (by simpa using h2)
theorem all_follow {g : Gr} {lim : Int} {q : QSt} (h : q.ah = []) (l : List Sp) : allS g lim (followQ q l) = lookW g lim l q.s := by
  unfold allS followQ withAh
  simp only [h, List.append_nil]
  exact lookW_refs l _
theorem follow_ok {g : Gr} {q : QSt} (h : q.ah = []) (hw : Wf g q.s) {l : List Sp} (hl : Okl g l) : Okq g (followQ q l) :=
  ⟨hw, fun x hx => okl_refs hl x (by simpa [followQ, withAh, h] using hx)⟩
theorem fs_len17 {g : Gr} (hg : grOk g = true) {x : Int} (hx : 0 ≤ x ∧ x < (g.nd.length : Int)) : (fsAt g x).length ≤ 4096 := by
  have hlt : x.toNat < g.nd.length := by omega
  have hm : ndAt g x ∈ g.nd := by
    unfold ndAt
    rw [List.getD_eq_getElem?_getD, List.getElem?_eq_getElem hlt]
    exact List.getElem_mem hlt
  exact (ndOk_iff.1 ((grOk_iff.1 hg).1 _ hm)).2.1
/-- What tells the next one tells the document's. -/
structure SimN (g : Gr) (lim order blk : Int) (nx : QSt → Option Int × QSt) (G : QSt → Prop) : Prop where
  ok : ∀ q, G q → Okq g q
  none : ∀ q, G q → nextS order blk (allS g lim q) = none → (nx q).1 = none ∧ (nx q).2.s = allS g lim q ∧ (nx q).2.ah = [] ∧ ∀ l, Okl g l → G (followQ (offQ (nx q).2) l)
  some : ∀ q i, G q → nextS order blk (allS g lim q) = some i → (nx q).1 = some ((allS g lim q).small.getD i 0) ∧ (nx q).2.s = (allS g lim q).mark i ∧ (nx q).2.ah = [] ∧ ∀ l, Okl g l → G (followQ (nx q).2 l)
theorem sim_stop {g : Gr} {lim order blk : Int} {nx : QSt → Option Int × QSt} {G : QSt → Prop} (S : SimN g lim order blk nx G) {q : QSt} (h : G q) (e : stepS g lim order blk (allS g lim q) = none) : ∃ m e, RunQ g nx G m q e ∧ e.s = allS g lim q := by
  unfold stepS at e
  cases hn : nextS order blk (allS g lim q) with
  | some i => rw [hn] at e; cases e
  | none =>
    rw [hn] at e
    cases hp : (allS g lim q).pile.getLast? with
    | some k => rw [hp] at e; cases e
    | none =>
      obtain ⟨h1, h2, h3, -⟩ := S.none q h hn
      refine ⟨0, _, RunQ.stop h h1 (by rw [h2]; exact hp), ?_⟩
      have hnil := List.getLast?_eq_none_iff.1 hp
      unfold offQ
      simp only [h2]
      rw [hnil]
      show ({ allS g lim q with pile := [] } : PSt) = _
      rw [← hnil]
theorem sim_run {g : Gr} {lim order blk : Int} {nx : QSt → Option Int × QSt} {G : QSt → Prop} (hg : grOk g = true) (ho : order ≠ 1) (S : SimN g lim order blk nx G) : ∀ (n : Nat) (q : QSt), G q → stepS g lim order blk (runS g lim order blk n (allS g lim q)) = none →
    ∃ m e, RunQ g nx G m q e ∧ e.s = runS g lim order blk n (allS g lim q)
  | 0, q, h, e => sim_stop S h e
  | n + 1, q, h, e => by
    have hW := (look_ok (lim := lim) (S.ok q h)).1
    rw [runS] at e ⊢
    cases hs : stepS g lim order blk (allS g lim q) with
    | none => rw [hs] at e; exact sim_stop S h hs
    | some s' =>
      rw [hs] at e
      simp only at e ⊢
      unfold stepS at hs
      have hlook : ∀ l s, lookO g lim order l s = lookW g lim l s := fun l s => by unfold lookO; exact if_neg ho
      cases hn : nextS order blk (allS g lim q) with
      | some i =>
        rw [hn] at hs
        simp only [hlook] at hs
        obtain ⟨h1, h2, h3, h4⟩ := S.some q i h hn
        have hlt := (next_some hn).1
        have hmem : (allS g lim q).small.getD i 0 ∈ (allS g lim q).met := by
          rw [List.getD_eq_getElem?_getD, List.getElem?_eq_getElem hlt]
          exact List.mem_append.2 (.inl (List.getElem_mem hlt))
        have hr := hW.rng _ hmem
        have hall : allS g lim (followQ (nx q).2 (fsAt g ((allS g lim q).small.getD i 0))) = s' := by
          rw [all_follow h3, h2]
          exact Option.some.inj hs
        obtain ⟨m, e', hrun, he⟩ := sim_run hg ho S n (followQ (nx q).2 (fsAt g ((allS g lim q).small.getD i 0))) (h4 _ (fs_ok hg (hW.rch _ hmem) hr)) (by rw [hall]; exact e)
        rw [hall] at he
        exact ⟨m + 1, e', RunQ.small h h1 hr (by rw [h3]; exact Nat.le_trans (Nat.add_le_add_right (fs_len17 hg hr) _) (by simp)) hrun, he⟩
      | none =>
        rw [hn] at hs
        simp only [hlook] at hs
        cases hp : (allS g lim q).pile.getLast? with
        | none => rw [hp] at hs; cases hs
        | some k =>
          rw [hp] at hs
          obtain ⟨h1, h2, h3, h4⟩ := S.none q h hn
          have hkp : k ∈ (allS g lim q).pile := List.mem_of_getLast? hp
          have hmem : k ∈ (allS g lim q).met := List.mem_append.2 (.inr (hW.pl _ hkp))
          have hr := hW.rng _ hmem
          have hall : allS g lim (followQ (offQ (nx q).2) (fsAt g k)) = s' := by
            rw [all_follow (q := offQ (nx q).2) h3]
            unfold offQ
            simp only [h2]
            exact Option.some.inj hs
          obtain ⟨m, e', hrun, he⟩ := sim_run hg ho S n (followQ (offQ (nx q).2) (fsAt g k)) (h4 _ (fs_ok hg (hW.rch _ hmem) hr)) (by rw [hall]; exact e)
          rw [hall] at he
          refine ⟨m + 1, e', RunQ.large h h1 (by rw [h2]; exact hp) hr ?_ hrun, he⟩
          show (fsAt g k).length + (nx q).2.ah.length ≤ _
          rw [h3]; exact Nat.le_trans (Nat.add_le_add_right (fs_len17 hg hr) _) (by simp)
theorem sim_plan {g : Gr} {lim order blk : Int} {nx : QSt → Option Int × QSt} {G : QSt → Prop} (hg : grOk g = true) (ho : order ≠ 1) (S : SimN g lim order blk nx G) (h0 : G (followQ q0 g.rt)) :
    ∃ m e, RunQ g nx G m (followQ q0 g.rt) e ∧ e.s = planS g lim order blk := by
  have hall : allS g lim (followQ q0 g.rt) = lookO g lim order g.rt .none := by
    rw [all_follow (q := q0) rfl]
    unfold lookO
    rw [if_neg ho]; rfl
  obtain ⟨h1, h2⟩ := start_wf lim order hg
  obtain ⟨w, c, e⟩ := run_wf (block := blk) hg (g.nd.length + 1) _ h1 h2 (by omega)
  obtain ⟨m, e', hrun, he⟩ := sim_run hg ho S (g.nd.length + 1) _ h0 (by rw [hall]; exact e)
  rw [hall] at he
  exact ⟨m, e', hrun, he⟩

/-! ### Breadth -/
def nxB (g : Gr) (lim : Int) (q : QSt) : Option Int × QSt :=
  match firstQ g lim q with
  | (some i, q') => (some i, { q' with s := q'.s.mark q.k })
  | (none, q') => (none, q')
/-- The first k were looked at. -/
structure LkB (k : Nat) (s : PSt) : Prop where
  le : k ≤ s.small.length
  lk : ∀ i, i < s.small.length → s.looked.getD i true = decide (i < k)
structure GB (g : Gr) (q : QSt) : Prop where
  ok : Okq g q
  lk : LkB q.k q.s
theorem lkB_look {g : Gr} {lim : Int} {q : QSt} (h : GB g q) : LkB q.k (allS g lim q) := by
  have hl : Okl g (refL q.ah) := fun v hv h2 => by
    unfold refL at hv
    obtain ⟨x, hx, rfl⟩ := List.mem_map.1 hv
    exact h.ok.ah x hx
  obtain ⟨w, x, -, hn⟩ := lookW_wf (lim := lim) (refL q.ah) q.s h.ok.wf hl
  refine ⟨Nat.le_trans h.lk.le x.sm.length_le, fun i hi => ?_⟩
  rcases Nat.lt_or_ge i q.s.small.length with h' | h'
  · have hlt : i < q.s.looked.length := by rw [h.ok.wf.lk]; exact h'
    have e1 : q.s.looked[i]? = some q.s.looked[i] := List.getElem?_eq_getElem hlt
    have e2 := h.lk.lk i h'
    rw [List.getD_eq_getElem?_getD, e1] at e2
    rw [List.getD_eq_getElem?_getD]
    unfold allS
    rw [pre_at x.lk e1]
    exact e2
  · have hlt : i < (lookW g lim (refL q.ah) q.s).looked.length := by rw [w.lk]; exact hi
    have h3 := hn i h'
    rw [List.getD_eq_getElem?_getD]
    unfold allS
    rw [List.getElem?_eq_getElem hlt] at h3 ⊢
    have hk := h.lk.le
    rw [decide_eq_false (by omega)]
    cases hh : (lookW g lim (refL q.ah) q.s).looked[i] with
    | true => rw [hh] at h3; exact absurd rfl h3
    | false => rfl
theorem first_k {k : Nat} {s : PSt} (h : LkB k s) : firstS (fun _ => true) s = if k < s.small.length then some k else none := by
  unfold firstS
  by_cases hk : k < s.small.length
  · rw [if_pos hk, List.find?_range_eq_some]
    refine ⟨by rw [h.lk k hk]; simp, List.mem_range.2 hk, fun j hj => ?_⟩
    rw [h.lk j (by omega)]
    simp [hj]
  · rw [if_neg hk, List.find?_eq_none]
    intro j hj
    have := List.mem_range.1 hj
    rw [h.lk j this]
    simp; omega
theorem LkB.mark {k : Nat} {s : PSt} (h : LkB k s) (hk : k < s.small.length) (hl : s.looked.length = s.small.length) : LkB (k + 1) (s.mark k) := by
  refine ⟨hk, fun i hi => ?_⟩
  show (s.looked.set k true).getD i true = _
  have h1 := h.lk i hi
  rw [List.getD_eq_getElem?_getD] at h1 ⊢
  by_cases hik : k = i
  · subst hik
    rw [List.getElem?_set_self (by omega)]
    simp
  · rw [List.getElem?_set_ne hik, h1]
    exact decide_eq_decide.2 (by omega)
theorem sim_breadth {g : Gr} (lim blk : Int) : SimN g lim 0 blk (nxB g lim) (GB g) := by
  have hnext : ∀ s, nextS 0 blk s = firstS (fun _ => true) s := fun s => by unfold nextS; rw [if_neg (by simp)]
  refine ⟨fun q h => h.ok, fun q h hn => ?_, fun q i h hn => ?_⟩
  · have hl := lkB_look (lim := lim) h
    have hW := (look_ok (lim := lim) h.ok).1
    rw [hnext, first_k hl] at hn
    have hk : ¬ q.k < (allS g lim q).small.length := fun hk => by rw [if_pos hk] at hn; cases hn
    have hfq : firstQ g lim q = (none, allQ g lim q) := by unfold firstQ; rw [if_pos (by have := hl.le; omega)]
    have hnx : nxB g lim q = (none, allQ g lim q) := by unfold nxB; rw [hfq]
    rw [hnx]
    refine ⟨rfl, rfl, rfl, fun l hol => ⟨follow_ok rfl ?_ hol, ?_⟩⟩
    · exact ⟨hW.nodup, hW.rng, hW.rch, hW.lk, hW.bg, fun x hx => hW.pl x (List.dropLast_subset _ hx), hW.pn.sublist (List.dropLast_sublist _)⟩
    · exact ⟨hl.le, hl.lk⟩
  · have hl := lkB_look (lim := lim) h
    have hW := (look_ok (lim := lim) h.ok).1
    rw [hnext, first_k hl] at hn
    have hk : q.k < (allS g lim q).small.length := by
      refine Classical.byContradiction fun hk => ?_
      rw [if_neg hk] at hn; cases hn
    rw [if_pos hk] at hn
    obtain rfl := Option.some.inj hn
    have hfq : firstQ g lim q = (some ((allS g lim q).small.getD q.k 0), { allQ g lim q with k := q.k + 1 }) := by unfold firstQ; rw [if_neg (by omega)]
    have hnx : nxB g lim q = (some ((allS g lim q).small.getD q.k 0), { allQ g lim q with k := q.k + 1, s := (allS g lim q).mark q.k }) := by unfold nxB; rw [hfq]; rfl
    rw [hnx]
    exact ⟨rfl, rfl, rfl, fun l hol => ⟨follow_ok rfl (hW.mark _) hol, hl.mark hk hW.lk⟩⟩
theorem gb_start {g : Gr} (hg : grOk g = true) : GB g (followQ q0 g.rt) := ⟨follow_ok (q := q0) rfl (none_wf g) (rt_ok hg), ⟨Nat.le_refl _, fun i hi => absurd hi (Nat.not_lt_zero i)⟩⟩
theorem run_breadth {g : Gr} (lim blk : Int) (hg : grOk g = true) : ∃ m e, RunQ g (nxB g lim) (GB g) m (followQ q0 g.rt) e ∧ e.s = planS g lim 0 blk :=
  sim_plan hg (by decide) (sim_breadth lim blk) (gb_start hg)

/-! ### Depth -/
def nxD (g : Gr) (lim : Int) (q : QSt) : Option Int × QSt :=
  match freshQ g lim q.ah q.s with
  | (some x, a, s) => (some x, { q with ah := a, s := s.mark (s.small.length - 1) })
  | (none, a, s) => (none, { q with ah := a, s := s })
/-- References followed at once, and those that they lead to. -/
inductive Dp (g : Gr) (lim : Int) : List Int → PSt → PSt → Prop
  | nil {s : PSt} : Dp g lim [] s s
  | skip {x : Int} {a : List Int} {s t : PSt} : meetB g lim (2, x) s = false → Dp g lim a (meetS g lim (2, x) s) t → Dp g lim (x :: a) s t
  | take {x : Int} {a : List Int} {s t : PSt} : meetB g lim (2, x) s = true → Dp g lim (refsOf (fsAt g x) ++ a) ((meetS g lim (2, x) s).mark s.small.length) t → Dp g lim (x :: a) s t
/-- What stands at each state of a depth-first run: how much is ahead is bounded by what was looked at. -/
structure GD (g : Gr) (q : QSt) : Prop where
  ok : Okq g q
  ah : q.ah.length ≤ g.rt.length + 4096 * cntS q.s
theorem refs_len (l : List Sp) : (refsOf l).length ≤ l.length := by unfold refsOf; rw [List.length_map]; exact List.length_filter_le _ _
theorem meetB_step {g : Gr} {lim x : Int} {s : PSt} (h : Wf g s) (hx : (0 ≤ x ∧ x < (g.nd.length : Int)) ∧ Rch g x) (hb : meetB g lim (2, x) s = true) :
    Wf g ((meetS g lim (2, x) s).mark s.small.length) ∧ (meetS g lim (2, x) s).small.length - 1 = s.small.length ∧ cntS ((meetS g lim (2, x) s).mark s.small.length) = cntS s + 1 := by
  obtain ⟨m1, m2, m3, m4, m5⟩ := meet_wf (lim := lim) (v := (2, x)) h fun _ => hx
  obtain ⟨e1, e2, -⟩ := m5 hb
  refine ⟨m1.mark _, by rw [e1]; simp, ?_⟩
  have hlg : (meetS g lim (2, x) s).large = s.large ∧ (meetS g lim (2, x) s).pile = s.pile := by
    unfold meetB at hb
    unfold meetS
    simp only [Bool.and_eq_true, Bool.not_eq_true', decide_eq_false_iff_not] at hb
    rw [if_pos hb.1, if_neg hb.2]
    exact ⟨rfl, rfl⟩
  unfold cntS PSt.mark
  simp only [hlg.1, hlg.2, e2]
  have : (s.looked ++ [false]).set s.small.length true = s.looked ++ [true] := by rw [← h.lk]; simp
  rw [this, List.countP_append]
  simp only [List.countP_cons, List.countP_nil, id_eq, if_pos]
  omega
theorem meetS_cnt {g : Gr} {lim x : Int} {s : PSt} (hb : meetB g lim (2, x) s = false) (h : Wf g s) : cntS (meetS g lim (2, x) s) = cntS s := by
  unfold meetB at hb
  unfold meetS
  by_cases hn : newS (2, x) s = true
  · rw [hn] at hb
    have hl : lim < ndSz (ndAt g x) := by simpa using hb
    rw [if_pos hn, if_pos hl]
    unfold cntS
    have := h.pile_le
    simp
  · rw [if_neg hn]
theorem run_nx {g : Gr} {nx : QSt → Option Int × QSt} {G : QSt → Prop} {m : Nat} {q q1 e : QSt} (h : RunQ g nx G m q1 e) (hn : nx q = nx q1) (hG : G q) : RunQ g nx G m q e := by
  cases h with
  | stop h0 h1 h2 => rw [← hn] at h1 h2 ⊢; exact .stop hG h1 h2
  | small h0 h1 h2 h3 h4 => rw [← hn] at h1 h3 h4; exact .small hG h1 h2 h3 h4
  | large h0 h1 h2 h3 h4 h5 => rw [← hn] at h1 h2 h4 h5; exact .large hG h1 h2 h3 h4 h5
/-- A run goes on where references have been followed. -/
theorem dp_run {g : Gr} {lim : Int} (hg : grOk g = true) (hN : g.nd.length ≤ 1000000) (hR : g.rt.length ≤ 1000000) (F : PSt) {a : List Int} {s t : PSt} (hd : Dp g lim a s t)
    (hend : ∀ q', q'.ah = [] → q'.s = t → GD g q' → ∃ m e, RunQ g (nxD g lim) (GD g) m q' e ∧ e.s = F) : ∀ q, q.ah = a → q.s = s → GD g q → ∃ m e, RunQ g (nxD g lim) (GD g) m q e ∧ e.s = F := by
  induction hd with
  | nil => exact hend
  | @skip x a s t hb hd ih =>
    intro q ha hs hG
    have hok : Okq g { q with ah := x :: a, s := s } := by rw [← ha, ← hs]; exact hG.ok
    obtain ⟨m, e, hr, he⟩ := ih hend { q with ah := a, s := meetS g lim (2, x) s } rfl rfl ⟨hok.meet, by
      have h1 := hG.ah
      rw [ha, hs] at h1
      show a.length ≤ g.rt.length + 4096 * cntS (meetS g lim (2, x) s)
      rw [meetS_cnt hb hok.wf]
      simp only [List.length_cons] at h1
      omega⟩
    refine ⟨m, e, run_nx hr ?_ hG, he⟩
    unfold nxD
    rw [ha, hs, freshQ, hb]
    rfl
  | @take x a s t hb hd ih =>
    intro q ha hs hG
    have hok : Okq g { q with ah := x :: a, s := s } := by rw [← ha, ← hs]; exact hG.ok
    have hx := hok.ah x (List.mem_cons_self ..)
    have hwf : Wf g s := hok.wf
    obtain ⟨w2, hlen, hcnt⟩ := meetB_step hwf hx hb
    have h1 := hG.ah
    rw [ha, hs] at h1
    simp only [List.length_cons] at h1
    have hcN := w2.cnt
    have hfl := fs_len17 hg hx.1
    have hrl := refs_len (fsAt g x)
    have hnx : nxD g lim q = (some x, { q with ah := a, s := (meetS g lim (2, x) s).mark s.small.length }) := by
      unfold nxD
      rw [ha, hs, freshQ, if_pos hb]
      simp only
      rw [hlen]
    have hfs := fs_ok hg hx.2 hx.1
    obtain ⟨m, e, hr, he⟩ := ih hend (followQ { q with ah := a, s := (meetS g lim (2, x) s).mark s.small.length } (fsAt g x)) rfl rfl ⟨⟨w2, fun y hy => by
        rcases List.mem_append.1 (show y ∈ refsOf (fsAt g x) ++ a from hy) with h | h
        · exact okl_refs hfs y h
        · exact hok.ah y (List.mem_cons_of_mem _ h)⟩, by
      show (refsOf (fsAt g x) ++ a).length ≤ g.rt.length + 4096 * cntS ((meetS g lim (2, x) s).mark s.small.length)
      rw [hcnt, List.length_append]
      omega⟩
    refine ⟨m + 1, e, RunQ.small hG (by rw [hnx]) hx.1 ?_ (by rw [hnx]; exact hr), he⟩
    rw [hnx]
    show (fsAt g x).length + a.length ≤ _
    omega
theorem look_dp {g : Gr} {lim : Int} (hg : grOk g = true) : ∀ (n : Nat) (l : List Sp) (s : PSt) (rest : List Int) (t : PSt), Wf g s → Okl g l → g.nd.length ≤ n + s.met.length → Dp g lim rest (lookD g lim n l s) t → Dp g lim (refsOf l ++ rest) s t := by
  intro n
  induction n with
  | zero =>
    intro l
    induction l with
    | nil => intro s rest t _ _ _ h; rw [lookD] at h; exact h
    | cons v l ih =>
      intro s rest t hw ho hf h
      obtain ⟨m1, m2, m3, m4, m5⟩ := meet_wf (lim := lim) hw (ho v (List.mem_cons_self ..))
      have hb : meetB g lim v s = false := by
        cases hb : meetB g lim v s with
        | false => rfl
        | true =>
          obtain ⟨e1, -⟩ := m5 hb
          have h1 := m1.room
          have h2 := m2.lg.length_le
          rw [met_len, e1] at h1
          rw [met_len] at hf
          simp at h1
          omega
      rw [lookD] at h
      have ih1 := ih (meetS g lim v s) rest t m1 (fun u hu => ho u (List.mem_cons_of_mem _ hu)) (by have := m2.len; omega) h
      obtain ⟨k, x⟩ := v
      by_cases hk : k = 2
      · subst hk
        have : refsOf ((2, x) :: l) = x :: refsOf l := by simp [refsOf]
        rw [this]
        exact .skip hb ih1
      · have : refsOf ((k, x) :: l) = refsOf l := by simp [refsOf, hk]
        rw [this]
        have hs : meetS g lim (k, x) s = s := by unfold meetS newS; simp [hk]
        rw [hs] at ih1
        exact ih1
  | succ n ihn =>
    intro l
    induction l with
    | nil => intro s rest t _ _ _ h; rw [lookD] at h; exact h
    | cons v l ih =>
      intro s rest t hw ho hf h
      obtain ⟨m1, m2, m3, m4, m5⟩ := meet_wf (lim := lim) hw (ho v (List.mem_cons_self ..))
      obtain ⟨k, x⟩ := v
      by_cases hk : k = 2
      · subst hk
        have hrf : refsOf ((2, x) :: l) = x :: refsOf l := by simp [refsOf]
        rw [hrf]
        rw [lookD] at h
        cases hb : meetB g lim (2, x) s with
        | false =>
          rw [hb, if_neg (by simp)] at h
          exact .skip hb (ih _ rest t m1 (fun u hu => ho u (List.mem_cons_of_mem _ hu)) (by have := m2.len; omega) h)
        | true =>
          rw [hb, if_pos rfl] at h
          have hx : (0 ≤ x ∧ x < (g.nd.length : Int)) ∧ Rch g x := ho (2, x) (List.mem_cons_self ..) rfl
          obtain ⟨w2, hlen, hcnt⟩ := meetB_step hw hx hb
          obtain ⟨e1, e2, -⟩ := m5 hb
          have hl2 : s.met.length + 1 ≤ ((meetS g lim (2, x) s).mark s.small.length).met.length := by
            have h3 := m2.lg.length_le
            have h4 : ((meetS g lim (2, x) s).mark s.small.length).met.length = (meetS g lim (2, x) s).met.length := rfl
            have h5 : (s.small ++ [x]).length = s.small.length + 1 := by simp
            rw [h4, met_len, met_len, e1, h5]
            omega
          have hfs := fs_ok hg hx.2 hx.1
          obtain ⟨p1, p2, -, -⟩ := lookD_wf (lim := lim) hg n (fsAt g x) _ w2 hfs (by omega)
          refine .take hb (ihn (fsAt g x) _ (refsOf l ++ rest) t w2 hfs (by omega) ?_)
          exact ih _ rest t p1 (fun u hu => ho u (List.mem_cons_of_mem _ hu)) (by have := p2.len; omega) h
      · have hrf : refsOf ((k, x) :: l) = refsOf l := by simp [refsOf, hk]
        have hs : meetS g lim (k, x) s = s := by unfold meetS newS; simp [hk]
        have hb : meetB g lim (k, x) s = false := by unfold meetB newS; simp [hk]
        rw [hrf]
        rw [lookD, hb, if_neg (by simp), hs] at h
        exact ih s rest t hw (fun u hu => ho u (List.mem_cons_of_mem _ hu)) (by omega) h
def LkD (s : PSt) : Prop := ∀ i, i < s.small.length → s.looked.getD i true = true
theorem lkD_look {g : Gr} {lim : Int} (hg : grOk g = true) {s : PSt} {l : List Sp} (hw : Wf g s) (ho : Okl g l) (hl : LkD s) : Wf g (lookO g lim 1 l s) ∧ LkD (lookO g lim 1 l s) := by
  unfold lookO
  rw [if_pos rfl]
  obtain ⟨h1, h2, h3, h4⟩ := lookD_wf (lim := lim) hg (g.nd.length + 1) l s hw ho (by omega)
  refine ⟨h1, fun i hi => ?_⟩
  rcases Nat.lt_or_ge i s.small.length with h' | h'
  · have hlt : i < s.looked.length := by rw [hw.lk]; exact h'
    have e1 : s.looked[i]? = some s.looked[i] := List.getElem?_eq_getElem hlt
    have e2 := hl i h'
    rw [List.getD_eq_getElem?_getD, e1] at e2
    rw [List.getD_eq_getElem?_getD, pre_at h2.lk e1]
    exact e2
  · rw [List.getD_eq_getElem?_getD, (h4 i h' hi).1]; rfl
theorem next_depth {blk : Int} {s : PSt} (h : LkD s) : nextS 1 blk s = none := by
  unfold nextS
  rw [if_neg (by simp)]
  unfold firstS
  simp only
  rw [List.find?_eq_none]
  intro j hj
  rw [h j (List.mem_range.1 hj)]
  simp
theorem depth_run {g : Gr} {lim blk : Int} (hg : grOk g = true) (hN : g.nd.length ≤ 1000000) (hR : g.rt.length ≤ 1000000) : ∀ (n : Nat) (s : PSt), Wf g s → LkD s → stepS g lim 1 blk (runS g lim 1 blk n s) = none →
    ∀ q, q.ah = [] → q.s = s → GD g q → ∃ m e, RunQ g (nxD g lim) (GD g) m q e ∧ e.s = runS g lim 1 blk n s := by
  intro n
  induction n with
  | zero =>
    intro s hw hl e q ha hs hG
    have hnx : nxD g lim q = (none, q) := by unfold nxD; rw [ha, hs]; rw [freshQ]; simp only; rw [← ha, ← hs]
    rw [runS] at e ⊢
    unfold stepS at e
    rw [next_depth hl] at e
    cases hp : s.pile.getLast? with
    | some k => rw [hp] at e; cases e
    | none =>
      refine ⟨0, _, RunQ.stop hG (by rw [hnx]) (by rw [hnx]; simp only; rw [hs]; exact hp), ?_⟩
      rw [hnx]
      unfold offQ
      simp only
      have hnil := List.getLast?_eq_none_iff.1 hp
      rw [hs, hnil]
      show ({ s with pile := [] } : PSt) = _
      rw [← hnil]
  | succ n ih =>
    intro s hw hl e q ha hs hG
    have hnx : nxD g lim q = (none, q) := by unfold nxD; rw [ha, hs]; rw [freshQ]; simp only; rw [← ha, ← hs]
    rw [runS] at e ⊢
    cases hp : s.pile.getLast? with
    | none =>
      have hst : stepS g lim 1 blk s = none := by unfold stepS; rw [next_depth hl, hp]
      rw [hst]
      refine ⟨0, _, RunQ.stop hG (by rw [hnx]) (by rw [hnx]; simp only; rw [hs]; exact hp), ?_⟩
      rw [hnx]
      unfold offQ
      simp only
      have hnil := List.getLast?_eq_none_iff.1 hp
      rw [hs, hnil]
      show ({ s with pile := [] } : PSt) = _
      rw [← hnil]
    | some k =>
      have hst : stepS g lim 1 blk s = some (lookO g lim 1 (fsAt g k) { s with pile := s.pile.dropLast }) := by unfold stepS; rw [next_depth hl, hp]
      rw [hst] at e ⊢
      simp only at e ⊢
      have hkp : k ∈ s.pile := List.mem_of_getLast? hp
      have hmem : k ∈ s.met := List.mem_append.2 (.inr (hw.pl _ hkp))
      have hr := hw.rng _ hmem
      have hw0 : Wf g { s with pile := s.pile.dropLast } := ⟨hw.nodup, hw.rng, hw.rch, hw.lk, hw.bg, fun x hx => hw.pl x (List.dropLast_subset _ hx), hw.pn.sublist (List.dropLast_sublist _)⟩
      have hfs := fs_ok hg (hw.rch _ hmem) hr
      obtain ⟨w1, l1⟩ := lkD_look (lim := lim) hg hw0 hfs hl
      have hcnt : cntS { s with pile := s.pile.dropLast } = cntS s + 1 := by
        have h3 := hw.pile_le
        have h4 : 0 < s.pile.length := List.length_pos_of_mem hkp
        unfold cntS
        simp
        omega
      have hdp : Dp g lim (refsOf (fsAt g k) ++ []) { s with pile := s.pile.dropLast } (lookO g lim 1 (fsAt g k) { s with pile := s.pile.dropLast }) := by
        refine look_dp hg (g.nd.length + 1) (fsAt g k) _ [] _ hw0 hfs (by omega) ?_
        unfold lookO
        rw [if_pos rfl]
        exact .nil
      have hfl := fs_len17 hg hr
      have hrl := refs_len (fsAt g k)
      obtain ⟨m, e', hrun, he⟩ := dp_run hg hN hR _ hdp (fun q' ha' hs' hG' => ih _ w1 l1 e q' ha' hs' hG') (followQ (offQ q) (fsAt g k)) (by unfold followQ withAh offQ; simp only [ha]) (by show (offQ q).s = _; unfold offQ; simp only [hs]) ⟨follow_ok (q := offQ q) ha (by show Wf g (offQ q).s; unfold offQ; simp only [hs]; exact hw0) hfs, by
        show (refsOf (fsAt g k) ++ (offQ q).ah).length ≤ g.rt.length + 4096 * cntS (offQ q).s
        have e1 : (offQ q).s = { s with pile := s.pile.dropLast } := by unfold offQ; simp only [hs]
        have e2 : (offQ q).ah = [] := ha
        rw [e1, e2, hcnt]
        simp only [List.append_nil]
        omega⟩
      refine ⟨m + 1, e', RunQ.large hG (by rw [hnx]) (by rw [hnx]; simp only; rw [hs]; exact hp) hr ?_ (by rw [hnx]; exact hrun), he⟩
      rw [hnx]
      show (fsAt g k).length + q.ah.length ≤ _
      rw [ha]; simp; omega
theorem run_depth {g : Gr} (lim blk : Int) (hg : grOk g = true) (hN : g.nd.length ≤ 1000000) (hR : g.rt.length ≤ 1000000) : ∃ m e, RunQ g (nxD g lim) (GD g) m (followQ q0 g.rt) e ∧ e.s = planS g lim 1 blk := by
  obtain ⟨h1, h2⟩ := start_wf lim 1 hg
  obtain ⟨w, c, e⟩ := run_wf (block := blk) hg (g.nd.length + 1) _ h1 h2 (by omega)
  obtain ⟨w1, l1⟩ := lkD_look (lim := lim) hg (none_wf g) (rt_ok hg) (fun i hi => absurd hi (Nat.not_lt_zero i))
  have hdp : Dp g lim (refsOf g.rt ++ []) .none (lookO g lim 1 g.rt .none) := by
    refine look_dp hg (g.nd.length + 1) g.rt _ [] _ (none_wf g) (rt_ok hg) (by omega) ?_
    unfold lookO
    rw [if_pos rfl]
    exact .nil
  have hrl := refs_len g.rt
  exact dp_run hg hN hR _ hdp (fun q' ha' hs' hG' => depth_run hg hN hR (g.nd.length + 1) _ w1 l1 e q' ha' hs' hG') (followQ q0 g.rt) rfl rfl ⟨follow_ok (q := q0) rfl (none_wf g) (rt_ok hg), by
    show (refsOf g.rt ++ []).length ≤ g.rt.length + 4096 * cntS .none
    simp only [List.append_nil]
    omega⟩
end Go.Proofs.Ytkjdnccnfnhkoaa
