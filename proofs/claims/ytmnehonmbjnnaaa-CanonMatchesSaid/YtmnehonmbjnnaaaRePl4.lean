/- The program's runs are the document's plans: what is looked at next, what is met. No program walked in it. -/
import Derived.Test.YtmnehonmbjnnaaaRePl3
import Derived.Carry
namespace Go.Proofs.Ytmnehonmbjnnaaa
open Go.RowKit
set_option linter.unusedVariables false

def q0 : QSt := ⟨.none, [], 0, fun _ => [], [], 0, 0, 0⟩
theorem lookW_refs {g : Gr} {lim : Int} : ∀ (l : List Sp) (s : PSt), lookW g lim (refL (refsOf l)) s = lookW g lim l s
  | [], s => rfl
  | (a, x) :: l, s => by
    by_cases h : a = 2
    · subst h
      have : refL (refsOf ((2, x) :: l)) = (2, x) :: refL (refsOf l) := by simp [refL, refsOf]
      rw [this]
      exact lookW_refs l _
    · have : refL (refsOf ((a, x) :: l)) = refL (refsOf l) := by simp [refL, refsOf, h]
      rw [this, lookW_refs l s]
      have hn : newS (a, x) s = false := by unfold newS; simp [h]
      show _ = lookW g lim l (meetS g lim (a, x) s)
      rw [show meetS g lim (a, x) s = s by unfold meetS; rw [hn]; exact if_neg (by simp)]
theorem okl_refs {g : Gr} {l : List Sp} (h : Okl g l) : ∀ x ∈ refsOf l, (0 ≤ x ∧ x < (g.nd.length : Int)) ∧ Rch g x := by
  intro x hx
  unfold refsOf at hx
  obtain ⟨v, hv, rfl⟩ := List.mem_map.1 hx
  obtain ⟨h1, h2⟩ := List.mem_filter.1 hv
  exact h v h1 (by simpa using h2)
theorem all_follow {g : Gr} {lim : Int} {q : QSt} (h : q.ah = []) (l : List Sp) : allS g lim (followQ q l) = lookW g lim l q.s := by
  unfold allS followQ withAh
  simp only [h, List.append_nil]
  exact lookW_refs l _
theorem follow_ok {g : Gr} {q : QSt} (h : q.ah = []) (hw : Wf g q.s) {l : List Sp} (hl : Okl g l) : Okq g (followQ q l) :=
  ⟨hw, fun x hx => okl_refs hl x (by simpa [followQ, withAh, h] using hx)⟩
theorem fs_len17 {g : Gr} (hg : grOk g = true) {x : Int} (hx : 0 ≤ x ∧ x < (g.nd.length : Int)) : (fsAt g x).length ≤ 4096 := by
  have hlt : x.toNat < g.nd.length := by omega
  have hm : ndAt g x ∈ g.nd := by
    unfold ndAt
    rw [List.getD_eq_getElem?_getD, List.getElem?_eq_getElem hlt]
    exact List.getElem_mem hlt
  exact (ndOk_iff.1 ((grOk_iff.1 hg).1 _ hm)).2.1
/-- What tells the next one tells the document's. -/
structure SimN (g : Gr) (lim order blk : Int) (nx : QSt → Option Int × QSt) (G : QSt → Prop) : Prop where
  ok : ∀ q, G q → Okq g q
  none : ∀ q, G q → nextS order blk (allS g lim q) = none → (nx q).1 = none ∧ (nx q).2.s = allS g lim q ∧ (nx q).2.ah = [] ∧ ∀ l, Okl g l → G (followQ (offQ (nx q).2) l)
  some : ∀ q i, G q → nextS order blk (allS g lim q) = some i → (nx q).1 = some ((allS g lim q).small.getD i 0) ∧ (nx q).2.s = (allS g lim q).mark i ∧ (nx q).2.ah = [] ∧ ∀ l, Okl g l → G (followQ (nx q).2 l)
theorem sim_stop {g : Gr} {lim order blk : Int} {nx : QSt → Option Int × QSt} {G : QSt → Prop} (S : SimN g lim order blk nx G) {q : QSt} (h : G q) (e : stepS g lim order blk (allS g lim q) = none) : ∃ m e, RunQ g nx G m q e ∧ e.s = allS g lim q := by
  unfold stepS at e
  cases hn : nextS order blk (allS g lim q) with
  | some i => rw [hn] at e; cases e
  | none =>
    rw [hn] at e
    cases hp : (allS g lim q).pile.getLast? with
    | some k => rw [hp] at e; cases e
    | none =>
      obtain ⟨h1, h2, h3, -⟩ := S.none q h hn
      refine ⟨0, _, RunQ.stop h h1 (by rw [h2]; exact hp), ?_⟩
      have hnil := List.getLast?_eq_none_iff.1 hp
      unfold offQ
      simp only [h2]
      rw [hnil]
      show ({ allS g lim q with pile := [] } : PSt) = _
      rw [← hnil]
theorem sim_run {g : Gr} {lim order blk : Int} {nx : QSt → Option Int × QSt} {G : QSt → Prop} (hg : grOk g = true) (ho : order ≠ 1) (S : SimN g lim order blk nx G) : ∀ (n : Nat) (q : QSt), G q → stepS g lim order blk (runS g lim order blk n (allS g lim q)) = none →
    ∃ m e, RunQ g nx G m q e ∧ e.s = runS g lim order blk n (allS g lim q)
  | 0, q, h, e => sim_stop S h e
  | n + 1, q, h, e => by
    have hW := (look_ok (lim := lim) (S.ok q h)).1
    rw [runS] at e ⊢
    cases hs : stepS g lim order blk (allS g lim q) with
    | none => rw [hs] at e; exact sim_stop S h hs
    | some s' =>
      rw [hs] at e
      simp only at e ⊢
      unfold stepS at hs
      have hlook : ∀ l s, lookO g lim order l s = lookW g lim l s := fun l s => by unfold lookO; exact if_neg ho
      cases hn : nextS order blk (allS g lim q) with
      | some i =>
        rw [hn] at hs
        simp only [hlook] at hs
        obtain ⟨h1, h2, h3, h4⟩ := S.some q i h hn
        have hlt := (next_some hn).1
        have hmem : (allS g lim q).small.getD i 0 ∈ (allS g lim q).met := by
          rw [List.getD_eq_getElem?_getD, List.getElem?_eq_getElem hlt]
          exact List.mem_append.2 (.inl (List.getElem_mem hlt))
        have hr := hW.rng _ hmem
        have hall : allS g lim (followQ (nx q).2 (fsAt g ((allS g lim q).small.getD i 0))) = s' := by
          rw [all_follow h3, h2]
          exact Option.some.inj hs
        obtain ⟨m, e', hrun, he⟩ := sim_run hg ho S n (followQ (nx q).2 (fsAt g ((allS g lim q).small.getD i 0))) (h4 _ (fs_ok hg (hW.rch _ hmem) hr)) (by rw [hall]; exact e)
        rw [hall] at he
        exact ⟨m + 1, e', RunQ.small h h1 hr (by rw [h3]; exact Nat.le_trans (Nat.add_le_add_right (fs_len17 hg hr) _) (by simp)) hrun, he⟩
      | none =>
        rw [hn] at hs
        simp only [hlook] at hs
        cases hp : (allS g lim q).pile.getLast? with
        | none => rw [hp] at hs; cases hs
        | some k =>
          rw [hp] at hs
          obtain ⟨h1, h2, h3, h4⟩ := S.none q h hn
          have hkp : k ∈ (allS g lim q).pile := List.mem_of_getLast? hp
          have hmem : k ∈ (allS g lim q).met := List.mem_append.2 (.inr (hW.pl _ hkp))
          have hr := hW.rng _ hmem
          have hall : allS g lim (followQ (offQ (nx q).2) (fsAt g k)) = s' := by
            rw [all_follow (q := offQ (nx q).2) h3]
            unfold offQ
            simp only [h2]
            exact Option.some.inj hs
          obtain ⟨m, e', hrun, he⟩ := sim_run hg ho S n (followQ (offQ (nx q).2) (fsAt g k)) (h4 _ (fs_ok hg (hW.rch _ hmem) hr)) (by rw [hall]; exact e)
          rw [hall] at he
          refine ⟨m + 1, e', RunQ.large h h1 (by rw [h2]; exact hp) hr ?_ hrun, he⟩
          show (fsAt g k).length + (nx q).2.ah.length ≤ _
          rw [h3]; exact Nat.le_trans (Nat.add_le_add_right (fs_len17 hg hr) _) (by simp)
theorem sim_plan {g : Gr} {lim order blk : Int} {nx : QSt → Option Int × QSt} {G : QSt → Prop} (hg : grOk g = true) (ho : order ≠ 1) (S : SimN g lim order blk nx G) (h0 : G (followQ q0 g.rt)) :
    ∃ m e, RunQ g nx G m (followQ q0 g.rt) e ∧ e.s = planS g lim order blk := by
  have hall : allS g lim (followQ q0 g.rt) = lookO g lim order g.rt .none := by
    rw [all_follow (q := q0) rfl]
    unfold lookO
    rw [if_neg ho]; rfl
  obtain ⟨h1, h2⟩ := start_wf lim order hg
  obtain ⟨w, c, e⟩ := run_wf (block := blk) hg (g.nd.length + 1) _ h1 h2 (by omega)
  obtain ⟨m, e', hrun, he⟩ := sim_run hg ho S (g.nd.length + 1) _ h0 (by rw [hall]; exact e)
  rw [hall] at he
  exact ⟨m, e', hrun, he⟩

/-! ### Breadth -/
def nxB (g : Gr) (lim : Int) (q : QSt) : Option Int × QSt :=
  match firstQ g lim q with
  | (some i, q') => (some i, { q' with s := q'.s.mark q.k })
  | (none, q') => (none, q')
/-- The first k were looked at. -/
structure LkB (k : Nat) (s : PSt) : Prop where
  le : k ≤ s.small.length
  lk : ∀ i, i < s.small.length → s.looked.getD i true = decide (i < k)
structure GB (g : Gr) (q : QSt) : Prop where
  ok : Okq g q
  lk : LkB q.k q.s
theorem lkB_look {g : Gr} {lim : Int} {q : QSt} (h : GB g q) : LkB q.k (allS g lim q) := by
  have hl : Okl g (refL q.ah) := fun v hv h2 => by
    unfold refL at hv
    obtain ⟨x, hx, rfl⟩ := List.mem_map.1 hv
    exact h.ok.ah x hx
  obtain ⟨w, x, -, hn⟩ := lookW_wf (lim := lim) (refL q.ah) q.s h.ok.wf hl
  refine ⟨Nat.le_trans h.lk.le x.sm.length_le, fun i hi => ?_⟩
  rcases Nat.lt_or_ge i q.s.small.length with h' | h'
  · have hlt : i < q.s.looked.length := by rw [h.ok.wf.lk]; exact h'
    have e1 : q.s.looked[i]? = some q.s.looked[i] := List.getElem?_eq_getElem hlt
    have e2 := h.lk.lk i h'
    rw [List.getD_eq_getElem?_getD, e1] at e2
    rw [List.getD_eq_getElem?_getD]
    unfold allS
    rw [pre_at x.lk e1]
    exact e2
  · have hlt : i < (lookW g lim (refL q.ah) q.s).looked.length := by rw [w.lk]; exact hi
    have h3 := hn i h'
    rw [List.getD_eq_getElem?_getD]
    unfold allS
    rw [List.getElem?_eq_getElem hlt] at h3 ⊢
    have hk := h.lk.le
    rw [decide_eq_false (by omega)]
    cases hh : (lookW g lim (refL q.ah) q.s).looked[i] with
    | true => rw [hh] at h3; exact absurd rfl h3
    | false => rfl
theorem first_k {k : Nat} {s : PSt} (h : LkB k s) : firstS (fun _ => true) s = if k < s.small.length then some k else none := by
  unfold firstS
  by_cases hk : k < s.small.length
  · rw [if_pos hk, List.find?_range_eq_some]
    refine ⟨by rw [h.lk k hk]; simp, List.mem_range.2 hk, fun j hj => ?_⟩
    rw [h.lk j (by omega)]
    simp [hj]
  · rw [if_neg hk, List.find?_eq_none]
    intro j hj
    have := List.mem_range.1 hj
    rw [h.lk j this]
    simp; omega
theorem LkB.mark {k : Nat} {s : PSt} (h : LkB k s) (hk : k < s.small.length) (hl : s.looked.length = s.small.length) : LkB (k + 1) (s.mark k) := by
  refine ⟨hk, fun i hi => ?_⟩
  show (s.looked.set k true).getD i true = _
  have h1 := h.lk i hi
  rw [List.getD_eq_getElem?_getD] at h1 ⊢
  by_cases hik : k = i
  · subst hik
    rw [List.getElem?_set_self (by omega)]
    simp
  · rw [List.getElem?_set_ne hik, h1]
    exact decide_eq_decide.2 (by omega)
theorem sim_breadth {g : Gr} (lim blk : Int) : SimN g lim 0 blk (nxB g lim) (GB g) := by
  have hnext : ∀ s, nextS 0 blk s = firstS (fun _ => true) s := fun s => by unfold nextS; rw [if_neg (by simp)]
  refine ⟨fun q h => h.ok, fun q h hn => ?_, fun q i h hn => ?_⟩
  · have hl := lkB_look (lim := lim) h
    have hW := (look_ok (lim := lim) h.ok).1
    rw [hnext, first_k hl] at hn
    have hk : ¬ q.k < (allS g lim q).small.length := fun hk => by rw [if_pos hk] at hn; cases hn
    have hfq : firstQ g lim q = (none, allQ g lim q) := by unfold firstQ; rw [if_pos (by have := hl.le; omega)]
    have hnx : nxB g lim q = (none, allQ g lim q) := by unfold nxB; rw [hfq]
    rw [hnx]
    refine ⟨rfl, rfl, rfl, fun l hol => ⟨follow_ok rfl ?_ hol, ?_⟩⟩
    · exact ⟨hW.nodup, hW.rng, hW.rch, hW.lk, hW.bg, fun x hx => hW.pl x (List.dropLast_subset _ hx), hW.pn.sublist (List.dropLast_sublist _)⟩
    · exact ⟨hl.le, hl.lk⟩
  · have hl := lkB_look (lim := lim) h
    have hW := (look_ok (lim := lim) h.ok).1
    rw [hnext, first_k hl] at hn
    have hk : q.k < (allS g lim q).small.length := by
      refine Classical.byContradiction fun hk => ?_
      rw [if_neg hk] at hn; cases hn
    rw [if_pos hk] at hn
    obtain rfl := Option.some.inj hn
    have hfq : firstQ g lim q = (some ((allS g lim q).small.getD q.k 0), { allQ g lim q with k := q.k + 1 }) := by unfold firstQ; rw [if_neg (by omega)]
    have hnx : nxB g lim q = (some ((allS g lim q).small.getD q.k 0), { allQ g lim q with k := q.k + 1, s := (allS g lim q).mark q.k }) := by unfold nxB; rw [hfq]; rfl
    rw [hnx]
    exact ⟨rfl, rfl, rfl, fun l hol => ⟨follow_ok rfl (hW.mark _) hol, hl.mark hk hW.lk⟩⟩
theorem gb_start {g : Gr} (hg : grOk g = true) : GB g (followQ q0 g.rt) := ⟨follow_ok (q := q0) rfl (none_wf g) (rt_ok hg), ⟨Nat.le_refl _, fun i hi => absurd hi (Nat.not_lt_zero i)⟩⟩
theorem run_breadth {g : Gr} (lim blk : Int) (hg : grOk g = true) : ∃ m e, RunQ g (nxB g lim) (GB g) m (followQ q0 g.rt) e ∧ e.s = planS g lim 0 blk :=
  sim_plan hg (by decide) (sim_breadth lim blk) (gb_start hg)

/-! ### Depth -/
def nxD (g : Gr) (lim : Int) (q : QSt) : Option Int × QSt :=
  match freshQ g lim q.ah q.s with
  | (some x, a, s) => (some x, { q with ah := a, s := s.mark (s.small.length - 1) })
  | (none, a, s) => (none, { q with ah := a, s := s })
/-- References followed at once, and those that they lead to. -/
inductive Dp (g : Gr) (lim : Int) : List Int → PSt → PSt → Prop
  | nil {s : PSt} : Dp g lim [] s s
  | skip {x : Int} {a : List Int} {s t : PSt} : meetB g lim (2, x) s = false → Dp g lim a (meetS g lim (2, x) s) t → Dp g lim (x :: a) s t
  | take {x : Int} {a : List Int} {s t : PSt} : meetB g lim (2, x) s = true → Dp g lim (refsOf (fsAt g x) ++ a) ((meetS g lim (2, x) s).mark s.small.length) t → Dp g lim (x :: a) s t
/-- What stands at each state of a depth-first run: how much is ahead is bounded by what was looked at. -/
structure GD (g : Gr) (q : QSt) : Prop where
  ok : Okq g q
  ah : q.ah.length ≤ g.rt.length + 4096 * cntS q.s
theorem refs_len (l : List Sp) : (refsOf l).length ≤ l.length := by unfold refsOf; rw [List.length_map]; exact List.length_filter_le _ _
theorem meetB_step {g : Gr} {lim x : Int} {s : PSt} (h : Wf g s) (hx : (0 ≤ x ∧ x < (g.nd.length : Int)) ∧ Rch g x) (hb : meetB g lim (2, x) s = true) :
    Wf g ((meetS g lim (2, x) s).mark s.small.length) ∧ (meetS g lim (2, x) s).small.length - 1 = s.small.length ∧ cntS ((meetS g lim (2, x) s).mark s.small.length) = cntS s + 1 := by
  obtain ⟨m1, m2, m3, m4, m5⟩ := meet_wf (lim := lim) (v := (2, x)) h fun _ => hx
  obtain ⟨e1, e2, -⟩ := m5 hb
  refine ⟨m1.mark _, by rw [e1]; simp, ?_⟩
  have hlg : (meetS g lim (2, x) s).large = s.large ∧ (meetS g lim (2, x) s).pile = s.pile := by
    unfold meetB at hb
    unfold meetS
    simp only [Bool.and_eq_true, Bool.not_eq_true', decide_eq_false_iff_not] at hb
    rw [if_pos hb.1, if_neg hb.2]
    exact ⟨rfl, rfl⟩
  unfold cntS PSt.mark
  simp only [hlg.1, hlg.2, e2]
  have : (s.looked ++ [false]).set s.small.length true = s.looked ++ [true] := by rw [← h.lk]; simp
  rw [this, List.countP_append]
  simp only [List.countP_cons, List.countP_nil, id_eq, if_pos]
  omega
theorem meetS_cnt {g : Gr} {lim x : Int} {s : PSt} (hb : meetB g lim (2, x) s = false) (h : Wf g s) : cntS (meetS g lim (2, x) s) = cntS s := by
  unfold meetB at hb
  unfold meetS
  by_cases hn : newS (2, x) s = true
  · rw [hn] at hb
    have hl : lim < ndSz (ndAt g x) := by simpa using hb
    rw [if_pos hn, if_pos hl]
    unfold cntS
    have := h.pile_le
    simp
  · rw [if_neg hn]
theorem run_nx {g : Gr} {nx : QSt → Option Int × QSt} {G : QSt → Prop} {m : Nat} {q q1 e : QSt} (h : RunQ g nx G m q1 e) (hn : nx q = nx q1) (hG : G q) : RunQ g nx G m q e := by
  cases h with
  | stop h0 h1 h2 => rw [← hn] at h1 h2 ⊢; exact .stop hG h1 h2
  | small h0 h1 h2 h3 h4 => rw [← hn] at h1 h3 h4; exact .small hG h1 h2 h3 h4
  | large h0 h1 h2 h3 h4 h5 => rw [← hn] at h1 h2 h4 h5; exact .large hG h1 h2 h3 h4 h5
/-- A run goes on where references have been followed. -/
theorem dp_run {g : Gr} {lim : Int} (hg : grOk g = true) (hN : g.nd.length ≤ 1000000) (hR : g.rt.length ≤ 1000000) (F : PSt) {a : List Int} {s t : PSt} (hd : Dp g lim a s t)
    (hend : ∀ q', q'.ah = [] → q'.s = t → GD g q' → ∃ m e, RunQ g (nxD g lim) (GD g) m q' e ∧ e.s = F) : ∀ q, q.ah = a → q.s = s → GD g q → ∃ m e, RunQ g (nxD g lim) (GD g) m q e ∧ e.s = F := by
  induction hd with
  | nil => exact hend
  | @skip x a s t hb hd ih =>
    intro q ha hs hG
    have hok : Okq g { q with ah := x :: a, s := s } := by rw [← ha, ← hs]; exact hG.ok
    obtain ⟨m, e, hr, he⟩ := ih hend { q with ah := a, s := meetS g lim (2, x) s } rfl rfl ⟨hok.meet, by
      have h1 := hG.ah
      rw [ha, hs] at h1
      show a.length ≤ g.rt.length + 4096 * cntS (meetS g lim (2, x) s)
      rw [meetS_cnt hb hok.wf]
      simp only [List.length_cons] at h1
      omega⟩
    refine ⟨m, e, run_nx hr ?_ hG, he⟩
    unfold nxD
    rw [ha, hs, freshQ, hb]
    rfl
  | @take x a s t hb hd ih =>
    intro q ha hs hG
    have hok : Okq g { q with ah := x :: a, s := s } := by rw [← ha, ← hs]; exact hG.ok
    have hx := hok.ah x (List.mem_cons_self ..)
    have hwf : Wf g s := hok.wf
    obtain ⟨w2, hlen, hcnt⟩ := meetB_step hwf hx hb
    have h1 := hG.ah
    rw [ha, hs] at h1
    simp only [List.length_cons] at h1
    have hcN := w2.cnt
    have hfl := fs_len17 hg hx.1
    have hrl := refs_len (fsAt g x)
    have hnx : nxD g lim q = (some x, { q with ah := a, s := (meetS g lim (2, x) s).mark s.small.length }) := by
      unfold nxD
      rw [ha, hs, freshQ, if_pos hb]
      simp only
      rw [hlen]
    have hfs := fs_ok hg hx.2 hx.1
    obtain ⟨m, e, hr, he⟩ := ih hend (followQ { q with ah := a, s := (meetS g lim (2, x) s).mark s.small.length } (fsAt g x)) rfl rfl ⟨⟨w2, fun y hy => by
        rcases List.mem_append.1 (show y ∈ refsOf (fsAt g x) ++ a from hy) with h | h
        · exact okl_refs hfs y h
        · exact hok.ah y (List.mem_cons_of_mem _ h)⟩, by
      show (refsOf (fsAt g x) ++ a).length ≤ g.rt.length + 4096 * cntS ((meetS g lim (2, x) s).mark s.small.length)
      rw [hcnt, List.length_append]
      omega⟩
    refine ⟨m + 1, e, RunQ.small hG (by rw [hnx]) hx.1 ?_ (by rw [hnx]; exact hr), he⟩
    rw [hnx]
    show (fsAt g x).length + a.length ≤ _
    omega
theorem look_dp {g : Gr} {lim : Int} (hg : grOk g = true) : ∀ (n : Nat) (l : List Sp) (s : PSt) (rest : List Int) (t : PSt), Wf g s → Okl g l → g.nd.length ≤ n + s.met.length → Dp g lim rest (lookD g lim n l s) t → Dp g lim (refsOf l ++ rest) s t := by
  intro n
  induction n with
  | zero =>
    intro l
    induction l with
    | nil => intro s rest t _ _ _ h; rw [lookD] at h; exact h
    | cons v l ih =>
      intro s rest t hw ho hf h
      obtain ⟨m1, m2, m3, m4, m5⟩ := meet_wf (lim := lim) hw (ho v (List.mem_cons_self ..))
      have hb : meetB g lim v s = false := by
        cases hb : meetB g lim v s with
        | false => rfl
        | true =>
          obtain ⟨e1, -⟩ := m5 hb
          have h1 := m1.room
          have h2 := m2.lg.length_le
          rw [met_len, e1] at h1
          rw [met_len] at hf
          simp at h1
          omega
      rw [lookD] at h
      have ih1 := ih (meetS g lim v s) rest t m1 (fun u hu => ho u (List.mem_cons_of_mem _ hu)) (by have := m2.len; omega) h
      obtain ⟨k, x⟩ := v
      by_cases hk : k = 2
      · subst hk
        have : refsOf ((2, x) :: l) = x :: refsOf l := by simp [refsOf]
        rw [this]
        exact .skip hb ih1
      · have : refsOf ((k, x) :: l) = refsOf l := by simp [refsOf, hk]
        rw [this]
        have hs : meetS g lim (k, x) s = s := by unfold meetS newS; simp [hk]
        rw [hs] at ih1
        exact ih1
  | succ n ihn =>
    intro l
    induction l with
    | nil => intro s rest t _ _ _ h; rw [lookD] at h; exact h
    | cons v l ih =>
      intro s rest t hw ho hf h
      obtain ⟨m1, m2, m3, m4, m5⟩ := meet_wf (lim := lim) hw (ho v (List.mem_cons_self ..))
      obtain ⟨k, x⟩ := v
      by_cases hk : k = 2
      · subst hk
        have hrf : refsOf ((2, x) :: l) = x :: refsOf l := by simp [refsOf]
        rw [hrf]
        rw [lookD] at h
        cases hb : meetB g lim (2, x) s with
        | false =>
          rw [hb, if_neg (by simp)] at h
          exact .skip hb (ih _ rest t m1 (fun u hu => ho u (List.mem_cons_of_mem _ hu)) (by have := m2.len; omega) h)
        | true =>
          rw [hb, if_pos rfl] at h
          have hx : (0 ≤ x ∧ x < (g.nd.length : Int)) ∧ Rch g x := ho (2, x) (List.mem_cons_self ..) rfl
          obtain ⟨w2, hlen, hcnt⟩ := meetB_step hw hx hb
          obtain ⟨e1, e2, -⟩ := m5 hb
          have hl2 : s.met.length + 1 ≤ ((meetS g lim (2, x) s).mark s.small.length).met.length := by
            have h3 := m2.lg.length_le
            have h4 : ((meetS g lim (2, x) s).mark s.small.length).met.length = (meetS g lim (2, x) s).met.length := rfl
            have h5 : (s.small ++ [x]).length = s.small.length + 1 := by simp
            rw [h4, met_len, met_len, e1, h5]
            omega
          have hfs := fs_ok hg hx.2 hx.1
          obtain ⟨p1, p2, -, -⟩ := lookD_wf (lim := lim) hg n (fsAt g x) _ w2 hfs (by omega)
          refine .take hb (ihn (fsAt g x) _ (refsOf l ++ rest) t w2 hfs (by omega) ?_)
          exact ih _ rest t p1 (fun u hu => ho u (List.mem_cons_of_mem _ hu)) (by have := p2.len; omega) h
      · have hrf : refsOf ((k, x) :: l) = refsOf l := by simp [refsOf, hk]
        have hs : meetS g lim (k, x) s = s := by unfold meetS newS; simp [hk]
        have hb : meetB g lim (k, x) s = false := by unfold meetB newS; simp [hk]
        rw [hrf]
        rw [lookD, hb, if_neg (by simp), hs] at h
        exact ih s rest t hw (fun u hu => ho u (List.mem_cons_of_mem _ hu)) (by omega) h
def LkD (s : PSt) : Prop := ∀ i, i < s.small.length → s.looked.getD i true = true
theorem lkD_look {g : Gr} {lim : Int} (hg : grOk g = true) {s : PSt} {l : List Sp} (hw : Wf g s) (ho : Okl g l) (hl : LkD s) : Wf g (lookO g lim 1 l s) ∧ LkD (lookO g lim 1 l s) := by
  unfold lookO
  rw [if_pos rfl]
  obtain ⟨h1, h2, h3, h4⟩ := lookD_wf (lim := lim) hg (g.nd.length + 1) l s hw ho (by omega)
  refine ⟨h1, fun i hi => ?_⟩
  rcases Nat.lt_or_ge i s.small.length with h' | h'
  · have hlt : i < s.looked.length := by rw [hw.lk]; exact h'
    have e1 : s.looked[i]? = some s.looked[i] := List.getElem?_eq_getElem hlt
    have e2 := hl i h'
    rw [List.getD_eq_getElem?_getD, e1] at e2
    rw [List.getD_eq_getElem?_getD, pre_at h2.lk e1]
    exact e2
  · rw [List.getD_eq_getElem?_getD, (h4 i h' hi).1]; rfl
theorem next_depth {blk : Int} {s : PSt} (h : LkD s) : nextS 1 blk s = none := by
  unfold nextS
  rw [if_neg (by simp)]
  unfold firstS
  simp only
  rw [List.find?_eq_none]
  intro j hj
  rw [h j (List.mem_range.1 hj)]
  simp
theorem depth_run {g : Gr} {lim blk : Int} (hg : grOk g = true) (hN : g.nd.length ≤ 1000000) (hR : g.rt.length ≤ 1000000) : ∀ (n : Nat) (s : PSt), Wf g s → LkD s → stepS g lim 1 blk (runS g lim 1 blk n s) = none →
    ∀ q, q.ah = [] → q.s = s → GD g q → ∃ m e, RunQ g (nxD g lim) (GD g) m q e ∧ e.s = runS g lim 1 blk n s := by
  intro n
  induction n with
  | zero =>
    intro s hw hl e q ha hs hG
    have hnx : nxD g lim q = (none, q) := by unfold nxD; rw [ha, hs]; rw [freshQ]; simp only; rw [← ha, ← hs]
    rw [runS] at e ⊢
    unfold stepS at e
    rw [next_depth hl] at e
    cases hp : s.pile.getLast? with
    | some k => rw [hp] at e; cases e
    | none =>
      refine ⟨0, _, RunQ.stop hG (by rw [hnx]) (by rw [hnx]; simp only; rw [hs]; exact hp), ?_⟩
      rw [hnx]
      unfold offQ
      simp only
      have hnil := List.getLast?_eq_none_iff.1 hp
      rw [hs, hnil]
      show ({ s with pile := [] } : PSt) = _
      rw [← hnil]
  | succ n ih =>
    intro s hw hl e q ha hs hG
    have hnx : nxD g lim q = (none, q) := by unfold nxD; rw [ha, hs]; rw [freshQ]; simp only; rw [← ha, ← hs]
    rw [runS] at e ⊢
    cases hp : s.pile.getLast? with
    | none =>
      have hst : stepS g lim 1 blk s = none := by unfold stepS; rw [next_depth hl, hp]
      rw [hst]
      refine ⟨0, _, RunQ.stop hG (by rw [hnx]) (by rw [hnx]; simp only; rw [hs]; exact hp), ?_⟩
      rw [hnx]
      unfold offQ
      simp only
      have hnil := List.getLast?_eq_none_iff.1 hp
      rw [hs, hnil]
      show ({ s with pile := [] } : PSt) = _
      rw [← hnil]
    | some k =>
      have hst : stepS g lim 1 blk s = some (lookO g lim 1 (fsAt g k) { s with pile := s.pile.dropLast }) := by unfold stepS; rw [next_depth hl, hp]
      rw [hst] at e ⊢
      simp only at e ⊢
      have hkp : k ∈ s.pile := List.mem_of_getLast? hp
      have hmem : k ∈ s.met := List.mem_append.2 (.inr (hw.pl _ hkp))
      have hr := hw.rng _ hmem
      have hw0 : Wf g { s with pile := s.pile.dropLast } := ⟨hw.nodup, hw.rng, hw.rch, hw.lk, hw.bg, fun x hx => hw.pl x (List.dropLast_subset _ hx), hw.pn.sublist (List.dropLast_sublist _)⟩
      have hfs := fs_ok hg (hw.rch _ hmem) hr
      obtain ⟨w1, l1⟩ := lkD_look (lim := lim) hg hw0 hfs hl
      have hcnt : cntS { s with pile := s.pile.dropLast } = cntS s + 1 := by
        have h3 := hw.pile_le
        have h4 : 0 < s.pile.length := List.length_pos_of_mem hkp
        unfold cntS
        simp
        omega
      have hdp : Dp g lim (refsOf (fsAt g k) ++ []) { s with pile := s.pile.dropLast } (lookO g lim 1 (fsAt g k) { s with pile := s.pile.dropLast }) := by
        refine look_dp hg (g.nd.length + 1) (fsAt g k) _ [] _ hw0 hfs (by omega) ?_
        unfold lookO
        rw [if_pos rfl]
        exact .nil
      have hfl := fs_len17 hg hr
      have hrl := refs_len (fsAt g k)
      obtain ⟨m, e', hrun, he⟩ := dp_run hg hN hR _ hdp (fun q' ha' hs' hG' => ih _ w1 l1 e q' ha' hs' hG') (followQ (offQ q) (fsAt g k)) (by unfold followQ withAh offQ; simp only [ha]) (by show (offQ q).s = _; unfold offQ; simp only [hs]) ⟨follow_ok (q := offQ q) ha (by show Wf g (offQ q).s; unfold offQ; simp only [hs]; exact hw0) hfs, by
        show (refsOf (fsAt g k) ++ (offQ q).ah).length ≤ g.rt.length + 4096 * cntS (offQ q).s
        have e1 : (offQ q).s = { s with pile := s.pile.dropLast } := by unfold offQ; simp only [hs]
        have e2 : (offQ q).ah = [] := ha
        rw [e1, e2, hcnt]
        simp only [List.append_nil]
        omega⟩
      refine ⟨m + 1, e', RunQ.large hG (by rw [hnx]) (by rw [hnx]; simp only; rw [hs]; exact hp) hr ?_ (by rw [hnx]; exact hrun), he⟩
      rw [hnx]
      show (fsAt g k).length + q.ah.length ≤ _
      rw [ha]; simp; omega
theorem run_depth {g : Gr} (lim blk : Int) (hg : grOk g = true) (hN : g.nd.length ≤ 1000000) (hR : g.rt.length ≤ 1000000) : ∃ m e, RunQ g (nxD g lim) (GD g) m (followQ q0 g.rt) e ∧ e.s = planS g lim 1 blk := by
  obtain ⟨h1, h2⟩ := start_wf lim 1 hg
  obtain ⟨w, c, e⟩ := run_wf (block := blk) hg (g.nd.length + 1) _ h1 h2 (by omega)
  obtain ⟨w1, l1⟩ := lkD_look (lim := lim) hg (none_wf g) (rt_ok hg) (fun i hi => absurd hi (Nat.not_lt_zero i))
  have hdp : Dp g lim (refsOf g.rt ++ []) .none (lookO g lim 1 g.rt .none) := by
    refine look_dp hg (g.nd.length + 1) g.rt _ [] _ (none_wf g) (rt_ok hg) (by omega) ?_
    unfold lookO
    rw [if_pos rfl]
    exact .nil
  have hrl := refs_len g.rt
  exact dp_run hg hN hR _ hdp (fun q' ha' hs' hG' => depth_run hg hN hR (g.nd.length + 1) _ w1 l1 e q' ha' hs' hG') (followQ q0 g.rt) rfl rfl ⟨follow_ok (q := q0) rfl (none_wf g) (rt_ok hg), by
    show (refsOf g.rt ++ []).length ≤ g.rt.length + 4096 * cntS .none
    simp only [List.append_nil]
    omega⟩
end Go.Proofs.Ytmnehonmbjnnaaa

/- The program's runs by tiers are the document's. No program walked in it. -/
namespace Go.Proofs.Ytmnehonmbjnnaaa
open Go.RowKit
set_option linter.unusedVariables false

/-- What waits in a block: what was not looked at, in order. -/
def inB (blk : Int) (s : PSt) (z : Int) (i : Nat) : Bool := !s.looked.getD i true && decide ((s.begins.getD i 0).tdiv blk = z)
def waitsS (blk : Int) (s : PSt) (z : Int) : List Int := ((List.range s.small.length).filter (inB blk s z)).map fun i => s.small.getD i 0
structure TT (blk : Int) (q : QSt) (s : PSt) : Prop where
  tp : q.tp = s.top
  last : q.last = if s.small = [] then 0 else (s.begins.getLastD 0).tdiv blk
  wt : ∀ z, q.wt z = waitsS blk s z
  has : ∀ z, q.wt z ≠ [] → z ∈ q.bg
  srt : q.bg.Pairwise (· ≤ ·)
  top : ∀ z ∈ q.bg, 0 ≤ z ∧ z ≤ q.last
  lo : 0 ≤ q.last
  bl : q.bg.length ≤ s.small.length
  mono : ∀ (i j : Nat) bi bj, i ≤ j → s.begins[i]? = some bi → s.begins[j]? = some bj → bi ≤ bj
  bs : ∀ b ∈ s.begins, 0 ≤ b ∧ b ≤ s.top
  tn : 0 ≤ s.top ∧ s.top ≤ 8193 * (s.small.length : Int)
theorem tdiv_mono17 {a b k : Int} (h0 : 0 ≤ a) (h : a ≤ b) (hk : 1 ≤ k) : a.tdiv k ≤ b.tdiv k := by
  rw [Int.tdiv_eq_ediv_of_nonneg h0, Int.tdiv_eq_ediv_of_nonneg (by omega)]
  exact Int.ediv_le_ediv (by omega) h
theorem tdiv_nn17 {a k : Int} (h0 : 0 ≤ a) (hk : 1 ≤ k) : 0 ≤ a.tdiv k := Int.tdiv_nonneg h0 (by omega)
theorem getD_app17 {α : Type} {l : List α} {x d : α} {i : Nat} (h : i < l.length) : (l ++ [x]).getD i d = l.getD i d := by
  rw [List.getD_eq_getElem?_getD, List.getD_eq_getElem?_getD, List.getElem?_append_left h]
theorem getD_last17 {α : Type} {l : List α} {x d : α} : (l ++ [x]).getD l.length d = x := by
  rw [List.getD_eq_getElem?_getD, List.getElem?_append_right (Nat.le_refl _)]; simp
theorem TT.like {blk : Int} {q : QSt} {s s' : PSt} (h : TT blk q s) (e1 : s'.small = s.small) (e2 : s'.begins = s.begins) (e3 : s'.looked = s.looked) (e4 : s'.top = s.top) : TT blk q s' := by
  have ew : ∀ z, waitsS blk s' z = waitsS blk s z := fun z => by unfold waitsS inB; rw [e1, e2, e3]
  exact ⟨by rw [e4]; exact h.tp, by rw [e1, e2]; exact h.last, fun z => by rw [ew]; exact h.wt z, h.has, h.srt, h.top, h.lo, by rw [e1]; exact h.bl, by rw [e2]; exact h.mono, by rw [e2, e4]; exact h.bs, by rw [e1, e4]; exact h.tn⟩
/-- A small one is met, and waits. -/
theorem TT.wait {g : Gr} (hg : grOk g = true) {blk : Int} (hb : 1 ≤ blk) {q : QSt} {s : PSt} {x : Int} (h : TT blk q s) (hx : 0 ≤ x ∧ x < (g.nd.length : Int)) (hN : s.small.length ≤ 1000000) (hl : s.looked.length = s.small.length) (hbg : s.begins.length = s.small.length) :
    TT blk (waitQ g blk q x) (smallS g x s) := by
  have hs := sz_ok17 hg hx
  have ht := h.tn
  have hw : wrap64 (s.top + ndSz (ndAt g x)) = s.top + ndSz (ndAt g x) := wrap64_id _ (by omega) (by omega)
  have hz : blkOf blk q = s.top.tdiv blk := by unfold blkOf; rw [h.tp]
  have hz0 : 0 ≤ s.top.tdiv blk := tdiv_nn17 ht.1 hb
  have hlz : q.last ≤ s.top.tdiv blk := by
    rw [h.last]
    by_cases he : s.small = []
    · rw [if_pos he]; exact hz0
    · rw [if_neg he]
      have hlen : 0 < s.begins.length := by rw [hbg]; exact List.length_pos_iff.2 he
      have hm : s.begins.getLastD 0 ∈ s.begins := by
        rw [List.getLastD_eq_getLast?, List.getLast?_eq_getElem?, List.getElem?_eq_getElem (by omega)]
        exact List.getElem_mem _
      have := h.bs _ hm
      exact tdiv_mono17 this.1 this.2 hb
  have hsm : (smallS g x s).small = s.small ++ [x] := rfl
  have hbe : (smallS g x s).begins = s.begins ++ [s.top] := rfl
  have hlo : (smallS g x s).looked = s.looked ++ [false] := rfl
  have htp : (smallS g x s).top = s.top + ndSz (ndAt g x) := hw
  have hwait : ∀ z, waitsS blk (smallS g x s) z = waitsS blk s z ++ (if s.top.tdiv blk = z then [x] else []) := by
    intro z
    unfold waitsS
    rw [hsm, List.length_append, List.length_singleton, List.range_succ, List.filter_append, List.map_append]
    congr 1
    · have e1 : (List.range s.small.length).filter (inB blk (smallS g x s) z) = (List.range s.small.length).filter (inB blk s z) := by
        refine List.filter_congr fun i hi => ?_
        have hi := List.mem_range.1 hi
        unfold inB
        rw [hbe, hlo, getD_app17 (by omega), getD_app17 (by omega)]
      rw [e1]
      refine List.map_congr_left fun i hi => ?_
      have hi := List.mem_range.1 (List.mem_filter.1 hi).1
      exact getD_app17 hi
    · have e1 : inB blk (smallS g x s) z s.small.length = decide (s.top.tdiv blk = z) := by
        unfold inB
        rw [hbe, hlo]
        have a1 : (s.looked ++ [false]).getD s.small.length true = false := by rw [← hl]; exact getD_last17
        have a2 : (s.begins ++ [s.top]).getD s.small.length 0 = s.top := by rw [← hbg]; exact getD_last17
        rw [a1, a2]; rfl
      rw [List.filter_cons, e1]
      by_cases hc : s.top.tdiv blk = z
      · simp [hc]
      · simp [hc]
  have hbgs : ∀ z, z ∈ (waitQ g blk q x).bg → z ∈ q.bg ∨ z = s.top.tdiv blk := by
    intro z hz'
    have hz' : z ∈ (if q.wt (blkOf blk q) = [] then q.bg ++ [blkOf blk q] else q.bg) := hz'
    split at hz'
    · rcases List.mem_append.1 hz' with h' | h'
      · exact .inl h'
      · exact .inr (by rw [List.mem_singleton.1 h', hz])
    · exact .inl hz'
  refine ⟨?_, ?_, fun z => ?_, fun z hne => ?_, ?_, fun z hz' => ?_, ?_, ?_, ?_, ?_, ?_⟩
  · show wrap64 (q.tp + ndSz (ndAt g x)) = wrap64 (s.top + ndSz (ndAt g x))
    rw [h.tp]
  · show blkOf blk q = _
    rw [hz, hsm, hbe, if_neg (by simp)]
    rw [List.getLastD_eq_getLast?]; simp
  · show upd q.wt (blkOf blk q) (q.wt (blkOf blk q) ++ [x]) z = _
    rw [hwait, hz]
    by_cases hc : z = s.top.tdiv blk
    · subst hc
      rw [upd_same, if_pos rfl, h.wt]
    · rw [upd_other hc, if_neg (Ne.symm hc), List.append_nil, h.wt]
  · have hne : upd q.wt (blkOf blk q) (q.wt (blkOf blk q) ++ [x]) z ≠ [] := hne
    show z ∈ (if q.wt (blkOf blk q) = [] then q.bg ++ [blkOf blk q] else q.bg)
    by_cases hc : z = blkOf blk q
    · subst hc
      split
      · simp
      · rename_i h0; exact h.has _ h0
    · rw [upd_other hc] at hne
      split
      · exact List.mem_append.2 (.inl (h.has z hne))
      · exact h.has z hne
  · show (if q.wt (blkOf blk q) = [] then q.bg ++ [blkOf blk q] else q.bg).Pairwise (· ≤ ·)
    split
    · refine List.pairwise_append.2 ⟨h.srt, by simp, fun a ha b hb' => ?_⟩
      rw [List.mem_singleton.1 hb', hz]
      exact Int.le_trans (h.top a ha).2 hlz
    · exact h.srt
  · show 0 ≤ z ∧ z ≤ blkOf blk q
    rw [hz]
    rcases hbgs z hz' with h' | h'
    · exact ⟨(h.top z h').1, Int.le_trans (h.top z h').2 hlz⟩
    · rw [h']; exact ⟨hz0, Int.le_refl _⟩
  · show 0 ≤ blkOf blk q
    rw [hz]; exact hz0
  · show (if q.wt (blkOf blk q) = [] then q.bg ++ [blkOf blk q] else q.bg).length ≤ (smallS g x s).small.length
    rw [hsm, List.length_append, List.length_singleton]
    have := h.bl
    split
    · simp; omega
    · omega
  · intro i j bi bj hij hi hj
    rw [hbe] at hi hj
    rcases Nat.lt_or_ge j s.begins.length with h' | h'
    · rw [List.getElem?_append_left (by omega)] at hi
      rw [List.getElem?_append_left h'] at hj
      exact h.mono i j bi bj hij hi hj
    · rw [List.getElem?_append_right h'] at hj
      have hj0 : j - s.begins.length = 0 := by
        have := (List.getElem?_eq_some_iff.1 hj).1
        simp at this; omega
      rw [hj0] at hj
      obtain rfl : s.top = bj := by simpa using hj
      rcases Nat.lt_or_ge i s.begins.length with h2 | h2
      · rw [List.getElem?_append_left h2] at hi
        exact (h.bs bi (List.mem_of_getElem? hi)).2
      · rw [List.getElem?_append_right h2] at hi
        have hi0 : i - s.begins.length = 0 := by
          have := (List.getElem?_eq_some_iff.1 hi).1
          simp at this; omega
        rw [hi0] at hi
        have : s.top = bi := by simpa using hi
        omega
  · intro b hb'
    rw [hbe] at hb'
    rw [htp]
    rcases List.mem_append.1 hb' with h' | h'
    · have := h.bs b h'
      omega
    · rw [List.mem_singleton.1 h']; omega
  · rw [htp, hsm, List.length_append, List.length_singleton]
    omega
theorem TT.meet {g : Gr} (hg : grOk g = true) {blk lim : Int} (hb : 1 ≤ blk) {q : QSt} {s : PSt} {x : Int} (h : TT blk q s) (hw : Wf g s) (hx : 0 ≤ x ∧ x < (g.nd.length : Int)) (hN : g.nd.length ≤ 1000000) :
    (meetB g lim (2, x) s = false → TT blk q (meetS g lim (2, x) s) ∧ (meetS g lim (2, x) s).small = s.small) ∧ (meetB g lim (2, x) s = true → TT blk (waitQ g blk q x) (meetS g lim (2, x) s) ∧ (meetS g lim (2, x) s).small = s.small ++ [x]) := by
  refine ⟨fun hB => ?_, fun hB => ?_⟩
  · by_cases hn : newS (2, x) s = true
    · have hl : lim < ndSz (ndAt g x) := by unfold meetB at hB; rw [hn] at hB; simpa using hB
      have hs : meetS g lim (2, x) s = bigS x s := by unfold meetS; rw [if_pos hn, if_pos hl]; rfl
      rw [hs]
      exact ⟨h.like rfl rfl rfl rfl, rfl⟩
    · have hs : meetS g lim (2, x) s = s := by unfold meetS; rw [if_neg hn]
      rw [hs]; exact ⟨h, rfl⟩
  · unfold meetB at hB
    simp only [Bool.and_eq_true, Bool.not_eq_true', decide_eq_false_iff_not] at hB
    have hs : meetS g lim (2, x) s = smallS g x s := by unfold meetS; rw [if_pos hB.1, if_neg hB.2]; rfl
    rw [hs]
    have hr := hw.room
    rw [met_len] at hr
    exact ⟨h.wait hg hb hx (by omega) hw.lk hw.bg, rfl⟩
theorem TT.look {g : Gr} (hg : grOk g = true) {blk lim : Int} (hb : 1 ≤ blk) (hN : g.nd.length ≤ 1000000) : ∀ (a : List Int) (q : QSt) (s : PSt), TT blk q s → Wf g s → (∀ x ∈ a, (0 ≤ x ∧ x < (g.nd.length : Int)) ∧ Rch g x) →
    TT blk (((lookW g lim (refL a) s).small.drop s.small.length).foldl (waitQ g blk) q) (lookW g lim (refL a) s)
  | [], q, s, h, hw, _ => by
    show TT blk ((s.small.drop s.small.length).foldl (waitQ g blk) q) s
    rw [List.drop_length]; exact h
  | x :: a, q, s, h, hw, ho => by
    have hx := ho x (List.mem_cons_self ..)
    have w1 := (meet_wf (lim := lim) (v := (2, x)) hw fun _ => hx).1
    obtain ⟨h1, h2⟩ := h.meet hg (lim := lim) hb hw hx.1 hN
    have ho' : ∀ y ∈ a, (0 ≤ y ∧ y < (g.nd.length : Int)) ∧ Rch g y := fun y hy => ho y (List.mem_cons_of_mem _ hy)
    have hl : lookW g lim (refL (x :: a)) s = lookW g lim (refL a) (meetS g lim (2, x) s) := rfl
    rw [hl]
    cases hB : meetB g lim (2, x) s with
    | false =>
      obtain ⟨t1, e1⟩ := h1 hB
      have := TT.look hg (lim := lim) hb hN a q _ t1 w1 ho'
      rw [e1] at this
      exact this
    | true =>
      obtain ⟨t1, e1⟩ := h2 hB
      have ih := TT.look hg (lim := lim) hb hN a _ _ t1 w1 ho'
      have hpre := (lookW_wf (lim := lim) (refL a) _ w1 (fun v hv h2 => by
        unfold refL at hv
        obtain ⟨y, hy, rfl⟩ := List.mem_map.1 hv
        exact ho' y hy)).2.1.sm
      obtain ⟨r, hr⟩ := hpre
      rw [← hr, e1] at ih ⊢
      have d1 : ((s.small ++ [x]) ++ r).drop (s.small ++ [x]).length = r := List.drop_left
      have d2 : ((s.small ++ [x]) ++ r).drop s.small.length = x :: r := by rw [List.append_assoc, List.drop_left]; rfl
      rw [d1] at ih
      rw [d2]
      exact ih

/-! ### One is taken -/
theorem mark_inB {blk : Int} {s : PSt} {z : Int} {i j : Nat} (hl : s.looked.length = s.small.length) (hi : i < s.small.length) : inB blk (s.mark i) z j = (inB blk s z j && decide (j ≠ i)) := by
  unfold inB
  have e : (s.mark i).looked.getD j true = (s.looked.getD j true || decide (j = i)) := by
    show (s.looked.set i true).getD j true = _
    rw [List.getD_eq_getElem?_getD, List.getD_eq_getElem?_getD]
    by_cases h : i = j
    · subst h
      rw [List.getElem?_set_self (by omega)]; simp
    · rw [List.getElem?_set_ne h]; simp [Ne.symm h]
  have e2 : (s.mark i).begins = s.begins := rfl
  rw [e, e2]
  by_cases h : j = i <;> simp [h]
theorem wait_none {blk : Int} {s : PSt} {z : Int} : waitsS blk s z = [] ↔ firstS (fun b => decide (b.tdiv blk = z)) s = none := by
  unfold waitsS firstS
  rw [List.map_eq_nil_iff, List.filter_eq_nil_iff, List.find?_eq_none]
  rfl
theorem wait_cons {blk : Int} {s : PSt} {z x : Int} {l : List Int} (hl : s.looked.length = s.small.length) (h : waitsS blk s z = x :: l) : ∃ i, firstS (fun b => decide (b.tdiv blk = z)) s = some i ∧ i < s.small.length ∧ x = s.small.getD i 0 ∧ (s.begins.getD i 0).tdiv blk = z ∧
    waitsS blk (s.mark i) z = l ∧ ∀ z', z' ≠ z → waitsS blk (s.mark i) z' = waitsS blk s z' := by
  unfold waitsS at h
  cases hf : (List.range s.small.length).filter (inB blk s z) with
  | nil => rw [hf] at h; cases h
  | cons i r =>
    rw [hf] at h
    obtain ⟨rfl, rfl⟩ : s.small.getD i 0 = x ∧ r.map (fun i => s.small.getD i 0) = l := by simpa using h
    have hmem : i ∈ (List.range s.small.length).filter (inB blk s z) := by rw [hf]; exact List.mem_cons_self ..
    obtain ⟨hi1, hi2⟩ := List.mem_filter.1 hmem
    have hi := List.mem_range.1 hi1
    have hblk : (s.begins.getD i 0).tdiv blk = z := by unfold inB at hi2; simp at hi2; exact hi2.2
    have hnd : (i :: r).Nodup := by rw [← hf]; exact List.nodup_range.sublist List.filter_sublist
    refine ⟨i, ?_, hi, rfl, hblk, ?_, fun z' hz => ?_⟩
    · unfold firstS
      have := List.head?_filter (p := inB blk s z) (l := List.range s.small.length)
      rw [hf] at this
      exact this.symm
    · unfold waitsS
      have e1 : (List.range (s.mark i).small.length).filter (inB blk (s.mark i) z) = r := by
        have e2 : (List.range (s.mark i).small.length).filter (inB blk (s.mark i) z) = ((List.range s.small.length).filter (inB blk s z)).filter (fun j => decide (j ≠ i)) := by
          rw [List.filter_filter]
          refine List.filter_congr fun j hj => ?_
          rw [mark_inB hl hi, Bool.and_comm]
        rw [e2, hf, List.filter_cons, if_neg (by simp)]
        refine List.filter_eq_self.2 fun j hj => ?_
        have := (List.nodup_cons.1 hnd).1
        exact decide_eq_true fun e => this (e ▸ hj)
      rw [e1]
      rfl
    · unfold waitsS
      have e1 : (List.range (s.mark i).small.length).filter (inB blk (s.mark i) z') = (List.range s.small.length).filter (inB blk s z') := by
        refine List.filter_congr fun j hj => ?_
        rw [mark_inB hl hi]
        by_cases hji : j = i
        · subst hji
          have : inB blk s z' j = false := by unfold inB; simp; intro _ e; exact hz (e.symm.trans hblk)
          rw [this]; rfl
        · simp [hji]
      rw [e1]
      rfl
/-- Behind one that is taken out of block z. -/
theorem TT.taken {blk : Int} {q : QSt} {s : PSt} {z x : Int} {l r : List Int} {i : Nat} (h : TT blk q s) (hw : waitsS blk (s.mark i) z = l) (ho : ∀ z', z' ≠ z → waitsS blk (s.mark i) z' = waitsS blk s z') (hr : r.Pairwise (· ≤ ·)) (hs : ∀ y ∈ r, y ∈ q.bg) (hlen : r.length ≤ q.bg.length) (hh : ∀ z', q.wt z' ≠ [] → z' ∈ r) (hz : q.wt z = x :: l) (p : Nat) :
    TT blk { q with bg := r, wt := upd q.wt z l, pt := p } (s.mark i) := by
  refine ⟨h.tp, h.last, fun z' => ?_, fun z' hne => ?_, hr, fun y hy => h.top y (hs y hy), h.lo, Nat.le_trans hlen h.bl, h.mono, h.bs, h.tn⟩
  · show upd q.wt z l z' = _
    by_cases hc : z' = z
    · subst hc; rw [upd_same, hw]
    · rw [upd_other hc, ho z' hc, h.wt]
  · have hne : upd q.wt z l z' ≠ [] := hne
    by_cases hc : z' = z
    · subst hc; exact hh _ (by rw [hz]; simp)
    · rw [upd_other hc] at hne
      exact hh z' hne
theorem scan_is {q : QSt} : ∀ (r : List Int), r.Pairwise (· ≤ ·) → (∀ z, q.wt z ≠ [] → z ∈ r) →
    ((∀ z, q.wt z = []) ∧ scanQ r q = (none, { q with bg := [] })) ∨
    ∃ z x l r', q.wt z = x :: l ∧ scanQ r q = (some x, { q with bg := z :: r', wt := upd q.wt z l, pt := q.pt + 1 }) ∧ (z :: r').Pairwise (· ≤ ·) ∧ (∀ y ∈ z :: r', y ∈ r) ∧ (z :: r').length ≤ r.length ∧ (∀ z', q.wt z' ≠ [] → z' ∈ z :: r') ∧ ∀ z', q.wt z' ≠ [] → z ≤ z'
  | [], _, hh => .inl ⟨fun z => Classical.byContradiction fun h => (by cases hh z h), rfl⟩
  | z :: r, hs, hh => by
    cases hw : q.wt z with
    | cons x l =>
      refine .inr ⟨z, x, l, r, hw, by rw [scanQ, hw], hs, fun _ h => h, Nat.le_refl _, hh, fun z' hz' => ?_⟩
      rcases List.mem_cons.1 (hh z' hz') with h | h
      · omega
      · exact (List.pairwise_cons.1 hs).1 z' h
    | nil =>
      have hh' : ∀ z', q.wt z' ≠ [] → z' ∈ r := fun z' hz' => by
        rcases List.mem_cons.1 (hh z' hz') with h | h
        · rw [h] at hz'; exact absurd hw hz'
        · exact h
      rcases scan_is r (List.pairwise_cons.1 hs).2 hh' with ⟨h1, h2⟩ | ⟨y, x, l, r', h1, h2, h3, h4, h5, h6, h7⟩
      · exact .inl ⟨h1, by rw [scanQ, hw]; exact h2⟩
      · exact .inr ⟨y, x, l, r', h1, by rw [scanQ, hw]; exact h2, h3, fun a ha => List.mem_cons_of_mem _ (h4 a ha), by simp only [List.length_cons] at h5 ⊢; omega, h6, h7⟩
/-- What is looked at next, when all wait. -/
theorem near_is {blk : Int} (hb : 1 ≤ blk) {q : QSt} {s : PSt} (h : TT blk q s) (hl : s.looked.length = s.small.length) (hbg : s.begins.length = s.small.length) (hq : q.s = s) :
    (nextS 2 blk s = none ∧ ∃ b, nearT blk q = (none, { q with bg := b }) ∧ TT blk { q with bg := b } s) ∨
    ∃ i q', nextS 2 blk s = some i ∧ i < s.small.length ∧ s.looked.getD i true = false ∧ nearT blk q = (some (s.small.getD i 0), q') ∧ q'.s = q.s ∧ q'.ah = q.ah ∧ q'.k = q.k ∧ q'.pt = q.pt + 1 ∧ TT blk q' (s.mark i) := by
  have hfirst : ∀ z, firstInQ z q = match waitsS blk s z with | [] => (none, q) | x :: r => (some x, { q with wt := upd q.wt z r, pt := q.pt + 1 }) := fun z => by unfold firstInQ; rw [h.wt z]; cases waitsS blk s z <;> rfl
  have hscan : firstInQ q.last q = (none, q) → (s.small ≠ [] → firstS (fun b => decide (b.tdiv blk = (s.begins.getLastD 0).tdiv blk)) s = none) →
      (nextS 2 blk s = none ∧ ∃ b, nearT blk q = (none, { q with bg := b }) ∧ TT blk { q with bg := b } s) ∨
      ∃ i q', nextS 2 blk s = some i ∧ i < s.small.length ∧ s.looked.getD i true = false ∧ nearT blk q = (some (s.small.getD i 0), q') ∧ q'.s = q.s ∧ q'.ah = q.ah ∧ q'.k = q.k ∧ q'.pt = q.pt + 1 ∧ TT blk q' (s.mark i) := by
    intro hf hnf
    have hnear : nearT blk q = scanQ q.bg q := by unfold nearT; rw [hf]
    have hnx : nextS 2 blk s = firstS (fun _ => true) s := by
      unfold nextS
      by_cases he : s.small = []
      · rw [if_neg (by simp [he])]
      · rw [if_pos ⟨rfl, he⟩, hnf he]
    rcases scan_is q.bg h.srt h.has with ⟨h1, h2⟩ | ⟨z, x, l, r', h1, h2, h3, h4, h5, h6, h7⟩
    · refine .inl ⟨?_, [], by rw [hnear, h2], ⟨h.tp, h.last, h.wt, fun z hz => absurd (h1 z) hz, List.Pairwise.nil, (fun y hy => by cases hy), h.lo, Nat.zero_le _, h.mono, h.bs, h.tn⟩⟩
      rw [hnx]
      unfold firstS
      rw [List.find?_eq_none]
      intro i hi hp
      have hi := List.mem_range.1 hi
      have : inB blk s ((s.begins.getD i 0).tdiv blk) i = true := by unfold inB; simp at hp; simp [hp]
      have hw := h1 ((s.begins.getD i 0).tdiv blk)
      rw [h.wt] at hw
      unfold waitsS at hw
      rw [List.map_eq_nil_iff, List.filter_eq_nil_iff] at hw
      exact hw i (List.mem_range.2 hi) this
    · have hwz := h1
      rw [h.wt] at hwz
      obtain ⟨i, hi1, hi2, hi3, hi4, hi5, hi6⟩ := wait_cons hl hwz
      obtain ⟨-, hilk⟩ := first_some hi1
      have hall : firstS (fun _ => true) s = some i := by
        unfold firstS at hi1 ⊢
        rw [List.find?_range_eq_some] at hi1 ⊢
        obtain ⟨g1, g2, g3⟩ := hi1
        refine ⟨by rw [hilk]; rfl, g2, fun j hj => ?_⟩
        rw [Bool.and_true]
        cases hlk : s.looked.getD j true with
        | true => rfl
        | false =>
          exfalso
          have hjlt : j < s.small.length := by omega
          obtain ⟨bj, hbj⟩ : ∃ b, s.begins[j]? = some b := ⟨_, List.getElem?_eq_getElem (by omega)⟩
          obtain ⟨bi, hbi⟩ : ∃ b, s.begins[i]? = some b := ⟨_, List.getElem?_eq_getElem (by omega)⟩
          have hij := h.mono j i bj bi (by omega) hbj hbi
          have hdj : s.begins.getD j 0 = bj := by rw [List.getD_eq_getElem?_getD, hbj]; rfl
          have hdi : s.begins.getD i 0 = bi := by rw [List.getD_eq_getElem?_getD, hbi]; rfl
          have h0 := (h.bs bj (List.mem_of_getElem? hbj)).1
          have hle : bj.tdiv blk ≤ z := by rw [← hi4, hdi]; exact tdiv_mono17 h0 hij hb
          have hne : q.wt (bj.tdiv blk) ≠ [] := by
            rw [h.wt]
            unfold waitsS
            intro e
            rw [List.map_eq_nil_iff, List.filter_eq_nil_iff] at e
            exact e j (List.mem_range.2 hjlt) (by unfold inB; rw [hlk, hdj]; simp)
          have hge := h7 _ hne
          have heq : bj.tdiv blk = z := by omega
          have := g3 j hj
          rw [hlk, hdj] at this
          simp [heq] at this
      refine .inr ⟨i, { q with bg := z :: r', wt := upd q.wt z l, pt := q.pt + 1 }, by rw [hnx, hall], hi2, hilk, by rw [hnear, h2, hi3], rfl, rfl, rfl, rfl, ?_⟩
      exact h.taken hi5 hi6 h3 h4 h5 h6 h1 (q.pt + 1)
  cases hwl : waitsS blk s q.last with
  | nil =>
    refine hscan (by rw [hfirst, hwl]) fun he => ?_
    have := wait_none.1 hwl
    rwa [h.last, if_neg he] at this
  | cons x l =>
    obtain ⟨i, hi1, hi2, hi3, hi4, hi5, hi6⟩ := wait_cons hl hwl
    obtain ⟨-, hilk⟩ := first_some hi1
    have hne : s.small ≠ [] := fun e => by rw [e] at hi2; cases hi2
    have hnx : nextS 2 blk s = some i := by
      unfold nextS
      rw [if_pos ⟨rfl, hne⟩]
      rw [h.last, if_neg hne] at hi1
      rw [hi1]
    refine .inr ⟨i, { q with wt := upd q.wt q.last l, pt := q.pt + 1 }, hnx, hi2, hilk, ?_, rfl, rfl, rfl, rfl, ?_⟩
    · unfold nearT
      rw [hfirst, hwl]
      simp only
      rw [hi3]
    · exact h.taken (r := q.bg) hi5 hi6 h.srt (fun _ h => h) (Nat.le_refl _) h.has (by rw [h.wt]; exact hwl) (q.pt + 1)

/-! ### Tiers -/
def nxT (g : Gr) (lim blk : Int) (q : QSt) : Option Int × QSt :=
  match nearQ g lim blk q with
  | (some x, q') => (some x, { q' with s := q'.s.mark (q'.s.small.idxOf x) })
  | (none, q') => (none, q')
structure GT (g : Gr) (blk : Int) (q : QSt) : Prop where
  ok : Okq g q
  tt : TT blk q q.s
  pt : q.pt ≤ q.s.small.length + q.s.looked.countP id
theorem GT.tb {g : Gr} {blk : Int} {q : QSt} (h : GT g blk q) (hb : 1 ≤ blk) (hN : g.nd.length ≤ 1000000) : TB q.s.small.length (q.s.looked.countP id) q := by
  have hr := h.ok.wf.room
  rw [met_len] at hr
  have hn := h.tt.tn
  have hlast : q.last ≤ 9223372036854775807 := by
    rw [h.tt.last]
    split
    · omega
    · rename_i he
      have hlen : 0 < q.s.begins.length := by rw [h.ok.wf.bg]; exact List.length_pos_iff.2 he
      have hm : q.s.begins.getLastD 0 ∈ q.s.begins := by
        rw [List.getLastD_eq_getLast?, List.getLast?_eq_getElem?, List.getElem?_eq_getElem (by omega)]
        exact List.getElem_mem _
      have hb2 := h.tt.bs _ hm
      rw [Int.tdiv_eq_ediv_of_nonneg hb2.1]
      exact Int.le_trans (Int.ediv_le_self _ hb2.1) (by omega)
  refine ⟨by rw [h.tt.tp]; exact hn, h.pt, h.tt.bl, fun z => ?_, ⟨h.tt.lo, hlast⟩, fun z hz => ⟨(h.tt.top z hz).1, Int.le_trans (h.tt.top z hz).2 hlast⟩⟩
  rw [h.tt.wt]
  unfold waitsS
  rw [List.length_map]
  exact Nat.le_trans (List.length_filter_le _ _) (by simp)
theorem waits_pt (g : Gr) (blk : Int) : ∀ (l : List Int) (q : QSt), (l.foldl (waitQ g blk) q).pt = q.pt + l.length
  | [], q => rfl
  | x :: l, q => by
    have := waits_pt g blk l (waitQ g blk q x)
    rw [List.foldl_cons, this]
    show q.pt + 1 + l.length = q.pt + (l.length + 1)
    omega
theorem cnt_pre {a b : List Bool} (h : a <+: b) : a.countP id ≤ b.countP id := by
  obtain ⟨r, rfl⟩ := h
  rw [List.countP_append]; omega
theorem idx_at {l : List Int} (h : l.Nodup) {i : Nat} (hi : i < l.length) : l.idxOf (l.getD i 0) = i := by
  have hx : l[i]? = some (l.getD i 0) := by rw [List.getD_eq_getElem?_getD, List.getElem?_eq_getElem hi]; rfl
  have := plc_nodup h hx
  rw [plc_in (List.mem_of_getElem? hx)] at this
  exact Int.ofNat.inj this
theorem sim_tiers {g : Gr} (hg : grOk g = true) (lim : Int) {blk : Int} (hb : 1 ≤ blk) (hN : g.nd.length ≤ 1000000) : SimN g lim 2 blk (nxT g lim blk) (GT g blk) := by
  have main : ∀ q, GT g blk q → ∃ q2, q2 = ((allS g lim q).small.drop q.s.small.length).foldl (waitQ g blk) (allQ g lim q) ∧ TT blk q2 (allS g lim q) ∧ q2.s = allS g lim q ∧ q2.ah = [] ∧ q2.k = q.k ∧ q2.pt ≤ (allS g lim q).small.length + (allS g lim q).looked.countP id ∧ nearQ g lim blk q = nearT blk q2 := by
    intro q h
    obtain ⟨w, x⟩ := look_ok (lim := lim) h.ok
    obtain ⟨s1, s2, s3⟩ := wait_s g blk ((allS g lim q).small.drop q.s.small.length) (allQ g lim q)
    have ht := TT.look hg (lim := lim) hb hN q.ah (allQ g lim q) q.s ⟨h.tt.tp, h.tt.last, h.tt.wt, h.tt.has, h.tt.srt, h.tt.top, h.tt.lo, h.tt.bl, h.tt.mono, h.tt.bs, h.tt.tn⟩ h.ok.wf h.ok.ah
    refine ⟨_, rfl, ht, s1, s2, s3, ?_, rfl⟩
    rw [waits_pt, List.length_drop]
    have h1 := x.sm.length_le
    have h2 := h.pt
    have h3 := cnt_pre x.lk
    show q.pt + _ ≤ _
    omega
  refine ⟨fun q h => h.ok, fun q h hn => ?_, fun q i h hn => ?_⟩
  · obtain ⟨q2, hq2, ht, s1, s2, s3, hp, hnr⟩ := main q h
    have hW := (look_ok (lim := lim) h.ok).1
    rcases near_is hb ht hW.lk hW.bg s1 with ⟨-, b, hnear, ht2⟩ | ⟨j, q', hj, -⟩
    · have hnx : nxT g lim blk q = (none, { q2 with bg := b }) := by unfold nxT; rw [hnr, hnear]
      rw [hnx]
      refine ⟨rfl, s1, s2, fun l hol => ?_⟩
      have hw0 : Wf g (offQ { q2 with bg := b }).s := by
        show Wf g { q2.s with pile := q2.s.pile.dropLast }
        rw [s1]
        exact ⟨hW.nodup, hW.rng, hW.rch, hW.lk, hW.bg, fun x hx => hW.pl x (List.dropLast_subset _ hx), hW.pn.sublist (List.dropLast_sublist _)⟩
      refine ⟨follow_ok (q := offQ { q2 with bg := b }) s2 hw0 hol, ?_, ?_⟩
      · show TT blk _ { q2.s with pile := q2.s.pile.dropLast }
        rw [s1]
        exact ⟨ht2.tp, ht2.last, ht2.wt, ht2.has, ht2.srt, ht2.top, ht2.lo, ht2.bl, ht2.mono, ht2.bs, ht2.tn⟩
      · show q2.pt ≤ q2.s.small.length + q2.s.looked.countP id
        rw [s1]; exact hp
    · rw [hn] at hj; cases hj
  · obtain ⟨q2, hq2, ht, s1, s2, s3, hp, hnr⟩ := main q h
    have hW := (look_ok (lim := lim) h.ok).1
    rcases near_is hb ht hW.lk hW.bg s1 with ⟨hj, -⟩ | ⟨j, q', hj, hlt, hlk, hnear, e1, e2, e3, e4, ht2⟩
    · rw [hn] at hj; cases hj
    · rw [hn] at hj
      obtain rfl := Option.some.inj hj
      have hs : q'.s = allS g lim q := e1.trans s1
      have hnd : (allS g lim q).small.Nodup := (List.nodup_append.1 hW.nodup).1
      have hnx : nxT g lim blk q = (some ((allS g lim q).small.getD i 0), { q' with s := (allS g lim q).mark i }) := by
        unfold nxT
        rw [hnr, hnear]
        simp only
        rw [hs, idx_at hnd hlt]
      rw [hnx]
      refine ⟨rfl, rfl, e2.trans s2, fun l hol => ⟨follow_ok (q := { q' with s := (allS g lim q).mark i }) (e2.trans s2) (hW.mark i) hol, ?_, ?_⟩⟩
      · exact ⟨ht2.tp, ht2.last, ht2.wt, ht2.has, ht2.srt, ht2.top, ht2.lo, ht2.bl, ht2.mono, ht2.bs, ht2.tn⟩
      · show q'.pt ≤ (allS g lim q).small.length + ((allS g lim q).looked.set i true).countP id
        have hli : i < (allS g lim q).looked.length := by rw [hW.lk]; exact hlt
        have hlf : (allS g lim q).looked[i] = false := by
          rw [List.getD_eq_getElem?_getD, List.getElem?_eq_getElem hli] at hlk
          exact hlk
        rw [List.countP_set hli, hlf, e4]
        simp
        omega
theorem gt_start {g : Gr} {blk : Int} (hg : grOk g = true) : GT g blk (followQ q0 g.rt) := by
  refine ⟨follow_ok (q := q0) rfl (none_wf g) (rt_ok hg), ⟨rfl, rfl, fun z => rfl, fun z hz => absurd rfl hz, List.Pairwise.nil, (fun z hz => by cases hz), Int.le_refl _, Nat.le_refl _, (fun i j bi bj _ hi _ => by cases hi), (fun b hb => by cases hb), ⟨Int.le_refl _, Int.le_refl _⟩⟩, Nat.le_refl _⟩
theorem run_tiers {g : Gr} (lim : Int) {blk : Int} (hb : 1 ≤ blk) (hg : grOk g = true) (hN : g.nd.length ≤ 1000000) : ∃ m e, RunQ g (nxT g lim blk) (GT g blk) m (followQ q0 g.rt) e ∧ e.s = planS g lim 2 blk :=
  sim_plan hg (by decide) (sim_tiers hg lim hb hN) (gt_start hg)
end Go.Proofs.Ytmnehonmbjnnaaa

/- Package reach: Plan. -/
namespace Go.Proofs.Ytmnehonmbjnnaaa
open Go.RowKit Go.Lib
set_option maxRecDepth 100000
set_option linter.unusedSimpArgs false
set_option linter.unusedVariables false

section
variable {W w' : World} {b mb tb mp base B : Nat} {g : Gr} {vn vr : Value} {hs : List (Value × Value)} {lim blk : Int}
/-- A plan in memory, and the graph. -/
def RB (b mb base B : Nat) (g : Gr) (vn vr : Value) (hs : List (Value × Value)) (lim : Int) (W : World) (q : QSt) : Prop := RdG W B g vn vr hs ∧ ∃ V, Qp W b mb base vn vr lim g.nd.length V q.s.met q
def RT (b mb tb mp base B : Nat) (g : Gr) (vn vr : Value) (hs : List (Value × Value)) (lim blk : Int) (W : World) (q : QSt) : Prop := RdG W B g vn vr hs ∧ ∃ V, Qp W b mb base vn vr lim g.nd.length V q.s.met q ∧ Tq W tb mp base b blk V q
theorem rows_mark {q : QSt} {i : Nat} : rowsQ { q with s := q.s.mark i } = rowsQ q := rfl
theorem rdg_ge (h : RdG W B g vn vr hs) (hB : B ≤ base) (hb : base ≤ W.heap.size) (o : Only (geB base) W w') : RdG w' B g vn vr hs := h.below (o.below (Nat.le_trans hB hb) fun _ hk => Nat.le_trans hB hk)
theorem Stp.ge {V V' : Int → Value} {M : List Int} {q : QSt} {n : Nat} (s : Stp b mb V V' W w') (h : Qp W b mb base vn vr lim n V M q) : Only (geB base) W w' := s.only.mono fun k _ hk => h.ge hk
theorem runC_first (hB : B ≤ base) (hN : g.nd.length ≤ 1000000) : RunC b base B g vn vr 52 ⟨b, 0, none⟩ (nxB g lim) (GB g) (RB b mb base B g vn vr hs lim) where
  enters := enters_of Try.func52 (by kernel_rfl) rfl
  next := fun W q hb ⟨hr, V, h⟩ hG => by
    refine (first17 W b mb base B g vn vr hs lim V q h hr hB hb hG.ok hN hG.lk.le).mono ?_
    rintro e w' ⟨V', rfl, h', s'⟩
    have o := s'.ge h
    refine ⟨?_, ⟨rdg_ge hr hB hb o, V', ?_⟩, o⟩
    · unfold nxB
      cases hf : firstQ g lim q with
      | mk o q' => cases o <;> rfl
    · unfold nxB
      revert h'
      cases hf : firstQ g lim q with
      | mk o q' =>
        intro h'
        cases o with
        | none => exact h'
        | some i => exact h'.says rfl rfl
  off := fun W q hb ⟨hr, V, h⟩ => by
    refine (offPile17 W b mb base _ vn vr lim V q h).mono ?_
    rintro e w' ⟨V', rfl, h', s'⟩
    have o := s'.ge h
    exact ⟨rfl, ⟨rdg_ge hr hB hb o, V', h'⟩, o⟩
  fol := fun W q A c l hb ⟨hr, V, h⟩ hl hn => by
    refine (follow17 W b mb base _ vn vr lim V _ q A c B l h hl hB hb hn).mono ?_
    rintro e w' ⟨V', rfl, h', s'⟩
    have o := s'.ge h
    exact ⟨rfl, ⟨rdg_ge hr hB hb o, V', h'⟩, o⟩
  cn := fun W q ⟨_, V, h⟩ => ⟨h.box.cell 0, h.box.cell 1⟩
theorem runC_fresh (hB : B ≤ base) (hN : g.nd.length ≤ 1000000) : RunC b base B g vn vr 53 ⟨b, 0, none⟩ (nxD g lim) (GD g) (RB b mb base B g vn vr hs lim) where
  enters := enters_of Try.func53 (by kernel_rfl) rfl
  next := fun W q hb ⟨hr, V, h⟩ hG => by
    refine (fresh17 W b mb base B g vn vr hs lim V q h hr hB hb hG.ok hN).mono ?_
    rintro e w' ⟨V', rfl, h', s'⟩
    have o := s'.ge h
    refine ⟨?_, ⟨rdg_ge hr hB hb o, V', ?_⟩, o⟩
    · unfold nxD
      cases hf : freshQ g lim q.ah q.s with
      | mk o r => cases o <;> rfl
    · unfold nxD
      revert h'
      cases hf : freshQ g lim q.ah q.s with
      | mk o r =>
        intro h'
        cases o with
        | none => exact h'
        | some i => exact h'.says rfl rfl
  off := (runC_first (lim := lim) (mb := mb) (hs := hs) hB hN).off
  fol := (runC_first (lim := lim) (mb := mb) (hs := hs) hB hN).fol
  cn := (runC_first (lim := lim) (mb := mb) (hs := hs) hB hN).cn
theorem runC_near (hB : B ≤ base) (hN : g.nd.length ≤ 1000000) (hg : grOk g = true) (hblk : 1 ≤ blk ∧ blk ≤ 9223372036854775807) : RunC b base B g vn vr 54 ⟨tb, 0, none⟩ (nxT g lim blk) (GT g blk) (RT b mb tb mp base B g vn vr hs lim blk) where
  enters := enters_of Try.func54 (by kernel_rfl) rfl
  next := fun W q hb ⟨hr, V, h, t⟩ hG => by
    have hroom := hG.ok.wf.room
    rw [met_len] at hroom
    have hcn : q.s.looked.countP id ≤ 1000000 := by
      have h1 : q.s.looked.countP id ≤ q.s.looked.length := List.countP_le_length
      rw [hG.ok.wf.lk] at h1
      omega
    refine (near17 W b mb tb mp base B g vn vr hs lim blk V q _ hg h t hr hB hb hG.ok hN hblk (hG.tb hblk.1 hN) (by omega)).mono ?_
    rintro e w' ⟨V', rfl, h', t', o⟩
    refine ⟨?_, ⟨rdg_ge hr hB hb o, V', ?_⟩, o⟩
    · unfold nxT
      cases hf : nearQ g lim blk q with
      | mk o q' => cases o <;> rfl
    · unfold nxT
      revert h' t'
      cases hf : nearQ g lim blk q with
      | mk o q' =>
        intro h' t'
        cases o with
        | none => exact ⟨h', t'⟩
        | some i => exact ⟨h'.says rfl rfl, ⟨t'.box, t'.map, t'.nt, t'.np⟩⟩
  off := fun W q hb ⟨hr, V, h, t⟩ => by
    refine (offPile17 W b mb base _ vn vr lim V q h).mono ?_
    rintro e w' ⟨V', rfl, h', s'⟩
    have o := s'.ge h
    exact ⟨rfl, ⟨rdg_ge hr hB hb o, V', h', t.plan h s' rfl rfl rfl⟩, o⟩
  fol := fun W q A c l hb ⟨hr, V, h, t⟩ hl hn => by
    refine (follow17 W b mb base _ vn vr lim V _ q A c B l h hl hB hb hn).mono ?_
    rintro e w' ⟨V', rfl, h', s'⟩
    have o := s'.ge h
    exact ⟨rfl, ⟨rdg_ge hr hB hb o, V', h', t.plan h s' rfl rfl rfl⟩, o⟩
  cn := fun W q ⟨_, V, h, _⟩ => ⟨h.box.cell 0, h.box.cell 1⟩
end

/-! ### Plan -/
def planE (g : Gr) (lim order block : Int) : Int := if grOk g = true then (if lim < 1 ∨ block < 1 ∨ (order ≠ 0 ∧ order ≠ 1 ∧ order ≠ 2) then 1 else 0) else 4
def planSm (g : Gr) (lim order block : Int) : List Int := if planE g lim order block = 0 then (planS g lim order block).small else []
def planLg (g : Gr) (lim order block : Int) : List Int := if planE g lim order block = 0 then (planS g lim order block).large else []
/-- A graph that is looked at: its bounds. -/
structure GrBd (g : Gr) : Prop where
  nd : g.nd.length ≤ 1000
  rt : g.rt.length ≤ 1000
def PlanGC (f : FuncId) : Prop := ∀ (g : Gr) (vn vr : Value) (hs : List (Value × Value)) (B : Nat) (W : World) (lim order block : Int), RdG W B g vn vr hs → B ≤ W.heap.size → GrFit g → GrBd g → block ≤ 9223372036854775807 →
  Calls Try.prog f #[.agg #[vn, vr], .int .i64 lim, .int .i64 order, .int .i64 block] W fun e w' => ∃ v1 v2, e = .returned (.tuple #[v1, v2, .int .i64 (planE g lim order block)]) ∧
    OwR w' W.heap.size 3 v1 (planSm g lim order block).length (i64s (planSm g lim order block)) ∧ OwR w' W.heap.size 3 v2 (planLg g lim order block).length (i64s (planLg g lim order block)) ∧ Only nob W w'
theorem rows_q0 : rowsQ q0 = fun _ => [] := by
  funext i
  unfold rowsQ q0 PSt.none
  simp
theorem qp_start {W0 W1 : World} {b mb base : Nat} {vn vr : Value} {lim : Int} {n : Nat} (hb : Blk W1 b 92 #[vn, vr, .int .i64 lim, .slice (some ⟨mb, 0, none⟩) n n, .slice none 0 0, .slice none 0 0, .int .i64 0, .slice none 0 0, .slice none 0 0]) (hm : Blk W1 mb 4 (flQ n [])) (h1 : base ≤ b) (h2 : base ≤ mb) :
    Qp W1 b mb base vn vr lim n (fun _ => nilV) [] q0 :=
  ⟨hb, hm, by rw [rows_q0]; exact ⟨fun _ => OwR.nil_, fun i j k _ h => by cases h⟩, h1, h2⟩
end Go.Proofs.Ytmnehonmbjnnaaa

/- Package reach: Plan walked. (Printed by wip/tools/gen17plan.py.) -/
namespace Go.Proofs.Ytmnehonmbjnnaaa
open Go.RowKit Go.Lib
set_option maxRecDepth 100000
set_option linter.unusedSimpArgs false
set_option linter.unusedVariables false

theorem infoP_bool : (Try.prog.info? 4).map (fun i => (i.zero, i.size, i.bytes)) = some (some (.bool false), 1, 1) := by kernel_rfl
theorem make_flQ (n : Nat) (hn : n ≤ 1000000) (w : World) : (Instr.makeSlice 90 (.int .i64 (n : Int)) (.int .i64 (n : Int))).run Try.prog w = .ok (.slice (some ⟨w.heap.size, 0, none⟩) n n) (w.alloc (.cells (flQ n []) 4)) := by
  obtain ⟨i0, hi0, hz0, hz1, hz2⟩ := info_parts infoP_bool
  have h := run_make (P := Try.prog) w 90 4 i0 _ Try.underlying90 hi0 hz0 .i64 .i64 n n (by omega) (Int.le_refl _) (by rw [hz2]; omega) (by omega)
  rw [h]
  simp only [Int.toNat_natCast, hz1, Nat.mul_one]
  have e : madeCells (Value.bool false).cells n = flQ n [] := by
    apply Array.ext'
    show (madeCells #[.bool false] n).toList = _
    rw [toList_madeCells_one]
    apply List.ext_getElem?
    intro j
    simp [flQ, List.getElem?_replicate]
    split <;> simp_all
  rw [e]
theorem plan_err {g : Gr} {lim order block : Int} {n : Int} (h : planE g lim order block = n) (hn : n ≠ 0) : planSm g lim order block = [] ∧ planLg g lim order block = [] := by
  unfold planSm planLg
  rw [if_neg (by rw [h]; exact hn), if_neg (by rw [h]; exact hn)]
  exact ⟨rfl, rfl⟩
set_option maxHeartbeats 16000000 in
theorem plan_any17 : PlanGC 37 := by
  intro g vn vr hs B W lim order block hr hB hfit hbd hblkm
  obtain ⟨An, cn, rfl, hacn, hcmn⟩ := hr.nodes.form
  obtain ⟨Ar, cr, rfl, hacr, hcmr⟩ := hr.roots.form
  obtain ⟨W1, hW1, o1, b1⟩ : ∃ X, W.alloc (.cells #[.slice An g.nd.length cn, .slice Ar g.rt.length cr] 25) = X ∧ Only nob W X ∧ Blk X W.heap.size 25 #[.slice An g.nd.length cn, .slice Ar g.rt.length cr] := ⟨_, rfl, (Only.refl nob W).alloc _, Blk.new _ _ _⟩
  have HW1 := Lib.hid hW1
  have O1 := Lib.hid o1
  have B1 := Lib.hid b1
  have HG := Lib.hid hr
  have HBW := Lib.hid hB
  have HBD := Lib.hid hbd
  have HRT := Lib.hid (fun (W' : World) (o : Only nob W W') => right_any16 g _ _ hs B W' (hr.only o hB) (Nat.le_trans hB o.size) hfit)
  have c0 : W1.cell? ⟨W.heap.size, 0, none⟩ = some (.slice An g.nd.length cn) := b1.cell 0
  have c1 : W1.cell? ⟨W.heap.size, 1, none⟩ = some (.slice Ar g.rt.length cr) := b1.cell 1
  obtain ⟨E, hE⟩ : ∃ E, E = planE g lim order block := ⟨_, rfl⟩
  have HE := Lib.hid hE
  rw [← hE]
  obtain ⟨gk, hgk⟩ : ∃ k, k = grOk g := ⟨_, rfl⟩
  have HGK := Lib.hid hgk
  rw [← hgk] at HRT
  unfold maxLen at hcmn
  clear hW1 o1 b1 hr hB hfit hbd hE hgk
  have go : ∀ (E' : Int), E = E' → E' ≠ 0 → ∀ w', Only nob W w' → ∃ v1 v2, Ending.returned (.tuple #[.slice none 0 0, .slice none 0 0, .int .i64 E']) = .returned (.tuple #[v1, v2, .int .i64 E]) ∧
      OwR w' W.heap.size 3 v1 (planSm g lim order block).length (i64s (planSm g lim order block)) ∧ OwR w' W.heap.size 3 v2 (planLg g lim order block).length (i64s (planLg g lim order block)) ∧ Only nob W w' := fun E' h1 h2 w' o => by
    obtain ⟨p1, p2⟩ := plan_err (HE.out.symm.trans h1) h2
    refine ⟨_, _, by rw [h1], ?_, ?_, o⟩
    · rw [p1]; exact OwR.nil_
    · rw [p2]; exact OwR.nil_
  have GO := Lib.hid go
  clear go
  go_enter Try.func37, Try.ntmps37
  go_upto_region 1 with fail
  rw [HW1.out]
  go_wp2_with fail
  go_at_call 16
  refine (HRT.out W1 O1.out).mono ?_
  rintro e w2 ⟨rfl, o2⟩
  have O2 := Lib.hid (O1.out.trans o2)
  have B2 := Lib.hid (B1.out.keep o2 id)
  have d0 := o2.keeps c0
  have d1 := o2.keeps c1
  clear c0 c1 o2
  cases gk with
  | false =>
    have HF := Lib.hid (show E = 4 by rw [HE.out]; unfold planE; rw [if_neg (by rw [← HGK.out]; simp)])
    clear d0 d1
    go_wp2
    go_ret3
    exact GO.out 4 HF.out (by decide) _ O2.out
  | true =>
    by_cases hlb : lim < 1 ∨ block < 1
    · have HF := Lib.hid (show E = 1 by
        rw [HE.out]; unfold planE; rw [if_pos HGK.out.symm, if_pos (by rcases hlb with h | h; exact .inl h; exact .inr (.inl h))])
      clear d0 d1
      by_cases hl1 : lim < 1
      · clear hlb
        go_wp2
        go_ret3
        exact GO.out 1 HF.out (by decide) _ O2.out
      · have hb1 : block < 1 := hlb.resolve_left hl1
        clear hlb
        go_wp2
        go_ret3
        exact GO.out 1 HF.out (by decide) _ O2.out
    · have hl1 : ¬ lim < 1 := fun h => hlb (.inl h)
      have hb1 : ¬ block < 1 := fun h => hlb (.inr h)
      have HLB := Lib.hid hlb
      clear hlb
      go_upto_region 5 with fail
      refine region_heldX (stop := 8) (S := fun w' : World => w'.cell? ⟨W.heap.size, 0, none⟩ = some (.slice An g.nd.length cn) ∧ w'.cell? ⟨W.heap.size, 1, none⟩ = some (.slice Ar g.rt.length cr)) (by kernel_rfl) ⟨d0, d1⟩ (fun hHeld => ?_)
      clear d0 d1
      obtain ⟨WD, hWD, oD⟩ : ∃ X, w2.drew = X ∧ Only nob w2 X := ⟨_, rfl, (Only.refl nob w2).drewN 1⟩
      rw [hWD] at hHeld ⊢
      have OD := Lib.hid (O2.out.trans oD)
      clear hWD oD
      refine anyX_take (i := 0) (v := ?_) rfl (by kernel_rfl) (by kernel_rfl) (by kernel_rfl) (by kernel_rfl) (fun _ _ _ h => h) (Or.inl ⟨by rfl, ?_⟩) hHeld ?_
      rotate_left
      · intro w hSw; (try dsimp only at hSw); go_simp; first | done | with_reducible rfl
      try simp only [Act.put, List.setIfInBounds_toArray, List.set_cons_zero, List.set_cons_succ, List.getElem_toArray, List.getElem_cons_succ, List.getElem_cons_zero]
      refine anyX_take (i := 1) (v := ?_) rfl (by kernel_rfl) (by kernel_rfl) (by kernel_rfl) (by kernel_rfl) (fun _ _ _ h => h) (Or.inl ⟨by rfl, ?_⟩) hHeld ?_
      rotate_left
      · intro w hSw; (try dsimp only at hSw); go_simp; first | done | with_reducible rfl
      try simp only [Act.put, List.setIfInBounds_toArray, List.set_cons_zero, List.set_cons_succ, List.getElem_toArray, List.getElem_cons_succ, List.getElem_cons_zero]
      refine anyX_take (i := 2) (v := ?_) rfl (by kernel_rfl) (by kernel_rfl) (by kernel_rfl) (by kernel_rfl) (fun _ _ _ h => h) (Or.inl ⟨by rfl, ?_⟩) hHeld ?_
      rotate_left
      · intro w hSw; (try dsimp only at hSw); go_simp; first | done | with_reducible rfl
      try simp only [Act.put, List.setIfInBounds_toArray, List.set_cons_zero, List.set_cons_succ, List.getElem_toArray, List.getElem_cons_succ, List.getElem_cons_zero]
      refine anyX_take (i := 3) (v := ?_) rfl (by kernel_rfl) (by kernel_rfl) (by kernel_rfl) (by kernel_rfl) (fun _ _ _ h => h) (Or.inl ⟨by rfl, ?_⟩) hHeld ?_
      rotate_left
      · intro w hSw; (try dsimp only at hSw); go_simp; first | done | with_reducible rfl
      try simp only [Act.put, List.setIfInBounds_toArray, List.set_cons_zero, List.set_cons_succ, List.getElem_toArray, List.getElem_cons_succ, List.getElem_cons_zero]
      refine anyX_take (i := 4) (v := ?_) rfl (by kernel_rfl) (by kernel_rfl) (by kernel_rfl) (by kernel_rfl) (fun _ _ _ h => h) (Or.inl ⟨by rfl, ?_⟩) hHeld ?_
      rotate_left
      · intro w hSw; (try dsimp only at hSw); go_simp; first | done | with_reducible rfl
      try simp only [Act.put, List.setIfInBounds_toArray, List.set_cons_zero, List.set_cons_succ, List.getElem_toArray, List.getElem_cons_succ, List.getElem_cons_zero]
      obtain ⟨X2, hX2, oX2, bX2, sX2⟩ : ∃ X, WD.alloc (.cells (flQ g.nd.length []) 4) = X ∧ Only nob WD X ∧ Blk X WD.heap.size 4 (flQ g.nd.length []) ∧ X.heap.size = WD.heap.size + 1 := ⟨_, rfl, (Only.refl nob WD).alloc _, Blk.new _ _ _, by simp⟩
      have hmk := make_flQ g.nd.length (by have := HBD.out.nd; omega) WD
      rw [hX2] at hmk
      have HOX2 := Lib.hid oX2
      have OX2 := Lib.hid (OD.out.trans oX2)
      have BX2 := Lib.hid bX2
      clear hX2 oX2 bX2 sX2
      refine anyX_ready (rs := [5]) (by kernel_rfl) (by simp) ?_
      refine (AllX.cons rfl (fun K hK => ?_) AllX.nil)
      go_simp
      refine hK.out _ _ (fun _ => ⟨HOX2.out.keeps hHeld.1, HOX2.out.keeps hHeld.2⟩) (fun hHeld2 => ?_)
      clear hK K hHeld
      have hHeld := hHeld2 (by decide)
      clear hHeld2
      try simp only [Act.put, List.setIfInBounds_toArray, List.set_cons_zero, List.set_cons_succ, List.getElem_toArray, List.getElem_cons_succ, List.getElem_cons_zero]
      refine anyX_take (i := 6) (v := ?_) rfl (by kernel_rfl) (by kernel_rfl) (by kernel_rfl) (by kernel_rfl) (fun _ _ _ h => h) (Or.inl ⟨by rfl, ?_⟩) hHeld ?_
      rotate_left
      · intro w hSw; (try dsimp only at hSw); go_simp; first | done | with_reducible rfl
      try simp only [Act.put, List.setIfInBounds_toArray, List.set_cons_zero, List.set_cons_succ, List.getElem_toArray, List.getElem_cons_succ, List.getElem_cons_zero]
      obtain ⟨X3, hX3, oX3, bX3⟩ : ∃ X, X2.alloc (.cells #[.slice An g.nd.length cn, .slice Ar g.rt.length cr, .int .i64 lim, .slice (some ⟨WD.heap.size, 0, none⟩) g.nd.length g.nd.length, .slice none 0 0, .slice none 0 0, .int .i64 0, .slice none 0 0, .slice none 0 0] 92) = X ∧ Only nob X2 X ∧ Blk X X2.heap.size 92 #[.slice An g.nd.length cn, .slice Ar g.rt.length cr, .int .i64 lim, .slice (some ⟨WD.heap.size, 0, none⟩) g.nd.length g.nd.length, .slice none 0 0, .slice none 0 0, .int .i64 0, .slice none 0 0, .slice none 0 0] := ⟨_, rfl, (Only.refl nob X2).alloc _, Blk.new _ _ _⟩
      have HX3 := Lib.hid hX3
      have HOX3 := Lib.hid oX3
      have OX3 := Lib.hid (OX2.out.trans oX3)
      have HQ := Lib.hid (qp_start (W0 := W) (base := W.heap.size) bX3 (BX2.out.keep oX3 id) OX2.out.size OD.out.size)
      have HG3 := Lib.hid (HG.out.only OX3.out HBW.out)
      clear hX3 oX3 bX3 hmk
      refine anyX_ready (rs := [7]) (by kernel_rfl) (by simp) ?_
      refine (AllX.cons rfl (fun K hK => ?_) AllX.nil)
      go_simp
      with_reducible rw [HX3.out]
      refine hK.out _ _ (fun _ => ⟨HOX3.out.keeps hHeld.1, HOX3.out.keeps hHeld.2⟩) (fun hHeld2 => ?_)
      clear hK K hHeld
      have hHeld := hHeld2 (by decide)
      clear hHeld2
      try simp only [Act.put, List.setIfInBounds_toArray, List.set_cons_zero, List.set_cons_succ, List.getElem_toArray, List.getElem_cons_succ, List.getElem_cons_zero]
      refine anyX_ready (rs := [8]) (by kernel_rfl) (by simp) ?_
      refine (AllX.cons rfl (fun K hK => ?_) AllX.nil)
      go_simp
      refine hK.out _ _ (fun h => absurd rfl h) (fun hHeld2 => ?_)
      clear hK K hHeld hHeld2
      try simp only [Act.put, List.setIfInBounds_toArray, List.set_cons_zero, List.set_cons_succ, List.getElem_toArray, List.getElem_cons_succ, List.getElem_cons_zero]
      refine anyX_done (by kernel_rfl) ?_ _
      obtain ⟨bp, hbp⟩ : ∃ b, b = X2.heap.size := ⟨_, rfl⟩
      obtain ⟨mb, hmb⟩ : ∃ b, b = WD.heap.size := ⟨_, rfl⟩
      rw [← hbp, ← hmb] at HQ
      rw [← hbp, ← hmb]
      clear hbp hmb BX2 HX3 HOX3 HOX2 OX2 OD
      have HRB := Lib.hid (show RB bp mb W.heap.size B g _ _ hs lim X3 q0 from ⟨HG3.out, _, HQ.out⟩)
      have hgk : grOk g = true := HGK.out.symm
      have HGO := Lib.hid hgk
      have hN1 := HBD.out.nd
      have hR1 := HBD.out.rt
      by_cases ho0 : order = 0
      · subst ho0
        have HF := Lib.hid (show E = 0 by
          rw [HE.out]; unfold planE; rw [if_pos HGO.out, if_neg (by rintro (h | h | h); omega; omega; exact h.1 rfl)])
        obtain ⟨m, ee, hrun, hee⟩ := run_breadth (g := g) lim block hgk
        have HEE := Lib.hid hee
        have HC := Lib.hid (run17 bp W.heap.size B g _ _ hs 52 ⟨bp, 0, none⟩ _ _ _ (runC_first (mb := mb) (hs := hs) HBW.out (by omega)) HBW.out X3 q0 ee m HRB.out HG3.out OX3.out.size hrun (by show g.rt.length + 0 ≤ _; omega))
        clear hrun hee hN1 hR1 hgk
        go_wp2_with fail
        go_at_call 51
        refine HC.out.mono ?_
        rintro e w5 ⟨rfl, hRE, oE⟩
        obtain ⟨-, V, HQE0⟩ := hRE
        have HQE := Lib.hid HQE0
        have HO := Lib.hid (show Only nob W w5 from OX3.out.andThen oE fun i hi e => by unfold geB at e; omega)
        obtain ⟨A4, k4, hv4, -, -⟩ := (HQE0.rows.own (-1)).form
        obtain ⟨A5, k5, hv5, -, -⟩ := (HQE0.rows.own (-2)).form
        have c4 : w5.cell? ⟨bp, 4, none⟩ = some (V (-1)) := HQE0.cell at_sm
        have c5 : w5.cell? ⟨bp, 5, none⟩ = some (V (-2)) := HQE0.cell at_lg
        have h4 := HQE0.rows.own (-1)
        have h5 := HQE0.rows.own (-2)
        rw [hv4] at c4 h4
        rw [hv5] at c5 h5
        have hr4 : rowsQ ee (-1) = planSm g lim 0 block := by unfold planSm; rw [if_pos (HE.out.symm.trans HF.out)]; show ee.s.small = _; rw [HEE.out]
        have hr5 : rowsQ ee (-2) = planLg g lim 0 block := by unfold planLg; rw [if_pos (HE.out.symm.trans HF.out)]; show ee.s.large = _; rw [HEE.out]
        rw [hr4] at h4 c4
        rw [hr5] at h5 c5
        have H4 := Lib.hid h4
        have H5 := Lib.hid h5
        clear hv4 hv5 hr4 hr5 h4 h5 HQE0 oE
        go_wp2
        go_quiet (fail)
        go_wp2
        go_ret3
        refine ⟨_, _, by rw [HF.out]; rfl, H4.out.only ((Only.refl nob w5).drewN _) fun _ _ h => h, H5.out.only ((Only.refl nob w5).drewN _) fun _ _ h => h, HO.out.trans ((Only.refl nob w5).drewN _)⟩
      · have hq0 : (order == 0) = false := by simpa using ho0
        by_cases ho1 : order = 1
        · subst ho1
          have HF := Lib.hid (show E = 0 by
            rw [HE.out]; unfold planE; rw [if_pos HGO.out, if_neg (by rintro (h | h | h); omega; omega; exact h.2.1 rfl)])
          obtain ⟨m, ee, hrun, hee⟩ := run_depth (g := g) lim block hgk (by omega) (by omega)
          have HEE := Lib.hid hee
          have HC := Lib.hid (run17 bp W.heap.size B g _ _ hs 53 ⟨bp, 0, none⟩ _ _ _ (runC_fresh (mb := mb) (hs := hs) HBW.out (by omega)) HBW.out X3 q0 ee m HRB.out HG3.out OX3.out.size hrun (by show g.rt.length + 0 ≤ _; omega))
          clear hrun hee hN1 hR1 hgk
          go_wp2_with fail
          go_at_call 51
          refine HC.out.mono ?_
          rintro e w5 ⟨rfl, hRE, oE⟩
          obtain ⟨-, V, HQE0⟩ := hRE
          have HQE := Lib.hid HQE0
          have HO := Lib.hid (show Only nob W w5 from OX3.out.andThen oE fun i hi e => by unfold geB at e; omega)
          obtain ⟨A4, k4, hv4, -, -⟩ := (HQE0.rows.own (-1)).form
          obtain ⟨A5, k5, hv5, -, -⟩ := (HQE0.rows.own (-2)).form
          have c4 : w5.cell? ⟨bp, 4, none⟩ = some (V (-1)) := HQE0.cell at_sm
          have c5 : w5.cell? ⟨bp, 5, none⟩ = some (V (-2)) := HQE0.cell at_lg
          have h4 := HQE0.rows.own (-1)
          have h5 := HQE0.rows.own (-2)
          rw [hv4] at c4 h4
          rw [hv5] at c5 h5
          have hr4 : rowsQ ee (-1) = planSm g lim 1 block := by unfold planSm; rw [if_pos (HE.out.symm.trans HF.out)]; show ee.s.small = _; rw [HEE.out]
          have hr5 : rowsQ ee (-2) = planLg g lim 1 block := by unfold planLg; rw [if_pos (HE.out.symm.trans HF.out)]; show ee.s.large = _; rw [HEE.out]
          rw [hr4] at h4 c4
          rw [hr5] at h5 c5
          have H4 := Lib.hid h4
          have H5 := Lib.hid h5
          clear hv4 hv5 hr4 hr5 h4 h5 HQE0 oE
          go_wp2
          go_quiet (fail)
          go_wp2
          go_ret3
          refine ⟨_, _, by rw [HF.out]; rfl, H4.out.only ((Only.refl nob w5).drewN _) fun _ _ h => h, H5.out.only ((Only.refl nob w5).drewN _) fun _ _ h => h, HO.out.trans ((Only.refl nob w5).drewN _)⟩
        · have hq1 : (order == 1) = false := by simpa using ho1
          by_cases ho2 : order = 2
          · subst ho2
            have HF := Lib.hid (show E = 0 by
              rw [HE.out]; unfold planE; rw [if_pos HGO.out, if_neg (by rintro (h | h | h); omega; omega; exact h.2.2 rfl)])
            obtain ⟨m, ee, hrun, hee⟩ := run_tiers (g := g) lim (blk := block) (by omega) hgk (by omega)
            have HEE := Lib.hid hee
            obtain ⟨X4, hX4, oX4, mX4, sX4⟩ : ∃ X, X3.alloc (.map #[] 0) = X ∧ Only nob X3 X ∧ VMap X X3.heap.size 0 (fun _ => nilV) ∧ X.heap.size = X3.heap.size + 1 := ⟨_, rfl, (Only.refl nob X3).alloc _, VMap.new _ fun _ _ => rfl, by simp⟩
            obtain ⟨X5, hX5, oX5, bX5, sX5⟩ : ∃ X, X4.alloc (.cells #[.pointer (some ⟨bp, 0, none⟩), .int .i64 block, .map (some X3.heap.size), .slice none 0 0, .int .i64 0, .int .i64 0] 98) = X ∧ Only nob X4 X ∧ Blk X X4.heap.size 98 #[.pointer (some ⟨bp, 0, none⟩), .int .i64 block, .map (some X3.heap.size), .slice none 0 0, .int .i64 0, .int .i64 0] ∧ X.heap.size = X4.heap.size + 1 := ⟨_, rfl, (Only.refl nob X4).alloc _, Blk.new _ _ _, by simp⟩
            have HX4 := Lib.hid hX4
            have HX5 := Lib.hid hX5
            have o35 := oX4.trans oX5
            have OX5 := Lib.hid (OX3.out.trans o35)
            have HT := Lib.hid (show Tq X5 X4.heap.size X3.heap.size W.heap.size bp block (fun _ => nilV) q0 from ⟨bX5, mX4.keep oX5 id, by have := OX3.out.size; omega, OX3.out.size⟩)
            have HRT5 := Lib.hid (show RT bp mb X4.heap.size X3.heap.size W.heap.size B g _ _ hs lim block X5 q0 from ⟨HG3.out.only o35 (Nat.le_trans HBW.out OX3.out.size), _, HQ.out.kept o35, HT.out⟩)
            have HC := Lib.hid (run17 bp W.heap.size B g _ _ hs 54 ⟨X4.heap.size, 0, none⟩ _ _ _ (runC_near (mb := mb) (mp := X3.heap.size) (hs := hs) HBW.out (by omega) hgk ⟨by omega, hblkm⟩) HBW.out X5 q0 ee m HRT5.out (HG3.out.only o35 (Nat.le_trans HBW.out OX3.out.size)) OX5.out.size hrun (by show g.rt.length + 0 ≤ _; omega))
            clear hrun hee hN1 hR1 hgk hX4 oX4 mX4 sX4 hX5 oX5 bX5 sX5 o35
            have hmm := @run_makeMap Try.prog
            go_wp2_with (first | (with_reducible rw [HX4.out]) | (with_reducible rw [HX5.out]))
            go_at_call 51
            refine HC.out.mono ?_
            rintro e w5 ⟨rfl, hRE, oE⟩
            have hRE : RB bp mb W.heap.size B g _ _ hs lim w5 ee := ⟨hRE.1, hRE.2.choose, hRE.2.choose_spec.1⟩
            have oE := show Only (geB W.heap.size) X5 w5 from oE
            obtain ⟨-, V, HQE0⟩ := hRE
            have HQE := Lib.hid HQE0
            have HO := Lib.hid (show Only nob W w5 from OX5.out.andThen oE fun i hi e => by unfold geB at e; omega)
            obtain ⟨A4, k4, hv4, -, -⟩ := (HQE0.rows.own (-1)).form
            obtain ⟨A5, k5, hv5, -, -⟩ := (HQE0.rows.own (-2)).form
            have c4 : w5.cell? ⟨bp, 4, none⟩ = some (V (-1)) := HQE0.cell at_sm
            have c5 : w5.cell? ⟨bp, 5, none⟩ = some (V (-2)) := HQE0.cell at_lg
            have h4 := HQE0.rows.own (-1)
            have h5 := HQE0.rows.own (-2)
            rw [hv4] at c4 h4
            rw [hv5] at c5 h5
            have hr4 : rowsQ ee (-1) = planSm g lim 2 block := by unfold planSm; rw [if_pos (HE.out.symm.trans HF.out)]; show ee.s.small = _; rw [HEE.out]
            have hr5 : rowsQ ee (-2) = planLg g lim 2 block := by unfold planLg; rw [if_pos (HE.out.symm.trans HF.out)]; show ee.s.large = _; rw [HEE.out]
            rw [hr4] at h4 c4
            rw [hr5] at h5 c5
            have H4 := Lib.hid h4
            have H5 := Lib.hid h5
            clear hv4 hv5 hr4 hr5 h4 h5 HQE0 oE
            go_wp2
            go_quiet (fail)
            go_wp2
            go_ret3
            refine ⟨_, _, by rw [HF.out]; rfl, H4.out.only ((Only.refl nob w5).drewN _) fun _ _ h => h, H5.out.only ((Only.refl nob w5).drewN _) fun _ _ h => h, HO.out.trans ((Only.refl nob w5).drewN _)⟩
          · have hq2 : (order == 2) = false := by simpa using ho2
            have HF := Lib.hid (show E = 1 by
              rw [HE.out]; unfold planE; rw [if_pos HGO.out, if_pos (.inr (.inr ⟨ho0, ho1, ho2⟩))])
            clear hN1 hR1 hgk
            go_wp2
            go_ret3
            exact GO.out 1 HF.out (by decide) _ OX3.out
end Go.Proofs.Ytmnehonmbjnnaaa
