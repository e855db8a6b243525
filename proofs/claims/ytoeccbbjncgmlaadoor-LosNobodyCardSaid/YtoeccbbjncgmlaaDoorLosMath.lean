/- Plain mathematics of a large part: objects of a table in words, some marked, some on a list; what is picked out of a table. No program in it. -/
import Derived.Test.YtoeccbbjncgmlaaDoorThrMath
import Derived.Test.YtoeccbbjncgmlaaDoorLedMath
namespace Go.Proofs.YtoeccbbjncgmlaaDoor
open Go.RowKit

/-- The words, with another mark and another cursor in the header at p. -/
def hdL (l : List Nat) (p : Nat) (m : Bool) (c : Int) : List Nat := l.set p (hW (wK (wd l p)) (wF (wd l p)) (wR (wd l p)) m c).toNat
section
variable {l : List Nat} {p q : Nat} {m m' : Bool} {c d : Int}
theorem curL_hd : curL l p c = hdL l p (wM (wd l p)) c := rfl
theorem hdL_len : (hdL l p m c).length = l.length := List.length_set
theorem hdL_other (h : p ≠ q) : wd (hdL l p m c) q = wd l q := wd_other _ _ _ _ h
theorem hdL_at (h : Ob l p) (hc : 0 ≤ c ∧ c ≤ 1048576) : wK (wd (hdL l p m c) p) = wK (wd l p) ∧ wF (wd (hdL l p m c) p) = wF (wd l p) ∧ wR (wd (hdL l p m c) p) = wR (wd l p) ∧ wM (wd (hdL l p m c) p) = m ∧ wC (wd (hdL l p m c) p) = c ∧ wOk (wd (hdL l p m c) p) = true := by
  unfold hdL
  rw [wd_same l p _ h.there]
  exact hW_parts _ (cur_may h hc)
theorem hdL_ob (h : Ob l p) (hc : 0 ≤ c ∧ c ≤ 1048576) (hq : Ob l q) : Ob (hdL l p m c) q := by
  by_cases e : p = q
  · subst e
    obtain ⟨-, e2, e3, -, -, e6⟩ := hdL_at (m := m) h hc
    exact ⟨by rw [hdL_len]; exact h.there, e6, by rw [e2, e3, hdL_len]; exact h.far⟩
  · exact ⟨by rw [hdL_len]; exact hq.there, by rw [hdL_other e]; exact hq.ok, by rw [hdL_other e, hdL_len]; exact hq.far⟩
theorem hdL_twice (h : Ob l p) (hc : 0 ≤ c ∧ c ≤ 1048576) : hdL (hdL l p m c) p m' d = hdL l p m' d := by
  obtain ⟨e1, e2, e3, -, -, -⟩ := hdL_at (m := m) h hc
  rw [show hdL (hdL l p m c) p m' d = (hdL l p m c).set p (hW (wK (wd (hdL l p m c) p)) (wF (wd (hdL l p m c) p)) (wR (wd (hdL l p m c) p)) m' d).toNat from rfl, e1, e2, e3]
  unfold hdL
  rw [List.set_set]
theorem hdL_cur (h : Ob l p) (hc : 0 ≤ c ∧ c ≤ 1048576) : curL (hdL l p m c) p d = hdL l p m d := by
  rw [curL_hd, (hdL_at h hc).2.2.2.1, hdL_twice h hc]
/-- What SetHead does with another mark and another cursor. -/
theorem sh_hd (h : Ob l p) (hc : 0 ≤ c ∧ c ≤ 1048576) : shE l p (ohK l p) (ohF l p) (ohR l p) c = 0 ∧ shL l p (ohK l p) (ohF l p) (ohR l p) m c = hdL l p m c := by
  obtain ⟨h0, h1, h2, h3, h4, -⟩ := oh_yes h
  have := sh_yes (l := l) (a := p) (k := ohK l p) (f := ohF l p) (r := ohR l p) (c := c) m h0 ⟨by rw [h1, h2, h3]; exact cur_may h hc, rfl⟩
  refine ⟨this.1, this.2.trans ?_⟩
  rw [h1, h2, h3, Int.toNat_natCast]; rfl
end

/-- The list qs, as the cursors of a table's objects tell it. -/
def ChW (l : List Nat) (T : List Sp) : List Nat → Prop
  | [] => True
  | k :: qs => k ∉ qs ∧ (∃ x : Sp, T[k]? = some x ∧ wC (wd l x.1.toNat) = topS qs) ∧ ChW l T qs
theorem ChW.other {l l' : List Nat} {T : List Sp} : ∀ {qs : List Nat}, (∀ k ∈ qs, ∀ x : Sp, T[k]? = some x → wd l' x.1.toNat = wd l x.1.toNat) → ChW l T qs → ChW l' T qs
  | [], _, _ => trivial
  | k :: qs, h, hc => ⟨hc.1, by
      obtain ⟨x, h1, h2⟩ := hc.2.1
      exact ⟨x, h1, by rw [h k List.mem_cons_self x h1]; exact h2⟩, ChW.other (fun j hj => h j (List.mem_cons_of_mem _ hj)) hc.2.2⟩
theorem ChW.lt {l : List Nat} {T : List Sp} : ∀ {qs : List Nat}, ChW l T qs → ∀ k ∈ qs, k < T.length
  | k :: qs, hc, j, hj => by
    rcases List.mem_cons.1 hj with rfl | hj
    · obtain ⟨x, h1, -⟩ := hc.2.1
      exact (List.getElem?_eq_some_iff.1 h1).1
    · exact ChW.lt hc.2.2 j hj
theorem ChW.nodup {l : List Nat} {T : List Sp} : ∀ {qs : List Nat}, ChW l T qs → qs.Nodup
  | [], _ => List.nodup_nil
  | _ :: _, hc => List.nodup_cons.2 ⟨hc.1, ChW.nodup hc.2.2⟩

/-- Spans of a table begin at places of their own. -/
theorem tab_inj {all : Sp} {T F : List Sp} (h : TableP all T F) {j k : Nat} {x y : Sp} (hx : T[j]? = some x) (hy : T[k]? = some y) (e : x.1 = y.1) : j = k := by
  have he := List.pairwise_iff_getElem.1 (table_ends h.2.1 h.2.2.1)
  obtain ⟨h1, rfl⟩ := List.getElem?_eq_some_iff.1 hx
  obtain ⟨h2, rfl⟩ := List.getElem?_eq_some_iff.1 hy
  rcases Nat.lt_trichotomy j k with hlt | he' | hgt
  · have := he j k h1 h2 hlt
    have := (h.2.2.1.1 _ (List.getElem_mem h1)).2.1
    omega
  · exact he'
  · have := he k j h2 h1 hgt
    have := (h.2.2.1.1 _ (List.getElem_mem h2)).2.1
    omega
theorem find_at {all : Sp} {T F : List Sp} (h : TableP all T F) {k : Nat} {x : Sp} (hx : T[k]? = some x) : findT T x.1 = (k : Nat) :=
  idxI_hit hx (decide_eq_true rfl) fun j y hj hy => decide_eq_false fun e => by have := tab_inj h hy hx e; omega

/-- A part: its words, its table and what is free; ms tells which are marked, qs is on the list. -/
structure LosS (all : Sp) (l : List Nat) (T F : List Sp) (ms : Nat → Bool) (qs : List Nat) : Prop where
  tab : TableP all T F
  far : all.ok ∧ all.1 + all.2 ≤ (l.length : Int)
  ob : ∀ (k : Nat) (x : Sp), T[k]? = some x → ∃ p : Nat, x.1 = p ∧ Ob l p ∧ 1 + wF (wd l p) + wR (wd l p) = x.2 ∧ wM (wd l p) = ms k
  list : ChW l T qs
  marked : ∀ k ∈ qs, ms k = true
theorem los_new {all : Sp} {l : List Nat} (h : all.ok) (hl : all.1 + all.2 ≤ (l.length : Int)) : LosS all l [] [all] (fun _ => false) [] := by
  refine ⟨⟨(fun _ h => by cases h), List.Pairwise.nil, ⟨(fun _ h => by cases h), List.Pairwise.nil⟩, ⟨fun x hx => ?_, List.pairwise_singleton _ _⟩, fun p => ?_⟩, ⟨h, hl⟩, (fun _ _ h => by cases h), trivial, fun _ h => by cases h⟩
  · rw [List.mem_singleton.1 hx]; exact h
  · rw [cov_one]
    exact ⟨fun h => ⟨h, cov_nil p⟩, fun h => h.1⟩
section
variable {all : Sp} {l : List Nat} {T F : List Sp} {ms : Nat → Bool} {qs : List Nat}
theorem LosS.few (h : LosS all l T F ms qs) (k : Nat) (x : Sp) (hx : T[k]? = some x) : ∃ p : Nat, x.1 = p ∧ x.1.toNat = p ∧ Ob l p ∧ ohE l x.1 = 0 := by
  obtain ⟨p, h1, h2, -⟩ := h.ob k x hx
  exact ⟨p, h1, by rw [h1]; rfl, h2, by rw [h1]; exact oh_zero h2⟩
/-- Another header for the object at the place k. -/
theorem LosS.head (h : LosS all l T F ms qs) {k p : Nat} {x : Sp} (hx : T[k]? = some x) (hp : x.1 = p) {m : Bool} {c : Int} (hc : 0 ≤ c ∧ c ≤ 1048576) {rs : List Nat}
    (hr : ChW (hdL l p m c) T rs) (hm : ∀ j ∈ rs, (if j = k then m else ms j) = true) : LosS all (hdL l p m c) T F (fun j => if j = k then m else ms j) rs := by
  obtain ⟨p', e1, e2, e3, e4⟩ := h.ob k x hx
  obtain rfl : p = p' := by omega
  refine ⟨h.tab, ⟨h.far.1, by rw [hdL_len]; exact h.far.2⟩, fun j y hy => ?_, hr, hm⟩
  obtain ⟨q, q1, q2, q3, q4⟩ := h.ob j y hy
  by_cases e : j = k
  · subst e
    rw [hx] at hy
    obtain rfl := Option.some.inj hy
    obtain rfl : p = q := by omega
    obtain ⟨-, a2, a3, a4, -, -⟩ := hdL_at (m := m) e2 hc
    exact ⟨p, q1, hdL_ob e2 hc e2, by rw [a2, a3]; exact e3, by rw [a4, if_pos rfl]⟩
  · have hne : p ≠ q := fun e' => e (tab_inj h.tab hy hx (by rw [q1, hp, e']))
    exact ⟨q, q1, hdL_ob e2 hc q2, by rw [hdL_other hne]; exact q3, by rw [hdL_other hne, if_neg e]; exact q4⟩
theorem LosS.apart (h : LosS all l T F ms qs) {k p : Nat} {x : Sp} (hx : T[k]? = some x) (hp : x.1 = p) {m : Bool} {c : Int} {rs : List Nat} (hk : k ∉ rs) (hr : ChW l T rs) : ChW (hdL l p m c) T rs := by
  refine hr.other fun j hj y hy => ?_
  obtain ⟨q, q1, -⟩ := h.ob j y hy
  have hne : p ≠ q := fun e => hk (by rw [← tab_inj h.tab hy hx (by rw [q1, hp, e])]; exact hj)
  rw [q1, Int.toNat_natCast]
  exact hdL_other hne
theorem LosS.top (h : LosS all l T F ms qs) (hT : T.length ≤ 1000) : 0 ≤ topS qs ∧ topS qs ≤ 1048576 := topS_cur h.list.lt hT
/-- One that is not marked is marked, and ahead of all others on the list. -/
theorem LosS.mark (h : LosS all l T F ms qs) (hT : T.length ≤ 1000) {k p : Nat} {x : Sp} (hx : T[k]? = some x) (hp : x.1 = p) (hm : ms k = false) : LosS all (hdL l p true (topS qs)) T F (fun j => if j = k then true else ms j) (k :: qs) := by
  have hk : k ∉ qs := fun hk => by rw [h.marked k hk] at hm; cases hm
  have hob : Ob l p := by
    obtain ⟨p', e1, e2, -⟩ := h.ob k x hx
    obtain rfl : p = p' := by omega
    exact e2
  refine h.head hx hp (h.top hT) ⟨hk, ⟨x, hx, ?_⟩, h.apart hx hp hk h.list⟩ fun j hj => ?_
  · rw [hp, Int.toNat_natCast]
    exact (hdL_at hob (h.top hT)).2.2.2.2.1
  · by_cases e : j = k
    · rw [if_pos e]
    · rw [if_neg e]
      rcases List.mem_cons.1 hj with e' | hj
      · exact absurd e' e
      · exact h.marked j hj
/-- The first one of the list is popped. -/
theorem LosS.pop {k : Nat} (h : LosS all l T F ms (k :: qs)) {p : Nat} {x : Sp} (hx : T[k]? = some x) (hp : x.1 = p) : wC (wd l p) = topS qs ∧ LosS all (curL l p 0) T F ms qs := by
  obtain ⟨p', e1, e2, e3, e4⟩ := h.ob k x hx
  obtain rfl : p = p' := by omega
  have hmk := h.marked k List.mem_cons_self
  constructor
  · obtain ⟨y, hy, hc⟩ := h.list.2.1
    rw [hx] at hy
    obtain rfl := Option.some.inj hy
    rw [hp, Int.toNat_natCast] at hc
    exact hc
  · rw [curL_hd]
    have hif : (fun j => if j = k then wM (wd l p) else ms j) = ms := by
      funext j
      by_cases e : j = k
      · subst e; rw [if_pos rfl, e4]
      · rw [if_neg e]
    have := h.head (m := wM (wd l p)) (c := 0) hx hp (by omega) (h.apart hx hp h.list.1 h.list.2.2) (fun j hj => by rw [congrFun hif j]; exact h.marked j (List.mem_cons_of_mem _ hj))
    rwa [hif] at this

theorem splice_wd_hi (l : List Nat) (a k x q : Nat) (hq : a + k ≤ q) (ha : a + k ≤ l.length) : wd (filled l a k x) q = wd l q := by
  unfold wd filled splice
  rw [List.getD_eq_getElem?_getD, List.getD_eq_getElem?_getD, List.length_replicate, List.getElem?_append_right (by simp; omega), List.getElem?_append_right (by simp; omega), List.getElem?_drop]
  simp only [List.length_take, List.length_replicate]
  congr 2
  omega
/-- An object is put into free words. -/
theorem LosS.put (h : LosS all l T F (fun _ => false) []) {k f r c : Int} (hm : hmay k f r c = true) {a : List Sp} {s : Int} (ht : Took all F (1 + f + r) a s) :
    ptE l s k f r c = 0 ∧ LosS all (ptL l s k f r false c) (insAt T (placeT T s) (s, 1 + f + r)) a (fun _ => false) [] := by
  obtain ⟨-, t2, -⟩ := table_took h.tab ht
  have hmb := hmay_iff.1 hm
  obtain ⟨n, hn⟩ : ∃ n : Int, n = 1 + f + r := ⟨_, rfl⟩
  rw [← hn] at ht t2 ⊢
  have hok := ht.ok
  have hwi := t2.1 (s, n) (insAt_mem.2 (.inl rfl))
  have hin1 := hwi.2.2.1.2.1
  have hin2 := hwi.2.2.2.2.2
  simp only at hin1 hin2
  have h0 := h.far.1.1
  obtain ⟨sp, rfl⟩ := Int.eq_ofNat_of_zero_le (show 0 ≤ s by omega)
  have hfar := h.far.2
  obtain ⟨e1, e2⟩ := pt_yes (l := l) (a := (sp : Int)) false hm (by omega)
  rw [← hn, Int.toNat_natCast] at e2
  obtain ⟨q1, q2, q3, q4, q5, q6⟩ := hW_parts false hm
  have hfl : (filled l sp n.toNat 0).length = l.length := filled_len _ _ _ _ (by omega)
  have hln : (ptL l sp k f r false c).length = l.length := by rw [e2, List.length_set, hfl]
  have hwa : wd (ptL l sp k f r false c) sp = (hW k f r false c).toNat := by rw [e2]; exact wd_same _ _ _ (by omega)
  refine ⟨e1, t2, ⟨h.far.1, by rw [hln]; exact hfar⟩, fun j x hx => ?_, trivial, fun _ h => by cases h⟩
  rcases insAt_mem.1 (List.mem_of_getElem? hx) with rfl | hmem
  · exact ⟨sp, rfl, ⟨by rw [hln]; omega, by rw [hwa]; exact q6, by rw [hwa, q2, q3, hln]; omega⟩, by rw [hwa, q2, q3]; exact hn.symm, by rw [hwa, q4]⟩
  · obtain ⟨i, hi⟩ := List.getElem?_of_mem hmem
    obtain ⟨p, p1, p2, p3, p4⟩ := h.ob i x hi
    have hxo := h.tab.2.2.1.1 x hmem
    have hnf : ¬ Sp.has ((sp : Int), n) x.1 := fun hh => ((h.tab.2.2.2.2 x.1).1 (ht.was x.1 hh)).2 ⟨x, hmem, hxo, Int.le_refl _, by have := hxo.2.1; omega⟩
    have hsep : p < sp ∨ sp + n.toNat ≤ p := by
      by_cases hlt : p < sp
      · exact .inl hlt
      · refine .inr ?_
        have : ¬ x.1 < (sp : Int) + n := fun hlt2 => hnf ⟨hok, by simp only; omega, by simp only; omega⟩
        omega
    have hw : wd (ptL l sp k f r false c) p = wd l p := by
      rw [e2, wd_other _ _ _ _ (by omega)]
      rcases hsep with h' | h'
      · exact splice_wd _ _ _ _ _ h' (by omega)
      · exact splice_wd_hi _ _ _ _ _ h' (by omega)
    exact ⟨p, p1, ob_words p2 hln hw, by rw [hw]; exact p3, by rw [hw]; exact p4⟩
end

/-- Those of the first n that b names. -/
def picks (b : Nat → Bool) (T : List Sp) : Nat → List Sp
  | 0 => []
  | n + 1 => picks b T n ++ (if b n then (T[n]?).toList else [])
theorem picks_yes {b : Nat → Bool} {T : List Sp} {n : Nat} {x : Sp} (hx : T[n]? = some x) (hb : b n = true) : picks b T (n + 1) = picks b T n ++ [x] := by simp [picks, hx, hb]
theorem picks_no {b : Nat → Bool} {T : List Sp} {n : Nat} (hb : b n = false) : picks b T (n + 1) = picks b T n := by simp [picks, hb]
theorem picks_both (b : Nat → Bool) (T : List Sp) : ∀ n, n ≤ T.length → (picks b T n).length + (picks (fun j => !b j) T n).length = n
  | 0, _ => rfl
  | n + 1, h => by
    have ih := picks_both b T n (by omega)
    have hx : T[n]? = some T[n] := List.getElem?_eq_getElem (by omega)
    cases hb : b n
    · rw [picks_no hb, picks_yes (b := fun j => !b j) hx (by simp [hb]), List.length_append, List.length_singleton]; omega
    · rw [picks_no (b := fun j => !b j) (by simp [hb]), picks_yes hx hb, List.length_append, List.length_singleton]; omega
theorem picks_le (b : Nat → Bool) (T : List Sp) (n : Nat) (h : n ≤ T.length) : (picks b T n).length ≤ n := by have := picks_both b T n h; omega
theorem picks_fits {b : Nat → Bool} {T : List Sp} : ∀ n, ∀ x ∈ picks b T n, x ∈ T
  | 0, x, h => by cases h
  | n + 1, x, h => by
    rcases List.mem_append.1 h with h | h
    · exact picks_fits n x h
    · split at h
      · exact List.mem_of_getElem? (Option.mem_toList.1 h)
      · cases h
theorem picks_same {b b' : Nat → Bool} (T : List Sp) : ∀ n, (∀ j, j < n → b j = b' j) → picks b T n = picks b' T n
  | 0, _ => rfl
  | n + 1, h => by simp only [picks, picks_same T n fun j hj => h j (by omega), h n (by omega)]
/-- As many are picked as a list without twins names. -/
theorem picks_count (T : List Sp) : ∀ (qs : List Nat), qs.Nodup → (∀ k ∈ qs, k < T.length) → (picks (fun j => decide (j ∈ qs)) T T.length).length = qs.length := by
  have hgen : ∀ (b : Nat → Bool) (n : Nat), n ≤ T.length → (picks b T n).length = ((List.range n).filter b).length := by
    intro b n
    induction n with
    | zero => intro _; rfl
    | succ n ih =>
      intro h
      rw [List.range_succ, List.filter_append, List.length_append, ← ih (by omega)]
      have hx : T[n]? = some T[n] := List.getElem?_eq_getElem (by omega)
      cases hb : b n
      · rw [picks_no hb]; simp [hb]
      · rw [picks_yes hx hb]; simp [hb]
  intro qs hn hlt
  rw [hgen _ _ (Nat.le_refl _)]
  refine List.Perm.length_eq ?_
  refine (List.perm_ext_iff_of_nodup (List.Nodup.sublist List.filter_sublist List.nodup_range) hn).2 fun k => ?_
  simp only [List.mem_filter, List.mem_range, decide_eq_true_iff]
  exact ⟨fun h => h.2, fun h => ⟨hlt k h, h⟩⟩
/-- Which spans are picked. -/
theorem mem_picks {b : Nat → Bool} {T : List Sp} : ∀ {n : Nat} {x : Sp}, x ∈ picks b T n ↔ ∃ k, k < n ∧ b k = true ∧ T[k]? = some x
  | 0, x => ⟨fun h => (by cases h), fun ⟨k, h, _⟩ => absurd h (Nat.not_lt_zero k)⟩
  | n + 1, x => by
    unfold picks
    rw [List.mem_append, mem_picks (n := n)]
    constructor
    · rintro (⟨k, h1, h2, h3⟩ | h)
      · exact ⟨k, by omega, h2, h3⟩
      · split at h
        · rename_i hb
          exact ⟨n, Nat.lt_succ_self n, hb, Option.mem_toList.1 h⟩
        · cases h
    · rintro ⟨k, h1, h2, h3⟩
      rcases Nat.lt_or_ge k n with h | h
      · exact .inl ⟨k, h, h2, h3⟩
      · obtain rfl : k = n := by omega
        refine .inr ?_
        rw [if_pos h2]
        exact Option.mem_toList.2 h3
theorem picks_sub (b : Nat → Bool) (T : List Sp) : ∀ n, (picks b T n).Sublist (T.take n)
  | 0 => by simp [picks]
  | n + 1 => by
    unfold picks
    rw [List.take_add_one]
    refine (picks_sub b T n).append ?_
    split
    · exact List.Sublist.refl _
    · exact List.nil_sublist _
theorem picks_cov (b : Nat → Bool) (T : List Sp) (p : Int) : cov T p ↔ cov (picks b T T.length) p ∨ cov (picks (fun j => !b j) T T.length) p := by
  constructor
  · rintro ⟨x, hx, hp⟩
    obtain ⟨k, hk, rfl⟩ := List.getElem_of_mem hx
    cases hb : b k
    · exact .inr ⟨_, mem_picks.2 ⟨k, hk, by rw [hb]; rfl, List.getElem?_eq_getElem hk⟩, hp⟩
    · exact .inl ⟨_, mem_picks.2 ⟨k, hk, hb, List.getElem?_eq_getElem hk⟩, hp⟩
  · rintro (⟨x, hx, hp⟩ | ⟨x, hx, hp⟩)
    · exact ⟨x, picks_fits _ x hx, hp⟩
    · exact ⟨x, picks_fits _ x hx, hp⟩
/-- Two spans of a table that stand at two places have no word in common. -/
theorem apart_has {T : List Sp} (h : ApartL T) {j k : Nat} {x y : Sp} (hx : T[j]? = some x) (hy : T[k]? = some y) {p : Int} (h1 : x.has p) (h2 : y.has p) : j = k := by
  have a1 := h1.2
  have a2 := h2.2
  have hor : x.has y.1 ∨ y.has x.1 := by
    rcases Int.le_total x.1 y.1 with h | h
    · exact .inl ⟨h1.1, h, by omega⟩
    · exact .inr ⟨h2.1, h, by omega⟩
  have hm : Sp.meets x y := ⟨h1.1, h2.1, hor⟩
  have hm' : Sp.meets y x := ⟨h2.1, h1.1, hor.symm⟩
  rcases Nat.lt_trichotomy j k with hlt | he | hgt
  · exact absurd h (apart_no2 hy hx hlt hm')
  · exact he
  · exact absurd h (apart_no2 hx hy hgt hm)
/-- What is free behind a sweep, all at once: the table that is left has just that. -/
theorem sweep_tab {all : Sp} {T F O : List Sp} {b : Nat → Bool} (h : TableP all T F) (hj : Joined O) (hc : ∀ p, cov O p ↔ cov (F ++ picks (fun j => !b j) T T.length) p) : TableP all (picks b T T.length) O := by
  obtain ⟨h1, h2, h3, h4, h5⟩ := h
  have hs := picks_sub b T T.length
  rw [List.take_length] at hs
  refine ⟨fun x hx => h1 x (hs.subset hx), h2.sublist hs, ⟨fun x hx => h3.1 x (hs.subset hx), h3.2.sublist hs⟩, hj, fun p => ?_⟩
  rw [hc p, cov_append, h5 p, picks_cov b T p]
  constructor
  · rintro (⟨a1, a2⟩ | hg)
    · exact ⟨a1, fun hk => a2 (.inl hk)⟩
    · refine ⟨?_, ?_⟩
      · obtain ⟨x, hx, hp⟩ := hg
        obtain ⟨w1, w2, w3, w4⟩ := h1 x (picks_fits _ x hx)
        have b1 := w3.2
        have b2 := w4.2
        have b3 := hp.2
        exact ⟨w2, by omega, by omega⟩
      · rintro ⟨x, hx, hp⟩
        obtain ⟨y, hy, hq⟩ := hg
        obtain ⟨j, -, bj, xj⟩ := mem_picks.1 hx
        obtain ⟨k, -, bk, yk⟩ := mem_picks.1 hy
        have := apart_has h3 xj yk hp hq
        subst this
        rw [bj] at bk
        cases bk
  · rintro ⟨a1, a2⟩
    by_cases hg : cov (picks (fun j => !b j) T T.length) p
    · exact .inr hg
    · exact .inl ⟨a1, fun hk => hk.elim a2 hg⟩

/-- While a sweep goes on: of the first k the marks are gone; the headers of the others are as they were. -/
structure SweepS (all : Sp) (T F : List Sp) (ms : Nat → Bool) (l0 l : List Nat) (k : Nat) : Prop where
  los : LosS all l T F (fun j => if j < k then false else ms j) []
  was : ∀ (j : Nat) (x : Sp), k ≤ j → T[j]? = some x → wd l x.1.toNat = wd l0 x.1.toNat
  len : l.length = l0.length
theorem SweepS.start {all : Sp} {T F : List Sp} {ms : Nat → Bool} {l : List Nat} {qs : List Nat} (h : LosS all l T F ms qs) : SweepS all T F ms l l 0 :=
  ⟨⟨h.tab, h.far, fun k x hx => by simpa using h.ob k x hx, trivial, fun _ h => by cases h⟩, fun _ _ _ _ => rfl, rfl⟩
theorem LosS.same {all : Sp} {l : List Nat} {T F : List Sp} {ms ms' : Nat → Bool} {qs : List Nat} (h : LosS all l T F ms qs) (e : ∀ k, k < T.length → ms' k = ms k) : LosS all l T F ms' qs :=
  ⟨h.tab, h.far, fun k x hx => by rw [e k (List.getElem?_eq_some_iff.1 hx).1]; exact h.ob k x hx, h.list, fun k hk => by rw [e k (h.list.lt k hk)]; exact h.marked k hk⟩
/-- One that was not marked. -/
theorem SweepS.no {all : Sp} {T F : List Sp} {ms : Nat → Bool} {l0 l : List Nat} {k : Nat} (h : SweepS all T F ms l0 l k) (hm : ms k = false) : SweepS all T F ms l0 l (k + 1) := by
  refine ⟨h.los.same fun j _ => ?_, fun j x hj hx => h.was j x (by omega) hx, h.len⟩
  by_cases h1 : j < k
  · simp [h1, Nat.lt_succ_of_lt h1]
  · by_cases h2 : j = k
    · subst h2; simp [hm]
    · simp [h1, show ¬ j < k + 1 by omega]
/-- One that was marked. -/
theorem SweepS.yes {all : Sp} {T F : List Sp} {ms : Nat → Bool} {l0 l : List Nat} {k p : Nat} {x : Sp} (h : SweepS all T F ms l0 l k) (hx : T[k]? = some x) (hp : x.1 = p) : SweepS all T F ms l0 (hdL l p false 0) (k + 1) := by
  have hl := h.los.head hx hp (m := false) (c := 0) (by omega) (rs := []) trivial (fun _ h => by cases h)
  refine ⟨hl.same fun j _ => ?_, fun j y hj hy => ?_, by rw [hdL_len]; exact h.len⟩
  · by_cases h1 : j = k
    · subst h1; simp
    · by_cases h2 : j < k
      · simp [h1, h2, Nat.lt_succ_of_lt h2]
      · simp [h1, h2, show ¬ j < k + 1 by omega]
  · obtain ⟨q, q1, -⟩ := h.los.ob j y hy
    have hne : p ≠ q := fun e => by have := tab_inj h.los.tab hy hx (by rw [q1, hp, e]); omega
    rw [← h.was j y (by omega) hy, q1, Int.toNat_natCast]
    exact hdL_other hne
/-- The part behind a sweep. -/
theorem SweepS.all {all : Sp} {T F O : List Sp} {ms : Nat → Bool} {l0 l : List Nat} (h : SweepS all T F ms l0 l T.length) (ht : TableP all (picks ms T T.length) O) : LosS all l (picks ms T T.length) O (fun _ => false) [] := by
  refine ⟨ht, h.los.far, fun k x hx => ?_, trivial, fun _ h => by cases h⟩
  obtain ⟨j, hj, -, hxj⟩ := mem_picks.1 (List.mem_of_getElem? hx)
  obtain ⟨p, p1, p2, p3, p4⟩ := h.los.ob j x hxj
  exact ⟨p, p1, p2, p3, by simpa [hj] using p4⟩
theorem picks_app (b : Nat → Bool) (T : List Sp) {n : Nat} {x : Sp} (hx : T[n]? = some x) : picks b T (n + 1) = picks b T n ++ (if b n = true then [x] else []) := by
  cases hb : b n
  · rw [picks_no hb]; simp
  · rw [picks_yes hx hb]; simp
/-- What is free behind a sweep is what the gaps are. -/
theorem sweep_gaps {all : Sp} {T F O : List Sp} (h : TableP all T F) (hj : Joined O) (hc : ∀ p, cov O p ↔ (all.has p ∧ ¬ cov T p)) : F = O :=
  joined_unique h.2.2.2.1 hj fun p => (h.2.2.2.2 p).trans (hc p).symm
end Go.Proofs.YtoeccbbjncgmlaaDoor
