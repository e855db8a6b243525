/- The program's runs by tiers are the document's. No program walked in it. -/
import Derived.Test.YtkjdnccnfnhkoaaRePlanM
namespace Go.Proofs.Ytkjdnccnfnhkoaa
open Go.RowKit
set_option linter.unusedVariables false

/-- What waits in a block: what was not looked at, in order. -/
def inB (blk : Int) (s : PSt) (z : Int) (i : Nat) : Bool := !s.looked.getD i true && decide ((s.begins.getD i 0).tdiv blk = z)
def waitsS (blk : Int) (s : PSt) (z : Int) : List Int := ((List.range s.small.length).filter (inB blk s z)).map fun i => s.small.getD i 0
structure TT (blk : Int) (q : QSt) (s : PSt) : Prop where
  tp : q.tp = s.top
  last : q.last = if s.small = [] then 0 else (s.begins.getLastD 0).tdiv blk
  wt : ∀ z, q.wt z = waitsS blk s z
  has : ∀ z, q.wt z ≠ [] → z ∈ q.bg
  srt : q.bg.Pairwise (· ≤ ·)
  top : ∀ z ∈ q.bg, 0 ≤ z ∧ z ≤ q.last
  lo : 0 ≤ q.last
  bl : q.bg.length ≤ s.small.length
  mono : ∀ (i j : Nat) bi bj, i ≤ j → s.begins[i]? = some bi → s.begins[j]? = some bj → bi ≤ bj
  bs : ∀ b ∈ s.begins, 0 ≤ b ∧ b ≤ s.top
  tn : 0 ≤ s.top ∧ s.top ≤ 8193 * (s.small.length : Int)
theorem tdiv_mono17 {a b k : Int} (h0 : 0 ≤ a) (h : a ≤ b) (hk : 1 ≤ k) : a.tdiv k ≤ b.tdiv k := by
  rw [Int.tdiv_eq_ediv_of_nonneg h0, Int.tdiv_eq_ediv_of_nonneg (by omega)]
  exact Int.ediv_le_ediv (by omega) h
theorem tdiv_nn17 {a k : Int} (h0 : 0 ≤ a) (hk : 1 ≤ k) : 0 ≤ a.tdiv k := Int.tdiv_nonneg h0 (by omega)
theorem getD_app17 {α : Type} {l : List α} {x d : α} {i : Nat} (h : i < l.length) : (l ++ [x]).getD i d = l.getD i d := by
  rw [List.getD_eq_getElem?_getD, List.getD_eq_getElem?_getD, List.getElem?_append_left h]
theorem getD_last17 {α : Type} {l : List α} {x d : α} : (l ++ [x]).getD l.length d = x := by
  rw [List.getD_eq_getElem?_getD, List.getElem?_append_right (Nat.le_refl _)]; simp
theorem TT.like {blk : Int} {q : QSt} {s s' : PSt} (h : TT blk q s) (e1 : s'.small = s.small) (e2 : s'.begins = s.begins) (e3 : s'.looked = s.looked) (e4 : s'.top = s.top) : TT blk q s' := by
  have ew : ∀ z, waitsS blk s' z = waitsS blk s z := fun z => by unfold waitsS inB; rw [e1, e2, e3]
  exact ⟨by rw [e4]; exact h.tp, by rw [e1, e2]; exact h.last, fun z => by rw [ew]; exact h.wt z, h.has, h.srt, h.top, h.lo, by rw [e1]; exact h.bl, by rw [e2]; exact h.mono, by rw [e2, e4]; exact h.bs, by rw [e1, e4]; exact h.tn⟩
/-- A small one is met, and waits. -/
theorem TT.wait {g : Gr} (hg : grOk g = true) {blk : Int} (hb : 1 ≤ blk) {q : QSt} {s : PSt} {x : Int} (h : TT blk q s) (hx : 0 ≤ x ∧ x < (g.nd.length : Int)) (hN : s.small.length ≤ 1000000) (hl : s.looked.length = s.small.length) (hbg : s.begins.length = s.small.length) :
    TT blk (waitQ g blk q x) (smallS g x s) := by
  have hs := sz_ok17 hg hx
  have ht := h.tn
  have hw : wrap64 (s.top + ndSz (ndAt g x)) = s.top + ndSz (ndAt g x) := wrap64_id _ (by omega) (by omega)
  have hz : blkOf blk q = s.top.tdiv blk := by unfold blkOf; rw [h.tp]
  have hz0 : 0 ≤ s.top.tdiv blk := tdiv_nn17 ht.1 hb
  have hlz : q.last ≤ s.top.tdiv blk := by
    rw [h.last]
    by_cases he : s.small = []
    · rw [if_pos he]; exact hz0
    · rw [if_neg he]
      have hlen : 0 < s.begins.length := by rw [hbg]; exact List.length_pos_iff.2 he
      have hm : s.begins.getLastD 0 ∈ s.begins := by
        rw [List.getLastD_eq_getLast?, List.getLast?_eq_getElem?, List.getElem?_eq_getElem (by omega)]
        exact List.getElem_mem _
      have := h.bs _ hm
      exact tdiv_mono17 this.1 this.2 hb
  have hsm : (smallS g x s).small = s.small ++ [x] := rfl
  have hbe : (smallS g x s).begins = s.begins ++ [s.top] := rfl
  have hlo : (smallS g x s).looked = s.looked ++ [false] := rfl
  have htp : (smallS g x s).top = s.top + ndSz (ndAt g x) := hw
  have hwait : ∀ z, waitsS blk (smallS g x s) z = waitsS blk s z ++ (if s.top.tdiv blk = z then [x] else []) := by
    intro z
    unfold waitsS
    rw [hsm, List.length_append, List.length_singleton, List.range_succ, List.filter_append, List.map_append]
    congr 1
    · have e1 : (List.range s.small.length).filter (inB blk (smallS g x s) z) = (List.range s.small.length).filter (inB blk s z) := by
        refine List.filter_congr fun i hi => ?_
        have hi := List.mem_range.1 hi
        unfold inB
        rw [hbe, hlo, getD_app17 (by omega), getD_app17 (by omega)]
      rw [e1]
      refine List.map_congr_left fun i hi => ?_
      have hi := List.mem_range.1 (List.mem_filter.1 hi).1
      exact getD_app17 hi
    · have e1 : inB blk (smallS g x s) z s.small.length = decide (s.top.tdiv blk = z) := by
        unfold inB
        rw [hbe, hlo]
        have a1 : (s.looked ++ [false]).getD s.small.length true = false := by rw [← hl]; exact getD_last17
        have a2 : (s.begins ++ [s.top]).getD s.small.length 0 = s.top := by rw [← hbg]; exact getD_last17
        rw [a1, a2]; rfl
      rw [List.filter_cons, e1]
      by_cases hc : s.top.tdiv blk = z
      · simp [hc]
      · simp [hc]
  have hbgs : ∀ z, z ∈ (waitQ g blk q x).bg → z ∈ q.bg ∨ z = s.top.tdiv blk := by
    intro z hz'
    have hz' : z ∈ (if q.wt (blkOf blk q) = [] then q.bg ++ [blkOf blk q] else q.bg) := hz'
    split at hz'
    · rcases List.mem_append.1 hz' with h' | h'
      · exact .inl h'
      · exact .inr (by rw [List.mem_singleton.1 h', hz])
    · exact .inl hz'
  refine ⟨?_, ?_, fun z => ?_, fun z hne => ?_, ?_, fun z hz' => ?_, ?_, ?_, ?_, ?_, ?_⟩
  · show wrap64 (q.tp + ndSz (ndAt g x)) = wrap64 (s.top + ndSz (ndAt g x))
    rw [h.tp]
  · show blkOf blk q = _
    rw [hz, hsm, hbe, if_neg (by simp)]
    rw [List.getLastD_eq_getLast?]; simp
  · show upd q.wt (blkOf blk q) (q.wt (blkOf blk q) ++ [x]) z = _
    rw [hwait, hz]
    by_cases hc : z = s.top.tdiv blk
    · subst hc
      rw [upd_same, if_pos rfl, h.wt]
    · rw [upd_other hc, if_neg (Ne.symm hc), List.append_nil, h.wt]
  · have hne : upd q.wt (blkOf blk q) (q.wt (blkOf blk q) ++ [x]) z ≠ [] := hne
    show z ∈ (if q.wt (blkOf blk q) = [] then q.bg ++ [blkOf blk q] else q.bg)
    by_cases hc : z = blkOf blk q
    · subst hc
      split
      · simp
      · rename_i h0; exact h.has _ h0
    · rw [upd_other hc] at hne
      split
      · exact List.mem_append.2 (.inl (h.has z hne))
      · exact h.has z hne
  · show (if q.wt (blkOf blk q) = [] then q.bg ++ [blkOf blk q] else q.bg).Pairwise (· ≤ ·)
    split
    · refine List.pairwise_append.2 ⟨h.srt, by simp, fun a ha b hb' => ?_⟩
      rw [List.mem_singleton.1 hb', hz]
      exact Int.le_trans (h.top a ha).2 hlz
    · exact h.srt
  · show 0 ≤ z ∧ z ≤ blkOf blk q
    rw [hz]
    rcases hbgs z hz' with h' | h'
    · exact ⟨(h.top z h').1, Int.le_trans (h.top z h').2 hlz⟩
    · rw [h']; exact ⟨hz0, Int.le_refl _⟩
  · show 0 ≤ blkOf blk q
    rw [hz]; exact hz0
  · show (if q.wt (blkOf blk q) = [] then q.bg ++ [blkOf blk q] else q.bg).length ≤ (smallS g x s).small.length
    rw [hsm, List.length_append, List.length_singleton]
    have := h.bl
    split
    · simp; omega
    · omega
  · intro i j bi bj hij hi hj
    rw [hbe] at hi hj
    rcases Nat.lt_or_ge j s.begins.length with h' | h'
    · rw [List.getElem?_append_left (by omega)] at hi
      rw [List.getElem?_append_left h'] at hj
      exact h.mono i j bi bj hij hi hj
    · rw [List.getElem?_append_right h'] at hj
      have hj0 : j - s.begins.length = 0 := by
        have := (List.getElem?_eq_some_iff.1 hj).1
        simp at this; omega
      rw [hj0] at hj
      obtain rfl : s.top = bj := by simpa using hj
      rcases Nat.lt_or_ge i s.begins.length with h2 | h2
      · rw [List.getElem?_append_left h2] at hi
        exact (h.bs bi (List.mem_of_getElem? hi)).2
      · rw [List.getElem?_append_right h2] at hi
        have hi0 : i - s.begins.length = 0 := by
          have := (List.getElem?_eq_some_iff.1 hi).1
          simp at this; omega
        rw [hi0] at hi
        have : s.top = bi := by simpa using hi
        omega
  · intro b hb'
    rw [hbe] at hb'
    rw [htp]
    rcases List.mem_append.1 hb' with h' | h'
    · have := h.bs b h'
      omega
    · rw [List.mem_singleton.1 h']; omega
  · rw [htp, hsm, List.length_append, List.length_singleton]
    omega
theorem TT.meet {g : Gr} (hg : grOk g = true) {blk lim : Int} (hb : 1 ≤ blk) {q : QSt} {s : PSt} {x : Int} (h : TT blk q s) (hw : Wf g s) (hx : 0 ≤ x ∧ x < (g.nd.length : Int)) (hN : g.nd.length ≤ 1000000) :
    (meetB g lim (2, x) s = false → TT blk q (meetS g lim (2, x) s) ∧ (meetS g lim (2, x) s).small = s.small) ∧ (meetB g lim (2, x) s = true → TT blk (waitQ g blk q x) (meetS g lim (2, x) s) ∧ (meetS g lim (2, x) s).small = s.small ++ [x]) := by
  refine ⟨fun hB => ?_, fun hB => ?_⟩
  · by_cases hn : newS (2, x) s = true
    · have hl : lim < ndSz (ndAt g x) := by unfold meetB at hB; rw [hn] at hB; simpa using hB
      have hs : meetS g lim (2, x) s = bigS x s := by unfold meetS; rw [if_pos hn, if_pos hl]; rfl
      rw [hs]
      exact ⟨h.like rfl rfl rfl rfl, rfl⟩
    · have hs : meetS g lim (2, x) s = s := by unfold meetS; rw [if_neg hn]
      rw [hs]; exact ⟨h, rfl⟩
  · unfold meetB at hB
    simp only [Bool.and_eq_true, Bool.not_eq_true', decide_eq_false_iff_not] at hB
    have hs : meetS g lim (2, x) s = smallS g x s := by unfold meetS; rw [if_pos hB.1, if_neg hB.2]; rfl
    rw [hs]
    have hr := hw.room
    rw [met_len] at hr
    exact ⟨h.wait hg hb hx (by omega) hw.lk hw.bg, rfl⟩
theorem TT.look {g : Gr} (hg : grOk g = true) {blk lim : Int} (hb : 1 ≤ blk) (hN : g.nd.length ≤ 1000000) : ∀ (a : List Int) (q : QSt) (s : PSt), TT blk q s → Wf g s → (∀ x ∈ a, (0 ≤ x ∧ x < (g.nd.length : Int)) ∧ Rch g x) →
    TT blk (((lookW g lim (refL a) s).small.drop s.small.length).foldl (waitQ g blk) q) (lookW g lim (refL a) s)
  | [], q, s, h, hw, _ => by
    show TT blk ((s.small.drop s.small.length).foldl (waitQ g blk) q) s
    rw [List.drop_length]; exact h
  | x :: a, q, s, h, hw, ho => by
    have hx := ho x (List.mem_cons_self ..)
    have w1 := (meet_wf (lim := lim) (v := (2, x)) hw fun _ => hx).1
    obtain ⟨h1, h2⟩ := h.meet hg (lim := lim) hb hw hx.1 hN
    have ho' : ∀ y ∈ a, (0 ≤ y ∧ y < (g.nd.length : Int)) ∧ Rch g y := fun y hy => ho y (List.mem_cons_of_mem _ hy)
    have hl : lookW g lim (refL (x :: a)) s = lookW g lim (refL a) (meetS g lim (2, x) s) := rfl
    rw [hl]
    cases hB : meetB g lim (2, x) s with
    | false =>
      obtain ⟨t1, e1⟩ := h1 hB
      have := TT.look hg (lim := lim) hb hN a q _ t1 w1 ho'
      rw [e1] at this
      exact this
    | true =>
      obtain ⟨t1, e1⟩ := h2 hB
      have ih := TT.look hg (lim := lim) hb hN a _ _ t1 w1 ho'
      have hpre := (lookW_wf (lim := lim) (refL a) _ w1 (fun v hv h2 => by
        unfold refL at hv
        obtain ⟨y, hy, rfl⟩ := List.mem_map.1 hv
        exact ho' y hy)).2.1.sm
      obtain ⟨r, hr⟩ := hpre
      rw [← hr, e1] at ih ⊢
      have d1 : ((s.small ++ [x]) ++ r).drop (s.small ++ [x]).length = r := List.drop_left
      have d2 : ((s.small ++ [x]) ++ r).drop s.small.length = x :: r := by rw [List.append_assoc, List.drop_left]; rfl
      rw [d1] at ih
      rw [d2]
      exact ih

/-! ### One is taken -/
theorem mark_inB {blk : Int} {s : PSt} {z : Int} {i j : Nat} (hl : s.looked.length = s.small.length) (hi : i < s.small.length) : inB blk (s.mark i) z j = (inB blk s z j && decide (j ≠ i)) := by
  unfold inB
  have e : (s.mark i).looked.getD j true = (s.looked.getD j true || decide (j = i)) := by
    show (s.looked.set i true).getD j true = _
    rw [List.getD_eq_getElem?_getD, List.getD_eq_getElem?_getD]
    by_cases h : i = j
    · subst h
      rw [List.getElem?_set_self (by omega)]; simp
    · rw [List.getElem?_set_ne h]; simp [Ne.symm h]
  have e2 : (s.mark i).begins = s.begins := rfl
  rw [e, e2]
  by_cases h : j = i <;> simp [h]
theorem wait_none {blk : Int} {s : PSt} {z : Int} : waitsS blk s z = [] ↔ firstS (fun b => decide (b.tdiv blk = z)) s = none := by
  unfold waitsS firstS
  rw [List.map_eq_nil_iff, List.filter_eq_nil_iff, List.find?_eq_none]
  rfl
theorem wait_cons {blk : Int} {s : PSt} {z x : Int} {l : List Int} (hl : s.looked.length = s.small.length) (h : waitsS blk s z = x :: l) : ∃ i, firstS (fun b => decide (b.tdiv blk = z)) s = some i ∧ i < s.small.length ∧ x = s.small.getD i 0 ∧ (s.begins.getD i 0).tdiv blk = z ∧
    waitsS blk (s.mark i) z = l ∧ ∀ z', z' ≠ z → waitsS blk (s.mark i) z' = waitsS blk s z' := by
  unfold waitsS at h
  cases hf : (List.range s.small.length).filter (inB blk s z) with
  | nil => rw [hf] at h; cases h
  | cons i r =>
    rw [hf] at h
    obtain ⟨rfl, rfl⟩ : s.small.getD i 0 = x ∧ r.map (fun i => s.small.getD i 0) = l := by simpa using h
    have hmem : i ∈ (List.range s.small.length).filter (inB blk s z) := by rw [hf]; exact List.mem_cons_self ..
    obtain ⟨hi1, hi2⟩ := List.mem_filter.1 hmem
    have hi := List.mem_range.1 hi1
    have hblk : (s.begins.getD i 0).tdiv blk = z := by unfold inB at hi2; simp at hi2; exact hi2.2
    have hnd : (i :: r).Nodup := by rw [← hf]; exact List.nodup_range.sublist List.filter_sublist
    refine ⟨i, ?_, hi, rfl, hblk, ?_, fun z' hz => ?_⟩
    · unfold firstS
      have := List.head?_filter (p := inB blk s z) (l := List.range s.small.length)
      rw [hf] at this
      exact this.symm
    · unfold waitsS
      have e1 : (List.range (s.mark i).small.length).filter (inB blk (s.mark i) z) = r := by
        have e2 : (List.range (s.mark i).small.length).filter (inB blk (s.mark i) z) = ((List.range s.small.length).filter (inB blk s z)).filter (fun j => decide (j ≠ i)) := by
          rw [List.filter_filter]
          refine List.filter_congr fun j hj => ?_
          rw [mark_inB hl hi, Bool.and_comm]
        rw [e2, hf, List.filter_cons, if_neg (by simp)]
        refine List.filter_eq_self.2 fun j hj => ?_
        have := (List.nodup_cons.1 hnd).1
        exact decide_eq_true fun e => this (e ▸ hj)
      rw [e1]
      rfl
    · unfold waitsS
      have e1 : (List.range (s.mark i).small.length).filter (inB blk (s.mark i) z') = (List.range s.small.length).filter (inB blk s z') := by
        refine List.filter_congr fun j hj => ?_
        rw [mark_inB hl hi]
        by_cases hji : j = i
        · subst hji
          have : inB blk s z' j = false := by unfold inB; simp; intro _ e; exact hz (e.symm.trans hblk)
          rw [this]; rfl
        · simp [hji]
      rw [e1]
      rfl
/-- Behind one that is taken out of block z. -/
theorem TT.taken {blk : Int} {q : QSt} {s : PSt} {z x : Int} {l r : List Int} {i : Nat} (h : TT blk q s) (hw : waitsS blk (s.mark i) z = l) (ho : ∀ z', z' ≠ z → waitsS blk (s.mark i) z' = waitsS blk s z') (hr : r.Pairwise (· ≤ ·)) (hs : ∀ y ∈ r, y ∈ q.bg) (hlen : r.length ≤ q.bg.length) (hh : ∀ z', q.wt z' ≠ [] → z' ∈ r) (hz : q.wt z = x :: l) (p : Nat) :
    TT blk { q with bg := r, wt := upd q.wt z l, pt := p } (s.mark i) := by
  refine ⟨h.tp, h.last, fun z' => ?_, fun z' hne => ?_, hr, fun y hy => h.top y (hs y hy), h.lo, Nat.le_trans hlen h.bl, h.mono, h.bs, h.tn⟩
  · show upd q.wt z l z' = _
    by_cases hc : z' = z
    · subst hc; rw [upd_same, hw]
    · rw [upd_other hc, ho z' hc, h.wt]
  · have hne : upd q.wt z l z' ≠ [] := hne
    by_cases hc : z' = z
    · subst hc; exact hh _ (by rw [hz]; simp)
    · rw [upd_other hc] at hne
      exact hh z' hne
theorem scan_is {q : QSt} : ∀ (r : List Int), r.Pairwise (· ≤ ·) → (∀ z, q.wt z ≠ [] → z ∈ r) →
    ((∀ z, q.wt z = []) ∧ scanQ r q = (none, { q with bg := [] })) ∨
    ∃ z x l r', q.wt z = x :: l ∧ scanQ r q = (some x, { q with bg := z :: r', wt := upd q.wt z l, pt := q.pt + 1 }) ∧ (z :: r').Pairwise (· ≤ ·) ∧ (∀ y ∈ z :: r', y ∈ r) ∧ (z :: r').length ≤ r.length ∧ (∀ z', q.wt z' ≠ [] → z' ∈ z :: r') ∧ ∀ z', q.wt z' ≠ [] → z ≤ z'
  | [], _, hh => .inl ⟨fun z => Classical.byContradiction fun h => (by cases hh z h), rfl⟩
  | z :: r, hs, hh => by
    cases hw : q.wt z with
    | cons x l =>
      refine .inr ⟨z, x, l, r, hw, by rw [scanQ, hw], hs, fun _ h => h, Nat.le_refl _, hh, fun z' hz' => ?_⟩
      rcases List.mem_cons.1 (hh z' hz') with h | h
      · omega
      · exact (List.pairwise_cons.1 hs).1 z' h
    | nil =>
      have hh' : ∀ z', q.wt z' ≠ [] → z' ∈ r := fun z' hz' => by
        rcases List.mem_cons.1 (hh z' hz') with h | h
        · rw [h] at hz'; exact absurd hw hz'
        · exact h
      rcases scan_is r (List.pairwise_cons.1 hs).2 hh' with ⟨h1, h2⟩ | ⟨y, x, l, r', h1, h2, h3, h4, h5, h6, h7⟩
      · exact .inl ⟨h1, by rw [scanQ, hw]; exact h2⟩
      · exact .inr ⟨y, x, l, r', h1, by rw [scanQ, hw]; exact h2, h3, fun a ha => List.mem_cons_of_mem _ (h4 a ha), by simp only [List.length_cons] at h5 ⊢; omega, h6, h7⟩
/-- What is looked at next, when all wait. -/
theorem near_is {blk : Int} (hb : 1 ≤ blk) {q : QSt} {s : PSt} (h : TT blk q s) (hl : s.looked.length = s.small.length) (hbg : s.begins.length = s.small.length) (hq : q.s = s) :
    (nextS 2 blk s = none ∧ ∃ b, nearT blk q = (none, { q with bg := b }) ∧ TT blk { q with bg := b } s) ∨
    ∃ i q', nextS 2 blk s = some i ∧ i < s.small.length ∧ s.looked.getD i true = false ∧ nearT blk q = (some (s.small.getD i 0), q') ∧ q'.s = q.s ∧ q'.ah = q.ah ∧ q'.k = q.k ∧ q'.pt = q.pt + 1 ∧ TT blk q' (s.mark i) := by
  have hfirst : ∀ z, firstInQ z q = match waitsS blk s z with | [] => (none, q) | x :: r => (some x, { q with wt := upd q.wt z r, pt := q.pt + 1 }) := fun z => by unfold firstInQ; rw [h.wt z]; cases waitsS blk s z <;> rfl
  have hscan : firstInQ q.last q = (none, q) → (s.small ≠ [] → firstS (fun b => decide (b.tdiv blk = (s.begins.getLastD 0).tdiv blk)) s = none) →
      (nextS 2 blk s = none ∧ ∃ b, nearT blk q = (none, { q with bg := b }) ∧ TT blk { q with bg := b } s) ∨
      ∃ i q', nextS 2 blk s = some i ∧ i < s.small.length ∧ s.looked.getD i true = false ∧ nearT blk q = (some (s.small.getD i 0), q') ∧ q'.s = q.s ∧ q'.ah = q.ah ∧ q'.k = q.k ∧ q'.pt = q.pt + 1 ∧ TT blk q' (s.mark i) := by
    intro hf hnf
    have hnear : nearT blk q = scanQ q.bg q := by unfold nearT; rw [hf]
    have hnx : nextS 2 blk s = firstS (fun _ => true) s := by
      unfold nextS
      by_cases he : s.small = []
      · rw [if_neg (by simp [he])]
      · rw [if_pos ⟨rfl, he⟩, hnf he]
    rcases scan_is q.bg h.srt h.has with ⟨h1, h2⟩ | ⟨z, x, l, r', h1, h2, h3, h4, h5, h6, h7⟩
    · refine .inl ⟨?_, [], by rw [hnear, h2], ⟨h.tp, h.last, h.wt, fun z hz => absurd (h1 z) hz, List.Pairwise.nil, (fun y hy => by cases hy), h.lo, Nat.zero_le _, h.mono, h.bs, h.tn⟩⟩
      rw [hnx]
      unfold firstS
      rw [List.find?_eq_none]
      intro i hi hp
      have hi := List.mem_range.1 hi
      have : inB blk s ((s.begins.getD i 0).tdiv blk) i = true := by unfold inB; simp at hp; simp [hp]
      have hw := h1 ((s.begins.getD i 0).tdiv blk)
      rw [h.wt] at hw
      unfold waitsS at hw
      rw [List.map_eq_nil_iff, List.filter_eq_nil_iff] at hw
      exact hw i (List.mem_range.2 hi) this
    · have hwz := h1
      rw [h.wt] at hwz
      obtain ⟨i, hi1, hi2, hi3, hi4, hi5, hi6⟩ := wait_cons hl hwz
      obtain ⟨-, hilk⟩ := first_some hi1
      have hall : firstS (fun _ => true) s = some i := by
        unfold firstS at hi1 ⊢
        rw [List.find?_range_eq_some] at hi1 ⊢
        obtain ⟨g1, g2, g3⟩ := hi1
        refine ⟨by rw [hilk]; rfl, g2, fun j hj => ?_⟩
        rw [Bool.and_true]
        cases hlk : s.looked.getD j true with
        | true => rfl
        | false =>
          exfalso
          have hjlt : j < s.small.length := by omega
          obtain ⟨bj, hbj⟩ : ∃ b, s.begins[j]? = some b := ⟨_, List.getElem?_eq_getElem (by omega)⟩
          obtain ⟨bi, hbi⟩ : ∃ b, s.begins[i]? = some b := ⟨_, List.getElem?_eq_getElem (by omega)⟩
          have hij := h.mono j i bj bi (by omega) hbj hbi
          have hdj : s.begins.getD j 0 = bj := by rw [List.getD_eq_getElem?_getD, hbj]; rfl
          have hdi : s.begins.getD i 0 = bi := by rw [List.getD_eq_getElem?_getD, hbi]; rfl
          have h0 := (h.bs bj (List.mem_of_getElem? hbj)).1
          have hle : bj.tdiv blk ≤ z := by rw [← hi4, hdi]; exact tdiv_mono17 h0 hij hb
          have hne : q.wt (bj.tdiv blk) ≠ [] := by
            rw [h.wt]
            unfold waitsS
            intro e
            rw [List.map_eq_nil_iff, List.filter_eq_nil_iff] at e
            exact e j (List.mem_range.2 hjlt) (by unfold inB; rw [hlk, hdj]; simp)
          have hge := h7 _ hne
          have heq : bj.tdiv blk = z := by omega
          have := g3 j hj
          rw [hlk, hdj] at this
          simp [heq] at this
      refine .inr ⟨i, { q with bg := z :: r', wt := upd q.wt z l, pt := q.pt + 1 }, by rw [hnx, hall], hi2, hilk, by rw [hnear, h2, hi3], rfl, rfl, rfl, rfl, ?_⟩
      exact h.taken hi5 hi6 h3 h4 h5 h6 h1 (q.pt + 1)
  cases hwl : waitsS blk s q.last with
  | nil =>
    refine hscan (by rw [hfirst, hwl]) fun he => ?_
    have := wait_none.1 hwl
    rwa [h.last, if_neg he] at this
  | cons x l =>
    obtain ⟨i, hi1, hi2, hi3, hi4, hi5, hi6⟩ := wait_cons hl hwl
    obtain ⟨-, hilk⟩ := first_some hi1
    have hne : s.small ≠ [] := fun e => by rw [e] at hi2; cases hi2
    have hnx : nextS 2 blk s = some i := by
      unfold nextS
      rw [if_pos ⟨rfl, hne⟩]
      rw [h.last, if_neg hne] at hi1
      rw [hi1]
    refine .inr ⟨i, { q with wt := upd q.wt q.last l, pt := q.pt + 1 }, hnx, hi2, hilk, ?_, rfl, rfl, rfl, rfl, ?_⟩
    · unfold nearT
      rw [hfirst, hwl]
      simp only
      rw [hi3]
    · exact h.taken (r := q.bg) hi5 hi6 h.srt (fun _ h => h) (Nat.le_refl _) h.has (by rw [h.wt]; exact hwl) (q.pt + 1)

/-! ### Tiers -/
def nxT (g : Gr) (lim blk : Int) (q : QSt) : Option Int × QSt :=
  match nearQ g lim blk q with
  | (some x, q') => (some x, { q' with s := q'.s.mark (q'.s.small.idxOf x) })
  | (none, q') => (none, q')
structure GT (g : Gr) (blk : Int) (q : QSt) : Prop where
  ok : Okq g q
  tt : TT blk q q.s
  pt : q.pt ≤ q.s.small.length + q.s.looked.countP id
theorem GT.tb {g : Gr} {blk : Int} {q : QSt} (h : GT g blk q) (hb : 1 ≤ blk) (hN : g.nd.length ≤ 1000000) : TB q.s.small.length (q.s.looked.countP id) q := by
  have hr := h.ok.wf.room
  rw [met_len] at hr
  have hn := h.tt.tn
  have hlast : q.last ≤ 9223372036854775807 := by
    rw [h.tt.last]
    split
    · omega
    · rename_i he
      have hlen : 0 < q.s.begins.length := by rw [h.ok.wf.bg]; exact List.length_pos_iff.2 he
      have hm : q.s.begins.getLastD 0 ∈ q.s.begins := by
        rw [List.getLastD_eq_getLast?, List.getLast?_eq_getElem?, List.getElem?_eq_getElem (by omega)]
        exact List.getElem_mem _
      have hb2 := h.tt.bs _ hm
      rw [Int.tdiv_eq_ediv_of_nonneg hb2.1]
      exact Int.le_trans (Int.ediv_le_self _ hb2.1) (by omega)
  refine ⟨by rw [h.tt.tp]; exact hn, h.pt, h.tt.bl, fun z => ?_, ⟨h.tt.lo, hlast⟩, fun z hz => ⟨(h.tt.top z hz).1, Int.le_trans (h.tt.top z hz).2 hlast⟩⟩
  rw [h.tt.wt]
  unfold waitsS
  rw [List.length_map]
  exact Nat.le_trans (List.length_filter_le _ _) (by simp)
theorem waits_pt (g : Gr) (blk : Int) : ∀ (l : List Int) (q : QSt), (l.foldl (waitQ g blk) q).pt = q.pt + l.length
  | [], q => rfl
  | x :: l, q => by
    have := waits_pt g blk l (waitQ g blk q x)
    rw [List.foldl_cons, this]
    show q.pt + 1 + l.length = q.pt + (l.length + 1)
    omega
theorem cnt_pre {a b : List Bool} (h : a <+: b) : a.countP id ≤ b.countP id := by
  obtain ⟨r, rfl⟩ := h
  rw [List.countP_append]; omega
theorem idx_at {l : List Int} (h : l.Nodup) {i : Nat} (hi : i < l.length) : l.idxOf (l.getD i 0) = i := by
  have hx : l[i]? = some (l.getD i 0) := by rw [List.getD_eq_getElem?_getD, List.getElem?_eq_getElem hi]; rfl
  have := plc_nodup h hx
  rw [plc_in (List.mem_of_getElem? hx)] at this
  exact Int.ofNat.inj this
theorem sim_tiers {g : Gr} (hg : grOk g = true) (lim : Int) {blk : Int} (hb : 1 ≤ blk) (hN : g.nd.length ≤ 1000000) : SimN g lim 2 blk (nxT g lim blk) (GT g blk) := by
  have main : ∀ q, GT g blk q → ∃ q2, q2 = ((allS g lim q).small.drop q.s.small.length).foldl (waitQ g blk) (allQ g lim q) ∧ TT blk q2 (allS g lim q) ∧ q2.s = allS g lim q ∧ q2.ah = [] ∧ q2.k = q.k ∧ q2.pt ≤ (allS g lim q).small.length + (allS g lim q).looked.countP id ∧ nearQ g lim blk q = nearT blk q2 := by
    intro q h
    obtain ⟨w, x⟩ := look_ok (lim := lim) h.ok
    obtain ⟨s1, s2, s3⟩ := wait_s g blk ((allS g lim q).small.drop q.s.small.length) (allQ g lim q)
    have ht := TT.look hg (lim := lim) hb hN q.ah (allQ g lim q) q.s ⟨h.tt.tp, h.tt.last, h.tt.wt, h.tt.has, h.tt.srt, h.tt.top, h.tt.lo, h.tt.bl, h.tt.mono, h.tt.bs, h.tt.tn⟩ h.ok.wf h.ok.ah
    refine ⟨_, rfl, ht, s1, s2, s3, ?_, rfl⟩
    rw [waits_pt, List.length_drop]
    have h1 := x.sm.length_le
    have h2 := h.pt
    have h3 := cnt_pre x.lk
    show q.pt + _ ≤ _
    omega
  refine ⟨fun q h => h.ok, fun q h hn => ?_, fun q i h hn => ?_⟩
  · obtain ⟨q2, hq2, ht, s1, s2, s3, hp, hnr⟩ := main q h
    have hW := (look_ok (lim := lim) h.ok).1
    rcases near_is hb ht hW.lk hW.bg s1 with ⟨-, b, hnear, ht2⟩ | ⟨j, q', hj, -⟩
    · have hnx : nxT g lim blk q = (none, { q2 with bg := b }) := by unfold nxT; rw [hnr, hnear]
      rw [hnx]
      refine ⟨rfl, s1, s2, fun l hol => ?_⟩
      have hw0 : Wf g (offQ { q2 with bg := b }).s := by
        show Wf g { q2.s with pile := q2.s.pile.dropLast }
        rw [s1]
        exact ⟨hW.nodup, hW.rng, hW.rch, hW.lk, hW.bg, fun x hx => hW.pl x (List.dropLast_subset _ hx), hW.pn.sublist (List.dropLast_sublist _)⟩
      refine ⟨follow_ok (q := offQ { q2 with bg := b }) s2 hw0 hol, ?_, ?_⟩
      · show TT blk _ { q2.s with pile := q2.s.pile.dropLast }
        rw [s1]
        exact ⟨ht2.tp, ht2.last, ht2.wt, ht2.has, ht2.srt, ht2.top, ht2.lo, ht2.bl, ht2.mono, ht2.bs, ht2.tn⟩
      · show q2.pt ≤ q2.s.small.length + q2.s.looked.countP id
        rw [s1]; exact hp
    · rw [hn] at hj; cases hj
  · obtain ⟨q2, hq2, ht, s1, s2, s3, hp, hnr⟩ := main q h
    have hW := (look_ok (lim := lim) h.ok).1
    rcases near_is hb ht hW.lk hW.bg s1 with ⟨hj, -⟩ | ⟨j, q', hj, hlt, hlk, hnear, e1, e2, e3, e4, ht2⟩
    · rw [hn] at hj; cases hj
    · rw [hn] at hj
      obtain rfl := Option.some.inj hj
      have hs : q'.s = allS g lim q := e1.trans s1
      have hnd : (allS g lim q).small.Nodup := (List.nodup_append.1 hW.nodup).1
      have hnx : nxT g lim blk q = (some ((allS g lim q).small.getD i 0), { q' with s := (allS g lim q).mark i }) := by
        unfold nxT
        rw [hnr, hnear]
        simp only
        rw [hs, idx_at hnd hlt]
      rw [hnx]
      refine ⟨rfl, rfl, e2.trans s2, fun l hol => ⟨follow_ok (q := { q' with s := (allS g lim q).mark i }) (e2.trans s2) (hW.mark i) hol, ?_, ?_⟩⟩
      · exact ⟨ht2.tp, ht2.last, ht2.wt, ht2.has, ht2.srt, ht2.top, ht2.lo, ht2.bl, ht2.mono, ht2.bs, ht2.tn⟩
      · show q'.pt ≤ (allS g lim q).small.length + ((allS g lim q).looked.set i true).countP id
        have hli : i < (allS g lim q).looked.length := by rw [hW.lk]; exact hlt
        have hlf : (allS g lim q).looked[i] = false := by
          rw [List.getD_eq_getElem?_getD, List.getElem?_eq_getElem hli] at hlk
          exact hlk
        rw [List.countP_set hli, hlf, e4]
        simp
        omega
theorem gt_start {g : Gr} {blk : Int} (hg : grOk g = true) : GT g blk (followQ q0 g.rt) := by
  refine ⟨follow_ok (q := q0) rfl (none_wf g) (rt_ok hg), ⟨rfl, rfl, fun z => rfl, fun z hz => absurd rfl hz, List.Pairwise.nil, (fun z hz => by cases hz), Int.le_refl _, Nat.le_refl _, (fun i j bi bj _ hi _ => by cases hi), (fun b hb => by cases hb), ⟨Int.le_refl _, Int.le_refl _⟩⟩, Nat.le_refl _⟩
theorem run_tiers {g : Gr} (lim : Int) {blk : Int} (hb : 1 ≤ blk) (hg : grOk g = true) (hN : g.nd.length ≤ 1000000) : ∃ m e, RunQ g (nxT g lim blk) (GT g blk) m (followQ q0 g.rt) e ∧ e.s = planS g lim 2 blk :=
  sim_plan hg (by decide) (sim_tiers hg lim hb hN) (gt_start hg)
end Go.Proofs.Ytkjdnccnfnhkoaa
