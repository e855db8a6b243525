/- A list through headers: what pushing and popping do to words, in plain words. -/
import Derived.Test.YtoeccbbjncgmlaaDoorObj
import Derived.Test.YtoeccbbjncgmlaaDoorSpanPure
namespace Go.Proofs.YtoeccbbjncgmlaaDoor
open Go.RowKit

theorem hW_parts {k f r c : Int} (m : Bool) (h : hmay k f r c = true) : wK (hW k f r m c).toNat = k ∧ wF (hW k f r m c).toNat = f ∧ wR (hW k f r m c).toNat = r ∧ wM (hW k f r m c).toNat = m ∧ wC (hW k f r m c).toNat = c ∧ wOk (hW k f r m c).toNat = true := by
  obtain ⟨⟨hk1, hk2⟩, ⟨hf1, hf2⟩, ⟨hr1, hr2⟩, hc1, hc2⟩ := hmay_iff.1 h
  obtain ⟨k, rfl⟩ := Int.eq_ofNat_of_zero_le hk1
  obtain ⟨f, rfl⟩ := Int.eq_ofNat_of_zero_le hf1
  obtain ⟨r, rfl⟩ := Int.eq_ofNat_of_zero_le hr1
  obtain ⟨c, rfl⟩ := Int.eq_ofNat_of_zero_le hc1
  obtain ⟨q, hq, hq2, hm⟩ : ∃ q : Nat, bi m = q ∧ q < 2 ∧ (q == 1) = m := by
    cases m
    · exact ⟨0, rfl, by decide, rfl⟩
    · exact ⟨1, rfl, by decide, rfl⟩
  have e : (hW k f r m c).toNat = c * 1099511627776 + r * 16777216 + f * 256 + k * 8 + 3 + 4 * q := by unfold hW; rw [hq]; omega
  rw [e]
  have e1 : wK (c * 1099511627776 + r * 16777216 + f * 256 + k * 8 + 3 + 4 * q) = k := by unfold wK; omega
  have e2 : wF (c * 1099511627776 + r * 16777216 + f * 256 + k * 8 + 3 + 4 * q) = f := by unfold wF; omega
  have e3 : wR (c * 1099511627776 + r * 16777216 + f * 256 + k * 8 + 3 + 4 * q) = r := by unfold wR; omega
  have e4 : wC (c * 1099511627776 + r * 16777216 + f * 256 + k * 8 + 3 + 4 * q) = c := by unfold wC; omega
  refine ⟨e1, e2, e3, ?_, e4, ?_⟩
  · unfold wM
    rw [show (c * 1099511627776 + r * 16777216 + f * 256 + k * 8 + 3 + 4 * q) / 4 % 2 = q by omega]
    exact hm
  · unfold wOk
    rw [e1, e2, e3, e4, h, Bool.and_true]
    have : (c * 1099511627776 + r * 16777216 + f * 256 + k * 8 + 3 + 4 * q) % 4 = 3 := by omega
    rw [this]; rfl
theorem parts_nat (n x1 y2 x2 y3 x3 y4 x4 y5 x5 : Nat) (e1 : 4 * y5 + 3 = n) (e2 : 2 * y4 + x5 = y5) (e3 : 32 * y3 + x4 = y4) (e4 : 65536 * y2 + x3 = y3) (e5 : 65536 * x1 + x2 = y2) :
    x1 * 1099511627776 + x2 * 16777216 + x3 * 256 + x4 * 8 + 3 + 4 * x5 = n := by
  subst e5 e4 e3 e2 e1
  omega
theorem parts_int (n x1 x2 x3 x4 x5 : Nat) (h : x1 * 1099511627776 + x2 * 16777216 + x3 * 256 + x4 * 8 + 3 + 4 * x5 = n) :
    ((x1 : Int) * 1099511627776 + x2 * 16777216 + x3 * 256 + x4 * 8 + 3 + 4 * x5).toNat = n := by
  subst h
  have : ((x1 : Int) * 1099511627776 + x2 * 16777216 + x3 * 256 + x4 * 8 + 3 + 4 * x5) = ((x1 * 1099511627776 + x2 * 16777216 + x3 * 256 + x4 * 8 + 3 + 4 * x5 : Nat) : Int) := by simp
  rw [this]; exact Int.toNat_natCast _
theorem wM_bi (n : Nat) : bi (wM n) = (n / 4 % 2 : Nat) := by
  unfold wM
  rcases Nat.mod_two_eq_zero_or_one (n / 4) with e | e
  · rw [e]; decide
  · rw [e]; decide
theorem div_two (n a b c : Nat) (h : a * b = c) : b * (n / c) + n / a % b = n / a := by
  rw [← h, ← Nat.div_div_eq_div_mul]; exact Nat.div_add_mod (n / a) b
theorem hW_back {n : Nat} (h : wOk n = true) : (hW (wK n) (wF n) (wR n) (wM n) (wC n)).toNat = n := by
  have h3 : n % 4 = 3 := by
    unfold wOk at h
    rw [Bool.and_eq_true] at h
    exact eq_of_beq h.1
  have e1 := Nat.div_add_mod n 4
  rw [h3] at e1
  unfold hW
  rw [wM_bi]
  exact parts_int n _ _ _ _ _ (parts_nat n _ _ _ _ _ _ _ _ _ e1 (div_two n 4 2 8 rfl) (div_two n 8 32 256 rfl) (div_two n 256 65536 16777216 rfl) (div_two n 16777216 65536 1099511627776 rfl))

theorem wd_same (l : List Nat) (p x : Nat) (h : p < l.length) : wd (l.set p x) p = x := by simp [wd, h]
theorem wd_other (l : List Nat) (p q x : Nat) (h : p ≠ q) : wd (l.set p x) q = wd l q := by simp [wd, List.getElem?_set_ne h]
theorem set_wd (l : List Nat) (p : Nat) (h : p < l.length) : l.set p (wd l p) = l := by rw [wd_get l p h]; exact List.set_getElem_self h

/-- The words, with another cursor in the header at p. -/
def curL (l : List Nat) (p : Nat) (c : Int) : List Nat := l.set p (hW (wK (wd l p)) (wF (wd l p)) (wR (wd l p)) (wM (wd l p)) c).toNat
section
variable {l : List Nat} {p q : Nat} {c d : Int}
theorem curL_len : (curL l p c).length = l.length := List.length_set
theorem cur_may (h : Ob l p) (hc : 0 ≤ c ∧ c ≤ 1048576) : hmay (wK (wd l p)) (wF (wd l p)) (wR (wd l p)) c = true := by
  have := hmay_iff.1 (wOk_may h.ok)
  exact hmay_iff.2 ⟨this.1, this.2.1, this.2.2.1, hc⟩
theorem curL_other (h : p ≠ q) : wd (curL l p c) q = wd l q := wd_other _ _ _ _ h
theorem curL_at (h : Ob l p) (hc : 0 ≤ c ∧ c ≤ 1048576) : wK (wd (curL l p c) p) = wK (wd l p) ∧ wF (wd (curL l p c) p) = wF (wd l p) ∧ wR (wd (curL l p c) p) = wR (wd l p) ∧ wM (wd (curL l p c) p) = wM (wd l p) ∧ wC (wd (curL l p c) p) = c ∧ wOk (wd (curL l p c) p) = true := by
  unfold curL
  rw [wd_same l p _ h.there]
  exact hW_parts _ (cur_may h hc)
theorem curL_ob (h : Ob l p) (hc : 0 ≤ c ∧ c ≤ 1048576) (hq : Ob l q) : Ob (curL l p c) q := by
  by_cases e : p = q
  · subst e
    obtain ⟨-, e2, e3, -, -, e6⟩ := curL_at h hc
    exact ⟨by rw [curL_len]; exact h.there, e6, by rw [e2, e3, curL_len]; exact h.far⟩
  · exact ⟨by rw [curL_len]; exact hq.there, by rw [curL_other e]; exact hq.ok, by rw [curL_other e, curL_len]; exact hq.far⟩
theorem curL_twice (h : Ob l p) (hc : 0 ≤ c ∧ c ≤ 1048576) : curL (curL l p c) p d = curL l p d := by
  obtain ⟨e1, e2, e3, e4, -, -⟩ := curL_at h hc
  rw [show curL (curL l p c) p d = (curL l p c).set p (hW (wK (wd (curL l p c) p)) (wF (wd (curL l p c) p)) (wR (wd (curL l p c) p)) (wM (wd (curL l p c) p)) d).toNat from rfl, e1, e2, e3, e4]
  unfold curL
  rw [List.set_set]
theorem curL_self (h : Ob l p) : curL l p (wC (wd l p)) = l := by
  unfold curL
  rw [hW_back h.ok, set_wd l p h.there]
/-- What SetHead does with another cursor. -/
theorem sh_cur (h : Ob l p) (hc : 0 ≤ c ∧ c ≤ 1048576) : shE l p (ohK l p) (ohF l p) (ohR l p) c = 0 ∧ shL l p (ohK l p) (ohF l p) (ohR l p) (ohM l p) c = curL l p c := by
  obtain ⟨h0, h1, h2, h3, h4, -⟩ := oh_yes h
  have := sh_yes (l := l) (a := p) (k := ohK l p) (f := ohF l p) (r := ohR l p) (c := c) (ohM l p) h0 ⟨by rw [h1, h2, h3]; exact cur_may h hc, rfl⟩
  refine ⟨this.1, this.2.trans ?_⟩
  rw [h1, h2, h3, h4, Int.toNat_natCast]; rfl
theorem ob_words (h : Ob l q) {m : List Nat} (hl : m.length = l.length) (hw : wd m q = wd l q) : Ob m q := ⟨by rw [hl]; exact h.there, by rw [hw]; exact h.ok, by rw [hw, hl]; exact h.far⟩
end

/-- What is on the list, the last one pushed first: its top, and the words. -/
def topS : List Nat → Int
  | [] => 0
  | k :: _ => k + 1
def wordsS (l : List Nat) (P : Nat → Nat) : List Nat → List Nat
  | [] => l
  | k :: rs => curL (wordsS l P rs) (P k) (topS rs)
/-- Objects stand at P k for all k below n, apart, with cursors of 0. -/
structure Apart12 (l : List Nat) (P : Nat → Nat) (n : Nat) : Prop where
  ob : ∀ k, k < n → Ob l (P k) ∧ wC (wd l (P k)) = 0
  inj : ∀ j k, j < n → k < n → P j = P k → j = k
section
variable {l : List Nat} {P : Nat → Nat} {n : Nat}
theorem topS_in {rs : List Nat} (h : ∀ k ∈ rs, k < n) (hn : n ≤ 1000) : 0 ≤ topS rs ∧ topS rs ≤ 1000 := by
  cases rs with
  | nil => exact ⟨by decide, by decide⟩
  | cons k rs => have := h k List.mem_cons_self; simp only [topS]; omega
theorem topS_cur {rs : List Nat} (h : ∀ k ∈ rs, k < n) (hn : n ≤ 1000) : 0 ≤ topS rs ∧ topS rs ≤ 1048576 := by
  have := topS_in h hn
  omega
theorem wordsS_len (rs : List Nat) : (wordsS l P rs).length = l.length := by
  induction rs with
  | nil => rfl
  | cons k rs ih => exact curL_len.trans ih
theorem wordsS_ob (H : Apart12 l P n) (hn : n ≤ 1000) : ∀ {rs : List Nat}, (∀ k ∈ rs, k < n) → ∀ j, j < n → Ob (wordsS l P rs) (P j)
  | [], _, j, hj => (H.ob j hj).1
  | k :: rs, h, j, hj => by
    have h2 : ∀ k ∈ rs, k < n := fun k hk => h k (List.mem_cons_of_mem _ hk)
    exact curL_ob (wordsS_ob H hn h2 k (h k List.mem_cons_self)) (topS_cur h2 hn) (wordsS_ob H hn h2 j hj)
theorem wordsS_other (H : Apart12 l P n) : ∀ {rs : List Nat}, (∀ k ∈ rs, k < n) → ∀ j, j < n → j ∉ rs → wd (wordsS l P rs) (P j) = wd l (P j)
  | [], _, _, _, _ => rfl
  | k :: rs, h, j, hj, hm => by
    have hne : P k ≠ P j := fun e => hm (by rw [← H.inj k j (h k List.mem_cons_self) hj e]; exact List.mem_cons_self)
    exact (curL_other hne).trans (wordsS_other H (fun k hk => h k (List.mem_cons_of_mem _ hk)) j hj fun h' => hm (List.mem_cons_of_mem _ h'))
/-- What was pushed last is popped. -/
theorem wordsS_pop (H : Apart12 l P n) (hn : n ≤ 1000) {k : Nat} {rs : List Nat} (h : ∀ j ∈ k :: rs, j < n) (hd : k ∉ rs) :
    wC (wd (wordsS l P (k :: rs)) (P k)) = topS rs ∧ curL (wordsS l P (k :: rs)) (P k) 0 = wordsS l P rs := by
  have h2 : ∀ j ∈ rs, j < n := fun j hj => h j (List.mem_cons_of_mem _ hj)
  have hk := h k List.mem_cons_self
  have ho := wordsS_ob H hn h2 k hk
  have hc := topS_cur h2 hn
  refine ⟨(curL_at ho hc).2.2.2.2.1, (curL_twice ho hc).trans ?_⟩
  have e : wC (wd (wordsS l P rs) (P k)) = 0 := by rw [wordsS_other H h2 k hk hd]; exact (H.ob k hk).2
  have := curL_self ho
  rwa [e] at this
end

/-- Objects of a table, laid one behind the other up to at. -/
structure Row12 (l : List Nat) (T : List Sp) (at_ : Nat) : Prop where
  len : l.length = 400
  wds : Words l
  ob : ∀ (k : Nat) (x : Sp), T[k]? = some x → ∃ p : Nat, x.1 = p ∧ p < at_ ∧ Ob l p ∧ wC (wd l p) = 0
  rise : List.Pairwise (fun x y : Sp => x.1 < y.1) T
  few : at_ ≤ 10 * T.length
theorem words_zero : Words (List.replicate 400 0) := fun y hy => by rw [List.eq_of_mem_replicate hy]; decide
theorem row12_nil : Row12 (List.replicate 400 0) [] 0 := ⟨List.length_replicate, words_zero, (fun _ _ h => by cases h), List.Pairwise.nil, Nat.le_refl _⟩
theorem splice_wd (l : List Nat) (a k x q : Nat) (hq : q < a) (ha : a + k ≤ l.length) : wd (filled l a k x) q = wd l q := by
  unfold wd filled splice
  rw [List.getD_eq_getElem?_getD, List.getD_eq_getElem?_getD, List.getElem?_append_left (by simp; omega), List.getElem?_take_of_lt hq]
theorem Words.filled {l : List Nat} (h : Words l) (a k : Nat) : Words (filled l a k 0) := h.splice (fun y hy => by rw [List.eq_of_mem_replicate hy]; decide) a
/-- One object more. -/
theorem row12_put {l : List Nat} {T : List Sp} {a : Nat} (h : Row12 l T a) (hT : T.length < 31) {n : Int} (hn : 1 ≤ n ∧ n ≤ 10) :
    ptE l a T.length 0 (n - 1) 0 = 0 ∧ Row12 (ptL l a T.length 0 (n - 1) false 0) (T ++ [((a : Int), n)]) (a + n.toNat) := by
  have hm : hmay T.length 0 (n - 1) 0 = true := hmay_iff.2 (by omega)
  have hfew := h.few
  have hlen := h.len
  obtain ⟨e1, e2⟩ := pt_yes (l := l) (a := a) false hm (by omega)
  have hz : (1 + 0 + (n - 1)).toNat = n.toNat := by omega
  rw [hz, Int.toNat_natCast] at e2
  obtain ⟨q1, q2, q3, q4, q5, q6⟩ := hW_parts false hm
  have hfl : (filled l a n.toNat 0).length = l.length := filled_len _ _ _ _ (by omega)
  have hwa : wd (ptL l a T.length 0 (n - 1) false 0) a = (hW T.length 0 (n - 1) false 0).toNat := by rw [e2]; exact wd_same _ _ _ (by omega)
  have hln : (ptL l a T.length 0 (n - 1) false 0).length = l.length := by rw [e2, List.length_set, hfl]
  have hwo : ∀ q, q < a → wd (ptL l a T.length 0 (n - 1) false 0) q = wd l q := fun q hq => by rw [e2, wd_other _ _ _ _ (by omega), splice_wd _ _ _ _ _ hq (by omega)]
  have hlt := hW_lt false hm
  refine ⟨e1, hln.trans hlen, ?_, fun k x hk => ?_, ?_, ?_⟩
  · rw [e2]
    exact (h.wds.filled a _).set _ _ (by unfold full; omega)
  · rcases Nat.lt_or_ge k T.length with hlt' | hge
    · rw [List.getElem?_append_left hlt'] at hk
      obtain ⟨p, p1, p2, p3, p4⟩ := h.ob k x hk
      exact ⟨p, p1, by omega, ob_words p3 hln (hwo p p2), by rw [hwo p p2]; exact p4⟩
    · rw [List.getElem?_append_right hge] at hk
      have hk0 : k - T.length = 0 := by have := (List.getElem?_eq_some_iff.1 hk).1; simp at this; omega
      rw [hk0] at hk
      obtain rfl : ((a : Int), n) = x := by simpa using hk
      exact ⟨a, rfl, by omega, ⟨by rw [hln]; omega, by rw [hwa]; exact q6, by rw [hwa, q2, q3, hln]; omega⟩, by rw [hwa]; exact q5⟩
  · rw [List.pairwise_append]
    refine ⟨h.rise, List.pairwise_singleton _ _, fun x hx y hy => ?_⟩
    obtain rfl := List.mem_singleton.1 hy
    obtain ⟨k, hk, rfl⟩ := List.getElem_of_mem hx
    obtain ⟨p, p1, p2, -⟩ := h.ob k _ (List.getElem?_eq_getElem hk)
    rw [p1]; show (p : Int) < a; omega
  · simp only [List.length_append, List.length_singleton]; omega
/-- Where the objects of a table stand. -/
def plcT (T : List Sp) (k : Nat) : Nat := (T.getD k (0, 0)).1.toNat
theorem plcT_at {l : List Nat} {T : List Sp} {a : Nat} (h : Row12 l T a) {k : Nat} (hk : k < T.length) : ∃ x, T[k]? = some x ∧ x.1 = (plcT T k : Nat) := by
  refine ⟨T[k], List.getElem?_eq_getElem hk, ?_⟩
  obtain ⟨p, p1, -⟩ := h.ob k _ (List.getElem?_eq_getElem hk)
  unfold plcT
  rw [List.getD_eq_getElem?_getD, List.getElem?_eq_getElem hk, Option.getD_some, p1]; rfl
theorem row12_apart {l : List Nat} {T : List Sp} {a : Nat} (h : Row12 l T a) : Apart12 l (plcT T) T.length := by
  have hP : ∀ k (hk : k < T.length), T[k].1 = (plcT T k : Nat) := fun k hk => by
    obtain ⟨x, h1, h2⟩ := plcT_at h hk
    rw [List.getElem?_eq_getElem hk] at h1
    obtain rfl := Option.some.inj h1
    exact h2
  refine ⟨fun k hk => ?_, fun j k hj hk e => ?_⟩
  · obtain ⟨p, p1, -, p3, p4⟩ := h.ob k _ (List.getElem?_eq_getElem hk)
    rw [hP k hk] at p1
    obtain rfl : plcT T k = p := by omega
    exact ⟨p3, p4⟩
  · have hr := List.pairwise_iff_getElem.1 h.rise
    rcases Nat.lt_trichotomy j k with hlt | he | hgt
    · have := hr j k hj hk hlt
      rw [hP j hj, hP k hk, e] at this; omega
    · exact he
    · have := hr k j hk hj hgt
      rw [hP j hj, hP k hk, e] at this; omega
end Go.Proofs.YtoeccbbjncgmlaaDoor
