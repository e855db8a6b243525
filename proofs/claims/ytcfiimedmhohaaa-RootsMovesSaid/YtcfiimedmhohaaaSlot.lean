/- Slots of a table of handles: cells, what is found, put, got, set, dropped; handles that were told. No program in it. -/
import Derived.Test.YtcfiimedmhohaaaMem
import Derived.Test.YtcfiimedmhohaaaVal
import Derived.Test.YtcfiimedmhohaaaInts
namespace Go.Proofs.Ytcfiimedmhohaaa
open Go.RowKit

/-- A slot: whether it is used, how often it was, its word. -/
abbrev Slt := Bool × Int × Nat
def Slt.good (s : Slt) : Bool := decide (0 ≤ s.2.1 ∧ s.2.1 < 1099511627776)
def slE (s : Slt) : List Value := [.bool s.1, .int .i64 s.2.1, .int .u64 (s.2.2 : Nat)]
def slc (l : List Slt) : List Value := l.flatMap slE
theorem slc_len (l : List Slt) : (slc l).length = l.length * 3 := by
  induction l with
  | nil => rfl
  | cons s l ih => simp only [slc, List.flatMap_cons, List.length_append, List.length_cons, slE, List.length_nil] at ih ⊢; omega
theorem slc_get : ∀ (l : List Slt) (k : Nat) (s : Slt), l[k]? = some s → (slc l)[k * 3]? = some (.bool s.1) ∧ (slc l)[k * 3 + 1]? = some (.int .i64 s.2.1) ∧ (slc l)[k * 3 + 2]? = some (.int .u64 (s.2.2 : Nat))
  | [], k, s, h => by simp at h
  | y :: l, 0, s, h => by
    obtain rfl : y = s := by simpa using h
    exact ⟨rfl, rfl, rfl⟩
  | y :: l, k + 1, s, h => by
    have := slc_get l k s (by simpa using h)
    rw [show (k + 1) * 3 = k * 3 + 1 + 1 + 1 by omega]
    simpa [slc, slE] using this
theorem slc_append (l m : List Slt) : slc (l ++ m) = slc l ++ slc m := by simp [slc]
theorem slc_oneCell (l : List Slt) : ∀ v ∈ slc l, v.oneCell' = true := by
  intro v hv
  simp only [slc, List.mem_flatMap, slE, List.mem_cons, List.not_mem_nil, or_false] at hv
  obtain ⟨s, _, rfl | rfl | rfl⟩ := hv <;> rfl
theorem slc_set : ∀ (l : List Slt) (k : Nat) (s : Slt), k < l.length → (((slc l).set (k * 3) (.bool s.1)).set (k * 3 + 1) (.int .i64 s.2.1)).set (k * 3 + 2) (.int .u64 (s.2.2 : Nat)) = slc (l.set k s)
  | [], k, s, h => by simp at h
  | y :: l, 0, s, h => by simp [slc, slE]
  | y :: l, k + 1, s, h => by
    have := slc_set l k s (by simpa using h)
    rw [show (k + 1) * 3 = k * 3 + 1 + 1 + 1 by omega]
    simpa [slc, slE] using this
theorem slc_take (l : List Slt) (k : Nat) : (slc l).take (k * 3) = slc (l.take k) := by
  induction l generalizing k with
  | nil => simp [slc]
  | cons s l ih =>
    rcases k with _ | k
    · simp [slc]
    · rw [show (k + 1) * 3 = k * 3 + 1 + 1 + 1 by omega]
      have := ih k
      simp only [slc, List.flatMap_cons, List.take_succ_cons, slE, List.cons_append, List.nil_append] at this ⊢
      rw [this]
theorem slc_inj : ∀ {l m : List Slt}, slc l = slc m → l = m
  | [], [], _ => rfl
  | [], y :: m, h => by simp [slc, slE] at h
  | x :: l, [], h => by simp [slc, slE] at h
  | (a, b, c) :: l, (d, e, f) :: m, h => by
    have h' : Value.bool a :: Value.int .i64 b :: Value.int .u64 (c : Nat) :: slc l = Value.bool d :: Value.int .i64 e :: Value.int .u64 (f : Nat) :: slc m := h
    simp only [List.cons.injEq, Value.bool.injEq, Value.int.injEq, true_and] at h'
    obtain ⟨h1, h2, h3, h4⟩ := h'
    rw [h1, h2, slc_inj h4, show c = f by omega]

/-- The first place of which p tells, or the length. -/
def fstI (p : Nat → Slt → Bool) (l : List Slt) : Nat := l.zipIdx.findIdx fun x => p x.2 x.1
section
variable {p : Nat → Slt → Bool} {l : List Slt} {k : Nat} {s : Slt}
theorem fstI_le : fstI p l ≤ l.length := by
  have := List.findIdx_le_length (xs := l.zipIdx) (p := fun x => p x.2 x.1)
  simpa [fstI] using this
theorem fstI_hit (hx : l[k]? = some s) (hp : p k s = true) (hb : ∀ (j : Nat) y, j < k → l[j]? = some y → p j y = false) : fstI p l = k := by
  obtain ⟨hk, rfl⟩ := List.getElem?_eq_some_iff.1 hx
  unfold fstI
  rw [List.findIdx_eq (by simpa using hk)]
  refine ⟨by simpa using hp, fun j hj => ?_⟩
  have := hb j _ hj (List.getElem?_eq_getElem (by omega))
  simpa using this
theorem fstI_none (hb : ∀ (j : Nat) y, l[j]? = some y → p j y = false) : fstI p l = l.length := by
  unfold fstI
  have : ∀ x ∈ l.zipIdx, ¬ (p x.2 x.1 = true) := by
    intro x hx e
    obtain ⟨i, hi⟩ := List.getElem?_of_mem hx
    rw [List.getElem?_zipIdx] at hi
    rcases hl : l[i]? with _ | y
    · rw [hl] at hi; simp at hi
    · rw [hl] at hi
      obtain rfl : (y, 0 + i) = x := by simpa using hi
      have := hb i y hl
      simp at e
      rw [this] at e
      cases e
  rw [List.findIdx_eq_length.2 (fun x hx => by simpa using this x hx)]
  simp
theorem fstI_lt (h : fstI p l < l.length) : ∃ s, l[fstI p l]? = some s ∧ p (fstI p l) s = true := by
  have hz : fstI p l < l.zipIdx.length := by simpa using h
  have := List.findIdx_getElem (w := hz)
  have key : ∀ (k : Nat) (h : k < l.zipIdx.length), p l.zipIdx[k].2 l.zipIdx[k].1 = true → p k (l[k]'(by simpa using h)) = true := fun k h e => by simpa using e
  exact ⟨l[fstI p l], List.getElem?_eq_getElem h, key _ hz this⟩
theorem fstI_lt_iff : fstI p l < l.length ↔ ∃ (j : Nat) (y : Slt), l[j]? = some y ∧ p j y = true := by
  constructor
  · intro h
    obtain ⟨s, h1, h2⟩ := fstI_lt h
    exact ⟨_, s, h1, h2⟩
  · rintro ⟨j, y, h1, h2⟩
    rcases Nat.lt_or_ge (fstI p l) l.length with h | h
    · exact h
    · exfalso
      have hj := (List.getElem?_eq_some_iff.1 h1).1
      have : ¬ (j < fstI p l) := fun hlt => by
        have hz : j < l.zipIdx.findIdx fun x => p x.2 x.1 := hlt
        have h3 := List.not_of_lt_findIdx hz
        obtain ⟨_, rfl⟩ := List.getElem?_eq_some_iff.1 h1
        simp at h3
        rw [h3] at h2
        cases h2
      omega
end
/-- The handle of the slot at i; which slot is a handle's; which is free. -/
def hOf (i : Nat) (s : Slt) : Int := i + 1024 * s.2.1
def isH (h : Int) (i : Nat) (s : Slt) : Bool := decide (i < 1024) && (s.1 && (s.good && decide (h = hOf i s)))
def isFree (i : Nat) (s : Slt) : Bool := decide (i < 1024) && (!s.1 && s.good)
theorem hOf_bounds {i : Nat} {s : Slt} (hi : i < 1024) (hg : s.good = true) : 0 ≤ hOf i s ∧ hOf i s < 1125899906842624 := by
  have := of_decide_eq_true hg
  unfold hOf
  omega
/-- The place of a handle, or -1. -/
def plH (l : List Slt) (h : Int) : Int := if fstI (isH h) l < l.length then (fstI (isH h) l : Nat) else -1
def getE (l : List Slt) (h : Int) : Int := if fstI (isH h) l < l.length then 0 else 5
def getW (l : List Slt) (h : Int) : Nat := if fstI (isH h) l < l.length then (l.getD (fstI (isH h) l) (false, 0, 0)).2.2 else 0
def putSE (l : List Slt) : Int := if fstI isFree l < l.length then 0 else 8
def putSH (l : List Slt) : Int := if fstI isFree l < l.length then hOf (fstI isFree l) (l.getD (fstI isFree l) (false, 0, 0)) else 0
def putSL (l : List Slt) (w : Nat) : List Slt := if fstI isFree l < l.length then l.set (fstI isFree l) (true, (l.getD (fstI isFree l) (false, 0, 0)).2.1, w) else l
def setSL (l : List Slt) (h : Int) (w : Nat) : List Slt := if fstI (isH h) l < l.length then l.set (fstI (isH h) l) (true, (l.getD (fstI (isH h) l) (false, 0, 0)).2.1, w) else l
def dropSL (l : List Slt) (h : Int) : List Slt := if fstI (isH h) l < l.length then l.set (fstI (isH h) l) (false, (l.getD (fstI (isH h) l) (false, 0, 0)).2.1 + 1, 0) else l
section
variable {l : List Slt} {k : Nat} {s : Slt} {h : Int}
theorem slt_getD (hx : l[k]? = some s) (d : Slt) : l.getD k d = s := by rw [List.getD_eq_getElem?_getD, hx]; rfl
theorem found (hx : l[k]? = some s) (hk : fstI (isH h) l = k) : plH l h = k ∧ getE l h = 0 ∧ getW l h = s.2.2 ∧ (∀ w, setSL l h w = l.set k (true, s.2.1, w)) ∧ dropSL l h = l.set k (false, s.2.1 + 1, 0) := by
  have hlt : k < l.length := (List.getElem?_eq_some_iff.1 hx).1
  unfold plH getE getW setSL dropSL
  simp only [hk, if_pos hlt, slt_getD hx]
  exact ⟨trivial, trivial, trivial, fun _ => trivial, trivial⟩
theorem not_found (hk : fstI (isH h) l = l.length) : plH l h = -1 ∧ getE l h = 5 ∧ getW l h = 0 ∧ (∀ w, setSL l h w = l) ∧ dropSL l h = l := by
  have hlt : ¬ fstI (isH h) l < l.length := by omega
  unfold plH getE getW setSL dropSL
  simp only [if_neg hlt]
  exact ⟨trivial, trivial, trivial, fun _ => trivial, trivial⟩
theorem put_found (hx : l[k]? = some s) (hk : fstI isFree l = k) : putSE l = 0 ∧ putSH l = hOf k s ∧ ∀ w, putSL l w = l.set k (true, s.2.1, w) := by
  have hlt : k < l.length := (List.getElem?_eq_some_iff.1 hx).1
  unfold putSE putSH putSL
  simp only [hk, if_pos hlt, slt_getD hx]
  exact ⟨trivial, trivial, fun _ => trivial⟩
theorem put_none (hk : fstI isFree l = l.length) : putSE l = 8 ∧ putSH l = 0 ∧ ∀ w, putSL l w = l := by
  have hlt : ¬ fstI isFree l < l.length := by omega
  unfold putSE putSH putSL
  simp only [if_neg hlt]
  exact ⟨trivial, trivial, fun _ => trivial⟩
end
/-- How many are used; all handles. -/
def usedS (l : List Slt) : Nat := (l.filter (·.1)).length
theorem usedS_snoc (l : List Slt) (s : Slt) : usedS (l ++ [s]) = usedS l + if s.1 = true then 1 else 0 := by
  unfold usedS
  rw [List.filter_append, List.length_append]
  rcases h : s.1 with _ | _ <;> simp [h]
theorem usedS_le (l : List Slt) : usedS l ≤ l.length := List.length_filter_le _ _
theorem usedS_lt_iff {l : List Slt} : usedS l < l.length ↔ ∃ s ∈ l, s.1 = false := by
  unfold usedS
  constructor
  · intro h
    rcases Classical.em (∃ s ∈ l, s.1 = false) with he | he
    · exact he
    · exfalso
      have : l.filter (·.1) = l := List.filter_eq_self.2 fun s hs => by
        rcases e : s.1 with _ | _
        · exact absurd ⟨s, hs, e⟩ he
        · rfl
      rw [this] at h
      omega
  · rintro ⟨s, hs, e⟩
    rcases Nat.lt_or_ge (l.filter (·.1)).length l.length with h | h
    · exact h
    · have h2 := List.length_filter_eq_length_iff.1 (Nat.le_antisymm (List.length_filter_le _ _) h)
      have := h2 s hs
      rw [e] at this
      cases this
def handlesS (l : List Slt) : List Int := (l.zipIdx.filter fun x => decide (x.2 < 1024) && (x.1.1 && x.1.good)).map fun x => hOf x.2 x.1
def isU (i : Nat) (s : Slt) : Bool := decide (i < 1024) && (s.1 && s.good)
theorem handlesS_snoc {l : List Slt} {k : Nat} {s : Slt} (hx : l[k]? = some s) : handlesS (l.take (k + 1)) = handlesS (l.take k) ++ if isU k s = true then [hOf k s] else [] := by
  obtain ⟨hk, rfl⟩ := List.getElem?_eq_some_iff.1 hx
  unfold handlesS isU
  rw [List.take_succ_eq_append_getElem hk, List.zipIdx_append, List.filter_append, List.map_append]
  congr 1
  have hl : (l.take k).length = k := by simp; omega
  simp only [hl, Nat.zero_add, List.zipIdx_singleton]
  rcases h : (decide (k < 1024) && ((l[k]).1 && (l[k]).good)) with _ | _
  · simp [h]
  · simp [h]

/-- A table of n slots. -/
def rightSlot (dE : Int → Int) (s : Slt) : Bool := (s.1 && s.good || !s.1 && (decide (0 ≤ s.2.1 ∧ s.2.1 ≤ 1099511627776) && decide (s.2.2 = 0))) && decide (dE (s.2.2 : Nat) = 0)
def rightS (dE : Int → Int) (l : List Slt) (n : Int) : Bool := decide ((l.length : Int) = n ∧ 1 ≤ n ∧ n ≤ 1024) && l.all (rightSlot dE)

/-- A handle that was told: its place, its count, whether it is alive. -/
abbrev Tld := Nat × Int × Bool
def tH (t : Tld) : Int := t.1 + 1024 * t.2.1
/-- The handles that were told of a table, none of whose counts is beyond G. -/
structure Told (l : List Slt) (ts : List Tld) (G : Int) : Prop where
  few : l.length ≤ 1024
  low : G < 1099511627776
  gen : ∀ s ∈ l, 0 ≤ s.2.1 ∧ s.2.1 ≤ G
  all : ∀ t ∈ ts, 0 ≤ t.2.1 ∧ ∃ s : Slt, l[t.1]? = some s ∧ (t.2.2 = true → s.1 = true ∧ s.2.1 = t.2.1) ∧ (t.2.2 = false → t.2.1 < s.2.1)
  apart : ts.Pairwise fun a b => tH a ≠ tH b
section
variable {l : List Slt} {ts : List Tld} {G : Int}
theorem Told.good (h : Told l ts G) {k : Nat} {s : Slt} (hx : l[k]? = some s) : k < 1024 ∧ s.good = true := by
  have hk := (List.getElem?_eq_some_iff.1 hx).1
  have h1 := h.gen s (List.mem_of_getElem? hx)
  have h2 := h.few
  have h3 := h.low
  exact ⟨by omega, decide_eq_true (by omega)⟩
theorem Told.nil {G : Int} (h1 : l.length ≤ 1024) (h2 : G < 1099511627776) (h3 : ∀ s ∈ l, 0 ≤ s.2.1 ∧ s.2.1 ≤ G) : Told l [] G := ⟨h1, h2, h3, (fun _ h => by cases h), List.Pairwise.nil⟩
/-- A handle that was told is right just if it is alive; its place is its own. -/
theorem Told.at_ (h : Told l ts G) {t : Tld} (ht : t ∈ ts) : (t.2.2 = true → fstI (isH (tH t)) l = t.1) ∧ (t.2.2 = false → fstI (isH (tH t)) l = l.length) := by
  obtain ⟨g0, s, hs, h1, h2⟩ := h.all t ht
  have hb := h.good hs
  have key : ∀ (j : Nat) (y : Slt), l[j]? = some y → isH (tH t) j y = true → j = t.1 ∧ y.1 = true ∧ y.2.1 = t.2.1 := by
    intro j y hy hp
    unfold isH at hp
    simp only [Bool.and_eq_true, decide_eq_true_eq] at hp
    obtain ⟨p1, p2, p3, p4⟩ := hp
    have := hb.1
    unfold tH hOf at p4
    have e : (t.1 : Int) = j := by omega
    exact ⟨by omega, p2, by omega⟩
  constructor
  · intro ha
    obtain ⟨e1, e2⟩ := h1 ha
    refine fstI_hit hs ?_ fun j y hj hy => ?_
    · unfold isH
      rw [e1, hb.2, decide_eq_true hb.1]
      simp [tH, hOf, e2]
    · cases hp : isH (tH t) j y
      · rfl
      · have := (key j y hy hp).1
        omega
  · intro ha
    have e2 := h2 ha
    refine fstI_none fun j y hy => ?_
    cases hp : isH (tH t) j y
    · rfl
    · obtain ⟨q1, q2, q3⟩ := key j y hy hp
      subst q1
      rw [hs] at hy
      obtain rfl := Option.some.inj hy
      omega
theorem Told.getE (h : Told l ts G) {t : Tld} (ht : t ∈ ts) : (getE l (tH t) = 0) ↔ t.2.2 = true := by
  obtain ⟨h1, h2⟩ := h.at_ ht
  obtain ⟨-, s, hs, -⟩ := h.all t ht
  rcases ha : t.2.2 with _ | _
  · rw [(not_found (h2 ha)).2.1]; simp
  · rw [(found hs (h1 ha)).2.1]; simp
/-- A table with another slot at k, whose count is no less. -/
theorem Told.set (h : Told l ts G) {k : Nat} {s y : Slt} (hx : l[k]? = some s) (hy : s.2.1 ≤ y.2.1 ∧ y.2.1 ≤ G + 1) (hG : G + 1 < 1099511627776) {ts' : List Tld} (hl : ts'.length = ts.length)
    (hs : ∀ (i : Nat) (t t' : Tld), ts[i]? = some t → ts'[i]? = some t' → t'.1 = t.1 ∧ t'.2.1 = t.2.1 ∧ (t.1 ≠ k → t'.2.2 = t.2.2) ∧ (t.1 = k → (t'.2.2 = true → y.1 = true ∧ y.2.1 = t.2.1) ∧ (t'.2.2 = false → t.2.1 < y.2.1))) : Told (l.set k y) ts' (G + 1) := by
  have hk := (List.getElem?_eq_some_iff.1 hx).1
  have h0 := h.gen s (List.mem_of_getElem? hx)
  refine ⟨by simpa using h.few, hG, fun z hz => ?_, fun t' ht' => ?_, ?_⟩
  · rcases List.mem_or_eq_of_mem_set hz with hz | rfl
    · have := h.gen z hz; omega
    · omega
  · obtain ⟨i, hi⟩ := List.getElem?_of_mem ht'
    have hil := (List.getElem?_eq_some_iff.1 hi).1
    have ht : ts[i]? = some ts[i] := List.getElem?_eq_getElem (by omega)
    obtain ⟨e1, e2, e3, e4⟩ := hs i _ _ ht hi
    obtain ⟨g0, z, hz, g1, g2⟩ := h.all _ (List.mem_of_getElem? ht)
    refine ⟨by omega, ?_⟩
    by_cases e : ts[i].1 = k
    · refine ⟨y, by rw [e1, e, List.getElem?_set_self hk], ?_⟩
      obtain ⟨f1, f2⟩ := e4 e
      rw [e2]
      exact ⟨f1, f2⟩
    · refine ⟨z, by rw [e1, List.getElem?_set_ne (fun h => e h.symm)]; exact hz, ?_⟩
      rw [e2, e3 e]
      exact ⟨g1, g2⟩
  · refine List.pairwise_iff_getElem.2 fun i j hi hj hij => ?_
    have := List.pairwise_iff_getElem.1 h.apart i j (by omega) (by omega) hij
    obtain ⟨a1, a2, -⟩ := hs i _ _ (List.getElem?_eq_getElem (by omega)) (List.getElem?_eq_getElem hi)
    obtain ⟨b1, b2, -⟩ := hs j _ _ (List.getElem?_eq_getElem (by omega)) (List.getElem?_eq_getElem hj)
    unfold tH at this ⊢
    rw [a1, a2, b1, b2]
    exact this
/-- The handle at the place i of those told is dropped. -/
theorem Told.drop (h : Told l ts G) (hG : G + 1 < 1099511627776) {i : Nat} {t : Tld} (ht : ts[i]? = some t) (ha : t.2.2 = true) : Told (dropSL l (tH t)) (ts.set i (t.1, t.2.1, false)) (G + 1) := by
  have hm := List.mem_of_getElem? ht
  obtain ⟨g0, s, hs, g1, -⟩ := h.all t hm
  obtain ⟨e1, e2⟩ := g1 ha
  rw [(found hs ((h.at_ hm).1 ha)).2.2.2.2]
  have hg := h.gen s (List.mem_of_getElem? hs)
  have hil := (List.getElem?_eq_some_iff.1 ht).1
  refine h.set hs ⟨by show s.2.1 ≤ s.2.1 + 1; omega, by show s.2.1 + 1 ≤ G + 1; omega⟩ hG (by simp) fun j a a' hj hj' => ?_
  by_cases e : i = j
  · subst e
    rw [ht] at hj
    obtain rfl := Option.some.inj hj
    rw [List.getElem?_set_self hil] at hj'
    obtain rfl := Option.some.inj hj'
    exact ⟨rfl, rfl, fun h => absurd rfl h, fun _ => ⟨fun h => (by cases h), fun _ => by show t.2.1 < s.2.1 + 1; omega⟩⟩
  · rw [List.getElem?_set_ne e, hj] at hj'
    obtain rfl := Option.some.inj hj'
    refine ⟨rfl, rfl, fun _ => rfl, fun ek => ⟨fun haa => ?_, fun haa => ?_⟩⟩
    · exfalso
      obtain ⟨-, z, hz, z1, -⟩ := h.all a (List.mem_of_getElem? hj)
      rw [ek, hs] at hz
      obtain rfl := Option.some.inj hz
      have hta : tH a = tH t := by unfold tH; rw [ek, ← e2, (z1 haa).2]
      obtain ⟨hjl, rfl⟩ := List.getElem?_eq_some_iff.1 hj
      obtain ⟨_, rfl⟩ := List.getElem?_eq_some_iff.1 ht
      rcases Nat.lt_trichotomy i j with hlt | he | hgt
      · exact List.pairwise_iff_getElem.1 h.apart i j hil hjl hlt hta.symm
      · exact e he
      · exact List.pairwise_iff_getElem.1 h.apart j i hjl hil hgt hta
    · obtain ⟨-, z, hz, -, z2⟩ := h.all a (List.mem_of_getElem? hj)
      rw [ek, hs] at hz
      obtain rfl := Option.some.inj hz
      have := z2 haa
      show a.2.1 < s.2.1 + 1
      omega
/-- A handle that is told anew is unlike all that were told. -/
theorem Told.put (h : Told l ts G) (hG : G + 1 < 1099511627776) {k : Nat} {s : Slt} (hx : l[k]? = some s) (hu : s.1 = false) (w : Nat) :
    (∀ t ∈ ts, tH t ≠ hOf k s) ∧ Told (l.set k (true, s.2.1, w)) (ts ++ [(k, s.2.1, true)]) (G + 1) := by
  have hk := (List.getElem?_eq_some_iff.1 hx).1
  have hb := h.good hx
  have hg := h.gen s (List.mem_of_getElem? hx)
  have hne : ∀ t ∈ ts, tH t ≠ hOf k s := by
    intro t ht e
    obtain ⟨g0, z, hz, z1, z2⟩ := h.all t ht
    have hbt := h.good hz
    unfold tH hOf at e
    have hbk := hb.1
    have hbz := hbt.1
    have ek : t.1 = k := by omega
    have eg : t.2.1 = s.2.1 := by omega
    rw [ek, hx] at hz
    obtain rfl := Option.some.inj hz
    rcases ha : t.2.2 with _ | _
    · have := z2 ha; omega
    · have := (z1 ha).1; rw [hu] at this; cases this
  have h2 := h.set (ts' := ts) hx (y := (true, s.2.1, w)) ⟨Int.le_refl _, by show s.2.1 ≤ G + 1; omega⟩ hG rfl fun i t t' ht ht' => by
    rw [ht] at ht'
    obtain rfl := Option.some.inj ht'
    refine ⟨rfl, rfl, fun _ => rfl, fun ek => ?_⟩
    obtain ⟨-, z, hz, z1, z2⟩ := h.all t (List.mem_of_getElem? ht)
    rw [ek, hx] at hz
    obtain rfl := Option.some.inj hz
    exact ⟨fun ha => ⟨rfl, (z1 ha).2⟩, fun ha => z2 ha⟩
  refine ⟨hne, h2.few, h2.low, h2.gen, fun t ht => ?_, ?_⟩
  · rcases List.mem_append.1 ht with ht | ht
    · exact h2.all t ht
    · obtain rfl := List.mem_singleton.1 ht
      exact ⟨hg.1, _, List.getElem?_set_self hk, fun _ => ⟨rfl, rfl⟩, fun h => by cases h⟩
  · rw [List.pairwise_append]
    refine ⟨h2.apart, List.pairwise_singleton _ _, fun a ha b hb' => ?_⟩
    obtain rfl := List.mem_singleton.1 hb'
    exact hne a ha
end
end Go.Proofs.Ytcfiimedmhohaaa

/- Slots in memory, and what is asked of roots' calls: contracts, each said once, for the program and for the document's own. -/
namespace Go.Proofs.Ytcfiimedmhohaaa
open Go.RowKit

/-- The cells of a slot in a list that reads. -/
theorem sl_slot {w w' : World} {B : Nat} {A : Option Addr} {c k : Nat} {l : List Slt} {s : Slt} (h : Sl w B 3 (.slice A l.length c) l.length (slc l)) (hb : Below B w w') (hx : l[k]? = some s) :
    ∃ b o, A = some ⟨b, o, none⟩ ∧ b < B ∧ w'.cell? ⟨b, o + k * 3, none⟩ = some (.bool s.1) ∧ w'.cell? ⟨b, o + k * 3 + 1, none⟩ = some (.int .i64 s.2.1) ∧ w'.cell? ⟨b, o + k * 3 + 2, none⟩ = some (.int .u64 (s.2.2 : Nat)) := by
  have hk : k < l.length := (List.getElem?_eq_some_iff.1 hx).1
  obtain ⟨b, o, c', e, _, _, hlt, hc⟩ := (h.below hb).at_ (by omega)
  obtain ⟨rfl, rfl⟩ : A = some ⟨b, o, none⟩ ∧ c = c' := by simpa using e
  obtain ⟨h0, h1, h2⟩ := slc_get l k s hx
  refine ⟨b, o, rfl, hlt, hc _ _ h0, ?_, ?_⟩
  · have := hc _ _ h1
    rwa [← Nat.add_assoc] at this
  · have := hc _ _ h2
    rwa [← Nat.add_assoc] at this
theorem info_slot : (Try.prog.info? 42).map (fun i => (i.zero, i.size, i.bytes)) = some (some (.agg #[.bool false, .int .i64 0, .int .u64 0]), 3, 24) := by kernel_rfl
/-- Numbers of 64 bits. -/
def SlOk (l : List Slt) : Prop := ∀ s ∈ l, -9223372036854775808 ≤ s.2.1 ∧ s.2.1 ≤ 9223372036854775807 ∧ s.2.2 < full
theorem SlOk.get {l : List Slt} (h : SlOk l) {k : Nat} {s : Slt} (hx : l[k]? = some s) : -9223372036854775808 ≤ s.2.1 ∧ s.2.1 ≤ 9223372036854775807 ∧ s.2.2 < full := h s (List.mem_of_getElem? hx)
theorem SlOk.set {l : List Slt} (h : SlOk l) (k : Nat) {s : Slt} (hs : -9223372036854775808 ≤ s.2.1 ∧ s.2.1 ≤ 9223372036854775807 ∧ s.2.2 < full) : SlOk (l.set k s) := fun y hy => by
  rcases List.mem_or_eq_of_mem_set hy with hy | rfl
  · exact h y hy
  · exact hs
theorem full_pos : 0 < full := by decide
theorem SlOk.put {l : List Slt} (h : SlOk l) {x : Nat} (hx : x < full) : SlOk (putSL l x) := by
  unfold putSL
  split
  · rename_i hlt
    refine h.set _ ?_
    have := h.get (List.getElem?_eq_getElem hlt)
    rw [slt_getD (List.getElem?_eq_getElem hlt)]
    exact ⟨this.1, this.2.1, hx⟩
  · exact h
theorem SlOk.sets {l : List Slt} (h : SlOk l) (a : Int) {x : Nat} (hx : x < full) : SlOk (setSL l a x) := by
  unfold setSL
  split
  · rename_i hlt
    refine h.set _ ?_
    have := h.get (List.getElem?_eq_getElem hlt)
    rw [slt_getD (List.getElem?_eq_getElem hlt)]
    exact ⟨this.1, this.2.1, hx⟩
  · exact h
theorem SlOk.drop {l : List Slt} (h : SlOk l) (a : Int) : SlOk (dropSL l a) := by
  unfold dropSL
  split
  · rename_i hlt
    refine h.set _ ?_
    obtain ⟨s, h1, h2⟩ := fstI_lt hlt
    rw [slt_getD h1]
    unfold isH at h2
    simp only [Bool.and_eq_true, decide_eq_true_eq] at h2
    have := of_decide_eq_true h2.2.2.1
    exact ⟨by show _ ≤ s.2.1 + 1; omega, by show s.2.1 + 1 ≤ _; omega, full_pos⟩
  · exact h

/-- A row of slots of the call's own, opened. -/
theorem own_slots {w : World} {base k : Nat} {v : Value} {l : List Slt} (h : w.ownsRow base 42 3 v l.length (slc l)) (hk : k < l.length) : ∃ g cap, ∃ cur : Array Value, v = .slice (some ⟨g, 0, none⟩) l.length cap ∧ base ≤ g ∧ Blk w g 42 cur ∧ l.length ≤ cap ∧ cap ≤ maxLen ∧ cur.toList.take (l.length * 3) = slc l := by
  rcases h.2 with ⟨_, h0⟩ | ⟨g, cap, cur, h1, h2, h3, h4, h5, h6, h7⟩
  · exact absurd hk (by omega)
  · exact ⟨g, cap, cur, h1, h2, h3, h4, h5, h7⟩
section
variable {w : World} {g cap : Nat} {cur : Array Value} {l : List Slt} {k : Nat} {s : Slt}
theorem slots_cell (hB : Blk w g 42 cur) (h4 : cur.toList.take (l.length * 3) = slc l) (hx : l[k]? = some s) :
    w.cell? ⟨g, k * 3, none⟩ = some (.bool s.1) ∧ w.cell? ⟨g, k * 3 + 1, none⟩ = some (.int .i64 s.2.1) ∧ w.cell? ⟨g, k * 3 + 2, none⟩ = some (.int .u64 (s.2.2 : Nat)) := by
  have hk := (List.getElem?_eq_some_iff.1 hx).1
  have f : ∀ (i : Nat) (u : Value), i < l.length * 3 → (slc l)[i]? = some u → w.cell? ⟨g, i, none⟩ = some u := fun i u hi hu => by
    rw [hB.cell, ← Array.getElem?_toList]
    rw [← h4, List.getElem?_take, if_pos hi] at hu
    exact hu
  obtain ⟨h0, h1, h2⟩ := slc_get l k s hx
  exact ⟨f _ _ (by omega) h0, f _ _ (by omega) h1, f _ _ (by omega) h2⟩
theorem sl_of_slots {n : Nat} (hB : Blk w g 42 cur) (hn : l.length = n) (h1 : n ≤ cap) (h2 : cap ≤ maxLen) (h4 : cur.toList.take (n * 3) = slc l) : Sl w w.heap.size 3 (.slice (some ⟨g, 0, none⟩) n cap) n (slc l) := by
  refine ⟨_, cap, rfl, h1, h2, by rw [slc_len, hn], fun _ => ⟨g, 0, rfl, hB.lt, fun k u hu => ?_⟩⟩
  rw [Nat.zero_add, hB.cell, ← Array.getElem?_toList]
  rw [← h4, List.getElem?_take] at hu
  split at hu
  · exact hu
  · cases hu
/-- A slot of the row is written. -/
theorem slots_put (hB : Blk w g 42 cur) (h1 : l.length ≤ cap) (h2 : cap ≤ maxLen) (h4 : cur.toList.take (l.length * 3) = slc l) (hk : k < l.length) (u : Bool) (gn : Int) (x : Nat) :
    ∃ W, ((w.setCell ⟨g, k * 3, none⟩ (.bool u)).setCell ⟨g, k * 3 + 1, none⟩ (.int .i64 gn)).setCell ⟨g, k * 3 + 2, none⟩ (.int .u64 (x : Nat)) = W ∧ Hid (Only (isb g) w W ∧ Sl W W.heap.size 3 (.slice (some ⟨g, 0, none⟩) l.length cap) l.length (slc (l.set k (u, gn, x)))) := by
  refine ⟨_, rfl, Lib.hid ⟨((only_set w g _ _).trans (only_set _ g _ _)).trans (only_set _ g _ _), ?_⟩⟩
  refine sl_of_slots (((hB.put (k * 3) (.bool u)).put (k * 3 + 1) (.int .i64 gn)).put (k * 3 + 2) (.int .u64 (x : Nat))) (by simp) h1 h2 ?_
  rw [Array.toList_setIfInBounds, Array.toList_setIfInBounds, Array.toList_setIfInBounds, List.take_set, List.take_set, List.take_set, h4]
  exact slc_set l k (u, gn, x) hk
theorem slc_set3 : ∀ (l : List Slt) (k : Nat) (s : Slt) (x : Nat), l[k]? = some s → (slc l).set (k * 3 + 2) (.int .u64 (x : Nat)) = slc (l.set k (s.1, s.2.1, x))
  | [], k, s, x, h => by simp at h
  | y :: l, 0, s, x, h => by
    obtain rfl : y = s := by simpa using h
    simp [slc, slE]
  | y :: l, k + 1, s, x, h => by
    have := slc_set3 l k s x (by simpa using h)
    rw [show (k + 1) * 3 + 2 = k * 3 + 2 + 1 + 1 + 1 by omega]
    simpa [slc, slE] using this
/-- The word of a slot is written. -/
theorem slots_word (hB : Blk w g 42 cur) (h1 : l.length ≤ cap) (h2 : cap ≤ maxLen) (h4 : cur.toList.take (l.length * 3) = slc l) (hx : l[k]? = some s) (x : Nat) :
    ∃ W, w.setCell ⟨g, k * 3 + 2, none⟩ (.int .u64 (x : Nat)) = W ∧ Hid (Only (isb g) w W ∧ Sl W W.heap.size 3 (.slice (some ⟨g, 0, none⟩) l.length cap) l.length (slc (l.set k (s.1, s.2.1, x)))) := by
  refine ⟨_, rfl, Lib.hid ⟨only_set w g _ _, ?_⟩⟩
  refine sl_of_slots (hB.put (k * 3 + 2) (.int .u64 (x : Nat))) (by simp) h1 h2 ?_
  rw [Array.toList_setIfInBounds, List.take_set, h4]
  exact slc_set3 l k s x hx
end

/-- What Put, Get, Set, Drop, Used, Right, Handles answer. -/
def PutC (f : FuncId) : Prop := ∀ (v : Value) (l : List Slt) (x B : Nat) (w : World), Sl w B 3 v l.length (slc l) → B ≤ w.heap.size → l.length ≤ 2000 → SlOk l → x < full →
  Calls Try.prog f #[v, .int .u64 (x : Nat)] w fun e w' => ∃ v', e = .returned (.tuple #[v', .int .i64 (putSH l), .int .i64 (putSE l)]) ∧ Sl w' w'.heap.size 3 v' (putSL l x).length (slc (putSL l x)) ∧ Only nob w w'
def GetC (f : FuncId) : Prop := ∀ (v : Value) (l : List Slt) (h : Int) (B : Nat) (w : World), Sl w B 3 v l.length (slc l) → B ≤ w.heap.size → l.length ≤ 2000 → SlOk l →
  Calls Try.prog f #[v, .int .i64 h] w fun e w' => e = .returned (.tuple #[.int .u64 (getW l h : Nat), .int .i64 (getE l h)]) ∧ Only nob w w'
def SetC (f : FuncId) : Prop := ∀ (v : Value) (l : List Slt) (h : Int) (x B : Nat) (w : World), Sl w B 3 v l.length (slc l) → B ≤ w.heap.size → l.length ≤ 2000 → SlOk l → x < full →
  Calls Try.prog f #[v, .int .i64 h, .int .u64 (x : Nat)] w fun e w' => ∃ v', e = .returned (.tuple #[v', .int .i64 (getE l h)]) ∧ Sl w' w'.heap.size 3 v' (setSL l h x).length (slc (setSL l h x)) ∧ Only nob w w'
def DropC (f : FuncId) : Prop := ∀ (v : Value) (l : List Slt) (h : Int) (B : Nat) (w : World), Sl w B 3 v l.length (slc l) → B ≤ w.heap.size → l.length ≤ 2000 → SlOk l →
  Calls Try.prog f #[v, .int .i64 h] w fun e w' => ∃ v', e = .returned (.tuple #[v', .int .i64 (getE l h)]) ∧ Sl w' w'.heap.size 3 v' (dropSL l h).length (slc (dropSL l h)) ∧ Only nob w w'
def UsedC (f : FuncId) : Prop := ∀ (v : Value) (l : List Slt) (B : Nat) (w : World), Sl w B 3 v l.length (slc l) → B ≤ w.heap.size → l.length ≤ 2000 →
  Calls Try.prog f #[v] w fun e w' => e = .returned (.int .i64 (usedS l : Nat)) ∧ Only nob w w'
def RightC (f : FuncId) : Prop := ∀ (v : Value) (l : List Slt) (n : Int) (B : Nat) (w : World), Sl w B 3 v l.length (slc l) → B ≤ w.heap.size → l.length ≤ 2000 → SlOk l →
  Calls Try.prog f #[v, .int .i64 n] w fun e w' => e = .returned (.bool (rightS dE l n)) ∧ Only nob w w'
def HandlesC (f : FuncId) : Prop := ∀ (v : Value) (l : List Slt) (B : Nat) (w : World), Sl w B 3 v l.length (slc l) → B ≤ w.heap.size → l.length ≤ 2000 → SlOk l →
  Calls Try.prog f #[v] w fun e w' => ∃ v', e = .returned v' ∧ Sl w' w'.heap.size 1 v' (handlesS l).length (i64s (handlesS l)) ∧ Only nob w w'
def RtNew : Prop := ∀ (n : Int) (w : World), -9223372036854775808 ≤ n → n ≤ 9223372036854775807 →
  Calls Try.prog 16 #[.int .i64 n] w fun e w' => ∃ v' l, e = .returned (.tuple #[v', .int .i64 (if 1 ≤ n ∧ n ≤ 1024 then 0 else 1)]) ∧ l = (if 1 ≤ n ∧ n ≤ 1024 then List.replicate n.toNat ((false, 0, 0) : Slt) else []) ∧ Sl w' w'.heap.size 3 v' l.length (slc l) ∧ Only nob w w'
end Go.Proofs.Ytcfiimedmhohaaa
