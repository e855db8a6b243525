/- Slots of a table of handles: cells, what is found, put, got, set, dropped; handles that were told. No program in it. -/
import Derived.Test.YtciidodmhigpdaaGreatDoorMem
import Derived.Test.YtciidodmhigpdaaGreatDoorVal
import Derived.Test.YtciidodmhigpdaaGreatDoorSmalls
import Derived.Deep.QuietTactic
import Derived.BigQuiet
import Derived.Laws.StructEq
import Derived.Deep.DeepCutAuto
import Derived.Deep.CutBlock
import Derived.Lib.SliceRun
import Derived.WalkKit
import Derived.Shelf.Abstract
namespace Go.Proofs.YtciidodmhigpdaaGreatDoor
open Go.RowKit

/-- A slot: whether it is used, how often it was, its word. -/
abbrev Slt := Bool × Int × Nat
def Slt.good (s : Slt) : Bool := decide (0 ≤ s.2.1 ∧ s.2.1 < 1099511627776)
def slE (s : Slt) : List Value := [.bool s.1, .int .i64 s.2.1, .int .u64 (s.2.2 : Nat)]
def slc (l : List Slt) : List Value := l.flatMap slE
theorem slc_len (l : List Slt) : (slc l).length = l.length * 3 := by
  induction l with
  | nil => rfl
  | cons s l ih => simp only [slc, List.flatMap_cons, List.length_append, List.length_cons, slE, List.length_nil] at ih ⊢; omega
theorem slc_get : ∀ (l : List Slt) (k : Nat) (s : Slt), l[k]? = some s → (slc l)[k * 3]? = some (.bool s.1) ∧ (slc l)[k * 3 + 1]? = some (.int .i64 s.2.1) ∧ (slc l)[k * 3 + 2]? = some (.int .u64 (s.2.2 : Nat))
  | [], k, s, h => by simp at h
  | y :: l, 0, s, h => by
    obtain rfl : y = s := by simpa using h
    exact ⟨rfl, rfl, rfl⟩
  | y :: l, k + 1, s, h => by
    have := slc_get l k s (by simpa using h)
    rw [show (k + 1) * 3 = k * 3 + 1 + 1 + 1 by omega]
    simpa [slc, slE] using this
theorem slc_append (l m : List Slt) : slc (l ++ m) = slc l ++ slc m := by simp [slc]
theorem slc_oneCell (l : List Slt) : ∀ v ∈ slc l, v.oneCell' = true := by
  intro v hv
  simp only [slc, List.mem_flatMap, slE, List.mem_cons, List.not_mem_nil, or_false] at hv
  obtain ⟨s, _, rfl | rfl | rfl⟩ := hv <;> rfl
theorem slc_set : ∀ (l : List Slt) (k : Nat) (s : Slt), k < l.length → (((slc l).set (k * 3) (.bool s.1)).set (k * 3 + 1) (.int .i64 s.2.1)).set (k * 3 + 2) (.int .u64 (s.2.2 : Nat)) = slc (l.set k s)
  | [], k, s, h => by simp at h
  | y :: l, 0, s, h => by simp [slc, slE]
  | y :: l, k + 1, s, h => by
    have := slc_set l k s (by simpa using h)
    rw [show (k + 1) * 3 = k * 3 + 1 + 1 + 1 by omega]
    simpa [slc, slE] using this
theorem slc_take (l : List Slt) (k : Nat) : (slc l).take (k * 3) = slc (l.take k) := by
  induction l generalizing k with
  | nil => simp [slc]
  | cons s l ih =>
    rcases k with _ | k
    · simp [slc]
    · rw [show (k + 1) * 3 = k * 3 + 1 + 1 + 1 by omega]
      have := ih k
      simp only [slc, List.flatMap_cons, List.take_succ_cons, slE, List.cons_append, List.nil_append] at this ⊢
      rw [this]
theorem slc_inj : ∀ {l m : List Slt}, slc l = slc m → l = m
  | [], [], _ => rfl
  | [], y :: m, h => by simp [slc, slE] at h
  | x :: l, [], h => by simp [slc, slE] at h
  | (a, b, c) :: l, (d, e, f) :: m, h => by
    have h' : Value.bool a :: Value.int .i64 b :: Value.int .u64 (c : Nat) :: slc l = Value.bool d :: Value.int .i64 e :: Value.int .u64 (f : Nat) :: slc m := h
    simp only [List.cons.injEq, Value.bool.injEq, Value.int.injEq, true_and] at h'
    obtain ⟨h1, h2, h3, h4⟩ := h'
    rw [h1, h2, slc_inj h4, show c = f by omega]

/-- The first place of which p tells, or the length. -/
def fstI (p : Nat → Slt → Bool) (l : List Slt) : Nat := l.zipIdx.findIdx fun x => p x.2 x.1
section
variable {p : Nat → Slt → Bool} {l : List Slt} {k : Nat} {s : Slt}
theorem fstI_le : fstI p l ≤ l.length := by
  have := List.findIdx_le_length (xs := l.zipIdx) (p := fun x => p x.2 x.1)
  simpa [fstI] using this
theorem fstI_hit (hx : l[k]? = some s) (hp : p k s = true) (hb : ∀ (j : Nat) y, j < k → l[j]? = some y → p j y = false) : fstI p l = k := by
  obtain ⟨hk, rfl⟩ := List.getElem?_eq_some_iff.1 hx
  unfold fstI
  rw [List.findIdx_eq (by simpa using hk)]
  refine ⟨by simpa using hp, fun j hj => ?_⟩
  have := hb j _ hj (List.getElem?_eq_getElem (by omega))
  simpa using this
theorem fstI_none (hb : ∀ (j : Nat) y, l[j]? = some y → p j y = false) : fstI p l = l.length := by
  unfold fstI
  have : ∀ x ∈ l.zipIdx, ¬ (p x.2 x.1 = true) := by
    intro x hx e
    obtain ⟨i, hi⟩ := List.getElem?_of_mem hx
    rw [List.getElem?_zipIdx] at hi
    rcases hl : l[i]? with _ | y
    · rw [hl] at hi; simp at hi
    · rw [hl] at hi
      obtain rfl : (y, 0 + i) = x := by simpa using hi
      have := hb i y hl
      simp at e
      rw [this] at e
      cases e
  rw [List.findIdx_eq_length.2 (fun x hx => by simpa using this x hx)]
  simp
theorem fstI_lt (h : fstI p l < l.length) : ∃ s, l[fstI p l]? = some s ∧ p (fstI p l) s = true := by
  have hz : fstI p l < l.zipIdx.length := by simpa using h
  have := List.findIdx_getElem (w := hz)
  have key : ∀ (k : Nat) (h : k < l.zipIdx.length), p l.zipIdx[k].2 l.zipIdx[k].1 = true → p k (l[k]'(by simpa using h)) = true := fun k h e => by simpa using e
  exact ⟨l[fstI p l], List.getElem?_eq_getElem h, key _ hz this⟩
theorem fstI_lt_iff : fstI p l < l.length ↔ ∃ (j : Nat) (y : Slt), l[j]? = some y ∧ p j y = true := by
  constructor
  · intro h
    obtain ⟨s, h1, h2⟩ := fstI_lt h
    exact ⟨_, s, h1, h2⟩
  · rintro ⟨j, y, h1, h2⟩
    rcases Nat.lt_or_ge (fstI p l) l.length with h | h
    · exact h
    · exfalso
      have hj := (List.getElem?_eq_some_iff.1 h1).1
      have : ¬ (j < fstI p l) := fun hlt => by
        have hz : j < l.zipIdx.findIdx fun x => p x.2 x.1 := hlt
        have h3 := List.not_of_lt_findIdx hz
        obtain ⟨_, rfl⟩ := List.getElem?_eq_some_iff.1 h1
        simp at h3
        rw [h3] at h2
        cases h2
      omega
end
/-- The handle of the slot at i; which slot is a handle's; which is free. -/
def hOf (i : Nat) (s : Slt) : Int := i + 1024 * s.2.1
def isH (h : Int) (i : Nat) (s : Slt) : Bool := decide (i < 1024) && (s.1 && (s.good && decide (h = hOf i s)))
def isFree (i : Nat) (s : Slt) : Bool := decide (i < 1024) && (!s.1 && s.good)
theorem hOf_bounds {i : Nat} {s : Slt} (hi : i < 1024) (hg : s.good = true) : 0 ≤ hOf i s ∧ hOf i s < 1125899906842624 := by
  have := of_decide_eq_true hg
  unfold hOf
  omega
/-- The place of a handle, or -1. -/
def plH (l : List Slt) (h : Int) : Int := if fstI (isH h) l < l.length then (fstI (isH h) l : Nat) else -1
def getE (l : List Slt) (h : Int) : Int := if fstI (isH h) l < l.length then 0 else 5
def getW (l : List Slt) (h : Int) : Nat := if fstI (isH h) l < l.length then (l.getD (fstI (isH h) l) (false, 0, 0)).2.2 else 0
def putSE (l : List Slt) : Int := if fstI isFree l < l.length then 0 else 8
def putSH (l : List Slt) : Int := if fstI isFree l < l.length then hOf (fstI isFree l) (l.getD (fstI isFree l) (false, 0, 0)) else 0
def putSL (l : List Slt) (w : Nat) : List Slt := if fstI isFree l < l.length then l.set (fstI isFree l) (true, (l.getD (fstI isFree l) (false, 0, 0)).2.1, w) else l
def setSL (l : List Slt) (h : Int) (w : Nat) : List Slt := if fstI (isH h) l < l.length then l.set (fstI (isH h) l) (true, (l.getD (fstI (isH h) l) (false, 0, 0)).2.1, w) else l
def dropSL (l : List Slt) (h : Int) : List Slt := if fstI (isH h) l < l.length then l.set (fstI (isH h) l) (false, (l.getD (fstI (isH h) l) (false, 0, 0)).2.1 + 1, 0) else l
section
variable {l : List Slt} {k : Nat} {s : Slt} {h : Int}
theorem slt_getD (hx : l[k]? = some s) (d : Slt) : l.getD k d = s := by rw [List.getD_eq_getElem?_getD, hx]; rfl
theorem found (hx : l[k]? = some s) (hk : fstI (isH h) l = k) : plH l h = k ∧ getE l h = 0 ∧ getW l h = s.2.2 ∧ (∀ w, setSL l h w = l.set k (true, s.2.1, w)) ∧ dropSL l h = l.set k (false, s.2.1 + 1, 0) := by
  have hlt : k < l.length := (List.getElem?_eq_some_iff.1 hx).1
  unfold plH getE getW setSL dropSL
  simp only [hk, if_pos hlt, slt_getD hx]
  exact ⟨trivial, trivial, trivial, fun _ => trivial, trivial⟩
theorem not_found (hk : fstI (isH h) l = l.length) : plH l h = -1 ∧ getE l h = 5 ∧ getW l h = 0 ∧ (∀ w, setSL l h w = l) ∧ dropSL l h = l := by
  have hlt : ¬ fstI (isH h) l < l.length := by omega
  unfold plH getE getW setSL dropSL
  simp only [if_neg hlt]
  exact ⟨trivial, trivial, trivial, fun _ => trivial, trivial⟩
theorem put_found (hx : l[k]? = some s) (hk : fstI isFree l = k) : putSE l = 0 ∧ putSH l = hOf k s ∧ ∀ w, putSL l w = l.set k (true, s.2.1, w) := by
  have hlt : k < l.length := (List.getElem?_eq_some_iff.1 hx).1
  unfold putSE putSH putSL
  simp only [hk, if_pos hlt, slt_getD hx]
  exact ⟨trivial, trivial, fun _ => trivial⟩
theorem put_none (hk : fstI isFree l = l.length) : putSE l = 8 ∧ putSH l = 0 ∧ ∀ w, putSL l w = l := by
  have hlt : ¬ fstI isFree l < l.length := by omega
  unfold putSE putSH putSL
  simp only [if_neg hlt]
  exact ⟨trivial, trivial, fun _ => trivial⟩
end
/-- How many are used; all handles. -/
def usedS (l : List Slt) : Nat := (l.filter (·.1)).length
theorem usedS_snoc (l : List Slt) (s : Slt) : usedS (l ++ [s]) = usedS l + if s.1 = true then 1 else 0 := by
  unfold usedS
  rw [List.filter_append, List.length_append]
  rcases h : s.1 with _ | _ <;> simp [h]
theorem usedS_le (l : List Slt) : usedS l ≤ l.length := List.length_filter_le _ _
theorem usedS_lt_iff {l : List Slt} : usedS l < l.length ↔ ∃ s ∈ l, s.1 = false := by
  unfold usedS
  constructor
  · intro h
    rcases Classical.em (∃ s ∈ l, s.1 = false) with he | he
    · exact he
    · exfalso
      have : l.filter (·.1) = l := List.filter_eq_self.2 fun s hs => by
        rcases e : s.1 with _ | _
        · exact absurd ⟨s, hs, e⟩ he
        · rfl
      rw [this] at h
      omega
  · rintro ⟨s, hs, e⟩
    rcases Nat.lt_or_ge (l.filter (·.1)).length l.length with h | h
    · exact h
    · have h2 := List.length_filter_eq_length_iff.1 (Nat.le_antisymm (List.length_filter_le _ _) h)
      have := h2 s hs
      rw [e] at this
      cases this
def handlesS (l : List Slt) : List Int := (l.zipIdx.filter fun x => decide (x.2 < 1024) && (x.1.1 && x.1.good)).map fun x => hOf x.2 x.1
def isU (i : Nat) (s : Slt) : Bool := decide (i < 1024) && (s.1 && s.good)
theorem handlesS_snoc {l : List Slt} {k : Nat} {s : Slt} (hx : l[k]? = some s) : handlesS (l.take (k + 1)) = handlesS (l.take k) ++ if isU k s = true then [hOf k s] else [] := by
  obtain ⟨hk, rfl⟩ := List.getElem?_eq_some_iff.1 hx
  unfold handlesS isU
  rw [List.take_succ_eq_append_getElem hk, List.zipIdx_append, List.filter_append, List.map_append]
  congr 1
  have hl : (l.take k).length = k := by simp; omega
  simp only [hl, Nat.zero_add, List.zipIdx_singleton]
  rcases h : (decide (k < 1024) && ((l[k]).1 && (l[k]).good)) with _ | _
  · simp [h]
  · simp [h]

/-- A table of n slots. -/
def rightSlot (dE : Int → Int) (s : Slt) : Bool := (s.1 && s.good || !s.1 && (decide (0 ≤ s.2.1 ∧ s.2.1 ≤ 1099511627776) && decide (s.2.2 = 0))) && decide (dE (s.2.2 : Nat) = 0)
def rightS (dE : Int → Int) (l : List Slt) (n : Int) : Bool := decide ((l.length : Int) = n ∧ 1 ≤ n ∧ n ≤ 1024) && l.all (rightSlot dE)

/-- A handle that was told: its place, its count, whether it is alive. -/
abbrev Tld := Nat × Int × Bool
def tH (t : Tld) : Int := t.1 + 1024 * t.2.1
/-- The handles that were told of a table, none of whose counts is beyond G. -/
structure Told (l : List Slt) (ts : List Tld) (G : Int) : Prop where
  few : l.length ≤ 1024
  low : G < 1099511627776
  gen : ∀ s ∈ l, 0 ≤ s.2.1 ∧ s.2.1 ≤ G
  all : ∀ t ∈ ts, 0 ≤ t.2.1 ∧ ∃ s : Slt, l[t.1]? = some s ∧ (t.2.2 = true → s.1 = true ∧ s.2.1 = t.2.1) ∧ (t.2.2 = false → t.2.1 < s.2.1)
  apart : ts.Pairwise fun a b => tH a ≠ tH b
section
variable {l : List Slt} {ts : List Tld} {G : Int}
theorem Told.good (h : Told l ts G) {k : Nat} {s : Slt} (hx : l[k]? = some s) : k < 1024 ∧ s.good = true := by
  have hk := (List.getElem?_eq_some_iff.1 hx).1
  have h1 := h.gen s (List.mem_of_getElem? hx)
  have h2 := h.few
  have h3 := h.low
  exact ⟨by omega, decide_eq_true (by omega)⟩
theorem Told.nil {G : Int} (h1 : l.length ≤ 1024) (h2 : G < 1099511627776) (h3 : ∀ s ∈ l, 0 ≤ s.2.1 ∧ s.2.1 ≤ G) : Told l [] G := ⟨h1, h2, h3, (fun _ h => by cases h), List.Pairwise.nil⟩
/-- A handle that was told is right just if it is alive; its place is its own. -/
theorem Told.at_ (h : Told l ts G) {t : Tld} (ht : t ∈ ts) : (t.2.2 = true → fstI (isH (tH t)) l = t.1) ∧ (t.2.2 = false → fstI (isH (tH t)) l = l.length) := by
  obtain ⟨g0, s, hs, h1, h2⟩ := h.all t ht
  have hb := h.good hs
  have key : ∀ (j : Nat) (y : Slt), l[j]? = some y → isH (tH t) j y = true → j = t.1 ∧ y.1 = true ∧ y.2.1 = t.2.1 := by
    intro j y hy hp
    unfold isH at hp
    simp only [Bool.and_eq_true, decide_eq_true_eq] at hp
    obtain ⟨p1, p2, p3, p4⟩ := hp
    have := hb.1
    unfold tH hOf at p4
    have e : (t.1 : Int) = j := by omega
    exact ⟨by omega, p2, by omega⟩
  constructor
  · intro ha
    obtain ⟨e1, e2⟩ := h1 ha
    refine fstI_hit hs ?_ fun j y hj hy => ?_
    · unfold isH
      rw [e1, hb.2, decide_eq_true hb.1]
      simp [tH, hOf, e2]
    · cases hp : isH (tH t) j y
      · rfl
      · have := (key j y hy hp).1
        omega
  · intro ha
    have e2 := h2 ha
    refine fstI_none fun j y hy => ?_
    cases hp : isH (tH t) j y
    · rfl
    · obtain ⟨q1, q2, q3⟩ := key j y hy hp
      subst q1
      rw [hs] at hy
      obtain rfl := Option.some.inj hy
      omega
theorem Told.getE (h : Told l ts G) {t : Tld} (ht : t ∈ ts) : (getE l (tH t) = 0) ↔ t.2.2 = true := by
  obtain ⟨h1, h2⟩ := h.at_ ht
  obtain ⟨-, s, hs, -⟩ := h.all t ht
  rcases ha : t.2.2 with _ | _
  · rw [(not_found (h2 ha)).2.1]; simp
  · rw [(found hs (h1 ha)).2.1]; simp
/-- A table with another slot at k, whose count is no less. -/
theorem Told.set (h : Told l ts G) {k : Nat} {s y : Slt} (hx : l[k]? = some s) (hy : s.2.1 ≤ y.2.1 ∧ y.2.1 ≤ G + 1) (hG : G + 1 < 1099511627776) {ts' : List Tld} (hl : ts'.length = ts.length)
    (hs : ∀ (i : Nat) (t t' : Tld), ts[i]? = some t → ts'[i]? = some t' → t'.1 = t.1 ∧ t'.2.1 = t.2.1 ∧ (t.1 ≠ k → t'.2.2 = t.2.2) ∧ (t.1 = k → (t'.2.2 = true → y.1 = true ∧ y.2.1 = t.2.1) ∧ (t'.2.2 = false → t.2.1 < y.2.1))) : Told (l.set k y) ts' (G + 1) := by
  have hk := (List.getElem?_eq_some_iff.1 hx).1
  have h0 := h.gen s (List.mem_of_getElem? hx)
  refine ⟨by simpa using h.few, hG, fun z hz => ?_, fun t' ht' => ?_, ?_⟩
  · rcases List.mem_or_eq_of_mem_set hz with hz | rfl
    · have := h.gen z hz; omega
    · omega
  · obtain ⟨i, hi⟩ := List.getElem?_of_mem ht'
    have hil := (List.getElem?_eq_some_iff.1 hi).1
    have ht : ts[i]? = some ts[i] := List.getElem?_eq_getElem (by omega)
    obtain ⟨e1, e2, e3, e4⟩ := hs i _ _ ht hi
    obtain ⟨g0, z, hz, g1, g2⟩ := h.all _ (List.mem_of_getElem? ht)
    refine ⟨by omega, ?_⟩
    by_cases e : ts[i].1 = k
    · refine ⟨y, by rw [e1, e, List.getElem?_set_self hk], ?_⟩
      obtain ⟨f1, f2⟩ := e4 e
      rw [e2]
      exact ⟨f1, f2⟩
    · refine ⟨z, by rw [e1, List.getElem?_set_ne (fun h => e h.symm)]; exact hz, ?_⟩
      rw [e2, e3 e]
      exact ⟨g1, g2⟩
  · refine List.pairwise_iff_getElem.2 fun i j hi hj hij => ?_
    have := List.pairwise_iff_getElem.1 h.apart i j (by omega) (by omega) hij
    obtain ⟨a1, a2, -⟩ := hs i _ _ (List.getElem?_eq_getElem (by omega)) (List.getElem?_eq_getElem hi)
    obtain ⟨b1, b2, -⟩ := hs j _ _ (List.getElem?_eq_getElem (by omega)) (List.getElem?_eq_getElem hj)
    unfold tH at this ⊢
    rw [a1, a2, b1, b2]
    exact this
/-- The handle at the place i of those told is dropped. -/
theorem Told.drop (h : Told l ts G) (hG : G + 1 < 1099511627776) {i : Nat} {t : Tld} (ht : ts[i]? = some t) (ha : t.2.2 = true) : Told (dropSL l (tH t)) (ts.set i (t.1, t.2.1, false)) (G + 1) := by
  have hm := List.mem_of_getElem? ht
  obtain ⟨g0, s, hs, g1, -⟩ := h.all t hm
  obtain ⟨e1, e2⟩ := g1 ha
  rw [(found hs ((h.at_ hm).1 ha)).2.2.2.2]
  have hg := h.gen s (List.mem_of_getElem? hs)
  have hil := (List.getElem?_eq_some_iff.1 ht).1
  refine h.set hs ⟨by show s.2.1 ≤ s.2.1 + 1; omega, by show s.2.1 + 1 ≤ G + 1; omega⟩ hG (by simp) fun j a a' hj hj' => ?_
  by_cases e : i = j
  · subst e
    rw [ht] at hj
    obtain rfl := Option.some.inj hj
    rw [List.getElem?_set_self hil] at hj'
    obtain rfl := Option.some.inj hj'
    exact ⟨rfl, rfl, fun h => absurd rfl h, fun _ => ⟨fun h => (by cases h), fun _ => by show t.2.1 < s.2.1 + 1; omega⟩⟩
  · rw [List.getElem?_set_ne e, hj] at hj'
    obtain rfl := Option.some.inj hj'
    refine ⟨rfl, rfl, fun _ => rfl, fun ek => ⟨fun haa => ?_, fun haa => ?_⟩⟩
    · exfalso
      obtain ⟨-, z, hz, z1, -⟩ := h.all a (List.mem_of_getElem? hj)
      rw [ek, hs] at hz
      obtain rfl := Option.some.inj hz
      have hta : tH a = tH t := by unfold tH; rw [ek, ← e2, (z1 haa).2]
      obtain ⟨hjl, rfl⟩ := List.getElem?_eq_some_iff.1 hj
      obtain ⟨_, rfl⟩ := List.getElem?_eq_some_iff.1 ht
      rcases Nat.lt_trichotomy i j with hlt | he | hgt
      · exact List.pairwise_iff_getElem.1 h.apart i j hil hjl hlt hta.symm
      · exact e he
      · exact List.pairwise_iff_getElem.1 h.apart j i hjl hil hgt hta
    · obtain ⟨-, z, hz, -, z2⟩ := h.all a (List.mem_of_getElem? hj)
      rw [ek, hs] at hz
      obtain rfl := Option.some.inj hz
      have := z2 haa
      show a.2.1 < s.2.1 + 1
      omega
/-- A handle that is told anew is unlike all that were told. -/
theorem Told.put (h : Told l ts G) (hG : G + 1 < 1099511627776) {k : Nat} {s : Slt} (hx : l[k]? = some s) (hu : s.1 = false) (w : Nat) :
    (∀ t ∈ ts, tH t ≠ hOf k s) ∧ Told (l.set k (true, s.2.1, w)) (ts ++ [(k, s.2.1, true)]) (G + 1) := by
  have hk := (List.getElem?_eq_some_iff.1 hx).1
  have hb := h.good hx
  have hg := h.gen s (List.mem_of_getElem? hx)
  have hne : ∀ t ∈ ts, tH t ≠ hOf k s := by
    intro t ht e
    obtain ⟨g0, z, hz, z1, z2⟩ := h.all t ht
    have hbt := h.good hz
    unfold tH hOf at e
    have hbk := hb.1
    have hbz := hbt.1
    have ek : t.1 = k := by omega
    have eg : t.2.1 = s.2.1 := by omega
    rw [ek, hx] at hz
    obtain rfl := Option.some.inj hz
    rcases ha : t.2.2 with _ | _
    · have := z2 ha; omega
    · have := (z1 ha).1; rw [hu] at this; cases this
  have h2 := h.set (ts' := ts) hx (y := (true, s.2.1, w)) ⟨Int.le_refl _, by show s.2.1 ≤ G + 1; omega⟩ hG rfl fun i t t' ht ht' => by
    rw [ht] at ht'
    obtain rfl := Option.some.inj ht'
    refine ⟨rfl, rfl, fun _ => rfl, fun ek => ?_⟩
    obtain ⟨-, z, hz, z1, z2⟩ := h.all t (List.mem_of_getElem? ht)
    rw [ek, hx] at hz
    obtain rfl := Option.some.inj hz
    exact ⟨fun ha => ⟨rfl, (z1 ha).2⟩, fun ha => z2 ha⟩
  refine ⟨hne, h2.few, h2.low, h2.gen, fun t ht => ?_, ?_⟩
  · rcases List.mem_append.1 ht with ht | ht
    · exact h2.all t ht
    · obtain rfl := List.mem_singleton.1 ht
      exact ⟨hg.1, _, List.getElem?_set_self hk, fun _ => ⟨rfl, rfl⟩, fun h => by cases h⟩
  · rw [List.pairwise_append]
    refine ⟨h2.apart, List.pairwise_singleton _ _, fun a ha b hb' => ?_⟩
    obtain rfl := List.mem_singleton.1 hb'
    exact hne a ha
end
end Go.Proofs.YtciidodmhigpdaaGreatDoor

/- Slots in memory, and what is asked of roots' calls: contracts, each said once, for the program and for the document's own. -/
namespace Go.Proofs.YtciidodmhigpdaaGreatDoor
open Go.RowKit

/-- The cells of a slot in a list that reads. -/
theorem sl_slot {w w' : World} {B : Nat} {A : Option Addr} {c k : Nat} {l : List Slt} {s : Slt} (h : Sl w B 3 (.slice A l.length c) l.length (slc l)) (hb : Below B w w') (hx : l[k]? = some s) :
    ∃ b o, A = some ⟨b, o, none⟩ ∧ b < B ∧ w'.cell? ⟨b, o + k * 3, none⟩ = some (.bool s.1) ∧ w'.cell? ⟨b, o + k * 3 + 1, none⟩ = some (.int .i64 s.2.1) ∧ w'.cell? ⟨b, o + k * 3 + 2, none⟩ = some (.int .u64 (s.2.2 : Nat)) := by
  have hk : k < l.length := (List.getElem?_eq_some_iff.1 hx).1
  obtain ⟨b, o, c', e, _, _, hlt, hc⟩ := (h.below hb).at_ (by omega)
  obtain ⟨rfl, rfl⟩ : A = some ⟨b, o, none⟩ ∧ c = c' := by simpa using e
  obtain ⟨h0, h1, h2⟩ := slc_get l k s hx
  refine ⟨b, o, rfl, hlt, hc _ _ h0, ?_, ?_⟩
  · have := hc _ _ h1
    rwa [← Nat.add_assoc] at this
  · have := hc _ _ h2
    rwa [← Nat.add_assoc] at this
theorem info_slot : (Tryz.prog.info? 52).map (fun i => (i.zero, i.size, i.bytes)) = some (some (.agg #[.bool false, .int .i64 0, .int .u64 0]), 3, 24) := by kernel_rfl
/-- Numbers of 64 bits. -/
def SlOk (l : List Slt) : Prop := ∀ s ∈ l, -9223372036854775808 ≤ s.2.1 ∧ s.2.1 ≤ 9223372036854775807 ∧ s.2.2 < full
theorem SlOk.get {l : List Slt} (h : SlOk l) {k : Nat} {s : Slt} (hx : l[k]? = some s) : -9223372036854775808 ≤ s.2.1 ∧ s.2.1 ≤ 9223372036854775807 ∧ s.2.2 < full := h s (List.mem_of_getElem? hx)
theorem SlOk.set {l : List Slt} (h : SlOk l) (k : Nat) {s : Slt} (hs : -9223372036854775808 ≤ s.2.1 ∧ s.2.1 ≤ 9223372036854775807 ∧ s.2.2 < full) : SlOk (l.set k s) := fun y hy => by
  rcases List.mem_or_eq_of_mem_set hy with hy | rfl
  · exact h y hy
  · exact hs
theorem full_pos : 0 < full := by decide
theorem SlOk.put {l : List Slt} (h : SlOk l) {x : Nat} (hx : x < full) : SlOk (putSL l x) := by
  unfold putSL
  split
  · rename_i hlt
    refine h.set _ ?_
    have := h.get (List.getElem?_eq_getElem hlt)
    rw [slt_getD (List.getElem?_eq_getElem hlt)]
    exact ⟨this.1, this.2.1, hx⟩
  · exact h
theorem SlOk.sets {l : List Slt} (h : SlOk l) (a : Int) {x : Nat} (hx : x < full) : SlOk (setSL l a x) := by
  unfold setSL
  split
  · rename_i hlt
    refine h.set _ ?_
    have := h.get (List.getElem?_eq_getElem hlt)
    rw [slt_getD (List.getElem?_eq_getElem hlt)]
    exact ⟨this.1, this.2.1, hx⟩
  · exact h
theorem SlOk.drop {l : List Slt} (h : SlOk l) (a : Int) : SlOk (dropSL l a) := by
  unfold dropSL
  split
  · rename_i hlt
    refine h.set _ ?_
    obtain ⟨s, h1, h2⟩ := fstI_lt hlt
    rw [slt_getD h1]
    unfold isH at h2
    simp only [Bool.and_eq_true, decide_eq_true_eq] at h2
    have := of_decide_eq_true h2.2.2.1
    exact ⟨by show _ ≤ s.2.1 + 1; omega, by show s.2.1 + 1 ≤ _; omega, full_pos⟩
  · exact h

/-- A row of slots of the call's own, opened. -/
theorem own_slots {w : World} {base k : Nat} {v : Value} {l : List Slt} (h : w.ownsRow base 52 3 v l.length (slc l)) (hk : k < l.length) : ∃ g cap, ∃ cur : Array Value, v = .slice (some ⟨g, 0, none⟩) l.length cap ∧ base ≤ g ∧ Blk w g 52 cur ∧ l.length ≤ cap ∧ cap ≤ maxLen ∧ cur.toList.take (l.length * 3) = slc l := by
  rcases h.2 with ⟨_, h0⟩ | ⟨g, cap, cur, h1, h2, h3, h4, h5, h6, h7⟩
  · exact absurd hk (by omega)
  · exact ⟨g, cap, cur, h1, h2, h3, h4, h5, h7⟩
section
variable {w : World} {g cap : Nat} {cur : Array Value} {l : List Slt} {k : Nat} {s : Slt}
theorem slots_cell (hB : Blk w g 52 cur) (h4 : cur.toList.take (l.length * 3) = slc l) (hx : l[k]? = some s) :
    w.cell? ⟨g, k * 3, none⟩ = some (.bool s.1) ∧ w.cell? ⟨g, k * 3 + 1, none⟩ = some (.int .i64 s.2.1) ∧ w.cell? ⟨g, k * 3 + 2, none⟩ = some (.int .u64 (s.2.2 : Nat)) := by
  have hk := (List.getElem?_eq_some_iff.1 hx).1
  have f : ∀ (i : Nat) (u : Value), i < l.length * 3 → (slc l)[i]? = some u → w.cell? ⟨g, i, none⟩ = some u := fun i u hi hu => by
    rw [hB.cell, ← Array.getElem?_toList]
    rw [← h4, List.getElem?_take, if_pos hi] at hu
    exact hu
  obtain ⟨h0, h1, h2⟩ := slc_get l k s hx
  exact ⟨f _ _ (by omega) h0, f _ _ (by omega) h1, f _ _ (by omega) h2⟩
theorem sl_of_slots {n : Nat} (hB : Blk w g 52 cur) (hn : l.length = n) (h1 : n ≤ cap) (h2 : cap ≤ maxLen) (h4 : cur.toList.take (n * 3) = slc l) : Sl w w.heap.size 3 (.slice (some ⟨g, 0, none⟩) n cap) n (slc l) := by
  refine ⟨_, cap, rfl, h1, h2, by rw [slc_len, hn], fun _ => ⟨g, 0, rfl, hB.lt, fun k u hu => ?_⟩⟩
  rw [Nat.zero_add, hB.cell, ← Array.getElem?_toList]
  rw [← h4, List.getElem?_take] at hu
  split at hu
  · exact hu
  · cases hu
/-- A slot of the row is written. -/
theorem slots_put (hB : Blk w g 52 cur) (h1 : l.length ≤ cap) (h2 : cap ≤ maxLen) (h4 : cur.toList.take (l.length * 3) = slc l) (hk : k < l.length) (u : Bool) (gn : Int) (x : Nat) :
    ∃ W, ((w.setCell ⟨g, k * 3, none⟩ (.bool u)).setCell ⟨g, k * 3 + 1, none⟩ (.int .i64 gn)).setCell ⟨g, k * 3 + 2, none⟩ (.int .u64 (x : Nat)) = W ∧ Hid (Only (isb g) w W ∧ Sl W W.heap.size 3 (.slice (some ⟨g, 0, none⟩) l.length cap) l.length (slc (l.set k (u, gn, x)))) := by
  refine ⟨_, rfl, Lib.hid ⟨((only_set w g _ _).trans (only_set _ g _ _)).trans (only_set _ g _ _), ?_⟩⟩
  refine sl_of_slots (((hB.put (k * 3) (.bool u)).put (k * 3 + 1) (.int .i64 gn)).put (k * 3 + 2) (.int .u64 (x : Nat))) (by simp) h1 h2 ?_
  rw [Array.toList_setIfInBounds, Array.toList_setIfInBounds, Array.toList_setIfInBounds, List.take_set, List.take_set, List.take_set, h4]
  exact slc_set l k (u, gn, x) hk
theorem slc_set3 : ∀ (l : List Slt) (k : Nat) (s : Slt) (x : Nat), l[k]? = some s → (slc l).set (k * 3 + 2) (.int .u64 (x : Nat)) = slc (l.set k (s.1, s.2.1, x))
  | [], k, s, x, h => by simp at h
  | y :: l, 0, s, x, h => by
    obtain rfl : y = s := by simpa using h
    simp [slc, slE]
  | y :: l, k + 1, s, x, h => by
    have := slc_set3 l k s x (by simpa using h)
    rw [show (k + 1) * 3 + 2 = k * 3 + 2 + 1 + 1 + 1 by omega]
    simpa [slc, slE] using this
/-- The word of a slot is written. -/
theorem slots_word (hB : Blk w g 52 cur) (h1 : l.length ≤ cap) (h2 : cap ≤ maxLen) (h4 : cur.toList.take (l.length * 3) = slc l) (hx : l[k]? = some s) (x : Nat) :
    ∃ W, w.setCell ⟨g, k * 3 + 2, none⟩ (.int .u64 (x : Nat)) = W ∧ Hid (Only (isb g) w W ∧ Sl W W.heap.size 3 (.slice (some ⟨g, 0, none⟩) l.length cap) l.length (slc (l.set k (s.1, s.2.1, x)))) := by
  refine ⟨_, rfl, Lib.hid ⟨only_set w g _ _, ?_⟩⟩
  refine sl_of_slots (hB.put (k * 3 + 2) (.int .u64 (x : Nat))) (by simp) h1 h2 ?_
  rw [Array.toList_setIfInBounds, List.take_set, h4]
  exact slc_set3 l k s x hx
end

/-- What Put, Get, Set, Drop, Used, Right, Handles answer. -/
def PutC (f : FuncId) : Prop := ∀ (v : Value) (l : List Slt) (x B : Nat) (w : World), Sl w B 3 v l.length (slc l) → B ≤ w.heap.size → l.length ≤ 2000 → SlOk l → x < full →
  Calls Tryz.prog f #[v, .int .u64 (x : Nat)] w fun e w' => ∃ v', e = .returned (.tuple #[v', .int .i64 (putSH l), .int .i64 (putSE l)]) ∧ Sl w' w'.heap.size 3 v' (putSL l x).length (slc (putSL l x)) ∧ Only nob w w'
def GetC (f : FuncId) : Prop := ∀ (v : Value) (l : List Slt) (h : Int) (B : Nat) (w : World), Sl w B 3 v l.length (slc l) → B ≤ w.heap.size → l.length ≤ 2000 → SlOk l →
  Calls Tryz.prog f #[v, .int .i64 h] w fun e w' => e = .returned (.tuple #[.int .u64 (getW l h : Nat), .int .i64 (getE l h)]) ∧ Only nob w w'
def SetC (f : FuncId) : Prop := ∀ (v : Value) (l : List Slt) (h : Int) (x B : Nat) (w : World), Sl w B 3 v l.length (slc l) → B ≤ w.heap.size → l.length ≤ 2000 → SlOk l → x < full →
  Calls Tryz.prog f #[v, .int .i64 h, .int .u64 (x : Nat)] w fun e w' => ∃ v', e = .returned (.tuple #[v', .int .i64 (getE l h)]) ∧ Sl w' w'.heap.size 3 v' (setSL l h x).length (slc (setSL l h x)) ∧ Only nob w w'
def DropC (f : FuncId) : Prop := ∀ (v : Value) (l : List Slt) (h : Int) (B : Nat) (w : World), Sl w B 3 v l.length (slc l) → B ≤ w.heap.size → l.length ≤ 2000 → SlOk l →
  Calls Tryz.prog f #[v, .int .i64 h] w fun e w' => ∃ v', e = .returned (.tuple #[v', .int .i64 (getE l h)]) ∧ Sl w' w'.heap.size 3 v' (dropSL l h).length (slc (dropSL l h)) ∧ Only nob w w'
def UsedC (f : FuncId) : Prop := ∀ (v : Value) (l : List Slt) (B : Nat) (w : World), Sl w B 3 v l.length (slc l) → B ≤ w.heap.size → l.length ≤ 2000 →
  Calls Tryz.prog f #[v] w fun e w' => e = .returned (.int .i64 (usedS l : Nat)) ∧ Only nob w w'
def RightC (f : FuncId) : Prop := ∀ (v : Value) (l : List Slt) (n : Int) (B : Nat) (w : World), Sl w B 3 v l.length (slc l) → B ≤ w.heap.size → l.length ≤ 2000 → SlOk l →
  Calls Tryz.prog f #[v, .int .i64 n] w fun e w' => e = .returned (.bool (rightS dE l n)) ∧ Only nob w w'
def HandlesC (f : FuncId) : Prop := ∀ (v : Value) (l : List Slt) (B : Nat) (w : World), Sl w B 3 v l.length (slc l) → B ≤ w.heap.size → l.length ≤ 2000 → SlOk l →
  Calls Tryz.prog f #[v] w fun e w' => ∃ v', e = .returned v' ∧ Sl w' w'.heap.size 1 v' (handlesS l).length (i64s (handlesS l)) ∧ Only nob w w'
def RtNew : Prop := ∀ (n : Int) (w : World), -9223372036854775808 ≤ n → n ≤ 9223372036854775807 →
  Calls Tryz.prog 44 #[.int .i64 n] w fun e w' => ∃ v' l, e = .returned (.tuple #[v', .int .i64 (if 1 ≤ n ∧ n ≤ 1024 then 0 else 1)]) ∧ l = (if 1 ≤ n ∧ n ≤ 1024 then List.replicate n.toNat ((false, 0, 0) : Slt) else []) ∧ Sl w' w'.heap.size 3 v' l.length (slc l) ∧ Only nob w w'
end Go.Proofs.YtciidodmhigpdaaGreatDoor

/- The document's own answers for tables of handles. -/
namespace Go.Proofs.YtciidodmhigpdaaGreatDoor
open Go.RowKit
set_option maxRecDepth 100000

theorem good_yes {s : Slt} (h1 : 0 ≤ s.2.1) (h2 : s.2.1 < 1099511627776) : s.good = true := decide_eq_true ⟨h1, h2⟩
theorem good_no {s : Slt} (h : ¬ (0 ≤ s.2.1 ∧ s.2.1 < 1099511627776)) : s.good = false := decide_eq_false h
set_option maxHeartbeats 400000 in
theorem rGood (s : Slt) (w : World) : Calls Tryz.prog 69 #[.agg #[.bool s.1, .int .i64 s.2.1, .int .u64 (s.2.2 : Nat)]] w fun e w' => e = .returned (.bool s.good) ∧ Only nob w w' := by
  obtain ⟨u, g, x⟩ := s
  obtain ⟨W, hW, HB⟩ : ∃ W, w.alloc (.cells #[.bool u, .int .i64 g, .int .u64 (x : Nat)] 52) = W ∧ Hid (Only nob w W ∧ Blk W w.heap.size 52 #[.bool u, .int .i64 g, .int .u64 (x : Nat)]) := ⟨_, rfl, Lib.hid ⟨(Only.refl nob w).alloc _, Blk.new _ _ _⟩⟩
  have HW := Lib.hid hW
  have c1 := HB.out.2.cell 1
  simp at c1
  clear hW
  by_cases h1 : 0 ≤ g
  · by_cases h2 : g < 1099511627776
    · rw [good_yes (s := (u, g, x)) h1 h2]
      go_enter Tryz.func69, Tryz.ntmps69
      go_upto_region 1 with fail
      rw [HW.out]
      go_wp2
      go_ret
      exact ⟨rfl, HB.out.1⟩
    · rw [good_no (s := (u, g, x)) (fun h => h2 h.2)]
      go_enter Tryz.func69, Tryz.ntmps69
      go_upto_region 1 with fail
      rw [HW.out]
      go_wp2
      go_ret
      exact ⟨rfl, HB.out.1⟩
  · rw [good_no (s := (u, g, x)) (fun h => h1 h.1)]
    go_enter Tryz.func69, Tryz.ntmps69
    go_upto_region 1 with fail
    rw [HW.out]
    go_wp2
    go_ret
    exact ⟨rfl, HB.out.1⟩

theorem isH_no1 {h : Int} {k : Nat} {s : Slt} (e : s.1 = false) : isH h k s = false := by unfold isH; rw [e]; simp
theorem isH_no2 {h : Int} {k : Nat} {s : Slt} (e : s.good = false) : isH h k s = false := by unfold isH; rw [e]; simp
theorem isH_no3 {h : Int} {k : Nat} {s : Slt} (e : h ≠ hOf k s) : isH h k s = false := by unfold isH; simp [e]
theorem isH_no4 {h : Int} {k : Nat} {s : Slt} (e : ¬ k < 1024) : isH h k s = false := by unfold isH; simp [e]
theorem isH_yes {h : Int} {k : Nat} {s : Slt} (e0 : k < 1024) (e1 : s.1 = true) (e2 : s.good = true) (e3 : h = hOf k s) : isH h k s = true := by unfold isH; simp [e0, e1, e2, e3]
theorem upTo_next14 {p : Nat → Slt → Bool} {l : List Slt} {k : Nat} {s : Slt} (h : ∀ (j : Nat) y, j < k → l[j]? = some y → p j y = false) (hx : l[k]? = some s) (hp : p k s = false) : ∀ (j : Nat) y, j < k + 1 → l[j]? = some y → p j y = false := fun j y hj hy => by
  rcases Nat.lt_or_ge j k with h' | h'
  · exact h j y h' hy
  · obtain rfl : j = k := by omega
    rw [hx] at hy
    obtain rfl := Option.some.inj hy
    exact hp

theorem plH_cases (l : List Slt) (h : Int) : (∃ (k : Nat) (s : Slt), l[k]? = some s ∧ s.1 = true ∧ s.good = true ∧ fstI (isH h) l = k ∧ k < 1024) ∨ fstI (isH h) l = l.length := by
  rcases Nat.lt_or_ge (fstI (isH h) l) l.length with hlt | hge
  · obtain ⟨s, h1, h2⟩ := fstI_lt hlt
    unfold isH at h2
    simp only [Bool.and_eq_true, decide_eq_true_eq] at h2
    exact .inl ⟨_, s, h1, h2.2.1, h2.2.2.1, rfl, h2.1⟩
  · exact .inr (Nat.le_antisymm fstI_le hge)
theorem free_cases (l : List Slt) : (∃ (k : Nat) (s : Slt), l[k]? = some s ∧ s.1 = false ∧ s.good = true ∧ fstI isFree l = k ∧ k < 1024) ∨ fstI isFree l = l.length := by
  rcases Nat.lt_or_ge (fstI isFree l) l.length with hlt | hge
  · obtain ⟨s, h1, h2⟩ := fstI_lt hlt
    unfold isFree at h2
    simp only [Bool.and_eq_true, decide_eq_true_eq, Bool.not_eq_true'] at h2
    exact .inl ⟨_, s, h1, h2.2.1, h2.2.2, rfl, h2.1⟩
  · exact .inr (Nat.le_antisymm fstI_le hge)

theorem isFree_no1 {k : Nat} {s : Slt} (e : s.1 = true) : isFree k s = false := by unfold isFree; rw [e]; simp
theorem isFree_no2 {k : Nat} {s : Slt} (e : s.good = false) : isFree k s = false := by unfold isFree; rw [e]; simp
theorem isFree_no4 {k : Nat} {s : Slt} (e : ¬ k < 1024) : isFree k s = false := by unfold isFree; simp [e]
theorem isFree_yes {k : Nat} {s : Slt} (e0 : k < 1024) (e1 : s.1 = false) (e2 : s.good = true) : isFree k s = true := by unfold isFree; simp [e0, e1, e2]

end Go.Proofs.YtciidodmhigpdaaGreatDoor

/- The document's own answers for tables of handles: how many are used, all handles, whether two tables are the same, whether one may be. -/
namespace Go.Proofs.YtciidodmhigpdaaGreatDoor
open Go.RowKit
set_option maxRecDepth 100000

theorem usedS_next {l : List Slt} {k : Nat} {s : Slt} (hx : l[k]? = some s) : usedS (l.take (k + 1)) = usedS (l.take k) + if s.1 = true then 1 else 0 := by
  rw [List.take_add_one, hx]
  exact usedS_snoc _ s
theorem handlesS_cut {l : List Slt} {k : Nat} (h : 1024 ≤ k) : handlesS (l.take k) = handlesS l := by
  unfold handlesS
  conv => rhs; rw [← List.take_append_drop k l, List.zipIdx_append, List.filter_append, List.map_append]
  have : ((l.drop k).zipIdx (0 + (l.take k).length)).filter (fun x => decide (x.2 < 1024) && (x.1.1 && x.1.good)) = [] := by
    rw [List.filter_eq_nil_iff]
    rintro ⟨s, i⟩ hm
    have h1 := List.le_snd_of_mem_zipIdx hm
    rcases Nat.lt_or_ge k l.length with hk | hk
    · have hi : ¬ i < 1024 := by simp only [List.length_take, Nat.min_eq_left (Nat.le_of_lt hk)] at h1; omega
      simp [hi]
    · rw [List.drop_eq_nil_of_le hk] at hm
      simp at hm
  rw [this]
  simp
theorem isU_no1 {k : Nat} {s : Slt} (e : s.1 = false) : isU k s = false := by unfold isU; rw [e]; simp
theorem isU_no2 {k : Nat} {s : Slt} (e : s.good = false) : isU k s = false := by unfold isU; rw [e]; simp
theorem isU_yes {k : Nat} {s : Slt} (e0 : k < 1024) (e1 : s.1 = true) (e2 : s.good = true) : isU k s = true := by unfold isU; simp [e0, e1, e2]
theorem handlesS_len {l : List Slt} : (handlesS l).length ≤ l.length := by
  unfold handlesS
  rw [List.length_map]
  exact Nat.le_trans (List.length_filter_le _ _) (by simp)
theorem one_int14 (w : World) (x : Int) : Sl (w.alloc (.cells #[.int .i64 x] 3)) (w.heap.size + 1) 1 (.slice (some ⟨w.heap.size, 0, none⟩) 1 1) 1 (i64s [x]) := by
  have := Sl.of_blk (size := 1) (n := 1) (c := 1) (Blk.new w 3 #[.int .i64 x]) (by simp) (Nat.le_refl _) (by decide)
  simpa [i64s] using this

theorem sne_len {l m : List Slt} (h : l.length ≠ m.length) : l ≠ m := fun e => h (by rw [e])
theorem sne_at {l m : List Slt} {k : Nat} {x y : Slt} (hx : l[k]? = some x) (hy : m[k]? = some y) (h : x ≠ y) : l ≠ m := fun e => h (by rw [e, hy] at hx; exact (Option.some.inj hx).symm)
theorem seq_all {l m : List Slt} (hl : l.length = m.length) (h : ∀ (j : Nat) x, j < l.length → l[j]? = some x → m[j]? = some x) : l = m := by
  refine List.ext_getElem? fun j => ?_
  rcases Nat.lt_or_ge j l.length with hj | hj
  · rw [h j _ hj (List.getElem?_eq_getElem hj)]
    exact List.getElem?_eq_getElem hj
  · rw [List.getElem?_eq_none hj, List.getElem?_eq_none (by omega)]
theorem eqSlot (a : Bool) (b : Int) (c : Nat) (a' : Bool) (b' : Int) (c' : Nat) (w : World) : (Op.equalIn 10000 52 (.agg #[.bool a, .int .i64 b, .int .u64 (c : Nat)]) (.agg #[.bool a', .int .i64 b', .int .u64 (c' : Nat)])).run Tryz.prog w = .ok (decide ((a, b, c) = (a', b', c'))) w := by
  have hS : Tryz.prog.underlying 52 = some (.struct (Tryz.prog.fieldsOf 52)) := by kernel_rfl
  rw [show (10000 : Nat) = 9999 + 1 from rfl, run_equalIn_agg w 9999 52 _ _ hS (by kernel_rfl)]
  simp only [Program.fieldsOf, Tryz.underlying52]
  go_simp
  have e3 : ((c : Int) = (c' : Int)) ↔ c = c' := by omega
  by_cases h1 : a = a' <;> by_cases h2 : b = b' <;> by_cases h3 : c = c' <;> simp [h1, h2, h3, e3]

set_option maxHeartbeats 2000000 in
theorem rSame14 (va vb : Value) (l m : List Slt) (B B' : Nat) (w : World) (ha : Sl w B 3 va l.length (slc l)) (hb : Sl w B' 3 vb m.length (slc m)) :
    Calls Tryz.prog 51 #[va, vb] w fun e w' => e = .returned (.bool (decide (l = m))) ∧ Only nob w w' := by
  have HA := Lib.hid ha
  have HB := Lib.hid hb
  obtain ⟨A, ca, rfl, hac, ham, -⟩ := ha
  obtain ⟨A', cb, rfl, hbc, hbm, -⟩ := hb
  unfold maxLen at ham hbm
  by_cases hlen : l.length = m.length
  · have HL := Lib.hid hlen
    rw [← hlen] at hbc ⊢
    clear hlen
    go_enter Tryz.func51, Tryz.ntmps51
    go_wp2
    go_loopw [5] (fun i wr => ∃ k m' : Nat, k ≤ l.length ∧ i = .int .i64 k ∧ Hid (∀ (j : Nat) x, j < k → l[j]? = some x → m[j]? = some x) ∧ wr = w.drewN m') (fun i _ => l.length - (intOf i).toNat)
    case atStart => exact ⟨0, 0, Nat.zero_le _, rfl, fun j _ hj _ => absurd hj (Nat.not_lt_zero j), rfl⟩
    case round =>
      obtain ⟨k, m', hk, rfl, hno, rfl⟩ := hrel
      by_cases hlt : k < l.length
      · obtain ⟨x, hx⟩ : ∃ x, l[k]? = some x := ⟨_, List.getElem?_eq_getElem hlt⟩
        obtain ⟨y, hy⟩ : ∃ y, m[k]? = some y := ⟨_, List.getElem?_eq_getElem (by rw [← HL.out]; exact hlt)⟩
        obtain ⟨b1, o1, rfl, -, c0, c1, c2⟩ := sl_slot HA.out (Below.refl _ _) hx
        obtain ⟨b2, o2, rfl, -, d0, d1, d2⟩ := sl_slot HB.out (Below.refl _ _) hy
        have HX := Lib.hid hx
        have HY := Lib.hid hy
        obtain ⟨xa, xb, xc⟩ := x
        obtain ⟨ya, yb, yc⟩ := y
        have heq := eqSlot xa xb xc ya yb yc
        clear hx hy
        by_cases h1 : (xa, xb, xc) = (ya, yb, yc)
        · rw [decide_eq_true h1] at heq
          have HE := Lib.hid h1
          clear h1
          go_wp2
          go_quiet (fail)
          go_wp2
          go_roundw
          case rel =>
            refine ⟨k + 1, _, by omega, by go_num, fun j z hj hz => ?_, rfl⟩
            rcases Nat.lt_or_ge j k with h' | h'
            · exact hno.out j z h' hz
            · obtain rfl : j = k := by omega
              rw [HX.out] at hz
              rw [HY.out, ← HE.out]; exact hz
          case measure => simp [intOf]; omega
        · rw [decide_eq_false h1] at heq
          have HN := Lib.hid (decide_eq_false (sne_at HX.out HY.out h1))
          clear h1
          go_wp2
          go_quiet (fail)
          go_wp2
          go_ret
          exact ⟨ret_bool (by rw [HN.out]), ((Only.refl _ _).drewN _).drewN _⟩
      · obtain rfl : k = l.length := by omega
        have HN := Lib.hid (decide_eq_true (seq_all HL.out hno.out))
        go_wp2
        go_ret
        exact ⟨ret_bool (by rw [HN.out]), (Only.refl _ _).drewN _⟩
  · have HN := Lib.hid (decide_eq_false (sne_len hlen))
    have hn1 : ¬ ((l.length : Int) = (m.length : Int)) := by omega
    go_enter Tryz.func51, Tryz.ntmps51
    go_wp2
    go_ret
    exact ⟨ret_bool (by rw [HN.out]), Only.refl _ _⟩
end Go.Proofs.YtciidodmhigpdaaGreatDoor

/- The document's own answer whether a table may be. -/
namespace Go.Proofs.YtciidodmhigpdaaGreatDoor
open Go.RowKit
set_option maxRecDepth 100000

theorem rightS_no {l : List Slt} {n : Int} (h : ¬ ((l.length : Int) = n ∧ 1 ≤ n ∧ n ≤ 1024)) : rightS dE l n = false := by unfold rightS; rw [decide_eq_false h]; rfl
theorem rightS_bad {l : List Slt} {n : Int} {k : Nat} {s : Slt} (hx : l[k]? = some s) (hs : rightSlot dE s = false) : rightS dE l n = false := by
  unfold rightS
  have : l.all (rightSlot dE) = false := by
    rw [List.all_eq_false]
    exact ⟨s, List.mem_of_getElem? hx, by rw [hs]; simp⟩
  rw [this, Bool.and_false]
theorem rightS_yes {l : List Slt} {n : Int} (h : (l.length : Int) = n ∧ 1 ≤ n ∧ n ≤ 1024) (ha : ∀ (j : Nat) y, j < l.length → l[j]? = some y → rightSlot dE y = true) : rightS dE l n = true := by
  unfold rightS
  rw [decide_eq_true h, Bool.true_and, List.all_eq_true]
  intro s hs
  obtain ⟨j, hj⟩ := List.getElem?_of_mem hs
  exact ha j s (List.getElem?_eq_some_iff.1 hj).1 hj
theorem dE_zero : dE 0 = 0 := by decide
theorem rslot_used_bad {gn : Int} {x : Nat} (h : Slt.good (true, gn, x) = false) : rightSlot dE (true, gn, x) = false := by unfold rightSlot; simp [h]
theorem rslot_used {gn : Int} {x : Nat} (h : Slt.good (true, gn, x) = true) : rightSlot dE (true, gn, x) = decide (dE (x : Nat) = 0) := by unfold rightSlot; simp [h]
theorem rslot_low {gn : Int} {x : Nat} (h : ¬ (0 ≤ gn ∧ gn ≤ 1099511627776)) : rightSlot dE (false, gn, x) = false := by unfold rightSlot; simp; intro a b; omega
theorem rslot_word {gn : Int} {x : Nat} (h : x ≠ 0) : rightSlot dE (false, gn, x) = false := by unfold rightSlot; simp [h]
theorem rslot_free {gn : Int} (h : 0 ≤ gn ∧ gn ≤ 1099511627776) : rightSlot dE (false, gn, 0) = true := by unfold rightSlot; simp [h, dE_zero]
theorem upTo_right {l : List Slt} {k : Nat} {s : Slt} (h : ∀ (j : Nat) y, j < k → l[j]? = some y → rightSlot dE y = true) (hx : l[k]? = some s) (hp : rightSlot dE s = true) : ∀ (j : Nat) y, j < k + 1 → l[j]? = some y → rightSlot dE y = true := fun j y hj hy => by
  rcases Nat.lt_or_ge j k with h' | h'
  · exact h j y h' hy
  · obtain rfl : j = k := by omega
    rw [hx] at hy
    obtain rfl := Option.some.inj hy
    exact hp

set_option maxHeartbeats 8000000 in
theorem rRight14 : RightC 38 := by
  intro v l n B w hv hB hl hok
  have HA := Lib.hid hv
  have HOK := Lib.hid hok
  obtain ⟨A, ca, rfl, hac, ham, -⟩ := hv
  unfold maxLen at ham
  clear hok
  by_cases hn : (l.length : Int) = n
  case neg =>
    have HR := Lib.hid (rightS_no (l := l) (n := n) (fun h => hn h.1))
    have hbq : ((l.length : Int) == n) = false := by simpa using hn
    go_enter Tryz.func38, Tryz.ntmps38
    go_wp2
    go_ret
    exact ⟨ret_bool (by rw [HR.out]), Only.refl _ _⟩
  case pos =>
    subst hn
    by_cases h1 : l.length < 1
    · have HR := Lib.hid (rightS_no (l := l) (n := l.length) (by omega))
      go_enter Tryz.func38, Tryz.ntmps38
      go_wp2
      go_ret
      exact ⟨ret_bool (by rw [HR.out]), Only.refl _ _⟩
    · by_cases h2 : 1024 < l.length
      · have HR := Lib.hid (rightS_no (l := l) (n := l.length) (by omega))
        go_enter Tryz.func38, Tryz.ntmps38
        go_wp2
        go_ret
        exact ⟨ret_bool (by rw [HR.out]), Only.refl _ _⟩
      · go_enter Tryz.func38, Tryz.ntmps38
        go_wp2_with fail
        go_loopw [5] (fun i wr => ∃ k : Nat, k ≤ l.length ∧ i = .int .i64 k ∧ Hid (∀ (j : Nat) y, j < k → l[j]? = some y → rightSlot dE y = true) ∧ Hid (Only nob w wr)) (fun i _ => l.length - (intOf i).toNat)
        case atStart => exact ⟨0, Nat.zero_le _, rfl, Lib.hid (fun j _ hj _ => absurd hj (Nat.not_lt_zero j)), Lib.hid (Only.refl _ _)⟩
        case round =>
          obtain ⟨k, hk, rfl, HNO, HO⟩ := hrel
          by_cases hlt : k < l.length
          · obtain ⟨s, hx⟩ : ∃ s, l[k]? = some s := ⟨_, List.getElem?_eq_getElem hlt⟩
            obtain ⟨b, o, rfl, hb, c0, c1, c2⟩ := sl_slot HA.out (HO.out.below hB fun _ h => h.elim) hx
            have HX := Lib.hid hx
            obtain ⟨-, -, hx64⟩ := HOK.out.get hx
            obtain ⟨u, gn, x⟩ := s
            have hbr : b < wr.heap.size := Nat.lt_of_lt_of_le hb (Nat.le_trans hB HO.out.size)
            have hx63 : 0 ≤ ((x : Nat) : Int) ∧ ((x : Nat) : Int) < 18446744073709551616 := by unfold full at hx64; simp only at hx64; omega
            clear hx hx64
            rcases u with _ | _
            · by_cases g1 : gn < 0
              · have HR := Lib.hid (rightS_bad (n := l.length) HX.out (rslot_low (by omega)))
                go_wp2
                go_ret
                exact ⟨ret_bool (by rw [HR.out]), HO.out⟩
              · by_cases g2 : 1099511627776 < gn
                · have HR := Lib.hid (rightS_bad (n := l.length) HX.out (rslot_low (by omega)))
                  go_wp2
                  go_ret
                  exact ⟨ret_bool (by rw [HR.out]), HO.out⟩
                · by_cases hx0 : x = 0
                  · subst hx0
                    have HN2 := Lib.hid (upTo_right HNO.out HX.out (rslot_free (by omega)))
                    clear hx63
                    go_wp2_with fail
                    go_at_call 70
                    refine (refDec_zero wr).mono ?_
                    rintro e w1 ⟨rfl, o1⟩
                    have O1 := Lib.hid (HO.out.trans o1)
                    clear o1 c0 c1 c2
                    go_wp2
                    go_roundw
                    case rel => exact ⟨k + 1, by omega, by go_num, HN2, Lib.hid (O1.out.alloc _)⟩
                    case measure => simp [intOf]; omega
                  · have HR := Lib.hid (rightS_bad (n := l.length) HX.out (rslot_word (gn := gn) hx0))
                    have hbq : (((x : Nat) : Int) == 0) = false := by simpa using hx0
                    go_wp2
                    go_ret
                    exact ⟨ret_bool (by rw [HR.out]), HO.out⟩
            · go_wp2_with fail
              go_at_call 69
              refine (rGood (true, gn, x) wr).mono ?_
              rcases hg : Slt.good (true, gn, x) with _ | _
              · have HR := Lib.hid (rightS_bad (n := l.length) HX.out (rslot_used_bad hg))
                rintro e w1 ⟨rfl, o1⟩
                have O1 := Lib.hid (HO.out.trans o1)
                clear o1 c0 c1 c2
                go_wp2
                go_ret
                exact ⟨ret_bool (by rw [HR.out]), O1.out⟩
              · rintro e w1 ⟨rfl, o1⟩
                have O1 := Lib.hid (HO.out.trans o1)
                have d0 := o1.keeps c0
                have d1 := o1.keeps c1
                have d2 := o1.keeps c2
                obtain ⟨hg1, hg2⟩ := of_decide_eq_true hg
                simp only at hg1 hg2
                have HSL := Lib.hid (rslot_used hg)
                have HDEC := Lib.hid (refDec_any hx63 w1)
                obtain ⟨de, hde⟩ : ∃ de, de = dE (x : Nat) := ⟨_, rfl⟩
                rw [← hde] at HDEC HSL
                clear o1 c0 c1 c2 hg hx63 hde
                go_wp2_with fail
                go_at_call 70
                refine HDEC.out.mono ?_
                rintro e w2 ⟨rfl, o2⟩
                have O2 := Lib.hid (O1.out.trans o2)
                clear o2 d0 d1 d2
                by_cases hd : de = 0
                · have HN2 := Lib.hid (upTo_right HNO.out HX.out (HSL.out.trans (decide_eq_true hd)))
                  subst hd
                  go_wp2
                  go_roundw
                  case rel => exact ⟨k + 1, by omega, by go_num, HN2, Lib.hid (O2.out.alloc _)⟩
                  case measure => simp [intOf]; omega
                · have HR := Lib.hid (rightS_bad (n := l.length) HX.out (HSL.out.trans (decide_eq_false hd)))
                  have hbq : (de == 0) = false := by simpa using hd
                  go_wp2
                  go_ret
                  exact ⟨ret_bool (by rw [HR.out]), O2.out.alloc _⟩
          · obtain rfl : k = l.length := by omega
            have HR := Lib.hid (rightS_yes (l := l) (n := l.length) (by omega) HNO.out)
            go_wp2
            go_ret
            exact ⟨ret_bool (by rw [HR.out]), HO.out⟩
end Go.Proofs.YtciidodmhigpdaaGreatDoor

/- Package roots: its small words (good, free, standing, handle, place), slices' calls at slots, the closures that are handed in. -/
namespace Go.Proofs.YtciidodmhigpdaaGreatDoor
open Go.RowKit Go.Lib
set_option maxRecDepth 100000

theorem box_slot (s : Slt) (w : World) : ∃ W, w.alloc (.cells #[.bool s.1, .int .i64 s.2.1, .int .u64 (s.2.2 : Nat)] 52) = W ∧ Hid (Only nob w W ∧ Blk W w.heap.size 52 #[.bool s.1, .int .i64 s.2.1, .int .u64 (s.2.2 : Nat)] ∧ W.cell? ⟨w.heap.size, 0, none⟩ = some (.bool s.1) ∧ W.cell? ⟨w.heap.size, 1, none⟩ = some (.int .i64 s.2.1) ∧ W.cell? ⟨w.heap.size, 2, none⟩ = some (.int .u64 (s.2.2 : Nat))) := by
  have hb := Blk.new w 52 #[.bool s.1, .int .i64 s.2.1, .int .u64 (s.2.2 : Nat)]
  exact ⟨_, rfl, Lib.hid ⟨(Only.refl nob w).alloc _, hb, hb.cell 0, hb.cell 1, hb.cell 2⟩⟩

set_option maxHeartbeats 400000 in
theorem isGood_any (s : Slt) (w : World) : Calls Tryz.prog 141 #[.agg #[.bool s.1, .int .i64 s.2.1, .int .u64 (s.2.2 : Nat)]] w fun e w' => e = .returned (.bool s.good) ∧ Only nob w w' := by
  obtain ⟨u, g, x⟩ := s
  obtain ⟨W, hW, HB⟩ := box_slot (u, g, x) w
  have HW := Lib.hid hW
  obtain ⟨-, -, -, c1, -⟩ := HB.out
  simp only at c1
  clear hW
  by_cases h1 : 0 ≤ g
  · by_cases h2 : g < 1099511627776
    · rw [good_yes (s := (u, g, x)) h1 h2]
      go_enter Tryz.func141, Tryz.ntmps141
      go_upto_region 1 with fail
      rw [HW.out]
      go_wp2
      go_ret
      exact ⟨rfl, HB.out.1⟩
    · rw [good_no (s := (u, g, x)) (fun h => h2 h.2)]
      go_enter Tryz.func141, Tryz.ntmps141
      go_upto_region 1 with fail
      rw [HW.out]
      go_wp2
      go_ret
      exact ⟨rfl, HB.out.1⟩
  · rw [good_no (s := (u, g, x)) (fun h => h1 h.1)]
    go_enter Tryz.func141, Tryz.ntmps141
    go_upto_region 1 with fail
    rw [HW.out]
    go_wp2
    go_ret
    exact ⟨rfl, HB.out.1⟩

/-- Free: not used, and good; standing: used, and good. -/
def Slt.free (s : Slt) : Bool := !s.1 && s.good
def Slt.stands (s : Slt) : Bool := s.1 && s.good
set_option maxHeartbeats 400000 in
theorem isCount_any (n : Int) (w : World) : Calls Tryz.prog 74 #[.int .i64 n] w fun e w' => e = .returned (.bool (decide (1 ≤ n ∧ n ≤ 1024))) ∧ Only nob w w' := by
  by_cases h1 : 1 ≤ n
  · by_cases h2 : n ≤ 1024
    · rw [decide_eq_true (p := 1 ≤ n ∧ n ≤ 1024) ⟨h1, h2⟩]
      go_enter Tryz.func74, Tryz.ntmps74
      go_wp2
      go_ret
      exact ⟨rfl, Only.refl _ _⟩
    · rw [decide_eq_false (p := 1 ≤ n ∧ n ≤ 1024) (fun h => h2 h.2)]
      go_enter Tryz.func74, Tryz.ntmps74
      go_wp2
      go_ret
      exact ⟨rfl, Only.refl _ _⟩
  · rw [decide_eq_false (p := 1 ≤ n ∧ n ≤ 1024) (fun h => h1 h.1)]
    go_enter Tryz.func74, Tryz.ntmps74
    go_wp2
    go_ret
    exact ⟨rfl, Only.refl _ _⟩

/-- A list that reads, its first k slots. -/
theorem Sl.head3 {w : World} {B n k c : Nat} {A : Option Addr} {l : List Slt} (h : Sl w B 3 (.slice A n c) l.length (slc l)) (hn : l.length = n) (hk : k ≤ n) : Sl w B 3 (.slice A k c) (l.take k).length (slc (l.take k)) := by
  obtain ⟨A', c', e, h1, h2, h3, h4⟩ := h
  subst hn
  obtain ⟨rfl, rfl⟩ : A = A' ∧ c = c' := by simpa using e
  have hl : (l.take k).length = k := by rw [List.length_take]; omega
  rw [hl]
  refine ⟨A, c, rfl, by omega, h2, by rw [slc_len, hl], fun hp => ?_⟩
  obtain ⟨b, o, rfl, hb, hc⟩ := h4 (by omega)
  refine ⟨b, o, rfl, hb, fun j u hu => hc j u ?_⟩
  rw [← slc_take, List.getElem?_take] at hu
  split at hu
  · exact hu
  · cases hu

/-- What is asked of a function that is handed in: it tells p of each slot, and only makes memory. -/
def PredS (g : FuncId) (lb : Array Value) (p : Slt → Bool) (w : World) : Prop :=
  (∀ args w, (callFunc g args).run Tryz.prog w = .ok (.enter g args) w) ∧ ∀ (s : Slt), (-9223372036854775808 ≤ s.2.1 ∧ s.2.1 ≤ 9223372036854775807 ∧ s.2.2 < full) → ∀ (W : World), Only nob w W → Calls Tryz.prog g (#[.agg #[.bool s.1, .int .i64 s.2.1, .int .u64 (s.2.2 : Nat)]] ++ lb) W fun e w' => e = .returned (.bool (p s)) ∧ Only nob W w'
theorem PredS.on {g : FuncId} {lb : Array Value} {p : Slt → Bool} {w w' : World} (h : PredS g lb p w) (o : Only nob w w') : PredS g lb p w' := ⟨h.1, fun x hx W hW => h.2 x hx W (o.trans hW)⟩
def fstP (p : Slt → Bool) (l : List Slt) : Nat := fstI (fun _ s => p s) l
def idxS (p : Slt → Bool) (l : List Slt) : Int := if fstP p l < l.length then (fstP p l : Nat) else -1
theorem idxS_hit {p : Slt → Bool} {l : List Slt} {k : Nat} (hk : k < l.length) (h : fstP p l = k) : idxS p l = k := by unfold idxS; rw [h, if_pos hk]
theorem idxS_miss {p : Slt → Bool} {l : List Slt} (h : fstP p l = l.length) : idxS p l = -1 := by unfold idxS; rw [h, if_neg (Nat.lt_irrefl _)]
theorem idxS_any (p : Slt → Bool) (l : List Slt) : decide (0 ≤ idxS p l) = l.any p := by
  unfold idxS fstP
  rcases Nat.lt_or_ge (fstI (fun _ s => p s) l) l.length with h | h
  · rw [if_pos h]
    obtain ⟨s, h1, h2⟩ := fstI_lt h
    have : l.any p = true := List.any_eq_true.2 ⟨s, List.mem_of_getElem? h1, h2⟩
    rw [this, decide_eq_true (by omega)]
  · rw [if_neg (by omega)]
    have : l.any p = false := by
      rw [List.any_eq_false]
      intro s hs e
      obtain ⟨j, hj⟩ := List.getElem?_of_mem hs
      have := fstI_lt_iff (p := fun _ s => p s).2 ⟨j, s, hj, e⟩
      omega
    rw [this]; rfl
set_option maxHeartbeats 1000000 in
theorem indexFunc_slots (g : FuncId) (lb : Array Value) (p : Slt → Bool) (v : Value) (l : List Slt) (B : Nat) (w : World) (hp : PredS g lb p w) (h : Sl w B 3 v l.length (slc l)) (hB : B ≤ w.heap.size) (hf : SlOk l) :
    Calls Tryz.prog 142 #[v, .func (.func g) #[] lb] w fun e w' => e = .returned (.int .i64 (idxS p l)) ∧ Only nob w w' := by
  have HA := Lib.hid h
  have HF := Lib.hid hf
  have HP := Lib.hid hp.2
  have eg := hp.1
  obtain ⟨A, ca, rfl, hac, ham, -⟩ := h
  unfold maxLen at ham
  clear hp hf
  go_enter Tryz.func142, Tryz.ntmps142
  go_wp2_with fail
  go_loopw [5, 8] (fun _ i wr => ∃ k : Nat, k ≤ l.length ∧ i = .int .i64 k ∧ Hid (∀ (j : Nat) y, j < k → l[j]? = some y → p y = false) ∧ Only nob w wr) (fun _ i _ => l.length - (intOf i).toNat)
  case atStart => exact ⟨0, Nat.zero_le _, rfl, fun j _ hj _ => absurd hj (Nat.not_lt_zero j), Only.refl _ _⟩
  case round =>
    obtain ⟨k, hk, rfl, hno, hO⟩ := hrel
    have HX := Lib.hid hO
    by_cases hlt : k < l.length
    · obtain ⟨x, hx⟩ : ∃ x, l[k]? = some x := ⟨_, List.getElem?_eq_getElem hlt⟩
      obtain ⟨b, o, rfl, hb, c0, c1, c2⟩ := sl_slot HA.out (hO.below hB fun _ h => h.elim) hx
      have HXX := Lib.hid hx
      clear hO hx
      cases hp : p x with
      | true =>
        have HQ := Lib.hid hp
        have HK := Lib.hid (idxS_hit hlt (fstI_hit (p := fun _ s => p s) HXX.out hp fun j y hj hy => hno.out j y hj hy))
        clear hp
        go_wp2_with fail
        refine (HP.out x (HF.out.get HXX.out) _ HX.out).mono ?_
        rw [HQ.out]
        rintro e w1 ⟨rfl, ho⟩
        have HO := Lib.hid (HX.out.trans ho)
        clear ho
        go_wp2
        go_ret
        exact ⟨ret_i64 (by rw [HK.out]), HO.out⟩
      | false =>
        have HQ := Lib.hid hp
        clear hp
        go_wp2_with fail
        refine (HP.out x (HF.out.get HXX.out) _ HX.out).mono ?_
        rw [HQ.out]
        rintro e w1 ⟨rfl, ho⟩
        have HO := Lib.hid (HX.out.trans ho)
        clear ho
        go_wp2
        go_roundw
        case rel =>
          refine ⟨k + 1, by omega, by go_num, fun j y hj hy => ?_, HO.out⟩
          rcases Nat.lt_or_ge j k with h' | h'
          · exact hno.out j y h' hy
          · obtain rfl : j = k := by omega
            rw [HXX.out] at hy
            obtain rfl := Option.some.inj hy
            exact HQ.out
        case measure => simp [intOf]; omega
    · obtain rfl : k = l.length := by omega
      have HK := Lib.hid (idxS_miss (fstI_none (p := fun _ s => p s) (l := l) fun j y hy => hno.out j y (List.getElem?_eq_some_iff.1 hy).1 hy))
      clear hO
      go_wp2
      go_ret
      exact ⟨ret_i64 (by rw [HK.out]), HX.out⟩
set_option maxHeartbeats 1000000 in
theorem containsFunc_slots (g : FuncId) (lb : Array Value) (p : Slt → Bool) (v : Value) (l : List Slt) (B : Nat) (w : World) (hp : PredS g lb p w) (h : Sl w B 3 v l.length (slc l)) (hB : B ≤ w.heap.size) (hf : SlOk l) :
    Calls Tryz.prog 128 #[v, .func (.func g) #[] lb] w fun e w' => e = .returned (.bool (l.any p)) ∧ Only nob w w' := by
  have HA := Lib.hid h
  have HP := Lib.hid hp
  have HF := Lib.hid hf
  clear h hp hf
  have HI := Lib.hid (idxS_any p l)
  go_enter Tryz.func128, Tryz.ntmps128
  go_wp2_with fail
  go_at_call 142
  refine (indexFunc_slots g lb p v l B w HP.out HA.out hB HF.out).mono ?_
  rintro e w1 ⟨rfl, ho⟩
  have HO := Lib.hid ho
  obtain ⟨i, hi⟩ : ∃ i, i = idxS p l := ⟨_, rfl⟩
  rw [← hi]
  have HII := Lib.hid hi
  clear ho hi
  go_wp2
  go_ret
  exact ⟨ret_bool (by rw [← HI.out, ← HII.out]), HO.out⟩

set_option maxHeartbeats 1000000 in
theorem clone_slots (v : Value) (l : List Slt) (B : Nat) (w : World) (h : Sl w B 3 v l.length (slc l)) (hB : B ≤ w.heap.size) (hl : l.length ≤ 1000000) :
    Calls Tryz.prog 54 #[v] w fun e w' => ∃ v', e = .returned v' ∧ w'.ownsRow w.heap.size 52 3 v' l.length (slc l) ∧ Only nob w w' := by
  obtain ⟨i0, hi0, hz0, hz1, hz2⟩ := info_parts info_slot
  have HA := Lib.hid h
  obtain ⟨A, ca, rfl, hac, ham, hx, hs⟩ := h
  unfold maxLen at ham
  have q29 : ∀ (w : World) (n : Nat), (binOp .eql 26 (.slice A n ca) (.slice none 0 0)).run Tryz.prog w = .ok (.bool A.isNone) w := fun w n => Go.Lib.run_eql_slice_nil w _ _ A _ _ _ _ Tryz.underlying26
  rcases A with _ | ad
  · have h0 : l.length = 0 := by
      rcases Nat.eq_zero_or_pos l.length with h0 | h0
      · exact h0
      · obtain ⟨b, o, hA, -⟩ := hs h0; cases hA
    obtain rfl : l = [] := List.eq_nil_of_length_eq_zero h0
    clear hs hx h0
    go_enter Tryz.func54, Tryz.ntmps54
    go_wp2
    go_ret
    exact ⟨_, rfl, World.ownsRow_nil _ _ _ _, Only.refl _ _⟩
  · have HS := Lib.hid hs
    clear hs hx
    go_enter Tryz.func54, Tryz.ntmps54
    go_wp2_with (with_reducible refine wpList_append_sl (o := ⟨some 7, _, _, _, _, _⟩) _ rfl (.tmp 5) (.tmp 6) _ rfl w.heap.size 52 i0 _ 3 24 Tryz.underlying26 hi0 hz0 hz1 hz2 rfl (by decide) (.slice (some ⟨w.heap.size, 0, none⟩) 0 0) 0 [] rfl ?c1 B (.slice (some ad) l.length ca) l.length (slc l) rfl ?c6 (slc_oneCell _) ?c2 ?c3 ?c4 ?c5)
    case c1 => exact lit_own w _ _
    case c6 => exact HA.out.below (((Only.refl nob w).alloc _).below hB fun _ h => h.elim)
    case c2 => unfold maxLen; omega
    case c3 => omega
    case c4 => simp
    case c5 =>
      intro v1 w1 H1 o1 _
      have O1 := Lib.hid (lit_only o1)
      clear o1
      go_wp2
      go_ret
      exact ⟨_, rfl, by simpa using H1.out, O1.out⟩
end Go.Proofs.YtciidodmhigpdaaGreatDoor

/- Package roots: a handle's place, a slot that is changed by a closure; Get, Set, Drop, Put. -/
namespace Go.Proofs.YtciidodmhigpdaaGreatDoor
open Go.RowKit Go.Lib
set_option maxRecDepth 100000

theorem tmod_hOf {h : Int} {k : Nat} {g : Int} (hk : k < 1024) (hg : 0 ≤ g) (e : h = (k : Int) + 1024 * g) : h.tmod 1024 = k := by
  rw [Int.tmod_eq_emod_of_nonneg (by omega)]
  omega
/-- What is asked of a function that is handed the place of a slot, in a row of the call's own: it turns that slot. -/
def Does (g : FuncId) (lb : Array Value) (F : Slt → Slt) (w : World) : Prop :=
  (∀ args w, (callFunc g args).run Tryz.prog w = .ok (.enter g args) w) ∧ ∀ (W : World), Only nob w W → ∀ (b cap k : Nat) (cur : Array Value) (l : List Slt) (s : Slt), w.heap.size ≤ b → Blk W b 52 cur → l.length ≤ cap → cap ≤ maxLen → cur.toList.take (l.length * 3) = slc l → l[k]? = some s → s.good = true →
    Calls Tryz.prog g (#[.pointer (some ⟨b, k * 3, none⟩)] ++ lb) W fun e w' => e = .returned (.tuple #[]) ∧ Only (isb b) W w' ∧ Sl w' w'.heap.size 3 (.slice (some ⟨b, 0, none⟩) l.length cap) l.length (slc (l.set k (F s)))
/-- An own row reads. -/
theorem sl_own {w : World} {base : Nat} {v : Value} {l : List Slt} (h : w.ownsRow base 52 3 v l.length (slc l)) : Sl w w.heap.size 3 v l.length (slc l) := Sl.of_own h (by rw [slc_len])
theorem own_fos {w w' : World} {v : Value} {n : Nat} {xs : List Value} (h : w'.ownsRow w.heap.size 52 3 v n xs) : ∀ (b o m c : Nat), v = .slice (some ⟨b, o, none⟩) m c → w.heap.size ≤ b := by
  intro b o m c e
  rcases h.2 with ⟨h0, _⟩ | ⟨g, cap, cur, h1, h2, _⟩
  · rw [h0] at e; cases e
  · rw [h1] at e
    simp only [Value.slice.injEq, Option.some.injEq, Addr.mk.injEq] at e
    omega

/-- A slot's change by a closure; where the handle is not right, the table as it is. -/
def ChangeT (l : List Slt) (h : Int) (F : Slt → Slt) : List Slt := if fstI (isH h) l < l.length then l.set (fstI (isH h) l) (F (l.getD (fstI (isH h) l) (false, 0, 0))) else l
theorem change_hit {l : List Slt} {h : Int} {F : Slt → Slt} {k : Nat} {s : Slt} (hx : l[k]? = some s) (hk : fstI (isH h) l = k) : ChangeT l h F = l.set k (F s) := by
  have hlt : k < l.length := (List.getElem?_eq_some_iff.1 hx).1
  unfold ChangeT
  rw [hk, if_pos hlt, slt_getD hx]
theorem change_miss {l : List Slt} {h : Int} {F : Slt → Slt} (hk : fstI (isH h) l = l.length) : ChangeT l h F = l := by
  unfold ChangeT
  rw [if_neg (by omega)]
theorem change_set (l : List Slt) (h : Int) (x : Nat) : ChangeT l h (fun s => (s.1, s.2.1, x)) = setSL l h x := by
  rcases plH_cases l h with ⟨k, s, hx, hu, -, hk, -⟩ | hk
  · rw [change_hit hx hk, (found hx hk).2.2.2.1, hu]
  · rw [change_miss hk, (not_found hk).2.2.2.1]
theorem change_drop (l : List Slt) (h : Int) : ChangeT l h (fun s => (false, s.2.1 + 1, 0)) = dropSL l h := by
  rcases plH_cases l h with ⟨k, s, hx, hu, -, hk, -⟩ | hk
  · rw [change_hit hx hk, (found hx hk).2.2.2.2]
  · rw [change_miss hk, (not_found hk).2.2.2.2]
theorem changeT_len (l : List Slt) (h : Int) (F : Slt → Slt) : (ChangeT l h F).length = l.length := by unfold ChangeT; split <;> simp

end Go.Proofs.YtciidodmhigpdaaGreatDoor

/- Package roots: each exported call's contract. -/
namespace Go.Proofs.YtciidodmhigpdaaGreatDoor
open Go.RowKit Go.Lib
set_option maxRecDepth 100000

theorem own_put3 {x : Nat} (w : World) : ∃ W, w.alloc (.cells #[.int .u64 (x : Nat)] 48) = W ∧ Hid (Only nob w W ∧ Blk W w.heap.size 48 #[.int .u64 (x : Nat)]) := ⟨_, rfl, Lib.hid ⟨(Only.refl nob w).alloc _, Blk.new _ _ _⟩⟩
theorem slc_set2 : ∀ (l : List Slt) (k : Nat) (s : Slt) (x : Nat), l[k]? = some s → ((slc l).set (k * 3) (.bool true)).set (k * 3 + 2) (.int .u64 (x : Nat)) = slc (l.set k (true, s.2.1, x))
  | [], k, s, x, h => by simp at h
  | y :: l, 0, s, x, h => by
    obtain rfl : y = s := by simpa using h
    simp [slc, slE]
  | y :: l, k + 1, s, x, h => by
    have := slc_set2 l k s x (by simpa using h)
    rw [show (k + 1) * 3 = k * 3 + 1 + 1 + 1 by omega]
    simpa [slc, slE] using this
/-- A slot of a row is taken. -/
theorem slots_take {w : World} {g cap : Nat} {cur : Array Value} {l : List Slt} {k : Nat} {s : Slt} (hB : Blk w g 52 cur) (h1 : l.length ≤ cap) (h2 : cap ≤ maxLen) (h4 : cur.toList.take (l.length * 3) = slc l) (hx : l[k]? = some s) (x : Nat) :
    ∃ W, (w.setCell ⟨g, k * 3, none⟩ (.bool true)).setCell ⟨g, k * 3 + 2, none⟩ (.int .u64 (x : Nat)) = W ∧ Hid (Only (isb g) w W ∧ Sl W W.heap.size 3 (.slice (some ⟨g, 0, none⟩) l.length cap) l.length (slc (l.set k (true, s.2.1, x)))) := by
  refine ⟨_, rfl, Lib.hid ⟨(only_set w g _ _).trans (only_set _ g _ _), ?_⟩⟩
  refine sl_of_slots ((hB.put (k * 3) (.bool true)).put (k * 3 + 2) (.int .u64 (x : Nat))) (by simp) h1 h2 ?_
  rw [Array.toList_setIfInBounds, Array.toList_setIfInBounds, List.take_set, List.take_set, h4]
  exact slc_set2 l k s x hx
theorem fst_free (l : List Slt) : fstP Slt.free (l.take 1024) = (if fstI isFree l < l.length then fstI isFree l else (l.take 1024).length) := by
  rcases free_cases l with ⟨k, s, hx, hu, hg, hk, hk4⟩ | hk
  · have hlt : k < l.length := (List.getElem?_eq_some_iff.1 hx).1
    rw [hk, if_pos hlt]
    refine fstI_hit (s := s) (by rw [List.getElem?_take, if_pos hk4]; exact hx) (by show Slt.free s = true; unfold Slt.free; rw [hu, hg]; rfl) fun j y hj hy => ?_
    rw [List.getElem?_take, if_pos (by omega)] at hy
    cases e : Slt.free y
    · rfl
    · exfalso
      unfold Slt.free at e
      simp only [Bool.and_eq_true, Bool.not_eq_true'] at e
      have h1 : ¬ (fstI isFree l ≤ j) := by omega
      have h2 : j < l.zipIdx.findIdx fun x => isFree x.2 x.1 := by unfold fstI at h1; omega
      have h3 := List.not_of_lt_findIdx h2
      obtain ⟨_, rfl⟩ := List.getElem?_eq_some_iff.1 hy
      simp at h3
      rw [isFree_yes (by omega) e.1 e.2] at h3
      cases h3
  · rw [hk, if_neg (Nat.lt_irrefl _)]
    refine fstI_none fun j y hy => ?_
    rw [List.getElem?_take] at hy
    split at hy
    · cases e : Slt.free y
      · rfl
      · exfalso
        unfold Slt.free at e
        simp only [Bool.and_eq_true, Bool.not_eq_true'] at e
        have := fstI_lt_iff.2 ⟨j, y, hy, isFree_yes (by omega) e.1 e.2⟩
        omega
    · cases hy

end Go.Proofs.YtciidodmhigpdaaGreatDoor

/- Package roots: New, Used, Handles, Right. -/
namespace Go.Proofs.YtciidodmhigpdaaGreatDoor
open Go.RowKit Go.Lib
set_option maxRecDepth 100000

theorem made_slots (n : Nat) : madeCells (Value.agg #[.bool false, .int .i64 0, .int .u64 0]).cells (n * 3) = (slc (List.replicate n ((false, 0, 0) : Slt))).toArray := by
  have hl : (slc (List.replicate n ((false, 0, 0) : Slt))).length = n * 3 := by rw [slc_len, List.length_replicate]
  apply Array.ext
  · rw [size_madeCells]; simp [hl]
  · intro i h1 h2
    rw [size_madeCells] at h1
    obtain ⟨q, hq, hr⟩ : ∃ q, q < n ∧ (i = q * 3 ∨ i = q * 3 + 1 ∨ i = q * 3 + 2) := ⟨i / 3, by omega, by omega⟩
    obtain ⟨e0, e1, e2⟩ := slc_get (List.replicate n ((false, 0, 0) : Slt)) q (false, 0, 0) (by rw [List.getElem?_replicate, if_pos hq])
    have key : ∀ (i : Nat) (y : Value) (h2 : i < (slc (List.replicate n ((false, 0, 0) : Slt))).toArray.size), (slc (List.replicate n ((false, 0, 0) : Slt)))[i]? = some y → (slc (List.replicate n ((false, 0, 0) : Slt))).toArray[i] = y := fun i y h2 h => by
      simpa using (List.getElem?_eq_some_iff.1 h).2
    rcases hr with rfl | rfl | rfl
    · rw [key _ _ h2 e0]
      simp only [madeCells, Array.getElem_map, Array.getElem_range]
      rw [show (Value.agg #[.bool false, .int .i64 0, .int .u64 0]).cells.size = 3 from rfl, show q * 3 % 3 = 0 by omega]
      rfl
    · rw [key _ _ h2 e1]
      simp only [madeCells, Array.getElem_map, Array.getElem_range]
      rw [show (Value.agg #[.bool false, .int .i64 0, .int .u64 0]).cells.size = 3 from rfl, show (q * 3 + 1) % 3 = 1 by omega]
      rfl
    · rw [key _ _ h2 e2]
      simp only [madeCells, Array.getElem_map, Array.getElem_range]
      rw [show (Value.agg #[.bool false, .int .i64 0, .int .u64 0]).cells.size = 3 from rfl, show (q * 3 + 2) % 3 = 2 by omega]
      rfl
/-- make([]api.Slot, n). -/
theorem make_slots (n : Nat) (hn : n ≤ 1000000) (w : World) : (Instr.makeSlice 26 (.int .i64 (n : Int)) (.int .i64 (n : Int))).run Tryz.prog w = .ok (.slice (some ⟨w.heap.size, 0, none⟩) n n) (w.alloc (.cells (slc (List.replicate n ((false, 0, 0) : Slt))).toArray 52)) := by
  obtain ⟨i0, hi0, hz0, hz1, hz2⟩ := info_parts info_slot
  have h := run_make (P := Tryz.prog) w 26 52 i0 _ Tryz.underlying26 hi0 hz0 .i64 .i64 n n (by omega) (Int.le_refl _) (by rw [hz2]; omega) (by omega)
  rw [h]
  simp only [Int.toNat_natCast, hz1, made_slots n]
def newE (n : Int) : Int := if 1 ≤ n ∧ n ≤ 1024 then 0 else 1
def newL (n : Int) : List Slt := if 1 ≤ n ∧ n ≤ 1024 then List.replicate n.toNat ((false, 0, 0) : Slt) else []
set_option maxHeartbeats 1000000 in
theorem new_core (n : Int) (w : World) : Calls Tryz.prog 44 #[.int .i64 n] w fun e w' => ∃ v', e = .returned (.tuple #[v', .int .i64 (newE n)]) ∧ Sl w' w'.heap.size 3 v' (newL n).length (slc (newL n)) ∧ Only nob w w' := by
  have HC := Lib.hid (isCount_any n w)
  by_cases hn : 1 ≤ n ∧ n ≤ 1024
  · rw [decide_eq_true hn] at HC
    obtain ⟨m, rfl⟩ : ∃ m : Nat, n = m := ⟨n.toNat, by omega⟩
    have HI := Lib.hid (show newE m = 0 from if_pos hn)
    have HL := Lib.hid (show newL m = List.replicate m ((false, 0, 0) : Slt) by unfold newL; rw [if_pos hn, Int.toNat_natCast])
    have hb := hn.2
    clear hn
    go_enter Tryz.func44, Tryz.ntmps44
    go_wp2_with fail
    go_at_call 74
    refine HC.out.mono ?_
    rintro e w1 ⟨rfl, o⟩
    have O := Lib.hid o
    clear o
    have hmk := make_slots m (by omega) w1
    obtain ⟨W2, hW2, H2⟩ : ∃ W2, w1.alloc (.cells (slc (List.replicate m ((false, 0, 0) : Slt))).toArray 52) = W2 ∧ Hid (Only nob w1 W2 ∧ Blk W2 w1.heap.size 52 (slc (List.replicate m ((false, 0, 0) : Slt))).toArray) := ⟨_, rfl, Lib.hid ⟨(Only.refl nob w1).alloc _, Blk.new _ _ _⟩⟩
    rw [hW2] at hmk
    clear hW2
    go_wp2
    go_ret2
    refine ⟨_, by rw [HI.out]; rfl, ?_, O.out.trans H2.out.1⟩
    rw [HL.out, List.length_replicate]
    have := Sl.of_blk (size := 3) (n := m) (c := m) H2.out.2 (by simp [slc_len]) (Nat.le_refl _) (by unfold maxLen; omega)
    simpa using this
  · rw [decide_eq_false hn] at HC
    have HI := Lib.hid (show newE n = 1 from if_neg hn)
    have HL := Lib.hid (show newL n = [] from if_neg hn)
    clear hn
    go_enter Tryz.func44, Tryz.ntmps44
    go_wp2_with fail
    go_at_call 74
    refine HC.out.mono ?_
    rintro e w1 ⟨rfl, o⟩
    have O := Lib.hid o
    clear o
    go_wp2
    go_ret2
    exact ⟨_, by rw [HI.out]; rfl, by rw [HL.out]; exact Sl.nil_, O.out⟩
theorem new_any14 : RtNew := by
  intro n w h1 h2
  refine (new_core n w).mono ?_
  rintro e w' ⟨v', rfl, s, o⟩
  exact ⟨v', newL n, rfl, rfl, s, o⟩

end Go.Proofs.YtciidodmhigpdaaGreatDoor

/- Package roots: Right. -/
namespace Go.Proofs.YtciidodmhigpdaaGreatDoor
open Go.RowKit Go.Lib
set_option maxRecDepth 100000

theorem rslot_end {g : Int} (h : ¬ (0 ≤ g ∧ g < 1099511627776)) : rightSlot dE (false, g, 0) = decide (g = 1099511627776) := by
  by_cases e : g = 1099511627776
  · rw [decide_eq_true e]; exact rslot_free (by omega)
  · rw [decide_eq_false e]; exact rslot_low (by omega)
set_option maxHeartbeats 2000000 in
theorem isRight_any (s : Slt) (hs : s.2.2 < full) (w : World) : Calls Tryz.prog 127 #[.agg #[.bool s.1, .int .i64 s.2.1, .int .u64 (s.2.2 : Nat)]] w fun e w' => e = .returned (.bool (rightSlot dE s)) ∧ Only nob w w' := by
  obtain ⟨u, g, x⟩ := s
  obtain ⟨W, hW, HB⟩ := box_slot (u, g, x) w
  have HW := Lib.hid hW
  obtain ⟨-, hblk, c0, c1, c2⟩ := HB.out
  have HG := Lib.hid (isGood_any (u, g, x))
  have hx63 : 0 ≤ ((x : Nat) : Int) ∧ ((x : Nat) : Int) < 18446744073709551616 := by unfold full at hs; simp only at hs; omega
  obtain ⟨p, hp⟩ : ∃ p, p = w.heap.size := ⟨_, rfl⟩
  rw [← hp] at c0 c1 c2 hblk
  have HP := Lib.hid hp
  have HBK := Lib.hid hblk
  simp only at c0 c1 c2
  clear hW hp hs hblk
  rcases u with _ | _
  · by_cases hx0 : x = 0
    · have hxq : (((x : Nat) : Int) == 0) = true := by simp [hx0]
      cases hg : Slt.good (false, g, x) with
      | true =>
        rw [hg] at HG
        have HR := Lib.hid (show rightSlot dE (false, g, x) = true by rw [hx0]; exact rslot_free (gn := g) (by have := of_decide_eq_true hg; simp only at this; omega))
        clear hg hx63 hx0
        go_enter Tryz.func127, Tryz.ntmps127
        go_upto_region 1 with fail
        rw [HW.out, ← HP.out]
        go_wp2_with fail
        go_at_call 141
        refine (HG.out W).mono ?_
        rintro e w1 ⟨rfl, o⟩
        have O := Lib.hid (HB.out.1.trans o)
        have d1 := o.keeps c1
        clear o c0 c1 c2
        go_wp2
        go_ret
        exact ⟨ret_bool (by rw [HR.out]), O.out⟩
      | false =>
        rw [hg] at HG
        have HR := Lib.hid (show rightSlot dE (false, g, x) = decide (g = 1099511627776) by rw [hx0]; exact rslot_end (g := g) (of_decide_eq_false hg))
        clear hg hx63 hx0
        by_cases he : g = 1099511627776
        · rw [decide_eq_true he] at HR
          have hbq : (g == 1099511627776) = true := by simpa using he
          clear he
          go_enter Tryz.func127, Tryz.ntmps127
          go_upto_region 1 with fail
          rw [HW.out, ← HP.out]
          go_wp2_with fail
          go_at_call 141
          refine (HG.out W).mono ?_
          rintro e w1 ⟨rfl, o⟩
          have O := Lib.hid (HB.out.1.trans o)
          have d1 := o.keeps c1
          clear o c0 c1 c2
          go_wp2
          go_ret
          exact ⟨ret_bool (by rw [HR.out]), O.out⟩
        · rw [decide_eq_false he] at HR
          have hbq : (g == 1099511627776) = false := by simpa using he
          go_enter Tryz.func127, Tryz.ntmps127
          go_upto_region 1 with fail
          rw [HW.out, ← HP.out]
          go_wp2_with fail
          go_at_call 141
          refine (HG.out W).mono ?_
          rintro e w1 ⟨rfl, o⟩
          have O := Lib.hid (HB.out.1.trans o)
          have d1 := o.keeps c1
          clear o c0 c1 c2
          go_wp2
          go_ret
          exact ⟨ret_bool (by rw [HR.out]), O.out⟩
    · have HR := Lib.hid (rslot_word (gn := g) hx0)
      have hbq : (((x : Nat) : Int) == 0) = false := by simpa using hx0
      go_enter Tryz.func127, Tryz.ntmps127
      go_upto_region 1 with fail
      rw [HW.out, ← HP.out]
      go_wp2
      go_ret
      exact ⟨ret_bool (by rw [HR.out]), HB.out.1⟩
  · have HDEC := Lib.hid (dec_any hx63)
    obtain ⟨de, hde⟩ : ∃ de, de = dE (x : Nat) := ⟨_, rfl⟩
    rw [← hde] at HDEC
    have HSB := Lib.hid (fun h => rslot_used_bad (gn := g) (x := x) h)
    have HSU := Lib.hid (fun h => (rslot_used (gn := g) (x := x) h).trans (by rw [← hde]))
    clear hde hx63
    go_enter Tryz.func127, Tryz.ntmps127
    go_upto_region 1 with fail
    rw [HW.out, ← HP.out]
    go_wp2_with fail
    go_at_call 130
    refine (HDEC.out W).mono ?_
    rintro e w1 ⟨rfl, o⟩
    have O1 := Lib.hid (HB.out.1.trans o)
    have HB1 := Lib.hid (HBK.out.keep o id)
    clear o c0 c1 c2
    obtain ⟨W3, hW3, H3⟩ := box_val w1 (dK (x : Nat)) (dX (x : Nat))
    have HW3 := Lib.hid hW3
    have O3 := Lib.hid (O1.out.trans H3.out.1)
    have HB3 := Lib.hid (HB1.out.keep H3.out.1 id)
    have d0 := HB3.out.cell 0
    have d1 := HB3.out.cell 1
    have d2 := HB3.out.cell 2
    simp at d0 d1 d2
    clear hW3
    go_upto_region 4 with fail
    rw [HW3.out]
    cases hg : Slt.good (true, g, x) with
    | false =>
      rw [hg] at HG
      have HR := Lib.hid (HSB.out hg)
      clear hg
      go_wp2_with fail
      go_at_call 141
      refine (HG.out W3).mono ?_
      rintro e w4 ⟨rfl, o⟩
      have O4 := Lib.hid (O3.out.trans o)
      clear o d0 d1 d2
      go_wp2
      go_ret
      exact ⟨ret_bool (by rw [HR.out]), O4.out⟩
    | true =>
      rw [hg] at HG
      have HR := Lib.hid (HSU.out hg)
      clear hg
      go_wp2_with fail
      go_at_call 141
      refine (HG.out W3).mono ?_
      rintro e w4 ⟨rfl, o⟩
      have O4 := Lib.hid (O3.out.trans o)
      clear o d0 d1 d2
      by_cases hd : de = 0
      · subst hd
        go_wp2
        go_ret
        exact ⟨ret_bool (by rw [HR.out]; rfl), O4.out⟩
      · have hbq : (de == 0) = false := by simpa using hd
        rw [decide_eq_false hd] at HR
        go_wp2
        go_ret
        exact ⟨ret_bool (by rw [HR.out]), O4.out⟩
set_option maxHeartbeats 1000000 in
theorem right1_any14 (s : Slt) (hs : s.2.2 < full) (w : World) : Calls Tryz.prog 126 #[.agg #[.bool s.1, .int .i64 s.2.1, .int .u64 (s.2.2 : Nat)]] w fun e w' => e = .returned (.bool (!rightSlot dE s)) ∧ Only nob w w' := by
  obtain ⟨W, hW, HB⟩ := box_slot s w
  have HW := Lib.hid hW
  obtain ⟨-, hblk, c0, c1, c2⟩ := HB.out
  have HR := Lib.hid (isRight_any s hs W)
  obtain ⟨q, hq⟩ : ∃ q, q = rightSlot dE s := ⟨_, rfl⟩
  have HQ := Lib.hid hq
  rw [← hq] at HR ⊢
  obtain ⟨p, hp⟩ : ∃ p, p = w.heap.size := ⟨_, rfl⟩
  rw [← hp] at c0 c1 c2
  have HP := Lib.hid hp
  clear hW hp hblk hq
  go_enter Tryz.func126, Tryz.ntmps126
  go_upto_region 1 with fail
  rw [HW.out, ← HP.out]
  go_wp2_with fail
  go_at_call 127
  refine HR.out.mono ?_
  rintro e w1 ⟨rfl, o⟩
  have O := Lib.hid (HB.out.1.trans o)
  clear o c0 c1 c2
  go_wp2
  go_ret
  exact ⟨rfl, O.out⟩
theorem wrong_pred (w : World) : PredS 126 #[] (fun s => !rightSlot dE s) w :=
  ⟨enters_of Tryz.func126 (by kernel_rfl) rfl, fun s hs W _ => right1_any14 s hs.2.2 W⟩
theorem rightS_all {l : List Slt} {n : Int} (h1 : 1 ≤ n ∧ n ≤ 1024) (h2 : (l.length : Int) = n) : rightS dE l n = !(l.any fun s => !rightSlot dE s) := by
  unfold rightS
  rw [decide_eq_true ⟨h2, h1⟩, Bool.true_and, Bool.eq_iff_iff]
  simp
set_option maxHeartbeats 2000000 in
theorem right_any14 : RightC 105 := by
  intro v l n B w hv hB hl hok
  have HA := Lib.hid hv
  have HOK := Lib.hid hok
  have HC := Lib.hid (isCount_any n w)
  obtain ⟨A, ca, rfl, hac, ham, -⟩ := hv
  unfold maxLen at ham
  clear hok
  by_cases hn : 1 ≤ n ∧ n ≤ 1024
  · rw [decide_eq_true hn] at HC
    by_cases hln : (l.length : Int) = n
    · have HR := Lib.hid (rightS_all (l := l) hn hln)
      obtain ⟨q, hq⟩ : ∃ q, q = l.any fun s => !rightSlot dE s := ⟨_, rfl⟩
      rw [← hq] at HR
      have HQ := Lib.hid hq
      obtain ⟨r, hr⟩ : ∃ r, r = rightS dE l n := ⟨_, rfl⟩
      rw [← hr] at HR ⊢
      clear hq hn hr
      subst hln
      go_enter Tryz.func105, Tryz.ntmps105
      go_wp2_with fail
      go_at_call 74
      refine HC.out.mono ?_
      rintro e w1 ⟨rfl, o⟩
      have O := Lib.hid o
      clear o
      go_wp2_with fail
      go_at_call 128
      refine (containsFunc_slots _ #[] _ _ l B w1 (wrong_pred w1) (HA.out.below (O.out.below hB fun _ h => h.elim)) (Nat.le_trans hB O.out.size) HOK.out).mono ?_
      rw [← HQ.out]
      rintro e w2 ⟨rfl, o2⟩
      have O2 := Lib.hid (O.out.trans o2)
      clear o2
      go_wp2
      go_ret
      exact ⟨ret_bool (by rw [HR.out]), O2.out⟩
    · have HR := Lib.hid (rightS_no (l := l) (n := n) (fun h => hln h.1))
      have hbq : ((l.length : Int) == n) = false := by simpa using hln
      clear hn
      go_enter Tryz.func105, Tryz.ntmps105
      go_wp2_with fail
      go_at_call 74
      refine HC.out.mono ?_
      rintro e w1 ⟨rfl, o⟩
      have O := Lib.hid o
      clear o
      go_wp2
      go_ret
      exact ⟨ret_bool (by rw [HR.out]), O.out⟩
  · rw [decide_eq_false hn] at HC
    have HR := Lib.hid (rightS_no (l := l) (n := n) (fun h => hn h.2))
    clear hn
    go_enter Tryz.func105, Tryz.ntmps105
    go_wp2_with fail
    go_at_call 74
    refine HC.out.mono ?_
    rintro e w1 ⟨rfl, o⟩
    have O := Lib.hid o
    clear o
    go_wp2
    go_ret
    exact ⟨ret_bool (by rw [HR.out]), O.out⟩
end Go.Proofs.YtciidodmhigpdaaGreatDoor
