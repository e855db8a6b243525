/- Plain mathematics of spans: the words of some, joined spans are the only ones of their kind, order, pieces between ends. No program in it. -/
import Derived.Test.YtmnehonmbjnnaaaBase
import Derived.Test.YtmnehonmbjnnaaaRows
import Derived.Test.YtmnehonmbjnnaaaMem
import Derived.Test.YtmnehonmbjnnaaaOpens
import Derived.Deep.QuietTactic
import Derived.BigQuiet
import Derived.StillTailTactics
import Derived.Deep.DeepCutAuto
import Derived.Deep.CutBlock
import Derived.Lib.SmallJoins
namespace Go.Proofs.Ytmnehonmbjnnaaa
open Go.RowKit

/-- A span: where it begins, how many words it has. -/
abbrev Sp := Int × Int
def most : Int := 1099511627776
def Sp.ok (x : Sp) : Prop := 0 ≤ x.1 ∧ 1 ≤ x.2 ∧ x.1 ≤ most ∧ x.2 ≤ most - x.1
instance (x : Sp) : Decidable x.ok := by unfold Sp.ok; infer_instance
def Sp.has (x : Sp) (p : Int) : Prop := x.ok ∧ x.1 ≤ p ∧ p < x.1 + x.2
instance (x : Sp) (p : Int) : Decidable (x.has p) := by unfold Sp.has; infer_instance
/-- One of l has a word at p. -/
def cov (l : List Sp) (p : Int) : Prop := ∃ x ∈ l, Sp.has x p
theorem cov_nil (p : Int) : ¬ cov [] p := by rintro ⟨x, h, _⟩; cases h
theorem cov_cons {x : Sp} {l : List Sp} {p : Int} : cov (x :: l) p ↔ x.has p ∨ cov l p := by
  constructor
  · rintro ⟨y, hy, hp⟩
    rcases List.mem_cons.1 hy with rfl | hy
    · exact .inl hp
    · exact .inr ⟨y, hy, hp⟩
  · rintro (h | ⟨y, hy, hp⟩)
    · exact ⟨x, List.mem_cons_self, h⟩
    · exact ⟨y, List.mem_cons_of_mem _ hy, hp⟩
theorem cov_append {l m : List Sp} {p : Int} : cov (l ++ m) p ↔ cov l p ∨ cov m p := by
  constructor
  · rintro ⟨y, hy, hp⟩
    rcases List.mem_append.1 hy with hy | hy
    · exact .inl ⟨y, hy, hp⟩
    · exact .inr ⟨y, hy, hp⟩
  · rintro (⟨y, hy, hp⟩ | ⟨y, hy, hp⟩)
    · exact ⟨y, List.mem_append_left _ hy, hp⟩
    · exact ⟨y, List.mem_append_right _ hy, hp⟩
theorem cov_one {x : Sp} {p : Int} : cov [x] p ↔ x.has p := by rw [cov_cons]; exact ⟨fun h => h.elim id fun h => absurd h (cov_nil p), .inl⟩
theorem cov_perm {l m : List Sp} (h : l.Perm m) (p : Int) : cov l p ↔ cov m p := ⟨fun ⟨x, hx, hp⟩ => ⟨x, h.mem_iff.1 hx, hp⟩, fun ⟨x, hx, hp⟩ => ⟨x, h.mem_iff.2 hx, hp⟩⟩

/-- Joined: each may be, rising, none meets or touches another one. -/
def Joined (l : List Sp) : Prop := (∀ x ∈ l, Sp.ok x) ∧ l.Pairwise fun x y => x.1 + x.2 < y.1
theorem Joined.nil : Joined [] := ⟨(fun _ h => by cases h), List.Pairwise.nil⟩
theorem Joined.tail {x : Sp} {l : List Sp} (h : Joined (x :: l)) : Joined l := ⟨fun y hy => h.1 y (List.mem_cons_of_mem _ hy), (List.pairwise_cons.1 h.2).2⟩
theorem Joined.head {x : Sp} {l : List Sp} (h : Joined (x :: l)) : x.ok := h.1 x List.mem_cons_self
theorem Joined.lt {x : Sp} {l : List Sp} (h : Joined (x :: l)) : ∀ y ∈ l, x.1 + x.2 < y.1 := (List.pairwise_cons.1 h.2).1
theorem Joined.first {x : Sp} {l : List Sp} (h : Joined (x :: l)) {p : Int} (hp : cov (x :: l) p) : x.1 ≤ p := by
  rcases cov_cons.1 hp with hp | ⟨y, hy, hp⟩
  · exact hp.2.1
  · have := h.lt y hy
    have := h.head.2.1
    have := hp.2.1
    omega
theorem Joined.begins {x : Sp} {l : List Sp} (h : Joined (x :: l)) : cov (x :: l) x.1 := cov_cons.2 (.inl ⟨h.head, Int.le_refl _, by have := h.head.2.1; omega⟩)
theorem Joined.ends {x : Sp} {l : List Sp} (h : Joined (x :: l)) : ¬ cov (x :: l) (x.1 + x.2) := by
  intro hc
  rcases cov_cons.1 hc with hp | ⟨y, hy, hp⟩
  · have := hp.2.2; omega
  · have := h.lt y hy
    have := hp.2.1
    omega
theorem joined_unique : ∀ {l m : List Sp}, Joined l → Joined m → (∀ p, cov l p ↔ cov m p) → l = m
  | [], [], _, _, _ => rfl
  | [], _ :: _, _, hm, h => absurd ((h _).2 hm.begins) (cov_nil _)
  | _ :: _, [], hl, _, h => absurd ((h _).1 hl.begins) (cov_nil _)
  | x :: l, y :: m, hl, hm, h => by
    have h1 : x.1 = y.1 := Int.le_antisymm (hl.first ((h _).2 hm.begins)) (hm.first ((h _).1 hl.begins))
    have h2 : x.2 = y.2 := by
      rcases Int.lt_trichotomy x.2 y.2 with hlt | he | hgt
      · exact absurd ((h _).2 (cov_cons.2 (.inl ⟨hm.head, by have := hl.head.2.1; omega, by omega⟩))) hl.ends
      · exact he
      · exact absurd ((h _).1 (cov_cons.2 (.inl ⟨hl.head, by have := hm.head.2.1; omega, by omega⟩))) hm.ends
    have hxy : x = y := Prod.ext h1 h2
    subst hxy
    have ht : ∀ p, cov l p ↔ cov m p := by
      intro p
      constructor
      · intro hp
        obtain ⟨z, hz, hzp⟩ := hp
        rcases cov_cons.1 ((h p).1 (cov_cons.2 (.inr ⟨z, hz, hzp⟩))) with hx | hx
        · have := hl.lt z hz
          have := hzp.2.1
          have := hx.2.2
          omega
        · exact hx
      · intro hp
        obtain ⟨z, hz, hzp⟩ := hp
        rcases cov_cons.1 ((h p).2 (cov_cons.2 (.inr ⟨z, hz, hzp⟩))) with hx | hx
        · have := hm.lt z hz
          have := hzp.2.1
          have := hx.2.2
          omega
        · exact hx
    rw [joined_unique hl.tail hm.tail ht]

/-- At first, then Size: what Sort goes by. -/
def Sp.le (x y : Sp) : Prop := x.1 < y.1 ∨ x.1 = y.1 ∧ x.2 ≤ y.2
def Sp.lt (x y : Sp) : Prop := x.1 < y.1 ∨ x.1 = y.1 ∧ x.2 < y.2
instance (x y : Sp) : Decidable (Sp.le x y) := by unfold Sp.le; infer_instance
instance (x y : Sp) : Decidable (Sp.lt x y) := by unfold Sp.lt; infer_instance
theorem Sp.le_trans {x y z : Sp} (h : Sp.le x y) (k : Sp.le y z) : Sp.le x z := by unfold Sp.le at *; omega
theorem Sp.le_of_lt {x y : Sp} (h : Sp.lt x y) : Sp.le x y := by unfold Sp.le Sp.lt at *; omega
theorem Sp.not_lt {x y : Sp} : ¬ Sp.lt x y ↔ Sp.le y x := by unfold Sp.le Sp.lt at *; omega
def Sorted (l : List Sp) : Prop := l.Pairwise Sp.le
theorem sorted_unique {l m : List Sp} (hl : Sorted l) (hm : Sorted m) (h : l.Perm m) : l = m :=
  List.Perm.eq_of_pairwise (le := Sp.le) (fun a b _ _ h1 h2 => Prod.ext (by unfold Sp.le at h1 h2; omega) (by unfold Sp.le at h1 h2; omega)) hl hm h
/-- One more is put in behind those that are not greater. -/
theorem sorted_put {l : List Sp} (hl : Sorted l) (x : Sp) (k : Nat) (hk : k ≤ l.length) (hb : ∀ j (h : j < l.length), k ≤ j → Sp.lt x l[j]) (ha : k = 0 ∨ ∃ h : k - 1 < l.length, ¬ Sp.lt x (l[k-1]'h)) :
    Sorted (l.take k ++ x :: l.drop k) ∧ (l.take k ++ x :: l.drop k).Perm (x :: l) := by
  constructor
  · unfold Sorted at *
    rw [List.pairwise_append, List.pairwise_cons]
    refine ⟨hl.sublist (List.take_sublist _ _), ⟨fun y hy => ?_, hl.sublist (List.drop_sublist _ _)⟩, fun a haa b hbb => ?_⟩
    · obtain ⟨j, hj, rfl⟩ := List.getElem_of_mem hy
      rw [List.getElem_drop]
      exact Sp.le_of_lt (hb _ _ (by omega))
    · obtain ⟨i, hi, rfl⟩ := List.getElem_of_mem haa
      simp only [List.length_take] at hi
      rw [List.getElem_take]
      rcases ha with rfl | ⟨h1, h2⟩
      · omega
      · have hle : Sp.le (l[i]'(by omega)) (l[k-1]'h1) := by
          rcases Nat.lt_or_ge i (k - 1) with hlt | hge
          · exact List.pairwise_iff_getElem.1 hl i (k - 1) _ _ hlt
          · obtain rfl : i = k - 1 := by omega
            unfold Sp.le; omega
        have hx : Sp.le (l[k-1]'h1) x := Sp.not_lt.1 h2
        rcases List.mem_cons.1 hbb with rfl | hbb
        · exact Sp.le_trans hle hx
        · obtain ⟨j, hj, rfl⟩ := List.getElem_of_mem hbb
          rw [List.getElem_drop]
          exact Sp.le_trans hle (Sp.le_trans hx (Sp.le_of_lt (hb _ _ (by omega))))
  · have h1 : (l.take k ++ x :: l.drop k).Perm (x :: (l.take k ++ l.drop k)) := List.perm_middle
    rwa [List.take_append_drop] at h1

/-- Places rising, each once. -/
def Rising (l : List Int) : Prop := l.Pairwise (· < ·)

/-- A piece laid behind; joined to the last one, if it touches it. -/
def putL (out : List Sp) (x y : Int) : List Sp :=
  match out.getLast? with
  | some z => if z.1 + z.2 = x then out.dropLast ++ [(z.1, y - z.1)] else out ++ [(x, y - x)]
  | none => out ++ [(x, y - x)]
/-- What has been laid up to e: the places of Q below e, joined. -/
def Laid (Q : Int → Prop) (e : Int) (out : List Sp) : Prop := Joined out ∧ (∀ p, cov out p ↔ Q p ∧ p < e) ∧ ∀ x ∈ out, x.1 + x.2 ≤ e
theorem laid_put {Q : Int → Prop} {e f : Int} {out : List Sp} (h : Laid Q e out) (hef : e < f) (h0 : 0 ≤ e) (hf : f ≤ most) (hq : ∀ p, e ≤ p → p < f → Q p) : Laid Q f (putL out e f) := by
  obtain ⟨hj, hc, he⟩ := h
  have hokp : ∀ a : Int, 0 ≤ a → a < f → Sp.ok (a, f - a) := fun a h1 h2 => by unfold Sp.ok; simp only; omega
  have case1 : ∀ (pre : List Sp), out = pre → (∀ x ∈ pre, x.1 + x.2 < e) → Laid Q f (pre ++ [(e, f - e)]) := by
    rintro pre rfl hlt
    refine ⟨⟨fun x hx => ?_, ?_⟩, fun p => ?_, fun x hx => ?_⟩
    · rcases List.mem_append.1 hx with hx | hx
      · exact hj.1 x hx
      · obtain rfl := List.mem_singleton.1 hx; exact hokp e h0 hef
    · rw [List.pairwise_append]
      exact ⟨hj.2, List.pairwise_singleton _ _, fun a ha b hb => by obtain rfl := List.mem_singleton.1 hb; exact hlt a ha⟩
    · rw [cov_append, cov_one, hc]
      constructor
      · rintro (⟨h1, h2⟩ | ⟨_, h2, h3⟩)
        · exact ⟨h1, by omega⟩
        · simp only at h2 h3; exact ⟨hq p h2 (by omega), by omega⟩
      · rintro ⟨h1, h2⟩
        rcases Int.lt_or_le p e with h3 | h3
        · exact .inl ⟨h1, h3⟩
        · exact .inr ⟨hokp e h0 hef, h3, by simp only; omega⟩
    · rcases List.mem_append.1 hx with hx | hx
      · have := he x hx; omega
      · obtain rfl := List.mem_singleton.1 hx; simp only; omega
  unfold putL
  rcases List.eq_nil_or_concat out with rfl | ⟨pre, z, hcat⟩
  · exact case1 [] rfl (fun _ h => by cases h)
  · rw [List.concat_eq_append] at hcat
    subst hcat
    rw [List.getLast?_concat]
    simp only
    have hpz := List.pairwise_append.1 hj.2
    have hzok := hj.1 z (by simp)
    split
    · rename_i hz
      rw [List.dropLast_concat]
      have hz1 : 0 ≤ z.1 ∧ z.1 < e := ⟨hzok.1, by have := hzok.2.1; omega⟩
      refine ⟨⟨fun x hx => ?_, ?_⟩, fun p => ?_, fun x hx => ?_⟩
      · rcases List.mem_append.1 hx with hx | hx
        · exact hj.1 x (List.mem_append_left _ hx)
        · obtain rfl := List.mem_singleton.1 hx; exact hokp z.1 hz1.1 (by omega)
      · rw [List.pairwise_append]
        exact ⟨hpz.1, List.pairwise_singleton _ _, fun a ha b hb => by obtain rfl := List.mem_singleton.1 hb; exact hpz.2.2 a ha z (by simp)⟩
      · rw [cov_append, cov_one]
        have hcp := hc p
        rw [cov_append, cov_one] at hcp
        constructor
        · rintro (h1 | ⟨_, h2, h3⟩)
          · have := hcp.1 (.inl h1); exact ⟨this.1, by omega⟩
          · simp only at h2 h3
            rcases Int.lt_or_le p e with h4 | h4
            · exact ⟨(hcp.1 (.inr ⟨hzok, h2, by omega⟩)).1, by omega⟩
            · exact ⟨hq p h4 (by omega), by omega⟩
        · rintro ⟨h1, h2⟩
          rcases Int.lt_or_le p e with h3 | h3
          · rcases hcp.2 ⟨h1, h3⟩ with h4 | h4
            · exact .inl h4
            · exact .inr ⟨hokp z.1 hz1.1 (by omega), h4.2.1, by have := h4.2.2; simp only; omega⟩
          · exact .inr ⟨hokp z.1 hz1.1 (by omega), by simp only; omega, by simp only; omega⟩
      · rcases List.mem_append.1 hx with hx | hx
        · have := he x (List.mem_append_left _ hx); omega
        · obtain rfl := List.mem_singleton.1 hx; simp only; omega
    · rename_i hz
      refine case1 _ rfl fun x hx => ?_
      rcases List.mem_append.1 hx with hx | hx
      · have h1 := hpz.2.2 x hx z (by simp)
        have h2 := he z (by simp)
        have := hzok.2.1
        omega
      · obtain rfl := List.mem_singleton.1 hx
        have := he x (by simp)
        omega
theorem laid_skip {Q : Int → Prop} {e f : Int} {out : List Sp} (h : Laid Q e out) (hef : e < f) (hq : ∀ p, e ≤ p → p < f → ¬ Q p) : Laid Q f out := by
  obtain ⟨hj, hc, he⟩ := h
  refine ⟨hj, fun p => ?_, fun x hx => by have := he x hx; omega⟩
  rw [hc]
  constructor
  · rintro ⟨h1, h2⟩; exact ⟨h1, by omega⟩
  · rintro ⟨h1, h2⟩
    rcases Int.lt_or_le p e with h3 | h3
    · exact ⟨h1, h3⟩
    · exact absurd h1 (hq p h3 h2)
end Go.Proofs.Ytmnehonmbjnnaaa

/- Plain mathematics of joining sorted spans one by one, and of the gaps between joined ones. No program in it. -/
namespace Go.Proofs.Ytmnehonmbjnnaaa

theorem Joined.snoc {l : List Sp} {x : Sp} (h : Joined l) (hx : x.ok) (hb : ∀ y ∈ l, y.1 + y.2 < x.1) : Joined (l ++ [x]) := by
  constructor
  · intro y hy
    rcases List.mem_append.1 hy with hy | hy
    · exact h.1 y hy
    · rw [List.mem_singleton.1 hy]; exact hx
  · refine List.pairwise_append.2 ⟨h.2, List.pairwise_singleton _ _, fun a ha b hb' => ?_⟩
    rw [List.mem_singleton.1 hb']; exact hb a ha
theorem Joined.init {l : List Sp} {x : Sp} (h : Joined (l ++ [x])) : Joined l := ⟨fun y hy => h.1 y (List.mem_append_left _ hy), (List.pairwise_append.1 h.2).1⟩
theorem Joined.last {l : List Sp} {x : Sp} (h : Joined (l ++ [x])) : x.ok := h.1 x (by simp)
theorem Joined.below {l : List Sp} {x : Sp} (h : Joined (l ++ [x])) : ∀ y ∈ l, y.1 + y.2 < x.1 := fun y hy => (List.pairwise_append.1 h.2).2.2 y hy x (by simp)
/-- The last one grows. -/
theorem Joined.grow {l : List Sp} {x y : Sp} (h : Joined (l ++ [x])) (hy : y.ok) (h1 : y.1 = x.1) : Joined (l ++ [y]) := h.init.snoc hy (fun z hz => by rw [h1]; exact h.below z hz)

/-- l's spans joined so far, rising: the last one is cur. -/
structure Merge (l out : List Sp) (cur : Sp) : Prop where
  joined : Joined (out ++ [cur])
  words : ∀ p, cov (out ++ [cur]) p ↔ cov l p
theorem has_not_ok {x : Sp} (h : ¬ x.ok) (p : Int) : ¬ x.has p := fun hp => h hp.1
theorem cov_skip {l : List Sp} {x : Sp} (h : ¬ x.ok) (p : Int) : cov (l ++ [x]) p ↔ cov l p := by
  rw [cov_append, cov_one]; exact ⟨fun e => e.elim id fun e => absurd e (has_not_ok h p), .inl⟩
theorem Merge.skip {l out : List Sp} {cur x : Sp} (h : Merge l out cur) (hx : ¬ x.ok) : Merge (l ++ [x]) out cur := ⟨h.joined, fun p => (h.words p).trans (cov_skip hx p).symm⟩
theorem Merge.first {l : List Sp} {x : Sp} (h : ∀ p, ¬ cov l p) (hx : x.ok) : Merge (l ++ [x]) [] x :=
  ⟨Joined.nil.snoc hx (fun _ h => by cases h), fun p => by rw [List.nil_append, cov_append]; exact ⟨Or.inr, fun e => e.elim (fun e => absurd e (h p)) id⟩⟩
/-- The next one begins behind cur's end: cur is done with. -/
theorem Merge.next {l out : List Sp} {cur x : Sp} (h : Merge l out cur) (hx : x.ok) (hb : cur.1 + cur.2 < x.1) : Merge (l ++ [x]) (out ++ [cur]) x := by
  refine ⟨h.joined.snoc hx fun y hy => ?_, fun p => ?_⟩
  · rcases List.mem_append.1 hy with hy | hy
    · have := h.joined.below y hy
      have := h.joined.last.2.1
      omega
    · rw [List.mem_singleton.1 hy]; exact hb
  · rw [cov_append (l := out ++ [cur]), cov_append (l := l), h.words]
/-- The next one meets cur or touches it: cur grows to e. -/
theorem Merge.grow {l out : List Sp} {cur x : Sp} (h : Merge l out cur) (hx : x.ok) (ha : cur.1 ≤ x.1) (hb : x.1 ≤ cur.1 + cur.2) {s : Int} (hs : s = max (cur.1 + cur.2) (x.1 + x.2) - cur.1) : Merge (l ++ [x]) out (cur.1, s) := by
  have hc := h.joined.last
  unfold Sp.ok at hc hx
  have hy : Sp.ok (cur.1, s) := by unfold Sp.ok; simp only; omega
  refine ⟨h.joined.grow hy rfl, fun p => ?_⟩
  rw [cov_append, cov_append, ← h.words, cov_append, cov_one, cov_one, cov_one, or_assoc]
  have hh : Sp.has (cur.1, s) p ↔ cur.has p ∨ x.has p := by
    unfold Sp.has
    simp only [show Sp.ok (cur.1, s) from hy, show Sp.ok cur from hc, show Sp.ok x from hx, true_and]
    omega
  rw [hh]

/-- What was joined is done with: words from now on begin at b or later. -/
theorem joined_of_merge {l out : List Sp} {cur : Sp} (h : Merge l out cur) : Joined (out ++ [cur]) ∧ ∀ p, cov (out ++ [cur]) p ↔ cov l p := ⟨h.joined, h.words⟩

/-- The gaps of x so far: what of x lies below 'from' and in none of the joined ones gone over. -/
structure GapsAt (x : Sp) (l O : List Sp) (frm : Int) : Prop where
  joined : Joined O
  words : ∀ p, cov O p ↔ x.has p ∧ p < frm ∧ ¬ cov l p
  behind : ∀ y ∈ l, y.1 + y.2 ≤ frm
  low : x.1 ≤ frm
  /-- The word right ahead of frm is no gap's, unless frm is x's first. -/
  shut : frm = x.1 ∨ (cov l (frm - 1))
  /-- A gap's words lie below where one of l begins. -/
  under : ∀ p, cov O p → ∃ z ∈ l, p < z.1
theorem GapsAt.start (x : Sp) : GapsAt x [] [] x.1 :=
  ⟨Joined.nil, fun p => ⟨fun h => absurd h (cov_nil p), fun h => by have := h.1.2.1; have := h.2.1; omega⟩, (fun _ h => by cases h), Int.le_refl _, .inl rfl, fun p h => absurd h (cov_nil p)⟩
theorem GapsAt.ends {x : Sp} {l O : List Sp} {frm : Int} (h : GapsAt x l O frm) : ∀ y ∈ O, y.1 + y.2 < frm := by
  intro y hy
  have hok := h.joined.1 y hy
  unfold Sp.ok at hok
  have hl : y.has (y.1 + y.2 - 1) := ⟨hok, by omega, by omega⟩
  have hw := (h.words _).1 ⟨y, hy, hl⟩
  rcases Int.lt_or_le (y.1 + y.2) frm with hlt | hge
  · exact hlt
  · exfalso
    have he : y.1 + y.2 = frm := by have := hw.2.1; omega
    rcases h.shut with hs | hs
    · have := hw.1.2.1; omega
    · rw [he] at hw; exact hw.2.2 hs
/-- One more joined span y is gone over; it begins behind frm within x: a gap. -/
theorem GapsAt.gap {x y : Sp} {l O : List Sp} {frm : Int} (h : GapsAt x l O frm) (hx : x.ok) (hy : y.ok) (hlt : frm < y.1) (hin : y.1 < x.1 + x.2) {s : Int} (hs : s = y.1 - frm) :
    GapsAt x (l ++ [y]) (O ++ [(frm, s)]) (y.1 + y.2) := by
  have hl := h.low
  have hxx := hx
  unfold Sp.ok most at hx hy
  have hok : Sp.ok (frm, s) := by unfold Sp.ok most; simp only; omega
  have hyok : y.ok := by unfold Sp.ok most; omega
  refine ⟨h.joined.snoc hok h.ends, fun p => ?_, fun z hz => ?_, by omega, .inr ?_, fun p hp => ?_⟩
  · rw [cov_append, cov_one, cov_append, cov_one, h.words]
    have hcl : cov l p → p < frm := by
      rintro ⟨z, hz, hp⟩
      have := h.behind z hz
      have := hp.2.2
      omega
    constructor
    · rintro (⟨h1, h2, h3⟩ | h1)
      · exact ⟨h1, by omega, fun e => e.elim h3 fun e => by have := e.2.1; omega⟩
      · have := h1.2.1
        have := h1.2.2
        simp only at *
        exact ⟨⟨hxx, by omega, by omega⟩, by omega, fun e => e.elim (fun e => by have := hcl e; omega) fun e => by have := e.2.1; omega⟩
    · rintro ⟨h1, h2, h3⟩
      rcases Int.lt_or_le p frm with hp | hp
      · exact .inl ⟨h1, hp, fun e => h3 (.inl e)⟩
      · refine .inr ⟨hok, hp, ?_⟩
        simp only
        rcases Int.lt_or_le p y.1 with hq | hq
        · omega
        · exact absurd (.inr ⟨hyok, hq, h2⟩) h3
  · rcases List.mem_append.1 hz with hz | hz
    · have := h.behind z hz; omega
    · rw [List.mem_singleton.1 hz]; exact Int.le_refl _
  · exact cov_append.2 (.inr (cov_one.2 ⟨hyok, by omega, by omega⟩))
  · rcases cov_append.1 hp with hp | hp
    · obtain ⟨z, hz, hlt⟩ := h.under p hp
      exact ⟨z, List.mem_append_left _ hz, hlt⟩
    · have := (cov_one.1 hp).2.2
      exact ⟨y, by simp, by simp only at this; omega⟩
/-- One more span that leaves no gap: it begins at frm or below. -/
theorem GapsAt.none {x y : Sp} {l O : List Sp} {frm e : Int} (h : GapsAt x l O frm) (hy : y.ok) (hr : ∀ z ∈ l, z.1 ≤ y.1) (hle : y.1 ≤ frm) (he : e = max frm (y.1 + y.2)) : GapsAt x (l ++ [y]) O e := by
  have hl := h.low
  have hyok := hy
  unfold Sp.ok most at hy
  refine ⟨h.joined, fun p => ?_, fun z hz => ?_, by omega, ?_, fun p hp => ?_⟩
  · rw [cov_append, cov_one, h.words]
    constructor
    · rintro ⟨h1, h2, h3⟩
      refine ⟨h1, by omega, fun hc => hc.elim h3 fun hc => ?_⟩
      obtain ⟨z, hz, hlt⟩ := h.under p ((h.words p).2 ⟨h1, h2, h3⟩)
      have := hr z hz
      have := hc.2.1
      omega
    · rintro ⟨h1, h2, h3⟩
      refine ⟨h1, ?_, fun hc => h3 (.inl hc)⟩
      rcases Int.lt_or_le p frm with hp | hp
      · exact hp
      · exact absurd (.inr ⟨hyok, by omega, by omega⟩) h3
  · rcases List.mem_append.1 hz with hz | hz
    · have := h.behind z hz; omega
    · rw [List.mem_singleton.1 hz]; omega
  · rcases Int.lt_or_le frm (y.1 + y.2) with hp | hp
    · exact .inr (cov_append.2 (.inr (cov_one.2 ⟨hyok, by omega, by omega⟩)))
    · rw [show e = frm by omega]
      exact h.shut.elim .inl fun hc => .inr (cov_append.2 (.inl hc))
  · obtain ⟨z, hz, hlt⟩ := h.under p hp
    exact ⟨z, List.mem_append_left _ hz, hlt⟩
/-- Spans that may not be leave none. -/
theorem GapsAt.skip {x y : Sp} {l O : List Sp} {frm : Int} (h : GapsAt x l O frm) (hy : ¬ y.ok) (hb : y.1 + y.2 ≤ frm) : GapsAt x (l ++ [y]) O frm := by
  refine ⟨h.joined, fun p => ?_, fun z hz => ?_, h.low, ?_, fun p hp => ?_⟩
  · rw [cov_skip hy, h.words]
  · rcases List.mem_append.1 hz with hz | hz
    · exact h.behind z hz
    · rw [List.mem_singleton.1 hz]; exact hb
  · rw [cov_skip hy]; exact h.shut
  · obtain ⟨z, hz, hlt⟩ := h.under p hp
    exact ⟨z, List.mem_append_left _ hz, hlt⟩
/-- At the end: what is left of x behind frm is a gap; the spans not gone over begin behind x. -/
theorem GapsAt.rest {x : Sp} {l m O : List Sp} {frm : Int} (h : GapsAt x l O frm) (hx : x.ok) (hm : ∀ z ∈ m, z.ok → x.1 + x.2 ≤ z.1) (hlt : frm < x.1 + x.2) {s : Int} (hs : s = x.1 + x.2 - frm) :
    Joined (O ++ [(frm, s)]) ∧ ∀ p, cov (O ++ [(frm, s)]) p ↔ x.has p ∧ ¬ cov (l ++ m) p := by
  have hl := h.low
  have hxx := hx
  unfold Sp.ok most at hx
  have hok : Sp.ok (frm, s) := by unfold Sp.ok most; simp only; omega
  refine ⟨h.joined.snoc hok h.ends, fun p => ?_⟩
  rw [cov_append, cov_one, cov_append, h.words]
  have hcl : cov l p → p < frm := by
    rintro ⟨z, hz, hp⟩
    have := h.behind z hz
    have := hp.2.2
    omega
  have hcm : cov m p → x.1 + x.2 ≤ p := by
    rintro ⟨z, hz, hp⟩
    have := hm z hz hp.1
    have := hp.2.1
    omega
  constructor
  · rintro (⟨h1, h2, h3⟩ | h1)
    · exact ⟨h1, fun e => e.elim h3 fun e => by have := hcm e; have := h1.2.2; omega⟩
    · have h2 := h1.2.1
      have h3 := h1.2.2
      simp only at h2 h3
      exact ⟨⟨hxx, by omega, by omega⟩, fun e => e.elim (fun e => by have := hcl e; omega) fun e => by have := hcm e; omega⟩
  · rintro ⟨h1, h2⟩
    rcases Int.lt_or_le p frm with hp | hp
    · exact .inl ⟨h1, hp, fun e => h2 (.inl e)⟩
    · have := h1.2.2
      exact .inr ⟨hok, hp, by simp only; omega⟩
theorem GapsAt.over {x : Sp} {l m O : List Sp} {frm : Int} (h : GapsAt x l O frm) (hm : ∀ z ∈ m, z.ok → x.1 + x.2 ≤ z.1) (hge : x.1 + x.2 ≤ frm) :
    Joined O ∧ ∀ p, cov O p ↔ x.has p ∧ ¬ cov (l ++ m) p := by
  refine ⟨h.joined, fun p => ?_⟩
  rw [cov_append, h.words]
  have hcm : cov m p → x.1 + x.2 ≤ p := by
    rintro ⟨z, hz, hp⟩
    have := hm z hz hp.1
    have := hp.2.1
    omega
  constructor
  · rintro ⟨h1, h2, h3⟩
    exact ⟨h1, fun e => e.elim h3 fun e => by have := hcm e; have := h1.2.2; omega⟩
  · rintro ⟨h1, h2⟩
    have := h1.2.2
    exact ⟨h1, by omega, fun e => h2 (.inl e)⟩
end Go.Proofs.Ytmnehonmbjnnaaa

/- Plain mathematics of going over sorted spans row by row. No program in it. -/
namespace Go.Proofs.Ytmnehonmbjnnaaa

/-- Where a joined span begins, one of the spans begins. -/
theorem joined_starts {l O : List Sp} {y : Sp} (hj : Joined O) (hc : ∀ p, cov O p ↔ cov l p) (hy : y ∈ O) : ∃ z ∈ l, z.1 = y.1 := by
  have hok := hj.1 y hy
  have h0 : y.has y.1 := ⟨hok, Int.le_refl _, by have := hok.2.1; omega⟩
  obtain ⟨z, hz, hzp⟩ := (hc _).1 ⟨y, hy, h0⟩
  refine ⟨z, hz, ?_⟩
  rcases Int.lt_or_eq_of_le hzp.2.1 with hlt | he
  · exfalso
    have h1 : z.has (y.1 - 1) := ⟨hzp.1, by omega, by have := hzp.2.2; omega⟩
    obtain ⟨u, hu, hup⟩ := (hc _).2 ⟨z, hz, h1⟩
    obtain ⟨i, hi, rfl⟩ := List.getElem_of_mem hy
    obtain ⟨j, hjj, rfl⟩ := List.getElem_of_mem hu
    have h2 := hup.2.1
    have h3 := hup.2.2
    rcases Nat.lt_trichotomy i j with h | h | h
    · have := List.pairwise_iff_getElem.1 hj.2 i j hi hjj h
      have := hok.2.1
      omega
    · subst h; omega
    · have := List.pairwise_iff_getElem.1 hj.2 j i hjj hi h
      omega
  · exact he
theorem merge_exists : ∀ (n : Nat) (M : List Sp), M.length = n → Sorted M → (∀ x ∈ M, Sp.ok x) → M ≠ [] → ∃ out cur, Merge M out cur
  | 0, M, h, _, _, hne => absurd (List.eq_nil_of_length_eq_zero h) hne
  | n + 1, M, h, hs, hok, hne => by
    rcases List.eq_nil_or_concat M with rfl | ⟨M', x, rfl⟩
    · exact absurd rfl hne
    · rw [List.concat_eq_append] at *
      have hx := hok x (by simp)
      have hs' : Sorted M' := (List.pairwise_append.1 hs).1
      have hlt := (List.pairwise_append.1 hs).2.2
      by_cases hM : M' = []
      · subst hM; exact ⟨[], x, Merge.first (fun p => cov_nil p) hx⟩
      · obtain ⟨out, cur, m⟩ := merge_exists n M' (by simpa using h) hs' (fun y hy => hok y (List.mem_append_left _ hy)) hM
        by_cases hb : cur.1 + cur.2 < x.1
        · exact ⟨_, _, m.next hx hb⟩
        · obtain ⟨z, hz, he⟩ := joined_starts m.joined m.words (y := cur) (by simp)
          have := hlt z hz x (by simp)
          unfold Sp.le at this
          exact ⟨_, _, m.grow hx (by omega) (by omega) rfl⟩
theorem join_exists (M : List Sp) (hs : Sorted M) (hok : ∀ x ∈ M, Sp.ok x) : ∃ O, Joined O ∧ ∀ p, cov O p ↔ cov M p := by
  by_cases hM : M = []
  · subst hM; exact ⟨[], Joined.nil, fun _ => Iff.rfl⟩
  · obtain ⟨out, cur, m⟩ := merge_exists _ M rfl hs hok hM
    exact ⟨_, m.joined, m.words⟩

/-- P: the rows of the first k of L's spans; none of them reaches the next one. -/
structure Past (L : List Sp) (k : Nat) (P : List Sp) : Prop where
  joined : Joined P
  words : ∀ p, cov P p ↔ cov (L.take k) p
  ends : ∀ y ∈ P, ∀ x, L[k]? = some x → y.1 + y.2 < x.1
  len : P.length ≤ k
  kle : k ≤ L.length
theorem Past.start (L : List Sp) : Past L 0 [] := ⟨Joined.nil, fun p => by simp [cov], (fun _ h => by cases h), Nat.le_refl _, Nat.zero_le _⟩
theorem sorted_ge {L : List Sp} (hs : Sorted L) {k : Nat} {x z : Sp} (hx : L[k]? = some x) (hz : z ∈ L.drop k) : x.1 ≤ z.1 := by
  obtain ⟨j, hj, rfl⟩ := List.getElem_of_mem hz
  obtain ⟨h1, rfl⟩ := List.getElem?_eq_some_iff.1 hx
  rw [List.getElem_drop]
  rcases Nat.eq_zero_or_pos j with h0 | h0
  · subst h0; exact Int.le_refl _
  · have := List.pairwise_iff_getElem.1 hs k (k + j) h1 (by simp at hj; omega) (by omega)
    unfold Sp.le at this; omega
theorem Past.next {L P : List Sp} {k m : Nat} {r : Sp} (h : Past L k P) (hs : Sorted L) (hm1 : 1 ≤ m) (hm2 : m ≤ (L.drop k).length) (hM : Merge ((L.drop k).take m) [] r) (hn : ∀ x, (L.drop k)[m]? = some x → r.1 + r.2 < x.1) : Past L (k + m) (P ++ [r]) := by
  have hlen : k + m ≤ L.length := by rw [List.length_drop] at hm2; omega
  obtain ⟨x, hx⟩ : ∃ x, L[k]? = some x := ⟨_, List.getElem?_eq_getElem (by omega)⟩
  have hr := hM.joined.1 r (by simp)
  obtain ⟨z, hz, he⟩ := joined_starts hM.joined hM.words (y := r) (by simp)
  have hxr : x.1 ≤ r.1 := by rw [← he]; exact sorted_ge hs hx (List.mem_of_mem_take hz)
  refine ⟨h.joined.snoc hr fun y hy => ?_, fun p => ?_, fun y hy u hu => ?_, by simp; have := h.len; omega, hlen⟩
  · have := h.ends y hy x hx; omega
  · rw [cov_append, h.words, List.take_add, cov_append]
    have := hM.words p
    rw [List.nil_append] at this
    rw [this]
  · have hu' : (L.drop k)[m]? = some u := by rw [List.getElem?_drop]; exact hu
    rcases List.mem_append.1 hy with hy | hy
    · have h1 := h.ends y hy x hx
      have h2 := sorted_ge hs hx (List.mem_of_getElem? hu')
      omega
    · rw [List.mem_singleton.1 hy]; exact hn u hu'
theorem Past.all {L P : List Sp} (h : Past L L.length P) : Joined P ∧ ∀ p, cov P p ↔ cov L p := ⟨h.joined, fun p => by rw [h.words, List.take_length]⟩
theorem Past.more {L P : List Sp} {k : Nat} (h : Past L k P) (hs : Sorted L) (hok : ∀ x ∈ L, Sp.ok x) : ∃ Q, Joined (P ++ Q) ∧ ∀ p, cov (P ++ Q) p ↔ cov L p := by
  obtain ⟨Q, hQ, hc⟩ := join_exists (L.drop k) (hs.sublist (List.drop_sublist _ _)) fun x hx => hok x (List.mem_of_mem_drop hx)
  refine ⟨Q, ⟨fun x hx => ?_, List.pairwise_append.2 ⟨h.joined.2, hQ.2, fun a ha b hb => ?_⟩⟩, fun p => ?_⟩
  · rcases List.mem_append.1 hx with hx | hx
    · exact h.joined.1 x hx
    · exact hQ.1 x hx
  · obtain ⟨z, hz, he⟩ := joined_starts hQ hc hb
    have hlt : k < L.length := by
      rcases Nat.lt_or_ge k L.length with h1 | h1
      · exact h1
      · rw [List.drop_eq_nil_of_le h1] at hz; cases hz
    obtain ⟨x, hx⟩ : ∃ x, L[k]? = some x := ⟨_, List.getElem?_eq_getElem hlt⟩
    have h1 := h.ends a ha x hx
    have h2 := sorted_ge hs hx hz
    omega
  · rw [cov_append, h.words, hc, ← cov_append, List.take_append_drop]
end Go.Proofs.Ytmnehonmbjnnaaa

/- Spans as values and as cells, and the plain words for what is told of them. No walk in it. -/
namespace Go.Proofs.Ytmnehonmbjnnaaa
open Go.RowKit

/-- A span as a value; spans as cells. -/
def spv (x : Sp) : Value := .agg #[.int .i64 x.1, .int .i64 x.2]
def spc (l : List Sp) : List Value := l.flatMap fun x => [Value.int .i64 x.1, Value.int .i64 x.2]
theorem spc_len (l : List Sp) : (spc l).length = l.length * 2 := by
  induction l with
  | nil => rfl
  | cons x l ih => simp only [spc, List.flatMap_cons, List.length_append, List.length_cons, List.length_nil] at ih ⊢; omega
theorem spc_get (l : List Sp) (k : Nat) (h : k < l.length) : (spc l)[k * 2]? = some (.int .i64 (l[k]).1) ∧ (spc l)[k * 2 + 1]? = some (.int .i64 (l[k]).2) := by
  induction l generalizing k with
  | nil => simp at h
  | cons x l ih =>
    rcases k with _ | k
    · exact ⟨rfl, rfl⟩
    · have := ih k (by simpa using h)
      rw [show (k + 1) * 2 = k * 2 + 1 + 1 by omega]
      simpa [spc] using this
/-- Two spans have a word in common. -/
def Sp.meets (x y : Sp) : Prop := x.ok ∧ y.ok ∧ (x.has y.1 ∨ y.has x.1)
instance (x y : Sp) : Decidable (Sp.meets x y) := by unfold Sp.meets; infer_instance
/-- x has words, all of them y's. -/
def Sp.within (x y : Sp) : Prop := x.ok ∧ y.ok ∧ y.has x.1 ∧ y.has (x.1 + x.2 - 1)
instance (x y : Sp) : Decidable (Sp.within x y) := by unfold Sp.within; infer_instance
theorem meets_and (x y : Sp) : decide (Sp.meets x y) = (decide x.ok && (decide y.ok && (decide (x.has y.1) || decide (y.has x.1)))) := by
  rw [Bool.eq_iff_iff, decide_eq_true_iff]; simp [Sp.meets]
theorem within_and (x y : Sp) : decide (Sp.within x y) = (decide x.ok && (decide y.ok && (decide (y.has x.1) && decide (y.has (x.1 + x.2 - 1))))) := by
  rw [Bool.eq_iff_iff, decide_eq_true_iff]; simp [Sp.within]
theorem spc_at {l : List Sp} {k : Nat} {x : Sp} (h : l[k]? = some x) : (spc l)[k * 2]? = some (.int .i64 x.1) ∧ (spc l)[k * 2 + 1]? = some (.int .i64 x.2) := by
  obtain ⟨hk, rfl⟩ := List.getElem?_eq_some_iff.1 h
  exact spc_get l k hk
/-- The cells of a span in a list that reads. -/
theorem sl_span {w w' : World} {B : Nat} {A : Option Addr} {c k : Nat} {l : List Sp} {x : Sp} (h : Sl w B 2 (.slice A l.length c) l.length (spc l)) (hb : Below B w w') (hx : l[k]? = some x) :
    ∃ b o, A = some ⟨b, o, none⟩ ∧ b < B ∧ w'.cell? ⟨b, o + k * 2, none⟩ = some (.int .i64 x.1) ∧ w'.cell? ⟨b, o + k * 2 + 1, none⟩ = some (.int .i64 x.2) := by
  have hk : k < l.length := (List.getElem?_eq_some_iff.1 hx).1
  obtain ⟨b, o, c', e, _, _, hlt, hc⟩ := (h.below hb).at_ (by omega)
  obtain ⟨rfl, rfl⟩ : A = some ⟨b, o, none⟩ ∧ c = c' := by simpa using e
  obtain ⟨h0, h1⟩ := spc_at hx
  refine ⟨b, o, rfl, hlt, hc _ _ h0, ?_⟩
  have := hc _ _ h1
  rwa [← Nat.add_assoc] at this
instance (l : List Sp) (p : Int) : Decidable (cov l p) := by unfold cov; infer_instance
theorem cov_yes {l : List Sp} {p : Int} {k : Nat} {x : Sp} (h : l[k]? = some x) (hp : x.has p) : cov l p := ⟨x, List.mem_of_getElem? h, hp⟩
theorem cov_no {l : List Sp} {p : Int} (h : ∀ (j : Nat) x, l[j]? = some x → ¬ Sp.has x p) : ¬ cov l p := by
  rintro ⟨x, hx, hp⟩
  obtain ⟨j, hj, rfl⟩ := List.getElem_of_mem hx
  exact h j _ (List.getElem?_eq_getElem hj) hp
def cap62 : Int := 4611686018427387904
/-- All sizes of those that may be. -/
def tot : List Sp → Int
  | [] => 0
  | x :: l => (if x.ok then x.2 else 0) + tot l
theorem tot_append (l m : List Sp) : tot (l ++ m) = tot l + tot m := by
  induction l with
  | nil => simp [tot]
  | cons x l ih => simp only [List.cons_append, tot, ih]; omega
theorem tot_nonneg (l : List Sp) : 0 ≤ tot l := by
  induction l with
  | nil => simp [tot]
  | cons x l ih =>
    simp only [tot]
    split
    · rename_i h; have := h.2.1; omega
    · omega
/-- What Total tells. -/
def total (l : List Sp) : Int := if tot l ≤ cap62 then tot l else cap62
theorem total_range (l : List Sp) : 0 ≤ total l ∧ total l ≤ 4611686018427387904 := by
  have := tot_nonneg l; unfold total cap62; split <;> omega
theorem take_snoc_get {α : Type} {l : List α} {k : Nat} {x : α} (h : l[k]? = some x) : l.take (k + 1) = l.take k ++ [x] := by
  rw [List.take_add_one, h]; rfl
theorem total_yes {l : List Sp} {k : Nat} {x : Sp} (h : l[k]? = some x) (hx : x.ok) : (total (l.take k) + x.2 ≤ cap62 → total (l.take (k + 1)) = total (l.take k) + x.2) ∧ (cap62 < total (l.take k) + x.2 → total (l.take (k + 1)) = cap62) := by
  have h1 := hx.2.1
  have hc : tot (l.take (k + 1)) = tot (l.take k) + x.2 := by rw [take_snoc_get h, tot_append]; simp [tot, hx]
  unfold total
  rw [hc]
  split <;> split <;> omega
theorem total_none {l : List Sp} {k : Nat} {x : Sp} (h : l[k]? = some x) (hx : ¬ x.ok) : total (l.take (k + 1)) = total (l.take k) := by
  have hc : tot (l.take (k + 1)) = tot (l.take k) := by rw [take_snoc_get h, tot_append]; simp [tot, hx]
  unfold total
  rw [hc]
/-- Each may be, and no two of them have a word in common. -/
def ApartL (l : List Sp) : Prop := (∀ x ∈ l, Sp.ok x) ∧ l.Pairwise fun x y => ¬ Sp.meets y x
instance (l : List Sp) : Decidable (ApartL l) := by unfold ApartL; infer_instance
theorem apart_no1 {l : List Sp} {i : Nat} {x : Sp} (h : l[i]? = some x) (hx : ¬ x.ok) : ¬ ApartL l := fun ha => hx (ha.1 x (List.mem_of_getElem? h))
theorem apart_no2 {l : List Sp} {i k : Nat} {x y : Sp} (h : l[i]? = some x) (h' : l[k]? = some y) (hk : k < i) (hm : Sp.meets x y) : ¬ ApartL l := by
  intro ha
  obtain ⟨h1, rfl⟩ := List.getElem?_eq_some_iff.1 h
  obtain ⟨h2, rfl⟩ := List.getElem?_eq_some_iff.1 h'
  exact List.pairwise_iff_getElem.1 ha.2 k i h2 h1 hk hm
theorem apart_yes {l : List Sp} (h : ∀ (i : Nat) x, l[i]? = some x → x.ok ∧ ∀ (k : Nat) y, k < i → l[k]? = some y → ¬ Sp.meets x y) : ApartL l := by
  refine ⟨fun x hx => ?_, List.pairwise_iff_getElem.2 fun k i hk hi hlt => (h i _ (List.getElem?_eq_getElem hi)).2 k _ hlt (List.getElem?_eq_getElem hk)⟩
  obtain ⟨j, hj, rfl⟩ := List.getElem_of_mem hx
  exact (h j _ (List.getElem?_eq_getElem hj)).1
theorem spc_append (l m : List Sp) : spc (l ++ m) = spc l ++ spc m := by simp [spc]
theorem spc_take (l : List Sp) (k : Nat) : (spc l).take (k * 2) = spc (l.take k) := by
  induction l generalizing k with
  | nil => simp [spc]
  | cons x l ih =>
    rcases k with _ | k
    · simp [spc]
    · rw [show (k + 1) * 2 = k * 2 + 1 + 1 by omega]
      simp only [spc, List.flatMap_cons, List.take_succ_cons, List.cons_append, List.nil_append] at ih ⊢
      rw [ih]
theorem spc_drop (l : List Sp) (k : Nat) : (spc l).drop (k * 2) = spc (l.drop k) := by
  induction l generalizing k with
  | nil => simp [spc]
  | cons x l ih =>
    rcases k with _ | k
    · simp [spc]
    · rw [show (k + 1) * 2 = k * 2 + 1 + 1 by omega]
      simp only [spc, List.flatMap_cons, List.drop_succ_cons, List.cons_append, List.nil_append] at ih ⊢
      rw [ih]
theorem spc_one (l : List Sp) : ∀ v ∈ spc l, v.oneCell' = true := by
  intro v hv
  simp only [spc, List.mem_flatMap] at hv
  obtain ⟨x, _, hx⟩ := hv
  rcases List.mem_cons.1 hx with rfl | hx
  · rfl
  · rcases List.mem_cons.1 hx with rfl | hx
    · rfl
    · cases hx
theorem sl_take {w : World} {B : Nat} {A : Option Addr} {c k : Nat} {l : List Sp} (h : Sl w B 2 (.slice A l.length c) l.length (spc l)) (hk : k ≤ l.length) : Sl w B 2 (cutv A 0 k c 2) k (spc (l.take k)) := by
  have := h.cut (Nat.zero_le k) hk
  simpa [spc_take] using this
theorem sl_drop {w : World} {B : Nat} {A : Option Addr} {c k : Nat} {l : List Sp} (h : Sl w B 2 (.slice A l.length c) l.length (spc l)) (hk : k ≤ l.length) : Sl w B 2 (cutv A k l.length c 2) (l.length - k) (spc (l.drop k)) := by
  have := h.cut hk (Nat.le_refl _)
  rw [spc_drop] at this
  rw [show ((l.length - k) * 2) = (spc (l.drop k)).length by rw [spc_len, List.length_drop], List.take_length] at this
  exact this
theorem lt_cases (x y : Sp) : Sp.lt x y ↔ x.1 < y.1 ∨ x.1 = y.1 ∧ x.2 < y.2 := Iff.rfl
/-- What Sort's list is behind k rounds. -/
def SortedOf (l : List Sp) (k : Nat) (L : List Sp) : Prop := Sorted L ∧ L.Perm (l.take k)
theorem SortedOf.len {l L : List Sp} {k : Nat} (h : SortedOf l k L) (hk : k ≤ l.length) : L.length = k := by rw [h.2.length_eq, List.length_take, Nat.min_eq_left hk]
theorem sortedOf_put {l L : List Sp} {k a : Nat} {x : Sp} (h : SortedOf l k L) (hx : l[k]? = some x) (ha : a ≤ L.length) (hb : ∀ (j : Nat) y, a ≤ j → L[j]? = some y → Sp.lt x y) (hc : a = 0 ∨ ∃ y, L[a - 1]? = some y ∧ ¬ Sp.lt x y) :
    SortedOf l (k + 1) (L.take a ++ x :: L.drop a) := by
  obtain ⟨h1, h2⟩ := sorted_put h.1 x a ha (fun j hj hj' => hb j _ hj' (List.getElem?_eq_getElem hj)) (hc.imp id fun ⟨y, hy, hn⟩ => by
    obtain ⟨hj, rfl⟩ := List.getElem?_eq_some_iff.1 hy
    exact ⟨hj, hn⟩)
  refine ⟨h1, h2.trans ?_⟩
  rw [take_snoc_get hx]
  exact (List.Perm.cons x h.2).trans (List.perm_append_singleton x (l.take k)).symm
theorem spc_snoc (l : List Sp) (x : Sp) : spc (l ++ [x]) = spc l ++ [.int .i64 x.1, .int .i64 x.2] := by simp [spc]
theorem spc_set2 (l : List Sp) (x y : Sp) (h : x.1 = y.1) : (spc (l ++ [x])).set (l.length * 2 + 1) (.int .i64 y.2) = spc (l ++ [y]) := by
  rw [spc_snoc, spc_snoc, List.set_append_right _ _ (by rw [spc_len]; omega), spc_len, show l.length * 2 + 1 - l.length * 2 = 1 by omega, h]
  rfl
theorem last_cases (l : List Sp) : l = [] ∨ ∃ p z, l = p ++ [z] := by
  rcases List.eq_nil_or_concat l with h | ⟨p, z, h⟩
  · exact .inl h
  · exact .inr ⟨p, z, by rw [h, List.concat_eq_append]⟩
theorem putL_nil (x y : Int) : putL [] x y = [(x, y - x)] := rfl
theorem putL_join (p : List Sp) (z : Sp) (x y : Int) (h : z.1 + z.2 = x) : putL (p ++ [z]) x y = p ++ [(z.1, y - z.1)] := by
  unfold putL; rw [List.getLast?_concat]; simp only; rw [if_pos h, List.dropLast_concat]
theorem putL_more (p : List Sp) (z : Sp) (x y : Int) (h : z.1 + z.2 ≠ x) : putL (p ++ [z]) x y = p ++ [z] ++ [(x, y - x)] := by
  unfold putL; rw [List.getLast?_concat]; simp only; rw [if_neg h]
end Go.Proofs.Ytmnehonmbjnnaaa

/- Plain mathematics: spans that lie apart, seen in their order. No program in it. -/
namespace Go.Proofs.Ytmnehonmbjnnaaa

theorem meets_symm' {x y : Sp} (h : Sp.meets x y) : Sp.meets y x := ⟨h.2.1, h.1, h.2.2.symm⟩
theorem meets_lt {x y : Sp} (hx : x.ok) (hy : y.ok) : Sp.meets x y ↔ x.1 < y.1 + y.2 ∧ y.1 < x.1 + x.2 := by
  unfold Sp.meets Sp.has
  simp only [hx, hy, true_and]
  unfold Sp.ok at hx hy
  omega
theorem apart_perm {l m : List Sp} (h : l.Perm m) : ApartL l ↔ ApartL m := by
  unfold ApartL
  rw [h.pairwise_iff (R := fun x y => ¬ Sp.meets y x) (fun {a b} hab hba => hab (meets_symm' hba))]
  exact ⟨fun ⟨a, b⟩ => ⟨fun x hx => a x (h.mem_iff.2 hx), b⟩, fun ⟨a, b⟩ => ⟨fun x hx => a x (h.mem_iff.1 hx), b⟩⟩
theorem apart_next {l : List Sp} {x : Sp} (h : ApartL l) (hx : x.ok) (hb : ∀ y ∈ l, y.1 + y.2 ≤ x.1) : ApartL (l ++ [x]) := by
  constructor
  · intro y hy
    rcases List.mem_append.1 hy with hy | hy
    · exact h.1 y hy
    · rw [List.mem_singleton.1 hy]; exact hx
  · refine List.pairwise_append.2 ⟨h.2, List.pairwise_singleton _ _, fun a ha b hb' => ?_⟩
    rw [List.mem_singleton.1 hb', meets_lt hx (h.1 a ha)]
    have := hb a ha
    omega
theorem apart_not {l : List Sp} {i k : Nat} {x y : Sp} (hx : l[i]? = some x) (hy : l[k]? = some y) (hk : k < i) (h1 : y.1 ≤ x.1) (h2 : x.1 < y.1 + y.2) : ¬ ApartL l := by
  intro ha
  refine apart_no2 hx hy hk ?_ ha
  have hxo := ha.1 x (List.mem_of_getElem? hx)
  have hyo := ha.1 y (List.mem_of_getElem? hy)
  rw [meets_lt hxo hyo]
  unfold Sp.ok at hxo
  omega
end Go.Proofs.Ytmnehonmbjnnaaa

/- What is asked of package span's calls: their contracts, each said once, as a name that the walk leaves closed. -/
namespace Go.Proofs.Ytmnehonmbjnnaaa
open Go.RowKit

/-- Its At is an int's: no more than the greatest. (A span's numbers are 64 bits wide; as whole numbers they might be anything.) -/
def Fit (x : Sp) : Prop := x.1 ≤ 9223372036854775807
theorem Fit.of_ok {x : Sp} (h : x.ok) : Fit x := by unfold Sp.ok most at h; unfold Fit; omega
def Fits (l : List Sp) : Prop := ∀ x ∈ l, Fit x
theorem Fits.joined {l : List Sp} (h : Joined l) : Fits l := fun x hx => .of_ok (h.1 x hx)
theorem Fits.get {l : List Sp} (h : Fits l) {k : Nat} {x : Sp} (hx : l[k]? = some x) : Fit x := h x (List.mem_of_getElem? hx)

end Go.Proofs.Ytmnehonmbjnnaaa

/- What came in, opened: a span, a slice of spans. -/
namespace Go.Proofs.Ytmnehonmbjnnaaa
set_option maxRecDepth 100000
open Go.ChangeShapes Go.WideShapes Go.RowKit Go.Deep Go.Joins

section
variable {H : Type} {enc : TypeId × Value → H} {w : World} {base b0 : Nat} {r : Reach} {sp : Nat → Bool} {held : Bool}

/-- Pairs of integers, as spans. -/
theorem pairs_spc : ∀ (n : Nat) (xs : List Value), xs.length = n * 2 → (∀ j, j < n * 2 → ∃ z : Int, xs[j]? = some (.int .i64 z) ∧ z ≤ 9223372036854775807) → ∃ l : List Sp, l.length = n ∧ xs = spc l ∧ Fits l
  | 0, xs, hl, _ => ⟨[], rfl, by obtain rfl : xs = [] := List.eq_nil_of_length_eq_zero (by simpa using hl); rfl, fun _ h => by cases h⟩
  | n + 1, [], hl, _ => by simp at hl
  | n + 1, [_], hl, _ => by simp at hl; omega
  | n + 1, a :: b :: xs, hl, h => by
    obtain ⟨x, hx, hxb⟩ := h 0 (by omega)
    obtain ⟨y, hy, -⟩ := h 1 (by omega)
    obtain rfl : a = .int .i64 x := by simpa using hx
    obtain rfl : b = .int .i64 y := by simpa using hy
    obtain ⟨l, hl', rfl, hF⟩ := pairs_spc n xs (by simp at hl; omega) fun j hj => by
      have := h (j + 2) (by omega)
      simpa using this
    exact ⟨(x, y) :: l, by simp [hl'], by simp [spc], fun z hz => by
      rcases List.mem_cons.1 hz with rfl | hz
      · exact hxb
      · exact hF z hz⟩

end
end Go.Proofs.Ytmnehonmbjnnaaa
