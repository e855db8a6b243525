/- Plain mathematics of spans: the words of some, joined spans are the only ones of their kind, order, pieces between ends. No program in it. -/
import Derived.Test.YtpgkmjkickkieaaBase
namespace Go.Proofs.Ytpgkmjkickkieaa
open Go.RowKit

/-- A span: where it begins, how many words it has. -/
abbrev Sp := Int × Int
def most : Int := 1099511627776
def Sp.ok (x : Sp) : Prop := 0 ≤ x.1 ∧ 1 ≤ x.2 ∧ x.1 ≤ most ∧ x.2 ≤ most - x.1
instance (x : Sp) : Decidable x.ok := by unfold Sp.ok; infer_instance
def Sp.has (x : Sp) (p : Int) : Prop := x.ok ∧ x.1 ≤ p ∧ p < x.1 + x.2
instance (x : Sp) (p : Int) : Decidable (x.has p) := by unfold Sp.has; infer_instance
/-- One of l has a word at p. -/
def cov (l : List Sp) (p : Int) : Prop := ∃ x ∈ l, Sp.has x p
theorem cov_nil (p : Int) : ¬ cov [] p := by rintro ⟨x, h, _⟩; cases h
theorem cov_cons {x : Sp} {l : List Sp} {p : Int} : cov (x :: l) p ↔ x.has p ∨ cov l p := by
  constructor
  · rintro ⟨y, hy, hp⟩
    rcases List.mem_cons.1 hy with rfl | hy
    · exact .inl hp
    · exact .inr ⟨y, hy, hp⟩
  · rintro (h | ⟨y, hy, hp⟩)
    · exact ⟨x, List.mem_cons_self, h⟩
    · exact ⟨y, List.mem_cons_of_mem _ hy, hp⟩
theorem cov_append {l m : List Sp} {p : Int} : cov (l ++ m) p ↔ cov l p ∨ cov m p := by
  constructor
  · rintro ⟨y, hy, hp⟩
    rcases List.mem_append.1 hy with hy | hy
    · exact .inl ⟨y, hy, hp⟩
    · exact .inr ⟨y, hy, hp⟩
  · rintro (⟨y, hy, hp⟩ | ⟨y, hy, hp⟩)
    · exact ⟨y, List.mem_append_left _ hy, hp⟩
    · exact ⟨y, List.mem_append_right _ hy, hp⟩
theorem cov_one {x : Sp} {p : Int} : cov [x] p ↔ x.has p := by rw [cov_cons]; exact ⟨fun h => h.elim id fun h => absurd h (cov_nil p), .inl⟩
theorem cov_perm {l m : List Sp} (h : l.Perm m) (p : Int) : cov l p ↔ cov m p := ⟨fun ⟨x, hx, hp⟩ => ⟨x, h.mem_iff.1 hx, hp⟩, fun ⟨x, hx, hp⟩ => ⟨x, h.mem_iff.2 hx, hp⟩⟩

/-- Joined: each may be, rising, none meets or touches another one. -/
def Joined (l : List Sp) : Prop := (∀ x ∈ l, Sp.ok x) ∧ l.Pairwise fun x y => x.1 + x.2 < y.1
theorem Joined.nil : Joined [] := ⟨(fun _ h => by cases h), List.Pairwise.nil⟩
theorem Joined.tail {x : Sp} {l : List Sp} (h : Joined (x :: l)) : Joined l := ⟨fun y hy => h.1 y (List.mem_cons_of_mem _ hy), (List.pairwise_cons.1 h.2).2⟩
theorem Joined.head {x : Sp} {l : List Sp} (h : Joined (x :: l)) : x.ok := h.1 x List.mem_cons_self
theorem Joined.lt {x : Sp} {l : List Sp} (h : Joined (x :: l)) : ∀ y ∈ l, x.1 + x.2 < y.1 := (List.pairwise_cons.1 h.2).1
theorem Joined.first {x : Sp} {l : List Sp} (h : Joined (x :: l)) {p : Int} (hp : cov (x :: l) p) : x.1 ≤ p := by
  rcases cov_cons.1 hp with hp | ⟨y, hy, hp⟩
  · exact hp.2.1
  · have := h.lt y hy
    have := h.head.2.1
    have := hp.2.1
    omega
theorem Joined.begins {x : Sp} {l : List Sp} (h : Joined (x :: l)) : cov (x :: l) x.1 := cov_cons.2 (.inl ⟨h.head, Int.le_refl _, by have := h.head.2.1; omega⟩)
theorem Joined.ends {x : Sp} {l : List Sp} (h : Joined (x :: l)) : ¬ cov (x :: l) (x.1 + x.2) := by
  intro hc
  rcases cov_cons.1 hc with hp | ⟨y, hy, hp⟩
  · have := hp.2.2; omega
  · have := h.lt y hy
    have := hp.2.1
    omega
theorem joined_unique : ∀ {l m : List Sp}, Joined l → Joined m → (∀ p, cov l p ↔ cov m p) → l = m
  | [], [], _, _, _ => rfl
  | [], _ :: _, _, hm, h => absurd ((h _).2 hm.begins) (cov_nil _)
  | _ :: _, [], hl, _, h => absurd ((h _).1 hl.begins) (cov_nil _)
  | x :: l, y :: m, hl, hm, h => by
    have h1 : x.1 = y.1 := Int.le_antisymm (hl.first ((h _).2 hm.begins)) (hm.first ((h _).1 hl.begins))
    have h2 : x.2 = y.2 := by
      rcases Int.lt_trichotomy x.2 y.2 with hlt | he | hgt
      · exact absurd ((h _).2 (cov_cons.2 (.inl ⟨hm.head, by have := hl.head.2.1; omega, by omega⟩))) hl.ends
      · exact he
      · exact absurd ((h _).1 (cov_cons.2 (.inl ⟨hl.head, by have := hm.head.2.1; omega, by omega⟩))) hm.ends
    have hxy : x = y := Prod.ext h1 h2
    subst hxy
    have ht : ∀ p, cov l p ↔ cov m p := by
      intro p
      constructor
      · intro hp
        obtain ⟨z, hz, hzp⟩ := hp
        rcases cov_cons.1 ((h p).1 (cov_cons.2 (.inr ⟨z, hz, hzp⟩))) with hx | hx
        · have := hl.lt z hz
          have := hzp.2.1
          have := hx.2.2
          omega
        · exact hx
      · intro hp
        obtain ⟨z, hz, hzp⟩ := hp
        rcases cov_cons.1 ((h p).2 (cov_cons.2 (.inr ⟨z, hz, hzp⟩))) with hx | hx
        · have := hm.lt z hz
          have := hzp.2.1
          have := hx.2.2
          omega
        · exact hx
    rw [joined_unique hl.tail hm.tail ht]

/-- At first, then Size: what Sort goes by. -/
def Sp.le (x y : Sp) : Prop := x.1 < y.1 ∨ x.1 = y.1 ∧ x.2 ≤ y.2
def Sp.lt (x y : Sp) : Prop := x.1 < y.1 ∨ x.1 = y.1 ∧ x.2 < y.2
instance (x y : Sp) : Decidable (Sp.le x y) := by unfold Sp.le; infer_instance
instance (x y : Sp) : Decidable (Sp.lt x y) := by unfold Sp.lt; infer_instance
theorem Sp.le_trans {x y z : Sp} (h : Sp.le x y) (k : Sp.le y z) : Sp.le x z := by unfold Sp.le at *; omega
theorem Sp.le_of_lt {x y : Sp} (h : Sp.lt x y) : Sp.le x y := by unfold Sp.le Sp.lt at *; omega
theorem Sp.not_lt {x y : Sp} : ¬ Sp.lt x y ↔ Sp.le y x := by unfold Sp.le Sp.lt at *; omega
def Sorted (l : List Sp) : Prop := l.Pairwise Sp.le
theorem sorted_unique {l m : List Sp} (hl : Sorted l) (hm : Sorted m) (h : l.Perm m) : l = m :=
  List.Perm.eq_of_pairwise (le := Sp.le) (fun a b _ _ h1 h2 => Prod.ext (by unfold Sp.le at h1 h2; omega) (by unfold Sp.le at h1 h2; omega)) hl hm h
/-- One more is put in behind those that are not greater. -/
theorem sorted_put {l : List Sp} (hl : Sorted l) (x : Sp) (k : Nat) (hk : k ≤ l.length) (hb : ∀ j (h : j < l.length), k ≤ j → Sp.lt x l[j]) (ha : k = 0 ∨ ∃ h : k - 1 < l.length, ¬ Sp.lt x (l[k-1]'h)) :
    Sorted (l.take k ++ x :: l.drop k) ∧ (l.take k ++ x :: l.drop k).Perm (x :: l) := by
  constructor
  · unfold Sorted at *
    rw [List.pairwise_append, List.pairwise_cons]
    refine ⟨hl.sublist (List.take_sublist _ _), ⟨fun y hy => ?_, hl.sublist (List.drop_sublist _ _)⟩, fun a haa b hbb => ?_⟩
    · obtain ⟨j, hj, rfl⟩ := List.getElem_of_mem hy
      rw [List.getElem_drop]
      exact Sp.le_of_lt (hb _ _ (by omega))
    · obtain ⟨i, hi, rfl⟩ := List.getElem_of_mem haa
      simp only [List.length_take] at hi
      rw [List.getElem_take]
      rcases ha with rfl | ⟨h1, h2⟩
      · omega
      · have hle : Sp.le (l[i]'(by omega)) (l[k-1]'h1) := by
          rcases Nat.lt_or_ge i (k - 1) with hlt | hge
          · exact List.pairwise_iff_getElem.1 hl i (k - 1) _ _ hlt
          · obtain rfl : i = k - 1 := by omega
            unfold Sp.le; omega
        have hx : Sp.le (l[k-1]'h1) x := Sp.not_lt.1 h2
        rcases List.mem_cons.1 hbb with rfl | hbb
        · exact Sp.le_trans hle hx
        · obtain ⟨j, hj, rfl⟩ := List.getElem_of_mem hbb
          rw [List.getElem_drop]
          exact Sp.le_trans hle (Sp.le_trans hx (Sp.le_of_lt (hb _ _ (by omega))))
  · have h1 : (l.take k ++ x :: l.drop k).Perm (x :: (l.take k ++ l.drop k)) := List.perm_middle
    rwa [List.take_append_drop] at h1

/-- Places rising, each once. -/
def Rising (l : List Int) : Prop := l.Pairwise (· < ·)

/-- A piece laid behind; joined to the last one, if it touches it. -/
def putL (out : List Sp) (x y : Int) : List Sp :=
  match out.getLast? with
  | some z => if z.1 + z.2 = x then out.dropLast ++ [(z.1, y - z.1)] else out ++ [(x, y - x)]
  | none => out ++ [(x, y - x)]
/-- What has been laid up to e: the places of Q below e, joined. -/
def Laid (Q : Int → Prop) (e : Int) (out : List Sp) : Prop := Joined out ∧ (∀ p, cov out p ↔ Q p ∧ p < e) ∧ ∀ x ∈ out, x.1 + x.2 ≤ e
theorem laid_put {Q : Int → Prop} {e f : Int} {out : List Sp} (h : Laid Q e out) (hef : e < f) (h0 : 0 ≤ e) (hf : f ≤ most) (hq : ∀ p, e ≤ p → p < f → Q p) : Laid Q f (putL out e f) := by
  obtain ⟨hj, hc, he⟩ := h
  have hokp : ∀ a : Int, 0 ≤ a → a < f → Sp.ok (a, f - a) := fun a h1 h2 => by unfold Sp.ok; simp only; omega
  have case1 : ∀ (pre : List Sp), out = pre → (∀ x ∈ pre, x.1 + x.2 < e) → Laid Q f (pre ++ [(e, f - e)]) := by
    rintro pre rfl hlt
    refine ⟨⟨fun x hx => ?_, ?_⟩, fun p => ?_, fun x hx => ?_⟩
    · rcases List.mem_append.1 hx with hx | hx
      · exact hj.1 x hx
      · obtain rfl := List.mem_singleton.1 hx; exact hokp e h0 hef
    · rw [List.pairwise_append]
      exact ⟨hj.2, List.pairwise_singleton _ _, fun a ha b hb => by obtain rfl := List.mem_singleton.1 hb; exact hlt a ha⟩
    · rw [cov_append, cov_one, hc]
      constructor
      · rintro (⟨h1, h2⟩ | ⟨_, h2, h3⟩)
        · exact ⟨h1, by omega⟩
        · simp only at h2 h3; exact ⟨hq p h2 (by omega), by omega⟩
      · rintro ⟨h1, h2⟩
        rcases Int.lt_or_le p e with h3 | h3
        · exact .inl ⟨h1, h3⟩
        · exact .inr ⟨hokp e h0 hef, h3, by simp only; omega⟩
    · rcases List.mem_append.1 hx with hx | hx
      · have := he x hx; omega
      · obtain rfl := List.mem_singleton.1 hx; simp only; omega
  unfold putL
  rcases List.eq_nil_or_concat out with rfl | ⟨pre, z, hcat⟩
  · exact case1 [] rfl (fun _ h => by cases h)
  · rw [List.concat_eq_append] at hcat
    subst hcat
    rw [List.getLast?_concat]
    simp only
    have hpz := List.pairwise_append.1 hj.2
    have hzok := hj.1 z (by simp)
    split
    · rename_i hz
      rw [List.dropLast_concat]
      have hz1 : 0 ≤ z.1 ∧ z.1 < e := ⟨hzok.1, by have := hzok.2.1; omega⟩
      refine ⟨⟨fun x hx => ?_, ?_⟩, fun p => ?_, fun x hx => ?_⟩
      · rcases List.mem_append.1 hx with hx | hx
        · exact hj.1 x (List.mem_append_left _ hx)
        · obtain rfl := List.mem_singleton.1 hx; exact hokp z.1 hz1.1 (by omega)
      · rw [List.pairwise_append]
        exact ⟨hpz.1, List.pairwise_singleton _ _, fun a ha b hb => by obtain rfl := List.mem_singleton.1 hb; exact hpz.2.2 a ha z (by simp)⟩
      · rw [cov_append, cov_one]
        have hcp := hc p
        rw [cov_append, cov_one] at hcp
        constructor
        · rintro (h1 | ⟨_, h2, h3⟩)
          · have := hcp.1 (.inl h1); exact ⟨this.1, by omega⟩
          · simp only at h2 h3
            rcases Int.lt_or_le p e with h4 | h4
            · exact ⟨(hcp.1 (.inr ⟨hzok, h2, by omega⟩)).1, by omega⟩
            · exact ⟨hq p h4 (by omega), by omega⟩
        · rintro ⟨h1, h2⟩
          rcases Int.lt_or_le p e with h3 | h3
          · rcases hcp.2 ⟨h1, h3⟩ with h4 | h4
            · exact .inl h4
            · exact .inr ⟨hokp z.1 hz1.1 (by omega), h4.2.1, by have := h4.2.2; simp only; omega⟩
          · exact .inr ⟨hokp z.1 hz1.1 (by omega), by simp only; omega, by simp only; omega⟩
      · rcases List.mem_append.1 hx with hx | hx
        · have := he x (List.mem_append_left _ hx); omega
        · obtain rfl := List.mem_singleton.1 hx; simp only; omega
    · rename_i hz
      refine case1 _ rfl fun x hx => ?_
      rcases List.mem_append.1 hx with hx | hx
      · have h1 := hpz.2.2 x hx z (by simp)
        have h2 := he z (by simp)
        have := hzok.2.1
        omega
      · obtain rfl := List.mem_singleton.1 hx
        have := he x (by simp)
        omega
theorem laid_skip {Q : Int → Prop} {e f : Int} {out : List Sp} (h : Laid Q e out) (hef : e < f) (hq : ∀ p, e ≤ p → p < f → ¬ Q p) : Laid Q f out := by
  obtain ⟨hj, hc, he⟩ := h
  refine ⟨hj, fun p => ?_, fun x hx => by have := he x hx; omega⟩
  rw [hc]
  constructor
  · rintro ⟨h1, h2⟩; exact ⟨h1, by omega⟩
  · rintro ⟨h1, h2⟩
    rcases Int.lt_or_le p e with h3 | h3
    · exact ⟨h1, h3⟩
    · exact absurd h1 (hq p h3 h2)
end Go.Proofs.Ytpgkmjkickkieaa
