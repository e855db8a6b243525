/- Plain mathematics of free words: the first span that is great enough, what is left without its first words, the greatest size. No program in it. -/
import Derived.Test.YtciidodmhigpdaaGreatDoorSpanBase
import Derived.Test.YtciidodmhigpdaaGreatDoorRef03
import Derived.Test.YtciidodmhigpdaaGreatDoorSpanIter
import Derived.Lib.SliceRun
import Derived.Lib.AppendZerosOnto
import Derived.Deep.RegionLaw
import Derived.Shelf.RegionOpenPlain
import Derived.WalkKit
import Derived.OwnWalk
namespace Go.Proofs.YtciidodmhigpdaaGreatDoor

/-- It may be, and has n words or more. -/
def Sp.fits (n : Int) (x : Sp) : Bool := decide (x.ok ∧ n ≤ x.2)
theorem fits_iff {n : Int} {x : Sp} : Sp.fits n x = true ↔ x.ok ∧ n ≤ x.2 := by unfold Sp.fits; exact decide_eq_true_iff
/-- The place of the first one of which p is told, or -1. -/
def idxI (p : Sp → Bool) (l : List Sp) : Int := if l.findIdx p < l.length then (l.findIdx p : Nat) else -1
theorem idxI_hit {p : Sp → Bool} {l : List Sp} {k : Nat} {x : Sp} (hx : l[k]? = some x) (hp : p x = true) (hb : ∀ (j : Nat) y, j < k → l[j]? = some y → p y = false) : idxI p l = (k : Nat) := by
  obtain ⟨hk, rfl⟩ := List.getElem?_eq_some_iff.1 hx
  have : l.findIdx p = k := by
    rw [List.findIdx_eq hk]
    exact ⟨hp, fun j hj => hb j _ hj (List.getElem?_eq_getElem (by omega))⟩
  unfold idxI
  rw [this, if_pos hk]
theorem idxI_miss {p : Sp → Bool} {l : List Sp} (hb : ∀ (j : Nat) y, j < l.length → l[j]? = some y → p y = false) : idxI p l = -1 := by
  unfold idxI
  rw [if_neg]
  intro h
  have := hb _ _ h (List.getElem?_eq_getElem h)
  have h2 := List.findIdx_getElem (w := h)
  rw [h2] at this
  cases this
theorem idxI_any (p : Sp → Bool) (l : List Sp) : decide (0 ≤ idxI p l) = l.any p := by
  unfold idxI
  by_cases h : l.findIdx p < l.length
  · rw [if_pos h, decide_eq_true (by omega)]
    have := List.findIdx_lt_length.1 h
    exact (List.any_eq_true.2 this).symm
  · rw [if_neg h]
    have h0 : l.any p = false := by
      rw [Bool.eq_false_iff]
      intro hh
      exact h (List.findIdx_lt_length.2 (List.any_eq_true.1 hh))
    rw [h0]
    rfl

/-- What Take answers: what is left, the place, the error. -/
def takeT (l : List Sp) (n : Int) : List Sp × Int × Int :=
  if n < 1 then (l, 0, 7) else
  if l.length ≤ l.findIdx (Sp.fits n) then (l, 0, 9) else
  if (l.getD (l.findIdx (Sp.fits n)) (0, 0)).2 = n then (l.eraseIdx (l.findIdx (Sp.fits n)), (l.getD (l.findIdx (Sp.fits n)) (0, 0)).1, 0) else
  (l.set (l.findIdx (Sp.fits n)) ((l.getD (l.findIdx (Sp.fits n)) (0, 0)).1 + n, (l.getD (l.findIdx (Sp.fits n)) (0, 0)).2 - n), (l.getD (l.findIdx (Sp.fits n)) (0, 0)).1, 0)
theorem takeT_size {l : List Sp} {n : Int} (h : n < 1) : takeT l n = (l, 0, 7) := by unfold takeT; rw [if_pos h]
theorem takeT_none {l : List Sp} {n : Int} (h : ¬ n < 1) (hi : idxI (Sp.fits n) l < 0) : takeT l n = (l, 0, 9) := by
  unfold takeT
  rw [if_neg h, if_pos]
  unfold idxI at hi
  split at hi <;> omega
theorem takeT_some {l : List Sp} {n : Int} (h : ¬ n < 1) (hi : ¬ idxI (Sp.fits n) l < 0) : ∃ (k : Nat) (x : Sp), idxI (Sp.fits n) l = (k : Nat) ∧ l[k]? = some x ∧ x.ok ∧ n ≤ x.2 ∧
    (x.2 = n → takeT l n = (l.eraseIdx k, x.1, 0)) ∧ (x.2 ≠ n → takeT l n = (l.set k (x.1 + n, x.2 - n), x.1, 0)) := by
  unfold idxI at hi ⊢
  by_cases hk : l.findIdx (Sp.fits n) < l.length
  · rw [if_pos hk]
    have hp := fits_iff.1 (List.findIdx_getElem (w := hk))
    have hg : l.getD (l.findIdx (Sp.fits n)) (0, 0) = l[l.findIdx (Sp.fits n)] := by simp [hk]
    refine ⟨_, _, rfl, List.getElem?_eq_getElem hk, hp.1, hp.2, fun e => ?_, fun e => ?_⟩
    · unfold takeT
      rw [if_neg h, if_neg (by omega), hg, if_pos e]
    · unfold takeT
      rw [if_neg h, if_neg (by omega), hg, if_neg e]
  · rw [if_neg hk] at hi
    omega

/-- The greatest size of those that may be. -/
def largest (l : List Sp) : Int := l.foldl (fun m x => if x.ok then max m x.2 else m) 0
theorem largest_nil : largest [] = 0 := rfl
theorem largest_yes {l : List Sp} {k : Nat} {x : Sp} (h : l[k]? = some x) (hx : x.ok) : largest (l.take (k + 1)) = max (largest (l.take k)) x.2 := by
  unfold largest; rw [take_snoc_get h, List.foldl_append]; simp [hx]
theorem largest_no {l : List Sp} {k : Nat} {x : Sp} (h : l[k]? = some x) (hx : ¬ x.ok) : largest (l.take (k + 1)) = largest (l.take k) := by
  unfold largest; rw [take_snoc_get h, List.foldl_append]; simp [hx]
theorem largest_iff {l : List Sp} {n : Int} (h : 1 ≤ n) : n ≤ largest l ↔ ∃ x ∈ l, x.ok ∧ n ≤ x.2 := by
  have : ∀ (l : List Sp) (a : Int), n ≤ l.foldl (fun m x => if x.ok then max m x.2 else m) a ↔ n ≤ a ∨ ∃ x ∈ l, x.ok ∧ n ≤ x.2 := by
    intro l
    induction l with
    | nil => intro a; simp
    | cons y l ih =>
      intro a
      rw [List.foldl_cons, ih]
      by_cases hy : y.ok
      · rw [if_pos hy]
        constructor
        · rintro (h1 | ⟨x, hx, h1⟩)
          · by_cases h2 : n ≤ a
            · exact .inl h2
            · exact .inr ⟨y, List.mem_cons_self, hy, by omega⟩
          · exact .inr ⟨x, List.mem_cons_of_mem _ hx, h1⟩
        · rintro (h1 | ⟨x, hx, h1⟩)
          · exact .inl (by omega)
          · rcases List.mem_cons.1 hx with rfl | hx
            · exact .inl (by have := h1.2; omega)
            · exact .inr ⟨x, hx, h1⟩
      · rw [if_neg hy]
        constructor
        · rintro (h1 | ⟨x, hx, h1⟩)
          · exact .inl h1
          · exact .inr ⟨x, List.mem_cons_of_mem _ hx, h1⟩
        · rintro (h1 | ⟨x, hx, h1⟩)
          · exact .inl h1
          · rcases List.mem_cons.1 hx with rfl | hx
            · exact absurd h1.1 hy
            · exact .inr ⟨x, hx, h1⟩
  unfold largest
  rw [this]
  constructor
  · rintro (h1 | h1)
    · omega
    · exact h1
  · exact .inr
theorem largest_range {l : List Sp} : 0 ≤ largest l ∧ largest l ≤ most := by
  have : ∀ (l : List Sp) (a : Int), 0 ≤ a → a ≤ most → 0 ≤ l.foldl (fun m x => if x.ok then max m x.2 else m) a ∧ l.foldl (fun m x => if x.ok then max m x.2 else m) a ≤ most := by
    intro l
    induction l with
    | nil => intro a h1 h2; exact ⟨h1, h2⟩
    | cons y l ih =>
      intro a h1 h2
      rw [List.foldl_cons]
      by_cases hy : y.ok
      · rw [if_pos hy]
        have := hy.2.1; have := hy.2.2.2; have := hy.1
        exact ih _ (by omega) (by omega)
      · rw [if_neg hy]; exact ih _ h1 h2
  exact this l 0 (by omega) (by unfold most; omega)

instance (l : List Sp) : Decidable (Joined l) := by unfold Joined; infer_instance
/-- Right: all within all, rising, none meets or touches another one. -/
def RightP (all : Sp) (l : List Sp) : Prop := (∀ x ∈ l, Sp.within x all) ∧ Joined l
instance (all : Sp) (l : List Sp) : Decidable (RightP all l) := by unfold RightP; infer_instance
theorem within_of {x y z : Sp} (hx : x.ok) (h1 : y.1 ≤ x.1) (h2 : x.1 + x.2 ≤ y.1 + y.2) (h : Sp.within y z) : Sp.within x z := by
  unfold Sp.within Sp.has Sp.ok at *
  omega

theorem joined_two {l : List Sp} (hj : Joined l) {pre post : List Sp} {x : Sp} (e : l = pre ++ x :: post) : (∀ y ∈ pre, y.1 + y.2 < x.1) ∧ (∀ y ∈ post, x.1 + x.2 < y.1) := by
  subst e
  have h := List.pairwise_append.1 hj.2
  exact ⟨fun y hy => h.2.2 y hy x List.mem_cons_self, (List.pairwise_cons.1 h.2.1).1⟩
/-- x goes: nothing of it is left, all else is. -/
theorem joined_drop {pre post : List Sp} {x : Sp} (hj : Joined (pre ++ x :: post)) : Joined (pre ++ post) ∧ ∀ p, cov (pre ++ post) p ↔ cov (pre ++ x :: post) p ∧ ¬ x.has p := by
  have ht := joined_two hj rfl
  have h := List.pairwise_append.1 hj.2
  refine ⟨⟨fun y hy => hj.1 y ?_, List.pairwise_append.2 ⟨h.1, (List.pairwise_cons.1 h.2.1).2, fun a ha b hb => h.2.2 a ha b (List.mem_cons_of_mem _ hb)⟩⟩, fun p => ?_⟩
  · rcases List.mem_append.1 hy with hy | hy
    · exact List.mem_append_left _ hy
    · exact List.mem_append_right _ (List.mem_cons_of_mem _ hy)
  · rw [cov_append, cov_append, cov_cons]
    constructor
    · rintro (⟨y, hy, hp⟩ | ⟨y, hy, hp⟩)
      · exact ⟨.inl ⟨y, hy, hp⟩, fun hx => by have := ht.1 y hy; have := hp.2.2; have := hx.2.1; omega⟩
      · exact ⟨.inr (.inr ⟨y, hy, hp⟩), fun hx => by have := ht.2 y hy; have := hp.2.1; have := hx.2.2; omega⟩
    · rintro ⟨h1 | h1 | h1, h2⟩
      · exact .inl h1
      · exact absurd h1 h2
      · exact .inr h1
/-- The first n words of x go. -/
theorem joined_cut {pre post : List Sp} {x : Sp} {n : Int} (hj : Joined (pre ++ x :: post)) (h1 : 1 ≤ n) (h2 : n < x.2) :
    Joined (pre ++ (x.1 + n, x.2 - n) :: post) ∧ ∀ p, cov (pre ++ (x.1 + n, x.2 - n) :: post) p ↔ cov (pre ++ x :: post) p ∧ ¬ Sp.has (x.1, n) p := by
  have ht := joined_two hj rfl
  have h := List.pairwise_append.1 hj.2
  have hx : x.ok := hj.1 x (by simp)
  have hy : Sp.ok (x.1 + n, x.2 - n) := by unfold Sp.ok at hx ⊢; simp only; omega
  have hn : Sp.ok (x.1, n) := by unfold Sp.ok at hx ⊢; simp only; omega
  refine ⟨⟨fun y hm => ?_, List.pairwise_append.2 ⟨h.1, List.pairwise_cons.2 ⟨fun b hb => by have := ht.2 b hb; simp only; omega, (List.pairwise_cons.1 h.2.1).2⟩, fun a ha b hb => ?_⟩⟩, fun p => ?_⟩
  · rcases List.mem_append.1 hm with hm | hm
    · exact hj.1 y (List.mem_append_left _ hm)
    · rcases List.mem_cons.1 hm with rfl | hm
      · exact hy
      · exact hj.1 y (List.mem_append_right _ (List.mem_cons_of_mem _ hm))
  · rcases List.mem_cons.1 hb with rfl | hb
    · have := ht.1 a ha; simp only; omega
    · exact h.2.2 a ha b (List.mem_cons_of_mem _ hb)
  · rw [cov_append, cov_cons, cov_append, cov_cons]
    have hs : Sp.has (x.1 + n, x.2 - n) p ↔ x.has p ∧ ¬ Sp.has (x.1, n) p := by
      unfold Sp.has
      simp only [hx, hy, hn, true_and]
      omega
    rw [hs]
    constructor
    · rintro (⟨y, hy, hp⟩ | h | ⟨y, hy, hp⟩)
      · exact ⟨.inl ⟨y, hy, hp⟩, fun hh => by have := ht.1 y hy; have := hp.2.2; have := hh.2.1; simp only at this; omega⟩
      · exact ⟨.inr (.inl h.1), h.2⟩
      · exact ⟨.inr (.inr ⟨y, hy, hp⟩), fun hh => by have := ht.2 y hy; have := hp.2.1; have := hh.2.2; simp only at this; omega⟩
    · rintro ⟨h1 | h1 | h1, h2⟩
      · exact .inl h1
      · exact .inr (.inl ⟨h1, h2⟩)
      · exact .inr (.inr h1)
theorem split_at {l : List Sp} {k : Nat} {x : Sp} (h : l[k]? = some x) : l = l.take k ++ x :: l.drop (k + 1) := by
  obtain ⟨hk, rfl⟩ := List.getElem?_eq_some_iff.1 h
  rw [List.getElem_cons_drop, List.take_append_drop]
theorem erase_at (l : List Sp) (k : Nat) : l.eraseIdx k = l.take k ++ l.drop (k + 1) := List.eraseIdx_eq_take_drop_succ l k
theorem set_at {l : List Sp} {k : Nat} (y : Sp) (h : k < l.length) : l.set k y = l.take k ++ y :: l.drop (k + 1) := by
  rw [List.set_eq_take_append_cons_drop, if_pos h]

/-- What is told of a take from free words that may be. -/
structure Took (all : Sp) (l : List Sp) (n : Int) (a : List Sp) (s : Int) : Prop where
  right : RightP all a
  ok : Sp.ok (s, n)
  cov : ∀ p, cov a p ↔ cov l p ∧ ¬ Sp.has (s, n) p
  was : ∀ p, Sp.has (s, n) p → Go.Proofs.YtciidodmhigpdaaGreatDoor.cov l p
  free : a.any (fun x => decide (Sp.meets x (s, n))) = false
  len : a.length ≤ l.length
theorem took_of {all : Sp} {l a : List Sp} {n s : Int} (hl : RightP all l) (hj : Joined a) (hok : Sp.ok (s, n)) (hc : ∀ p, cov a p ↔ cov l p ∧ ¬ Sp.has (s, n) p) (hw : ∀ p, Sp.has (s, n) p → cov l p)
    (hin : ∀ x ∈ a, ∃ y ∈ l, y.1 ≤ x.1 ∧ x.1 + x.2 ≤ y.1 + y.2) (hlen : a.length ≤ l.length) : Took all l n a s := by
  refine ⟨⟨fun x hx => ?_, hj⟩, hok, hc, hw, ?_, hlen⟩
  · obtain ⟨y, hy, h1, h2⟩ := hin x hx
    exact within_of (hj.1 x hx) h1 h2 (hl.1 y hy)
  · rw [List.any_eq_false]
    intro x hx hm
    have hm := of_decide_eq_true hm
    rcases hm.2.2 with h | h
    · exact ((hc _).1 ⟨x, hx, h⟩).2 ⟨hok, Int.le_refl _, by have := hok.2.1; omega⟩
    · exact ((hc x.1).1 ⟨x, hx, hm.1, Int.le_refl _, by have := hm.1.2.1; omega⟩).2 h
theorem take_right {all : Sp} {l : List Sp} {n : Int} (hl : RightP all l) :
    ((n < 1 ∨ largest l < n) ∧ ∃ e, takeT l n = (l, 0, e) ∧ (e = 7 ∨ e = 9)) ∨ (¬ n < 1 ∧ n ≤ largest l ∧ ∃ a s, takeT l n = (a, s, 0) ∧ Took all l n a s) := by
  by_cases h1 : n < 1
  · exact .inl ⟨.inl h1, 7, takeT_size h1, .inl rfl⟩
  by_cases h2 : idxI (Sp.fits n) l < 0
  · refine .inl ⟨.inr ?_, 9, takeT_none h1 h2, .inr rfl⟩
    rcases Int.lt_or_le (largest l) n with h3 | h3
    · exact h3
    · obtain ⟨x, hx, hp⟩ := (largest_iff (by omega)).1 h3
      have := idxI_any (Sp.fits n) l
      rw [List.any_eq_true.2 ⟨x, hx, fits_iff.2 hp⟩] at this
      have := of_decide_eq_true this
      omega
  obtain ⟨k, x, hk, hx, hok, hn, he, hne⟩ := takeT_some h1 h2
  refine .inr ⟨h1, (largest_iff (by omega)).2 ⟨x, List.mem_of_getElem? hx, hok, hn⟩, ?_⟩
  have hlt : k < l.length := (List.getElem?_eq_some_iff.1 hx).1
  have hsp := split_at hx
  have hj := hl.2
  rw [hsp] at hj
  have hmx : x ∈ l := List.mem_of_getElem? hx
  have hwas : ∀ p, Sp.has (x.1, n) p → cov l p := fun p hp => ⟨x, hmx, hok, hp.2.1, by have := hp.2.2; simp only at this; omega⟩
  have hsub : ∀ y ∈ l.take k ++ l.drop (k + 1), y ∈ l := fun y hy => by
    rcases List.mem_append.1 hy with hy | hy
    · exact List.mem_of_mem_take hy
    · exact List.mem_of_mem_drop hy
  by_cases hxn : x.2 = n
  · refine ⟨_, _, he hxn, ?_⟩
    have hxe : (x.1, n) = x := by rw [← hxn]
    obtain ⟨g1, g2⟩ := joined_drop hj
    rw [← hsp] at g2
    rw [erase_at]
    refine took_of hl g1 (by rw [hxe]; exact hok) (fun p => by rw [hxe]; exact g2 p) hwas (fun y hy => ⟨y, hsub y hy, Int.le_refl _, Int.le_refl _⟩) ?_
    rw [← erase_at, List.length_eraseIdx]
    split <;> omega
  · refine ⟨_, _, hne hxn, ?_⟩
    obtain ⟨g1, g2⟩ := joined_cut (n := n) hj (by omega) (by omega)
    rw [← hsp] at g2
    rw [set_at _ hlt]
    refine took_of hl g1 ?_ g2 hwas (fun y hy => ?_) ?_
    · unfold Sp.ok at hok ⊢; simp only; omega
    · rcases List.mem_append.1 hy with hy | hy
      · exact ⟨y, hsub y (List.mem_append_left _ hy), Int.le_refl _, Int.le_refl _⟩
      · rcases List.mem_cons.1 hy with rfl | hy
        · exact ⟨x, hmx, by simp only; omega, by simp only; omega⟩
        · exact ⟨y, hsub y (List.mem_append_right _ hy), Int.le_refl _, Int.le_refl _⟩
    · rw [← set_at _ hlt, List.length_set]
      exact Nat.le_refl _
/-- Given back, all is as it was. -/
theorem took_back {all : Sp} {l a O : List Sp} {n s : Int} (hl : RightP all l) (h : Took all l n a s) (hj : Joined O) (hc : ∀ p, cov O p ↔ cov (a ++ [(s, n)]) p) : O = l := by
  refine joined_unique hj hl.2 fun p => ?_
  rw [hc, cov_append, cov_one, h.cov]
  constructor
  · rintro (h1 | h1)
    · exact h1.1
    · exact h.was p h1
  · intro h1
    by_cases h2 : Sp.has (s, n) p
    · exact .inr h2
    · exact .inl ⟨h1, h2⟩
/-- Right is told by Join. -/
theorem right_iff {l O : List Sp} (hj : Joined O) (hc : ∀ p, cov O p ↔ cov l p) : decide (l = O) = decide (Joined l) := by
  rw [Bool.eq_iff_iff, decide_eq_true_iff, decide_eq_true_iff]
  exact ⟨fun e => e ▸ hj, fun h => joined_unique h hj fun p => (hc p).symm⟩

/-- What the document's Right looks at, place by place. -/
theorem right_bad1 {all : Sp} {l : List Sp} {k : Nat} {x : Sp} (hx : l[k]? = some x) (h : ¬ Sp.within x all) : ¬ RightP all l := fun hr => h (hr.1 x (List.mem_of_getElem? hx))
theorem right_bad2 {all : Sp} {l : List Sp} {k : Nat} {x y : Sp} (hy : l[k - 1]? = some y) (hx : l[k]? = some x) (hk : 0 < k) (h : ¬ y.1 + y.2 < x.1) : ¬ RightP all l := by
  intro hr
  obtain ⟨h1, rfl⟩ := List.getElem?_eq_some_iff.1 hx
  obtain ⟨h2, rfl⟩ := List.getElem?_eq_some_iff.1 hy
  exact h (List.pairwise_iff_getElem.1 hr.2.2 (k - 1) k h2 h1 (by omega))
/-- All places up to k are right. -/
def UpTo (all : Sp) (l : List Sp) (k : Nat) : Prop := ∀ (j : Nat) x, j < k → l[j]? = some x → Sp.within x all ∧ (0 < j → ∀ y, l[j - 1]? = some y → y.1 + y.2 < x.1)
theorem upTo_next {all : Sp} {l : List Sp} {k : Nat} {x : Sp} (h : UpTo all l k) (hx : l[k]? = some x) (hw : Sp.within x all) (hy : 0 < k → ∀ y, l[k - 1]? = some y → y.1 + y.2 < x.1) : UpTo all l (k + 1) := by
  intro j z hj hz
  rcases Nat.lt_or_ge j k with h' | h'
  · exact h j z h' hz
  · obtain rfl : j = k := by omega
    rw [hx] at hz
    obtain rfl := Option.some.inj hz
    exact ⟨hw, hy⟩
theorem upTo_all {all : Sp} {l : List Sp} (h : UpTo all l l.length) : RightP all l := by
  have hok : ∀ x ∈ l, Sp.within x all := fun x hx => by
    obtain ⟨j, hj, rfl⟩ := List.getElem_of_mem hx
    exact (h j _ hj (List.getElem?_eq_getElem hj)).1
  refine ⟨hok, fun x hx => (hok x hx).1, List.pairwise_iff_getElem.2 fun i j hi hj hij => ?_⟩
  have step : ∀ (d i : Nat) (hi : i < l.length) (hj : i + d + 1 < l.length), (l[i]).1 + (l[i]).2 < (l[i + d + 1]).1 := by
    intro d
    induction d with
    | zero =>
      intro i hi hj
      exact (h (i + 1) _ hj (List.getElem?_eq_getElem hj)).2 (by omega) _ (by rw [Nat.add_sub_cancel]; exact List.getElem?_eq_getElem hi)
    | succ d ih =>
      intro i hi hj
      have h1 := ih i hi (by omega)
      have h2 := (h (i + d + 2) _ hj (List.getElem?_eq_getElem hj)).2 (by omega) _ (by rw [show i + d + 2 - 1 = i + d + 1 by omega]; exact List.getElem?_eq_getElem (by omega))
      have h3 := (hok _ (List.getElem_mem (show i + d + 1 < l.length by omega))).1.2.1
      have h4 : l[i + (d + 1) + 1] = l[i + d + 2] := by congr 1
      have h5 := congrArg Prod.fst h4
      omega
  have := step (j - i - 1) i hi (by omega)
  have h4 : l[i + (j - i - 1) + 1] = l[j] := by congr 1; omega
  rw [h4] at this
  exact this
end Go.Proofs.YtciidodmhigpdaaGreatDoor

/- Contracts of package slices at spans: IndexFunc, ContainsFunc (whatever they are told a span by), Equal. -/
namespace Go.Proofs.YtciidodmhigpdaaGreatDoor
set_option maxRecDepth 100000
open Go.RowKit Go.Lib

/-- What is asked of a function that is handed in: it tells p of each span, and only makes memory. -/
def Pred (g : FuncId) (lb : Array Value) (p : Sp → Bool) (w : World) : Prop :=
  (∀ args w, (callFunc g args).run Tryz.prog w = .ok (.enter g args) w) ∧ ∀ (x : Sp), Fit x → ∀ (W : World), Only nob w W → Calls Tryz.prog g (#[.agg #[.int .i64 x.1, .int .i64 x.2]] ++ lb) W fun e w' => e = .returned (.bool (p x)) ∧ Only nob W w'
theorem Pred.on {g : FuncId} {lb : Array Value} {p : Sp → Bool} {w w' : World} (h : Pred g lb p w) (o : Only nob w w') : Pred g lb p w' := ⟨h.1, fun x hx W hW => h.2 x hx W (o.trans hW)⟩

set_option maxHeartbeats 1000000 in
theorem indexFunc_any (g : FuncId) (lb : Array Value) (p : Sp → Bool) (v : Value) (l : List Sp) (B : Nat) (w : World) (hp : Pred g lb p w) (h : Sl w B 2 v l.length (spc l)) (hB : B ≤ w.heap.size) (hf : Fits l) :
    Calls Tryz.prog 140 #[v, .func (.func g) #[] lb] w fun e w' => e = .returned (.int .i64 (idxI p l)) ∧ Only nob w w' := by
  have HA := Lib.hid h
  have HF := Lib.hid hf
  have HP := Lib.hid hp.2
  have eg := hp.1
  obtain ⟨A, ca, rfl, hac, ham, -⟩ := h
  unfold maxLen at ham
  clear hp hf
  go_enter Tryz.func140, Tryz.ntmps140
  go_wp2_with fail
  go_loopw [5, 8] (fun _ i wr => ∃ k : Nat, k ≤ l.length ∧ i = .int .i64 k ∧ Hid (∀ (j : Nat) y, j < k → l[j]? = some y → p y = false) ∧ Only nob w wr) (fun _ i _ => l.length - (intOf i).toNat)
  case atStart => exact ⟨0, Nat.zero_le _, rfl, fun j _ hj _ => absurd hj (Nat.not_lt_zero j), Only.refl _ _⟩
  case round =>
    obtain ⟨k, hk, rfl, hno, hO⟩ := hrel
    have HX := Lib.hid hO
    by_cases hlt : k < l.length
    · obtain ⟨x, hx⟩ : ∃ x, l[k]? = some x := ⟨_, List.getElem?_eq_getElem hlt⟩
      obtain ⟨b, o, rfl, hb, c0, c1⟩ := sl_span HA.out (hO.below hB fun _ h => h.elim) hx
      have HXX := Lib.hid hx
      clear hO hx
      cases hp : p x with
      | true =>
        have HQ := Lib.hid hp
        have HK := Lib.hid (idxI_hit HXX.out hp hno.out)
        clear hp
        go_wp2_with fail
        refine (HP.out x (HF.out.get HXX.out) _ HX.out).mono ?_
        rw [HQ.out]
        rintro e w1 ⟨rfl, ho⟩
        have HO := Lib.hid (HX.out.trans ho)
        clear ho
        go_wp2
        go_ret
        exact ⟨ret_i64 (by rw [HK.out]), HO.out⟩
      | false =>
        have HQ := Lib.hid hp
        clear hp
        go_wp2_with fail
        refine (HP.out x (HF.out.get HXX.out) _ HX.out).mono ?_
        rw [HQ.out]
        rintro e w1 ⟨rfl, ho⟩
        have HO := Lib.hid (HX.out.trans ho)
        clear ho
        go_wp2
        go_roundw
        case rel =>
          refine ⟨k + 1, by omega, by go_num, fun j y hj hy => ?_, HO.out⟩
          rcases Nat.lt_or_ge j k with h' | h'
          · exact hno.out j y h' hy
          · obtain rfl : j = k := by omega
            rw [HXX.out] at hy
            obtain rfl := Option.some.inj hy
            exact HQ.out
        case measure => simp [intOf]; omega
    · obtain rfl : k = l.length := by omega
      have HK := Lib.hid (idxI_miss hno.out)
      clear hO
      go_wp2
      go_ret
      exact ⟨ret_i64 (by rw [HK.out]), HX.out⟩

theorem idxI_range (p : Sp → Bool) (l : List Sp) : -1 ≤ idxI p l ∧ idxI p l ≤ l.length := by unfold idxI; split <;> omega
set_option maxHeartbeats 1000000 in
theorem containsFunc_any (g : FuncId) (lb : Array Value) (p : Sp → Bool) (v : Value) (l : List Sp) (B : Nat) (w : World) (hp : Pred g lb p w) (h : Sl w B 2 v l.length (spc l)) (hB : B ≤ w.heap.size) (hf : Fits l) :
    Calls Tryz.prog 122 #[v, .func (.func g) #[] lb] w fun e w' => e = .returned (.bool (l.any p)) ∧ Only nob w w' := by
  have HA := Lib.hid h
  have HP := Lib.hid hp
  have HF := Lib.hid hf
  clear h hp hf
  have HI := Lib.hid (idxI_any p l)
  go_enter Tryz.func122, Tryz.ntmps122
  go_wp2_with fail
  go_at_call 140
  refine (indexFunc_any g lb p v l B w HP.out HA.out hB HF.out).mono ?_
  rintro e w1 ⟨rfl, ho⟩
  have HO := Lib.hid ho
  obtain ⟨i, hi⟩ : ∃ i, i = idxI p l := ⟨_, rfl⟩
  rw [← hi]
  have HII := Lib.hid hi
  clear ho hi
  go_wp2
  go_ret
  exact ⟨ret_bool (by rw [← HI.out, ← HII.out]), HO.out⟩

theorem ne_len {l m : List Sp} (h : l.length ≠ m.length) : l ≠ m := fun e => h (by rw [e])
theorem ne_at {l m : List Sp} {k : Nat} {x y : Sp} (hx : l[k]? = some x) (hy : m[k]? = some y) (h : x ≠ y) : l ≠ m := fun e => h (by rw [e, hy] at hx; exact (Option.some.inj hx).symm)
theorem eq_all {l m : List Sp} (hl : l.length = m.length) (h : ∀ (j : Nat) x, j < l.length → l[j]? = some x → m[j]? = some x) : l = m := by
  refine List.ext_getElem? fun j => ?_
  rcases Nat.lt_or_ge j l.length with hj | hj
  · rw [h j _ hj (List.getElem?_eq_getElem hj)]
    exact List.getElem?_eq_getElem hj
  · rw [List.getElem?_eq_none hj, List.getElem?_eq_none (by omega)]
set_option maxHeartbeats 2000000 in
theorem equal_any (va vb : Value) (l m : List Sp) (B B' : Nat) (w : World) (ha : Sl w B 2 va l.length (spc l)) (hb : Sl w B' 2 vb m.length (spc m)) :
    Calls Tryz.prog 56 #[va, vb] w fun e w' => e = .returned (.bool (decide (l = m))) ∧ Only nob w w' := by
  have HA := Lib.hid ha
  have HB := Lib.hid hb
  obtain ⟨A, ca, rfl, hac, ham, -⟩ := ha
  obtain ⟨A', cb, rfl, hbc, hbm, -⟩ := hb
  unfold maxLen at ham hbm
  by_cases hlen : l.length = m.length
  · have HL := Lib.hid hlen
    rw [← hlen] at hbc ⊢
    clear hlen
    go_enter Tryz.func56, Tryz.ntmps56
    go_wp2
    go_loopw [5, 13] (fun _ i wr => ∃ k m' : Nat, k ≤ l.length ∧ i = .int .i64 k ∧ Hid (∀ (j : Nat) x, j < k → l[j]? = some x → m[j]? = some x) ∧ wr = w.drewN m') (fun _ i _ => l.length - (intOf i).toNat)
    case atStart => exact ⟨0, 0, Nat.zero_le _, rfl, fun j _ hj _ => absurd hj (Nat.not_lt_zero j), rfl⟩
    case round =>
      obtain ⟨k, m', hk, rfl, hno, rfl⟩ := hrel
      by_cases hlt : k < l.length
      · obtain ⟨x, hx⟩ : ∃ x, l[k]? = some x := ⟨_, List.getElem?_eq_getElem hlt⟩
        obtain ⟨y, hy⟩ : ∃ y, m[k]? = some y := ⟨_, List.getElem?_eq_getElem (by rw [← HL.out]; exact hlt)⟩
        obtain ⟨b1, o1, rfl, -, c0, c1⟩ := sl_span HA.out (Below.refl _ _) hx
        obtain ⟨b2, o2, rfl, -, d0, d1⟩ := sl_span HB.out (Below.refl _ _) hy
        have HX := Lib.hid hx
        have HY := Lib.hid hy
        clear hx hy
        by_cases h1 : x.1 = y.1
        · by_cases h2 : x.2 = y.2
          · obtain rfl : x = y := Prod.ext h1 h2
            clear h1 h2
            go_wp2
            go_quiet (fail)
            go_wp2
            go_roundw
            case rel =>
              refine ⟨k + 1, _, by omega, by go_num, fun j z hj hz => ?_, rfl⟩
              rcases Nat.lt_or_ge j k with h' | h'
              · exact hno.out j z h' hz
              · obtain rfl : j = k := by omega
                rw [HX.out] at hz
                rw [HY.out]; exact hz
            case measure => simp [intOf]; omega
          · have HN := Lib.hid (decide_eq_false (ne_at HX.out HY.out fun e => h2 (by rw [e])))
            rw [h1] at c0
            go_wp2
            go_quiet (fail)
            go_wp2
            go_ret
            exact ⟨ret_bool (by rw [HN.out]), ((Only.refl _ _).drewN _).drewN _⟩
        · have HN := Lib.hid (decide_eq_false (ne_at HX.out HY.out fun e => h1 (by rw [e])))
          go_wp2
          go_quiet (fail)
          go_wp2
          go_ret
          exact ⟨ret_bool (by rw [HN.out]), ((Only.refl _ _).drewN _).drewN _⟩
      · obtain rfl : k = l.length := by omega
        have HN := Lib.hid (decide_eq_true (eq_all HL.out hno.out))
        go_wp2
        go_ret
        exact ⟨ret_bool (by rw [HN.out]), (Only.refl _ _).drewN _⟩
  · have HN := Lib.hid (decide_eq_false (ne_len hlen))
    have hn1 : ¬ ((l.length : Int) = (m.length : Int)) := by omega
    go_enter Tryz.func56, Tryz.ntmps56
    go_wp2
    go_ret
    exact ⟨ret_bool (by rw [HN.out]), Only.refl _ _⟩
end Go.Proofs.YtciidodmhigpdaaGreatDoor

/- Contracts of package slices at spans: Grow and Concat of two, Delete of one. -/
namespace Go.Proofs.YtciidodmhigpdaaGreatDoor
set_option maxRecDepth 100000
open Go.RowKit Go.Lib Go.Shelf

end Go.Proofs.YtciidodmhigpdaaGreatDoor

/- Contract of slices.Delete at spans: one goes out of a row of the call's own. -/
namespace Go.Proofs.YtciidodmhigpdaaGreatDoor
set_option maxRecDepth 100000
open Go.RowKit Go.Lib Go.Shelf

theorem only_setCells (g : Nat) : ∀ (vs : List Value) (o : Nat) (w : World), Only (isb g) w (w.setCells g o vs)
  | [], _, w => Only.refl _ w
  | v :: vs, o, w => (only_set w g o v).trans (only_setCells g vs (o + 1) (w.setCell ⟨g, o, none⟩ v))
theorem splice_cons {α : Type} (L vs : List α) (o : Nat) (v : α) (h : o + (vs.length + 1) ≤ L.length) : splice (L.set o v) (o + 1) vs = splice L o (v :: vs) := by
  have h1 : (L.set o v).take (o + 1) = L.take o ++ [v] := by
    rw [List.take_add_one, List.take_set_of_le (Nat.le_refl _), List.getElem?_set, if_pos rfl, if_pos (by omega)]
    rfl
  have h2 : ∀ k, o < k → (L.set o v).drop k = L.drop k := fun k hk => by rw [List.drop_set_of_lt hk]
  unfold splice
  rw [h1, h2 _ (by omega)]
  simp [Nat.add_assoc, Nat.add_comm 1 vs.length]
theorem Blk.setCells {g : Nat} {t : TypeId} : ∀ (vs : List Value) (o : Nat) {w : World} {cs : Array Value}, Blk w g t cs → o + vs.length ≤ cs.size → Blk (w.setCells g o vs) g t (splice cs.toList o vs).toArray
  | [], o, w, cs, h, _ => by
    show Blk w g t _
    simpa [splice] using h
  | v :: vs, o, w, cs, h, hl => by
    have h1 := Blk.setCells vs (o + 1) (h.put o v) (by simp at hl ⊢; omega)
    have h2 := splice_cons cs.toList vs o v (by simp at hl ⊢; omega)
    rw [Array.toList_setIfInBounds, h2] at h1
    exact h1
/-- The elements behind one place go to the left, the last one becomes 0. -/
theorem splice_erase (l : List Sp) (k : Nat) (cur : List Value) (hk : k < l.length) (hc : cur.take (l.length * 2) = spc l) (z : List Value) :
    (splice (splice cur (k * 2) (spc (l.drop (k + 1)))) ((l.length - 1) * 2) z).take ((l.length - 1) * 2) = spc (l.eraseIdx k) := by
  have hlen : l.length * 2 ≤ cur.length := by
    have h1 := congrArg List.length hc
    rw [List.length_take, spc_len] at h1
    omega
  have hd : (spc (l.drop (k + 1))).length = (l.length - (k + 1)) * 2 := by rw [spc_len, List.length_drop]
  have h1 : ∀ (L : List Value) (o : Nat), o ≤ L.length → (splice L o z).take o = L.take o := fun L o ho => by
    unfold splice
    rw [List.take_append_of_le_length (by rw [List.length_take]; omega), List.take_take, Nat.min_self]
  have hls := splice_len cur (k * 2) (spc (l.drop (k + 1))) (by rw [hd]; omega)
  rw [h1 _ _ (by rw [hls]; omega)]
  unfold splice
  have h2 : cur.take (k * 2) = spc (l.take k) := by
    have := congrArg (List.take (k * 2)) hc
    rw [List.take_take, Nat.min_eq_left (by omega), spc_take] at this
    exact this
  rw [h2, hd, List.take_append, List.take_of_length_le (by rw [spc_len, List.length_take]; omega), spc_len, List.length_take, Nat.min_eq_left (by omega), show (l.length - 1) * 2 - k * 2 = (spc (l.drop (k + 1))).length by rw [hd]; omega, List.take_append_of_le_length (Nat.le_refl _), List.take_length, ← spc_append, erase_at]

/-- 'clear' of one span: its two cells become 0. -/
theorem run_clear_one {P : Program} (w : World) (t e ty : TypeId) (z : Value) (ht : P.underlying t = some (.slice e)) (hv : ∀ w, (zeroValue e).run P w = .ok z w) (x y : Value) (hz : z.cells = #[x, y]) (hx : x.oneCell' = true) (hy : y.oneCell' = true) (b o c : Nat)
    (hc : ∀ j, j < 2 → (w.cell? ⟨b, o + j, none⟩).isSome = true) (hf : ∀ j, j < 2 → w.frozen? ⟨b, o + j, none⟩ = false) :
    (Builtin.clear_ #[t] ty #[.slice (some ⟨b, o, none⟩) 1 c]).run P w = .ok (.tuple #[]) (w.setCells b o [x, y]) := by
  have hzc : (Builtin.zeroCells z.cells 1).toList = [x, y] := by
    rw [hz]; simp [Builtin.zeroCells, Array.range, Array.ofFn]; rfl
  have hst := run_storeCells_cells (P := P) b o [x, y] 0 w (by simpa using hc) (by simpa using hf) (by intro v hv'; simp at hv'; rcases hv' with rfl | rfl <;> assumption)
  rw [Nat.add_zero] at hst
  simp [Builtin.clear_, run_underlying ht, hv, hzc, hst]

end Go.Proofs.YtciidodmhigpdaaGreatDoor

/- Contracts of package extent. -/
namespace Go.Proofs.YtciidodmhigpdaaGreatDoor
set_option maxRecDepth 100000
open Go.RowKit Go.Lib

theorem fits_ok {n : Int} {x : Sp} (h : x.ok) : Sp.fits n x = decide (n ≤ x.2) := by
  unfold Sp.fits
  rw [Bool.eq_iff_iff, decide_eq_true_iff, decide_eq_true_iff]
  exact ⟨fun e => e.2, fun e => ⟨h, e⟩⟩
theorem fits_no {n : Int} {x : Sp} (h : ¬ x.ok) : Sp.fits n x = false := by unfold Sp.fits; exact decide_eq_false fun e => h e.1

/-- A row of the call's own, opened: its block. -/
theorem own_block {w : World} {base n : Nat} {v : Value} {l : List Sp} (h : w.ownsRow base 50 2 v l.length (spc l)) (hn : n < l.length) : ∃ g cap, ∃ cur : Array Value, v = .slice (some ⟨g, 0, none⟩) l.length cap ∧ base ≤ g ∧ Blk w g 50 cur ∧ l.length ≤ cap ∧ cap ≤ maxLen ∧ cur.size = cap * 2 ∧ cur.toList.take (l.length * 2) = spc l := by
  rcases h.2 with ⟨_, h0⟩ | ⟨g, cap, cur, h1, h2, h3, h4, h5, h6, h7⟩
  · exact absurd hn (by omega)
  · exact ⟨g, cap, cur, h1, h2, h3, h4, h5, h6, h7⟩
/-- A block of the call's own reads as spans. -/
theorem sl_of_cur {w : World} {g cap n : Nat} {cur : Array Value} {l : List Sp} (h : Blk w g 50 cur) (hn : l.length = n) (h1 : n ≤ cap) (h2 : cap ≤ maxLen) (h3 : cur.toList.take (n * 2) = spc l) : Sl w w.heap.size 2 (.slice (some ⟨g, 0, none⟩) n cap) n (spc l) := by
  refine ⟨_, cap, rfl, h1, h2, by rw [spc_len, hn], fun _ => ⟨g, 0, rfl, h.lt, fun k u hu => ?_⟩⟩
  rw [Nat.zero_add, h.cell, ← Array.getElem?_toList]
  rw [← h3, List.getElem?_take] at hu
  split at hu
  · exact hu
  · cases hu
theorem cur_set {cur : Array Value} {l : List Sp} {k n : Nat} {y : Sp} (hn : l.length = n) (h : cur.toList.take (n * 2) = spc l) (hk : k < n) : ((cur.setIfInBounds (k * 2) (.int .i64 y.1)).setIfInBounds (k * 2 + 1) (.int .i64 y.2)).toList.take (n * 2) = spc (l.set k y) := by
  rw [Array.toList_setIfInBounds, Array.toList_setIfInBounds, List.take_set, List.take_set, h]
  clear h
  subst hn
  induction l generalizing k with
  | nil => simp at hk
  | cons x l ih =>
    rcases k with _ | k
    · simp [spc]
    · have := ih (k := k) (by simpa using hk)
      rw [show (k + 1) * 2 = k * 2 + 1 + 1 by omega]
      simpa [spc] using this
theorem only_new {w w1 w2 : World} {g : Nat} (h : Only nob w w1) (hg : w.heap.size ≤ g) (k : Only (isb g) w1 w2) : Only nob w w2 := h.andThen k fun i hi e => by unfold isb at e; omega
theorem takeT_bounds {l : List Sp} {x : Sp} {k : Nat} {n : Int} (_ : l[k]? = some x) (hx : x.ok) (h1 : ¬ n < 1) (_ : n ≤ x.2) : 0 ≤ x.1 ∧ x.1 + x.2 ≤ 1099511627776 ∧ 1 ≤ n := by unfold Sp.ok most at hx; omega

end Go.Proofs.YtciidodmhigpdaaGreatDoor

/- Contracts of package extent: Give, Right, Largest. -/
namespace Go.Proofs.YtciidodmhigpdaaGreatDoor
set_option maxRecDepth 100000
open Go.RowKit Go.Lib

/-- What Give tells. -/
def GaveT (l : List Sp) (s : Sp) (O : List Sp) (e : Int) : Prop :=
  (¬ s.ok ∧ O = l ∧ e = 1) ∨ (s.ok ∧ l.any (fun x => decide (Sp.meets x s)) = true ∧ O = l ∧ e = 16) ∨
  (s.ok ∧ l.any (fun x => decide (Sp.meets x s)) = false ∧ Joined O ∧ (∀ p, cov O p ↔ cov (l ++ [s]) p) ∧ e = 0)
theorem fits_app {l m : List Sp} (h : Fits l) (k : Fits m) : Fits (l ++ m) := fun x hx => (List.mem_append.1 hx).elim (h x) (k x)
theorem fits_one {s : Sp} (h : Fit s) : Fits [s] := fun x hx => by rw [List.mem_singleton.1 hx]; exact h

theorem any_within {all : Sp} {l : List Sp} : l.any (fun x => !decide (Sp.within x all)) = false ↔ ∀ x ∈ l, Sp.within x all := by
  rw [List.any_eq_false]
  constructor
  · intro h x hx
    by_cases hw : Sp.within x all
    · exact hw
    · exact absurd (by simpa using hw) (h x hx)
  · intro h x hx
    simpa using h x hx
end Go.Proofs.YtciidodmhigpdaaGreatDoor
