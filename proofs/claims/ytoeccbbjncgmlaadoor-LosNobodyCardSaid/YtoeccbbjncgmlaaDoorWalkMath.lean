/- Walks over objects, in plain words: what is met, where it ends and why; over any way of telling headers. No program in it. -/
import Derived.Test.YtoeccbbjncgmlaaDoorSpanPure
import Derived.Test.YtoeccbbjncgmlaaDoorHead
namespace Go.Proofs.YtoeccbbjncgmlaaDoor
open Go.RowKit

/-- What is told of a place: an error, and a header's numbers. -/
structure Hd where
  e : Int
  k : Int
  f : Int
  r : Int
  m : Bool
  c : Int
/-- What is told of a place where no error is: a header that may be. -/
def HdOk (h : Int → Hd) : Prop := ∀ a, (h a).e = 0 → hmay (h a).k (h a).f (h a).r (h a).c = true
/-- How many words the object has. -/
def osz (h : Int → Hd) (a : Int) : Int := 1 + (h a).f + (h a).r
/-- The error of a step at a. -/
def swE (h : Int → Hd) (top a : Int) : Int := if (h a).e = 0 then (if osz h a ≤ top - a then 0 else 2) else (h a).e
/-- A step of a walk. -/
structure It where
  at_ : Int
  k : Int
  f : Int
  r : Int
  m : Bool
  c : Int
  e : Int
def item (h : Int → Hd) (top a : Int) : It := if swE h top a = 0 then ⟨a, (h a).k, (h a).f, (h a).r, (h a).m, (h a).c, 0⟩ else ⟨a, 0, 0, 0, false, 0, swE h top a⟩
def trF (h : Int → Hd) (top : Int) : Nat → Int → List It
  | 0, _ => []
  | n + 1, a => if a < top then item h top a :: (if swE h top a = 0 then trF h top n (a + osz h a) else []) else []
/-- All steps from a on. -/
def tr (h : Int → Hd) (top a : Int) : List It := trF h top (top - a).toNat a
/-- All steps of a walk of x up to top. -/
def badIt : It := ⟨0, 0, 0, 0, false, 0, 1⟩
def may9 (x : Sp) (top : Int) : Prop := x.ok ∧ x.1 ≤ top ∧ top ≤ x.1 + x.2
instance (x : Sp) (top : Int) : Decidable (may9 x top) := by unfold may9; infer_instance
def walkL (h : Int → Hd) (x : Sp) (top : Int) : List It := if may9 x top then tr h top x.1 else [badIt]

section
variable {h : Int → Hd} {top a : Int}
theorem item_e : (item h top a).e = swE h top a := by unfold item; split <;> simp_all
theorem item_at : (item h top a).at_ = a := by unfold item; split <;> rfl
theorem osz_pos (H : HdOk h) (he : (h a).e = 0) : 1 ≤ osz h a ∧ osz h a ≤ 8193 := by
  have := hmay_iff.1 (H a he)
  unfold osz; omega
theorem sw_zero (hs : swE h top a = 0) : (h a).e = 0 ∧ osz h a ≤ top - a := by
  unfold swE at hs
  split at hs
  · rename_i h0
    split at hs
    · exact ⟨h0, by assumption⟩
    · cases hs
  · exact absurd hs (by assumption)
theorem sw_ok (h0 : (h a).e = 0) (h1 : osz h a ≤ top - a) : swE h top a = 0 := by unfold swE; rw [if_pos h0, if_pos h1]
theorem sw_far (h0 : (h a).e = 0) (h1 : ¬ osz h a ≤ top - a) : swE h top a = 2 := by unfold swE; rw [if_pos h0, if_neg h1]
theorem sw_head (h0 : (h a).e ≠ 0) : swE h top a = (h a).e := by unfold swE; rw [if_neg h0]
theorem item_ok (hs : swE h top a = 0) : item h top a = ⟨a, (h a).k, (h a).f, (h a).r, (h a).m, (h a).c, 0⟩ := by unfold item; rw [if_pos hs]
theorem item_no (hs : swE h top a ≠ 0) : item h top a = ⟨a, 0, 0, 0, false, 0, swE h top a⟩ := by unfold item; rw [if_neg hs]
theorem trF_end (n : Nat) (ha : ¬ a < top) : trF h top n a = [] := by cases n <;> simp [trF, ha]
theorem trF_same (H : HdOk h) : ∀ (n m : Nat) (a : Int), (top - a).toNat ≤ n → (top - a).toNat ≤ m → trF h top n a = trF h top m a
  | 0, m, a, hn, _ => by rw [trF_end 0 (by omega), trF_end m (by omega)]
  | n + 1, 0, a, _, hm => by rw [trF_end 0 (by omega), trF_end (n + 1) (by omega)]
  | n + 1, m + 1, a, hn, hm => by
    by_cases ha : a < top
    · simp only [trF, if_pos ha]
      by_cases hs : swE h top a = 0
      · have := osz_pos H (sw_zero hs).1
        rw [if_pos hs, if_pos hs, trF_same H n m (a + osz h a) (by omega) (by omega)]
      · rw [if_neg hs, if_neg hs]
    · rw [trF_end _ ha, trF_end _ ha]
theorem tr_end (ha : ¬ a < top) : tr h top a = [] := trF_end _ ha
theorem tr_err (ha : a < top) (hs : swE h top a ≠ 0) : tr h top a = [item h top a] := by
  unfold tr
  obtain ⟨n, hn⟩ : ∃ n, (top - a).toNat = n + 1 := ⟨(top - a).toNat - 1, by omega⟩
  rw [hn]
  simp only [trF, if_pos ha, if_neg hs]
theorem tr_ok (H : HdOk h) (ha : a < top) (hs : swE h top a = 0) : tr h top a = item h top a :: tr h top (a + osz h a) := by
  have h1 := osz_pos H (sw_zero hs).1
  unfold tr
  obtain ⟨n, hn⟩ : ∃ n, (top - a).toNat = n + 1 := ⟨(top - a).toNat - 1, by omega⟩
  rw [hn]
  simp only [trF, if_pos ha, if_pos hs]
  rw [trF_same H n (top - (a + osz h a)).toNat _ (by omega) (Nat.le_refl _)]
end
/-- By the number of steps that are left. -/
theorem tr_ind {h : Int → Hd} (H : HdOk h) (top : Int) {P : Int → Prop} (h0 : ∀ a, ¬ a < top → P a) (h1 : ∀ a, a < top → swE h top a ≠ 0 → P a) (h2 : ∀ a, a < top → swE h top a = 0 → P (a + osz h a) → P a) (a : Int) : P a := by
  suffices ∀ (n : Nat) (a : Int), (top - a).toNat ≤ n → P a from this _ a (Nat.le_refl _)
  intro n
  induction n with
  | zero => intro a hn; exact h0 a (by omega)
  | succ n ih =>
    intro a hn
    by_cases ha : a < top
    · by_cases hs : swE h top a = 0
      · have := osz_pos H (sw_zero hs).1
        exact h2 a ha hs (ih _ (by omega))
      · exact h1 a ha hs
    · exact h0 a ha

/-- The step at which a walk errs. -/
def bad (L : List It) : Option It := L.find? fun y => y.e != 0
theorem bad_none {L : List It} (h : ∀ y ∈ L, y.e = 0) : bad L = none := by
  unfold bad
  rw [List.find?_eq_none]
  intro y hy
  simp [h y hy]
theorem bad_some {P R : List It} {y : It} (h : ∀ z ∈ P, z.e = 0) (hy : y.e ≠ 0) : bad (P ++ y :: R) = some y := by
  have hn := bad_none h
  have hy' : (y.e != 0) = true := by simpa using hy
  unfold bad at hn ⊢
  rw [List.find?_append, hn, List.find?_cons, hy']
  rfl
theorem bad_ok {L : List It} (h : bad L = none) : ∀ y ∈ L, y.e = 0 := by
  unfold bad at h
  rw [List.find?_eq_none] at h
  intro y hy
  simpa using h y hy
/-- What is told: the place where it ends, the error, the places, and how many words and fields. -/
def wkP (L : List It) (top : Int) : Int := (bad L).elim top (·.at_)
def wkE (L : List It) : Int := (bad L).elim 0 (·.e)
def ats (L : List It) : List Int := L.map (·.at_)
theorem ats_snoc (l : List It) (y : It) : ats (l ++ [y]) = ats l ++ [y.at_] := by simp [ats]
theorem ats_len (l : List It) : (ats l).length = l.length := by simp [ats]
def wkL (L : List It) : List Int := if bad L = none then ats L else []
theorem wk_ok {L : List It} (h : ∀ y ∈ L, y.e = 0) (top : Int) : wkP L top = top ∧ wkE L = 0 ∧ wkL L = ats L := by
  unfold wkP wkE wkL; rw [bad_none h]; exact ⟨rfl, rfl, rfl⟩
theorem wk_no {P R : List It} {y : It} (h : ∀ z ∈ P, z.e = 0) (hy : y.e ≠ 0) (top : Int) : wkP (P ++ y :: R) top = y.at_ ∧ wkE (P ++ y :: R) = y.e ∧ wkL (P ++ y :: R) = [] := by
  unfold wkP wkE wkL; rw [bad_some h hy]; exact ⟨rfl, rfl, rfl⟩
theorem wkE_zero {L : List It} (h : wkE L = 0) : ∀ y ∈ L, y.e = 0 := by
  cases hb : bad L with
  | none => exact bad_ok hb
  | some y =>
    unfold wkE at h
    rw [hb] at h
    have h1 : y.e = 0 := h
    have h2 := List.find?_some hb
    simp [h1] at h2
theorem wkL_err {L : List It} (h : wkE L ≠ 0) : wkL L = [] := by
  unfold wkL
  cases hb : bad L with
  | none => unfold wkE at h; rw [hb] at h; exact absurd rfl h
  | some y => rfl
def suW (h : Int → Hd) : List Int → Int
  | [] => 0
  | a :: l => osz h a + suW h l
def suF (h : Int → Hd) : List Int → Int
  | [] => 0
  | a :: l => (h a).f + suF h l
theorem suW_append (h : Int → Hd) (l m : List Int) : suW h (l ++ m) = suW h l + suW h m := by
  induction l with
  | nil => simp [suW]
  | cons a l ih => simp only [List.cons_append, suW, ih]; omega
theorem suF_append (h : Int → Hd) (l m : List Int) : suF h (l ++ m) = suF h l + suF h m := by
  induction l with
  | nil => simp [suF]
  | cons a l ih => simp only [List.cons_append, suF, ih]; omega

section
variable {h : Int → Hd} (H : HdOk h) {top : Int}
include H
/-- The steps of a walk: each is its place's; each place but the last one is told without error; they lie between. -/
theorem tr_all (a : Int) : ∀ y ∈ tr h top a, y = item h top y.at_ ∧ a ≤ y.at_ ∧ y.at_ < top ∧ (y.e = 0 → y.at_ + osz h y.at_ ≤ top) := by
  refine tr_ind H top (P := fun a => ∀ y ∈ tr h top a, y = item h top y.at_ ∧ a ≤ y.at_ ∧ y.at_ < top ∧ (y.e = 0 → y.at_ + osz h y.at_ ≤ top)) ?_ ?_ ?_ a
  · intro a ha y hy
    rw [tr_end ha] at hy; cases hy
  · intro a ha hs y hy
    rw [tr_err ha hs, List.mem_singleton] at hy
    subst hy
    exact ⟨by rw [item_at], by rw [item_at]; exact Int.le_refl _, by rw [item_at]; exact ha, fun he => by rw [item_e] at he; exact absurd he hs⟩
  · intro a ha hs ih y hy
    rw [tr_ok H ha hs] at hy
    have hz := sw_zero hs
    rcases List.mem_cons.1 hy with rfl | hy
    · exact ⟨by rw [item_at], by rw [item_at]; exact Int.le_refl _, by rw [item_at]; exact ha, fun _ => by rw [item_at]; omega⟩
    · have := osz_pos H hz.1
      obtain ⟨h1, h2, h3⟩ := ih y hy
      exact ⟨h1, by omega, h3⟩
theorem tr_len (a : Int) : ((tr h top a).length : Int) ≤ if a < top then top - a else 0 := by
  refine tr_ind H top (P := fun a => ((tr h top a).length : Int) ≤ if a < top then top - a else 0) ?_ ?_ ?_ a
  · intro a ha
    rw [tr_end ha, if_neg ha]; simp
  · intro a ha hs
    rw [tr_err ha hs, if_pos ha]; simp; omega
  · intro a ha hs ih
    have := osz_pos H (sw_zero hs).1
    rw [tr_ok H ha hs, if_pos ha]
    simp only [List.length_cons]
    split at ih <;> omega
/-- The objects of a walk that does not err stand one behind the other, up to top. -/
theorem tr_chain (a : Int) (ha : a ≤ top) (hok : ∀ y ∈ tr h top a, y.e = 0) : (tr h top a = [] → a = top) ∧
    (∀ i y, (tr h top a)[i]? = some y → (h y.at_).e = 0 ∧ y.at_ + osz h y.at_ = (((ats (tr h top a))[i + 1]?).getD top)) ∧ (∀ y, (tr h top a)[0]? = some y → y.at_ = a) := by
  revert ha hok
  refine tr_ind H top (P := fun a => a ≤ top → (∀ y ∈ tr h top a, y.e = 0) → (tr h top a = [] → a = top) ∧
    (∀ i y, (tr h top a)[i]? = some y → (h y.at_).e = 0 ∧ y.at_ + osz h y.at_ = (((ats (tr h top a))[i + 1]?).getD top)) ∧ (∀ y, (tr h top a)[0]? = some y → y.at_ = a)) ?_ ?_ ?_ a
  · intro a ha hle _
    rw [tr_end ha]
    exact ⟨fun _ => by omega, (fun i y hy => by simp at hy), (fun y hy => by simp at hy)⟩
  · intro a ha hs hle hok
    have := hok (item h top a) (by rw [tr_err ha hs]; simp)
    rw [item_e] at this
    exact absurd this hs
  · intro a ha hs ih hle hok
    obtain ⟨h0, h1⟩ := sw_zero hs
    rw [tr_ok H ha hs] at hok ⊢
    obtain ⟨g1, g2, g3⟩ := ih (by omega) fun y hy => hok y (List.mem_cons_of_mem _ hy)
    refine ⟨(fun e => by cases e), fun i y hy => ?_, fun y hy => ?_⟩
    · rcases i with _ | i
      · simp only [List.getElem?_cons_zero, Option.some.injEq] at hy
        subst hy
        rw [item_at]
        refine ⟨h0, ?_⟩
        rcases ht : tr h top (a + osz h a) with _ | ⟨z, t⟩
        · have := g1 ht
          simp [ats]; omega
        · have := g3 z (by rw [ht]; rfl)
          simp [ats, this]
      · simp only [List.getElem?_cons_succ] at hy
        have := g2 i y hy
        simpa [ats] using this
    · simp only [List.getElem?_cons_zero, Option.some.injEq] at hy
      rw [← hy, item_at]
/-- A walk up to the place of one of its objects meets those ahead of it. -/
theorem tr_part (a : Int) (ha : a ≤ top) (hok : ∀ y ∈ tr h top a, y.e = 0) : ∀ i y, (tr h top a)[i]? = some y → (∀ z ∈ tr h y.at_ a, z.e = 0) ∧ ats (tr h y.at_ a) = (ats (tr h top a)).take i ∧ a ≤ y.at_ ∧ y.at_ < top := by
  revert ha hok
  refine tr_ind H top (P := fun a => a ≤ top → (∀ y ∈ tr h top a, y.e = 0) → ∀ i y, (tr h top a)[i]? = some y → (∀ z ∈ tr h y.at_ a, z.e = 0) ∧ ats (tr h y.at_ a) = (ats (tr h top a)).take i ∧ a ≤ y.at_ ∧ y.at_ < top) ?_ ?_ ?_ a
  · intro a ha hle _ i y hy
    rw [tr_end ha] at hy; simp at hy
  · intro a ha hs hle hok
    have := hok (item h top a) (by rw [tr_err ha hs]; simp)
    rw [item_e] at this
    exact absurd this hs
  · intro a ha hs ih hle hok i y hy
    obtain ⟨h0, h1⟩ := sw_zero hs
    have hp := osz_pos H h0
    have hin := tr_all H (top := top) (a + osz h a)
    rw [tr_ok H ha hs] at hok hy ⊢
    rcases i with _ | i
    · simp only [List.getElem?_cons_zero, Option.some.injEq] at hy
      subst hy
      rw [item_at, tr_end (by omega)]
      exact ⟨(fun _ h => by cases h), by simp [ats], Int.le_refl _, ha⟩
    · simp only [List.getElem?_cons_succ] at hy
      obtain ⟨g1, g2, g3, g4⟩ := ih (by omega) (fun y hy => hok y (List.mem_cons_of_mem _ hy)) i y hy
      have hs' : swE h y.at_ a = 0 := sw_ok h0 (by omega)
      rw [tr_ok H (by omega) hs']
      refine ⟨fun z hz => ?_, ?_, by omega, g4⟩
      · rcases List.mem_cons.1 hz with rfl | hz
        · rw [item_e]; exact hs'
        · exact g1 z hz
      · simp only [ats, List.map_cons, item_at, List.take_succ_cons] at g2 ⊢
        rw [g2]
end

/-- The objects' spans. -/
def objs (h : Int → Hd) (ps : List Int) : List Sp := ps.map fun b => (b, osz h b)
section
variable {h : Int → Hd} (H : HdOk h) {top : Int}
include H
/-- Their words are those from the beginning up to top. -/
theorem tr_cov (a : Int) (h0 : 0 ≤ a) (ha : a ≤ top) (ht : top ≤ most) (hok : ∀ y ∈ tr h top a, y.e = 0) : ∀ p, cov (objs h (ats (tr h top a))) p ↔ a ≤ p ∧ p < top := by
  revert h0 ha hok
  refine tr_ind H top (P := fun a => 0 ≤ a → a ≤ top → (∀ y ∈ tr h top a, y.e = 0) → ∀ p, cov (objs h (ats (tr h top a))) p ↔ a ≤ p ∧ p < top) ?_ ?_ ?_ a
  · intro a ha h0 hle _ p
    rw [tr_end ha]
    exact ⟨fun hc => absurd hc (cov_nil p), fun hp => by omega⟩
  · intro a ha hs h0 hle hok
    have := hok (item h top a) (by rw [tr_err ha hs]; simp)
    rw [item_e] at this
    exact absurd this hs
  · intro a ha hs ih h0 hle hok p
    obtain ⟨g0, g1⟩ := sw_zero hs
    have hp := osz_pos H g0
    have hok' : ∀ y ∈ tr h top (a + osz h a), y.e = 0 := fun y hy => hok y (by rw [tr_ok H ha hs]; exact List.mem_cons_of_mem _ hy)
    have ih' := ih (by omega) (by omega) hok' p
    rw [tr_ok H ha hs]
    show cov ((( item h top a).at_, osz h (item h top a).at_) :: objs h (ats (tr h top (a + osz h a)))) p ↔ _
    rw [cov_cons, ih', item_at]
    unfold Sp.has Sp.ok most at *
    constructor
    · rintro (⟨_, h1, h2⟩ | ⟨h1, h2⟩)
      · simp only at h1 h2; omega
      · omega
    · rintro ⟨h1, h2⟩
      by_cases h3 : p < a + osz h a
      · exact .inl ⟨by simp only; omega, h1, h3⟩
      · exact .inr ⟨by omega, h2⟩
theorem tr_joined (a : Int) (h0 : 0 ≤ a) (ha : a < top) (ht : top ≤ most) (hok : ∀ y ∈ tr h top a, y.e = 0) {O : List Sp} (hO : Joined O) (hc : ∀ p, cov O p ↔ cov (objs h (ats (tr h top a))) p) : O = [(a, top - a)] := by
  have hj : Joined [(a, top - a)] := ⟨(fun x hx => by rw [List.mem_singleton.1 hx]; unfold Sp.ok; unfold most at *; simp only; omega), List.pairwise_singleton _ _⟩
  refine joined_unique hO hj fun p => (hc p).trans ((tr_cov H a h0 (by omega) ht hok p).trans ?_)
  rw [cov_one]
  unfold Sp.has Sp.ok most at *
  constructor
  · rintro ⟨h1, h2⟩; exact ⟨by simp only; omega, h1, by simp only; omega⟩
  · rintro ⟨_, h1, h2⟩; exact ⟨h1, by simp only at h1 h2; omega⟩
theorem objs_fit (a : Int) (ht : top ≤ most) : ∀ x ∈ objs h (ats (tr h top a)), x.1 ≤ 9223372036854775807 := by
  intro x hx
  unfold objs ats at hx
  rw [List.map_map, List.mem_map] at hx
  obtain ⟨y, hy, rfl⟩ := hx
  have := (tr_all H a y hy).2.2.1
  unfold most at ht
  show y.at_ ≤ _
  omega
end
end Go.Proofs.YtoeccbbjncgmlaaDoor
