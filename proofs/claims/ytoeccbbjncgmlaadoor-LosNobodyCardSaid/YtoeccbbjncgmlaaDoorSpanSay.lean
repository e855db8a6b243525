/- Spans as values and as cells, and the plain words for what is told of them. No walk in it. -/
import Derived.Test.YtoeccbbjncgmlaaDoorRows
import Derived.Test.YtoeccbbjncgmlaaDoorMem
import Derived.Test.YtoeccbbjncgmlaaDoorSpanPure
import Derived.Deep.QuietTactic
import Derived.BigQuiet
import Derived.StillTailTactics
import Derived.Deep.DeepCutAuto
import Derived.Deep.CutBlock
namespace Go.Proofs.YtoeccbbjncgmlaaDoor
open Go.RowKit

/-- A span as a value; spans as cells. -/
def spv (x : Sp) : Value := .agg #[.int .i64 x.1, .int .i64 x.2]
def spc (l : List Sp) : List Value := l.flatMap fun x => [Value.int .i64 x.1, Value.int .i64 x.2]
theorem spc_len (l : List Sp) : (spc l).length = l.length * 2 := by
  induction l with
  | nil => rfl
  | cons x l ih => simp only [spc, List.flatMap_cons, List.length_append, List.length_cons, List.length_nil] at ih ⊢; omega
theorem spc_get (l : List Sp) (k : Nat) (h : k < l.length) : (spc l)[k * 2]? = some (.int .i64 (l[k]).1) ∧ (spc l)[k * 2 + 1]? = some (.int .i64 (l[k]).2) := by
  induction l generalizing k with
  | nil => simp at h
  | cons x l ih =>
    rcases k with _ | k
    · exact ⟨rfl, rfl⟩
    · have := ih k (by simpa using h)
      rw [show (k + 1) * 2 = k * 2 + 1 + 1 by omega]
      simpa [spc] using this
/-- Two spans have a word in common. -/
def Sp.meets (x y : Sp) : Prop := x.ok ∧ y.ok ∧ (x.has y.1 ∨ y.has x.1)
instance (x y : Sp) : Decidable (Sp.meets x y) := by unfold Sp.meets; infer_instance
/-- x has words, all of them y's. -/
def Sp.within (x y : Sp) : Prop := x.ok ∧ y.ok ∧ y.has x.1 ∧ y.has (x.1 + x.2 - 1)
instance (x y : Sp) : Decidable (Sp.within x y) := by unfold Sp.within; infer_instance
theorem meets_and (x y : Sp) : decide (Sp.meets x y) = (decide x.ok && (decide y.ok && (decide (x.has y.1) || decide (y.has x.1)))) := by
  rw [Bool.eq_iff_iff, decide_eq_true_iff]; simp [Sp.meets]
theorem within_and (x y : Sp) : decide (Sp.within x y) = (decide x.ok && (decide y.ok && (decide (y.has x.1) && decide (y.has (x.1 + x.2 - 1))))) := by
  rw [Bool.eq_iff_iff, decide_eq_true_iff]; simp [Sp.within]
theorem spc_at {l : List Sp} {k : Nat} {x : Sp} (h : l[k]? = some x) : (spc l)[k * 2]? = some (.int .i64 x.1) ∧ (spc l)[k * 2 + 1]? = some (.int .i64 x.2) := by
  obtain ⟨hk, rfl⟩ := List.getElem?_eq_some_iff.1 h
  exact spc_get l k hk
/-- The cells of a span in a list that reads. -/
theorem sl_span {w w' : World} {B : Nat} {A : Option Addr} {c k : Nat} {l : List Sp} {x : Sp} (h : Sl w B 2 (.slice A l.length c) l.length (spc l)) (hb : Below B w w') (hx : l[k]? = some x) :
    ∃ b o, A = some ⟨b, o, none⟩ ∧ b < B ∧ w'.cell? ⟨b, o + k * 2, none⟩ = some (.int .i64 x.1) ∧ w'.cell? ⟨b, o + k * 2 + 1, none⟩ = some (.int .i64 x.2) := by
  have hk : k < l.length := (List.getElem?_eq_some_iff.1 hx).1
  obtain ⟨b, o, c', e, _, _, hlt, hc⟩ := (h.below hb).at_ (by omega)
  obtain ⟨rfl, rfl⟩ : A = some ⟨b, o, none⟩ ∧ c = c' := by simpa using e
  obtain ⟨h0, h1⟩ := spc_at hx
  refine ⟨b, o, rfl, hlt, hc _ _ h0, ?_⟩
  have := hc _ _ h1
  rwa [← Nat.add_assoc] at this
instance (l : List Sp) (p : Int) : Decidable (cov l p) := by unfold cov; infer_instance
theorem cov_yes {l : List Sp} {p : Int} {k : Nat} {x : Sp} (h : l[k]? = some x) (hp : x.has p) : cov l p := ⟨x, List.mem_of_getElem? h, hp⟩
theorem cov_no {l : List Sp} {p : Int} (h : ∀ (j : Nat) x, l[j]? = some x → ¬ Sp.has x p) : ¬ cov l p := by
  rintro ⟨x, hx, hp⟩
  obtain ⟨j, hj, rfl⟩ := List.getElem_of_mem hx
  exact h j _ (List.getElem?_eq_getElem hj) hp
def cap62 : Int := 4611686018427387904
/-- All sizes of those that may be. -/
def tot : List Sp → Int
  | [] => 0
  | x :: l => (if x.ok then x.2 else 0) + tot l
theorem tot_append (l m : List Sp) : tot (l ++ m) = tot l + tot m := by
  induction l with
  | nil => simp [tot]
  | cons x l ih => simp only [List.cons_append, tot, ih]; omega
theorem tot_nonneg (l : List Sp) : 0 ≤ tot l := by
  induction l with
  | nil => simp [tot]
  | cons x l ih =>
    simp only [tot]
    split
    · rename_i h; have := h.2.1; omega
    · omega
/-- What Total tells. -/
def total (l : List Sp) : Int := if tot l ≤ cap62 then tot l else cap62
theorem total_range (l : List Sp) : 0 ≤ total l ∧ total l ≤ 4611686018427387904 := by
  have := tot_nonneg l; unfold total cap62; split <;> omega
theorem take_snoc_get {α : Type} {l : List α} {k : Nat} {x : α} (h : l[k]? = some x) : l.take (k + 1) = l.take k ++ [x] := by
  rw [List.take_add_one, h]; rfl
theorem total_yes {l : List Sp} {k : Nat} {x : Sp} (h : l[k]? = some x) (hx : x.ok) : (total (l.take k) + x.2 ≤ cap62 → total (l.take (k + 1)) = total (l.take k) + x.2) ∧ (cap62 < total (l.take k) + x.2 → total (l.take (k + 1)) = cap62) := by
  have h1 := hx.2.1
  have hc : tot (l.take (k + 1)) = tot (l.take k) + x.2 := by rw [take_snoc_get h, tot_append]; simp [tot, hx]
  unfold total
  rw [hc]
  split <;> split <;> omega
theorem total_none {l : List Sp} {k : Nat} {x : Sp} (h : l[k]? = some x) (hx : ¬ x.ok) : total (l.take (k + 1)) = total (l.take k) := by
  have hc : tot (l.take (k + 1)) = tot (l.take k) := by rw [take_snoc_get h, tot_append]; simp [tot, hx]
  unfold total
  rw [hc]
/-- Each may be, and no two of them have a word in common. -/
def ApartL (l : List Sp) : Prop := (∀ x ∈ l, Sp.ok x) ∧ l.Pairwise fun x y => ¬ Sp.meets y x
instance (l : List Sp) : Decidable (ApartL l) := by unfold ApartL; infer_instance
theorem apart_no1 {l : List Sp} {i : Nat} {x : Sp} (h : l[i]? = some x) (hx : ¬ x.ok) : ¬ ApartL l := fun ha => hx (ha.1 x (List.mem_of_getElem? h))
theorem apart_no2 {l : List Sp} {i k : Nat} {x y : Sp} (h : l[i]? = some x) (h' : l[k]? = some y) (hk : k < i) (hm : Sp.meets x y) : ¬ ApartL l := by
  intro ha
  obtain ⟨h1, rfl⟩ := List.getElem?_eq_some_iff.1 h
  obtain ⟨h2, rfl⟩ := List.getElem?_eq_some_iff.1 h'
  exact List.pairwise_iff_getElem.1 ha.2 k i h2 h1 hk hm
theorem apart_yes {l : List Sp} (h : ∀ (i : Nat) x, l[i]? = some x → x.ok ∧ ∀ (k : Nat) y, k < i → l[k]? = some y → ¬ Sp.meets x y) : ApartL l := by
  refine ⟨fun x hx => ?_, List.pairwise_iff_getElem.2 fun k i hk hi hlt => (h i _ (List.getElem?_eq_getElem hi)).2 k _ hlt (List.getElem?_eq_getElem hk)⟩
  obtain ⟨j, hj, rfl⟩ := List.getElem_of_mem hx
  exact (h j _ (List.getElem?_eq_getElem hj)).1
theorem info_span : (Tryd.prog.info? 25).map (fun i => (i.zero, i.size, i.bytes)) = some (some (.agg #[.int .i64 0, .int .i64 0]), 2, 16) := by kernel_rfl
theorem spc_append (l m : List Sp) : spc (l ++ m) = spc l ++ spc m := by simp [spc]
theorem spc_take (l : List Sp) (k : Nat) : (spc l).take (k * 2) = spc (l.take k) := by
  induction l generalizing k with
  | nil => simp [spc]
  | cons x l ih =>
    rcases k with _ | k
    · simp [spc]
    · rw [show (k + 1) * 2 = k * 2 + 1 + 1 by omega]
      simp only [spc, List.flatMap_cons, List.take_succ_cons, List.cons_append, List.nil_append] at ih ⊢
      rw [ih]
theorem spc_drop (l : List Sp) (k : Nat) : (spc l).drop (k * 2) = spc (l.drop k) := by
  induction l generalizing k with
  | nil => simp [spc]
  | cons x l ih =>
    rcases k with _ | k
    · simp [spc]
    · rw [show (k + 1) * 2 = k * 2 + 1 + 1 by omega]
      simp only [spc, List.flatMap_cons, List.drop_succ_cons, List.cons_append, List.nil_append] at ih ⊢
      rw [ih]
theorem spc_one (l : List Sp) : ∀ v ∈ spc l, v.oneCell' = true := by
  intro v hv
  simp only [spc, List.mem_flatMap] at hv
  obtain ⟨x, _, hx⟩ := hv
  rcases List.mem_cons.1 hx with rfl | hx
  · rfl
  · rcases List.mem_cons.1 hx with rfl | hx
    · rfl
    · cases hx
theorem sl_take {w : World} {B : Nat} {A : Option Addr} {c k : Nat} {l : List Sp} (h : Sl w B 2 (.slice A l.length c) l.length (spc l)) (hk : k ≤ l.length) : Sl w B 2 (cutv A 0 k c 2) k (spc (l.take k)) := by
  have := h.cut (Nat.zero_le k) hk
  simpa [spc_take] using this
theorem sl_drop {w : World} {B : Nat} {A : Option Addr} {c k : Nat} {l : List Sp} (h : Sl w B 2 (.slice A l.length c) l.length (spc l)) (hk : k ≤ l.length) : Sl w B 2 (cutv A k l.length c 2) (l.length - k) (spc (l.drop k)) := by
  have := h.cut hk (Nat.le_refl _)
  rw [spc_drop] at this
  rw [show ((l.length - k) * 2) = (spc (l.drop k)).length by rw [spc_len, List.length_drop], List.take_length] at this
  exact this
theorem lt_cases (x y : Sp) : Sp.lt x y ↔ x.1 < y.1 ∨ x.1 = y.1 ∧ x.2 < y.2 := Iff.rfl
/-- What Sort's list is behind k rounds. -/
def SortedOf (l : List Sp) (k : Nat) (L : List Sp) : Prop := Sorted L ∧ L.Perm (l.take k)
theorem SortedOf.len {l L : List Sp} {k : Nat} (h : SortedOf l k L) (hk : k ≤ l.length) : L.length = k := by rw [h.2.length_eq, List.length_take, Nat.min_eq_left hk]
theorem sortedOf_put {l L : List Sp} {k a : Nat} {x : Sp} (h : SortedOf l k L) (hx : l[k]? = some x) (ha : a ≤ L.length) (hb : ∀ (j : Nat) y, a ≤ j → L[j]? = some y → Sp.lt x y) (hc : a = 0 ∨ ∃ y, L[a - 1]? = some y ∧ ¬ Sp.lt x y) :
    SortedOf l (k + 1) (L.take a ++ x :: L.drop a) := by
  obtain ⟨h1, h2⟩ := sorted_put h.1 x a ha (fun j hj hj' => hb j _ hj' (List.getElem?_eq_getElem hj)) (hc.imp id fun ⟨y, hy, hn⟩ => by
    obtain ⟨hj, rfl⟩ := List.getElem?_eq_some_iff.1 hy
    exact ⟨hj, hn⟩)
  refine ⟨h1, h2.trans ?_⟩
  rw [take_snoc_get hx]
  exact (List.Perm.cons x h.2).trans (List.perm_append_singleton x (l.take k)).symm
theorem spc_snoc (l : List Sp) (x : Sp) : spc (l ++ [x]) = spc l ++ [.int .i64 x.1, .int .i64 x.2] := by simp [spc]
theorem spc_set2 (l : List Sp) (x y : Sp) (h : x.1 = y.1) : (spc (l ++ [x])).set (l.length * 2 + 1) (.int .i64 y.2) = spc (l ++ [y]) := by
  rw [spc_snoc, spc_snoc, List.set_append_right _ _ (by rw [spc_len]; omega), spc_len, show l.length * 2 + 1 - l.length * 2 = 1 by omega, h]
  rfl
theorem last_cases (l : List Sp) : l = [] ∨ ∃ p z, l = p ++ [z] := by
  rcases List.eq_nil_or_concat l with h | ⟨p, z, h⟩
  · exact .inl h
  · exact .inr ⟨p, z, by rw [h, List.concat_eq_append]⟩
theorem putL_nil (x y : Int) : putL [] x y = [(x, y - x)] := rfl
theorem putL_join (p : List Sp) (z : Sp) (x y : Int) (h : z.1 + z.2 = x) : putL (p ++ [z]) x y = p ++ [(z.1, y - z.1)] := by
  unfold putL; rw [List.getLast?_concat]; simp only; rw [if_pos h, List.dropLast_concat]
theorem putL_more (p : List Sp) (z : Sp) (x y : Int) (h : z.1 + z.2 ≠ x) : putL (p ++ [z]) x y = p ++ [z] ++ [(x, y - x)] := by
  unfold putL; rw [List.getLast?_concat]; simp only; rw [if_neg h]
end Go.Proofs.YtoeccbbjncgmlaaDoor

/- Plain mathematics: spans that lie apart, seen in their order. No program in it. -/
namespace Go.Proofs.YtoeccbbjncgmlaaDoor

theorem meets_symm' {x y : Sp} (h : Sp.meets x y) : Sp.meets y x := ⟨h.2.1, h.1, h.2.2.symm⟩
theorem meets_lt {x y : Sp} (hx : x.ok) (hy : y.ok) : Sp.meets x y ↔ x.1 < y.1 + y.2 ∧ y.1 < x.1 + x.2 := by
  unfold Sp.meets Sp.has
  simp only [hx, hy, true_and]
  unfold Sp.ok at hx hy
  omega
theorem apart_perm {l m : List Sp} (h : l.Perm m) : ApartL l ↔ ApartL m := by
  unfold ApartL
  rw [h.pairwise_iff (R := fun x y => ¬ Sp.meets y x) (fun {a b} hab hba => hab (meets_symm' hba))]
  exact ⟨fun ⟨a, b⟩ => ⟨fun x hx => a x (h.mem_iff.2 hx), b⟩, fun ⟨a, b⟩ => ⟨fun x hx => a x (h.mem_iff.1 hx), b⟩⟩
theorem apart_next {l : List Sp} {x : Sp} (h : ApartL l) (hx : x.ok) (hb : ∀ y ∈ l, y.1 + y.2 ≤ x.1) : ApartL (l ++ [x]) := by
  constructor
  · intro y hy
    rcases List.mem_append.1 hy with hy | hy
    · exact h.1 y hy
    · rw [List.mem_singleton.1 hy]; exact hx
  · refine List.pairwise_append.2 ⟨h.2, List.pairwise_singleton _ _, fun a ha b hb' => ?_⟩
    rw [List.mem_singleton.1 hb', meets_lt hx (h.1 a ha)]
    have := hb a ha
    omega
theorem apart_not {l : List Sp} {i k : Nat} {x y : Sp} (hx : l[i]? = some x) (hy : l[k]? = some y) (hk : k < i) (h1 : y.1 ≤ x.1) (h2 : x.1 < y.1 + y.2) : ¬ ApartL l := by
  intro ha
  refine apart_no2 hx hy hk ?_ ha
  have hxo := ha.1 x (List.mem_of_getElem? hx)
  have hyo := ha.1 y (List.mem_of_getElem? hy)
  rw [meets_lt hxo hyo]
  unfold Sp.ok at hxo
  omega
end Go.Proofs.YtoeccbbjncgmlaaDoor

/- What is asked of package span's calls: their contracts, each said once, as a name that the walk leaves closed. -/
namespace Go.Proofs.YtoeccbbjncgmlaaDoor
open Go.RowKit

/-- Its At is an int's: no more than the greatest. (A span's numbers are 64 bits wide; as whole numbers they might be anything.) -/
def Fit (x : Sp) : Prop := x.1 ≤ 9223372036854775807
theorem Fit.of_ok {x : Sp} (h : x.ok) : Fit x := by unfold Sp.ok most at h; unfold Fit; omega
def Fits (l : List Sp) : Prop := ∀ x ∈ l, Fit x
theorem Fits.joined {l : List Sp} (h : Joined l) : Fits l := fun x hx => .of_ok (h.1 x hx)
theorem Fits.get {l : List Sp} (h : Fits l) {k : Nat} {x : Sp} (hx : l[k]? = some x) : Fit x := h x (List.mem_of_getElem? hx)

def SpMay : Prop := ∀ (x : Sp), Fit x → ∀ (w : World), Calls Tryd.prog 13 #[.agg #[.int .i64 x.1, .int .i64 x.2]] w fun e w' => e = .returned (.bool (decide x.ok)) ∧ Only nob w w'
def SpMeets : Prop := ∀ (x y : Sp), Fit x → Fit y → ∀ (w : World), Calls Tryd.prog 52 #[.agg #[.int .i64 x.1, .int .i64 x.2], .agg #[.int .i64 y.1, .int .i64 y.2]] w fun e w' => e = .returned (.bool (decide (Sp.meets x y))) ∧ Only nob w w'
def SpWithin : Prop := ∀ (x y : Sp), Fit x → Fit y → ∀ (w : World), Calls Tryd.prog 35 #[.agg #[.int .i64 x.1, .int .i64 x.2], .agg #[.int .i64 y.1, .int .i64 y.2]] w fun e w' => e = .returned (.bool (decide (Sp.within x y))) ∧ Only nob w w'
def SpApart : Prop := ∀ (v : Value) (l : List Sp) (B : Nat) (w : World), Sl w B 2 v l.length (spc l) → B ≤ w.heap.size → l.length ≤ 40000 → Fits l → Calls Tryd.prog 39 #[v] w fun e w' => e = .returned (.bool (decide (ApartL l))) ∧ Only nob w w'
def SpSort : Prop := ∀ (v : Value) (l : List Sp) (B : Nat) (w : World), Sl w B 2 v l.length (spc l) → B ≤ w.heap.size → l.length ≤ 40000 →
  Calls Tryd.prog 64 #[v] w fun e w' => ∃ v' L, e = .returned v' ∧ SortedOf l l.length L ∧ Sl w' w'.heap.size 2 v' L.length (spc L) ∧ Only nob w w'
def SpJoin : Prop := ∀ (v : Value) (l : List Sp) (B : Nat) (w : World), Sl w B 2 v l.length (spc l) → B ≤ w.heap.size → l.length ≤ 40000 → Fits l →
  Calls Tryd.prog 29 #[v] w fun e w' => ∃ v' O, e = .returned v' ∧ Joined O ∧ (∀ p, cov O p ↔ cov l p) ∧ Sl w' w'.heap.size 2 v' O.length (spc O) ∧ Only nob w w'
def SpGaps : Prop := ∀ (x : Sp) (v : Value) (l : List Sp) (B : Nat) (w : World), Sl w B 2 v l.length (spc l) → B ≤ w.heap.size → l.length ≤ 30000 → Fits l → Fit x →
  Calls Tryd.prog 41 #[.agg #[.int .i64 x.1, .int .i64 x.2], v] w fun e w' => ∃ v' O, e = .returned v' ∧ Joined O ∧ (∀ p, cov O p ↔ (x.has p ∧ ¬ cov l p)) ∧ Sl w' w'.heap.size 2 v' O.length (spc O) ∧ Only nob w w'
end Go.Proofs.YtoeccbbjncgmlaaDoor
