/- slices.Sort at ints of this program: the library's contract at the program's own numbers. -/
import Derived.Test.YtmnehonmbjnnaaaChecked
import Derived.Test.YtmnehonmbjnnaaaReFlats
import Derived.Shelf.Sort.Plain
import Derived.Shelf.Slices.In.SortNone
import Derived.Lib.SortBridge
namespace Go.Proofs.Ytmnehonmbjnnaaa
open Go.Shelf
set_option maxRecDepth 100000
end Go.Proofs.Ytmnehonmbjnnaaa

/- slices.Sort at a row of the call's own; what is met, rising; package reach: Reach. -/
namespace Go.Proofs.Ytmnehonmbjnnaaa
open Go.RowKit Go.Lib Go.Sort Go.Shelf
set_option maxRecDepth 100000
set_option linter.unusedSimpArgs false
set_option linter.unusedVariables false

theorem setCells17 {b : Nat} {E : TypeId} : ∀ (vs : List Value) (o : Nat) (w : World) (cur : Array Value), Blk w b E cur → o + vs.length ≤ cur.size → ∃ cur', Blk (w.setCells b o vs) b E cur' ∧ cur'.size = cur.size ∧ (cur'.toList.drop o).take vs.length = vs ∧ (∀ j, j < o → cur'[j]? = cur[j]?) ∧ Only (isb b) w (w.setCells b o vs)
  | [], o, w, cur, h, _ => ⟨cur, h, rfl, by simp, fun _ _ => rfl, Only.refl _ _⟩
  | v :: r, o, w, cur, h, hl => by
    have hl' : o + (r.length + 1) ≤ cur.size := hl
    obtain ⟨c', h1, h2, h3, h4, h5⟩ := setCells17 r (o + 1) _ _ (h.put o v) (by simp; omega)
    refine ⟨c', h1, by simpa using h2, ?_, fun j hj => ?_, (only_set w b o v).trans h5⟩
    · have hv : c'.toList[o]? = some v := by rw [Array.getElem?_toList, h4 o (by omega), Array.getElem?_setIfInBounds_self_of_lt (by omega)]
      obtain ⟨hlt, hv2⟩ := List.getElem?_eq_some_iff.1 hv
      rw [List.drop_eq_getElem_cons hlt, List.length_cons, List.take_succ_cons, h3, hv2]
    · rw [h4 j (by omega), Array.getElem?_setIfInBounds_ne (by omega)]
theorem sorted_len (l : List Int) : (l.mergeSort fun x y => decide (x ≤ y)).length = l.length := List.length_mergeSort ..
theorem upTo_mem {l : List Int} {n : Nat} {x : Int} : x ∈ upTo l n ↔ x ∈ l ∧ 0 ≤ x ∧ x < n := by
  unfold upTo
  rw [List.mem_filter, List.mem_map]
  constructor
  · rintro ⟨⟨k, hk, rfl⟩, h⟩
    have := List.mem_range.1 hk
    exact ⟨by simpa using h, by omega, by omega⟩
  · rintro ⟨h1, h2, h3⟩
    exact ⟨⟨x.toNat, List.mem_range.2 (by omega), by omega⟩, by simpa using h1⟩
theorem upTo_lt (l : List Int) (n : Nat) : (upTo l n).Pairwise (· < ·) := by
  unfold upTo
  refine List.Pairwise.filter _ ?_
  rw [List.pairwise_map]
  exact List.Pairwise.imp (fun h => by omega) List.pairwise_lt_range
theorem sort_upTo {l : List Int} {n : Nat} (hn : l.Nodup) (hr : ∀ x ∈ l, 0 ≤ x ∧ x < (n : Int)) : (l.mergeSort fun x y => decide (x ≤ y)) = upTo l n := by
  have p1 : (l.mergeSort fun x y => decide (x ≤ y)).Perm (upTo l n) := by
    refine (List.mergeSort_perm l _).trans ((List.perm_ext_iff_of_nodup hn ((upTo_lt l n).imp fun h => by omega)).2 fun x => ?_)
    rw [upTo_mem]
    exact ⟨fun h => ⟨h, hr x h⟩, fun h => h.1⟩
  have s1 := List.pairwise_mergeSort (le := fun x y : Int => decide (x ≤ y)) (fun a b c h1 h2 => by simp at h1 h2 ⊢; omega) (fun a b => by simp; omega) l
  refine List.Perm.eq_of_pairwise (le := fun x y : Int => decide (x ≤ y) = true) (fun a b _ _ h1 h2 => by simp at h1 h2; omega) s1 ((upTo_lt l n).imp fun h => by simp; omega) p1
theorem flat_rising (g : Gr) : ((flatL g 0).mergeSort fun x y => decide (x ≤ y)) = reachL g := by
  unfold reachL
  refine sort_upTo ?_ fun x hx => ?_
  · unfold flatL
    by_cases h : grOk g = true
    · rw [if_pos h]
      exact (List.nodup_append.1 (plan_wf17 h 1000000 0 1).nodup).1
    · rw [if_neg h]; exact List.nodup_nil
  · unfold flatL at hx
    by_cases h : grOk g = true
    · rw [if_pos h] at hx
      exact (plan_wf17 h 1000000 0 1).rng x (List.mem_append.2 (.inl hx))
    · rw [if_neg h] at hx; cases hx
theorem flat_len (g : Gr) (hbd : GrBd g) : (flatL g 0).length ≤ 1000 := by
  have h1 : (flatL g 0).length = (reachL g).length := by rw [← flat_rising g]; exact (sorted_len _).symm
  have := upTo_len (flatL g 0) g.nd.length
  have := hbd.nd
  unfold reachL at h1
  omega
theorem reach_len (g : Gr) : (reachL g).length = (flatL g 0).length := by rw [← flat_rising g]; exact sorted_len _
end Go.Proofs.Ytmnehonmbjnnaaa

/- Chapter 17's example: what its plans come to. -/
namespace Go.Proofs.Ytmnehonmbjnnaaa
open Go.RowKit Go.Lib
set_option maxRecDepth 100000
set_option linter.unusedSimpArgs false
set_option linter.unusedVariables false
def gW : Gr := ⟨[⟨0, [(2, 1), (2, 2)], []⟩, ⟨0, [(2, 3)], []⟩, ⟨0, [], [1, 2, 3]⟩, ⟨0, [], []⟩, ⟨0, [], []⟩], [(2, 0)]⟩
def gV : Gr := ⟨[], [(2, 0)]⟩
theorem gW_ok : grOk gW = true := by decide
theorem gV_bad : grOk gV = false := by decide
theorem gW_0 : (planS gW 1000000 0 1).small = [0, 1, 2, 3] := by decide +kernel
theorem gW_2 : (planS gW 3 2 4).small = [0, 1, 3] ∧ (planS gW 3 2 4).large = [2] := by decide +kernel
theorem gW_3 : (planS gW 3 0 1).small = [0, 1, 3] ∧ (planS gW 3 0 1).large = [2] := by decide +kernel
/-- Depth first, by the depth alone. -/
def lookP17 (g : Gr) (lim : Int) (r : List Sp → PSt → PSt) : List Sp → PSt → PSt
  | [], s => s
  | v :: l, s => lookP17 g lim r l (if meetB g lim v s = true then r (fsAt g v.2) ((meetS g lim v s).mark s.small.length) else meetS g lim v s)
def lookE17 (g : Gr) (lim : Int) : Nat → List Sp → PSt → PSt
  | 0 => lookW g lim
  | n + 1 => lookP17 g lim (lookE17 g lim n)
theorem lookE_is (g : Gr) (lim : Int) : ∀ (n : Nat) (l : List Sp) (s : PSt), lookD g lim n l s = lookE17 g lim n l s := by
  intro n
  induction n with
  | zero =>
    intro l
    induction l with
    | nil => intro s; rw [lookD]; rfl
    | cons v l ih => intro s; rw [lookD, ih]; rfl
  | succ n ihn =>
    intro l
    induction l with
    | nil => intro s; rw [lookD]; rfl
    | cons v l ih => intro s; rw [lookD, ih, ihn]; rfl
theorem gW_d : lookO gW 1000000 1 gW.rt .none = lookE17 gW 1000000 6 gW.rt .none := by
  unfold lookO
  rw [if_pos rfl, lookE_is]
  rfl
theorem gW_1 : (planS gW 1000000 1 1).small = [0, 1, 3, 2] := by
  unfold planS
  rw [gW_d]
  decide +kernel
theorem flat_small {g : Gr} {order : Int} {l : List Int} (hg : grOk g = true) (h : (planS g 1000000 order 1).small = l) : flatE g = 0 ∧ flatL g order = l := by
  unfold flatE flatL
  rw [if_pos hg, if_pos hg]
  exact ⟨rfl, h⟩
theorem gW_f0 : flatE gW = 0 ∧ flatL gW 0 = [0, 1, 2, 3] := flat_small gW_ok gW_0
theorem gW_f1 : flatE gW = 0 ∧ flatL gW 1 = [0, 1, 3, 2] := flat_small gW_ok gW_1
theorem gW_rl : (reachL gW).length = 4 := by rw [reach_len, gW_f0.2]; rfl
theorem gW_p2 : planE gW 3 2 4 = 0 ∧ planSm gW 3 2 4 = [0, 1, 3] ∧ planLg gW 3 2 4 = [2] := by
  have h : planE gW 3 2 4 = 0 := by decide
  unfold planSm planLg
  rw [h, if_pos rfl, if_pos rfl]
  exact ⟨rfl, gW_2⟩
theorem gW_p3 : planE gW 3 0 1 = 0 ∧ planSm gW 3 0 1 = [0, 1, 3] ∧ planLg gW 3 0 1 = [2] := by
  have h : planE gW 3 0 1 = 0 := by decide
  unfold planSm planLg
  rw [h, if_pos rfl, if_pos rfl]
  exact ⟨rfl, gW_3⟩
theorem gW_p1 : planE gW 3 3 4 = 1 ∧ planSm gW 3 3 4 = [] ∧ planLg gW 3 3 4 = [] := by
  have h : planE gW 3 3 4 = 1 := by decide
  unfold planSm planLg
  rw [h, if_neg (by decide), if_neg (by decide)]
  exact ⟨rfl, rfl, rfl⟩
theorem gW_lv : sumW gW [0, 1, 3] = 6 ∧ sumW gW [2] = 4 ∧ wrap64 (sumF gW [0, 1, 3] + sumF gW [2]) = 3 := by decide +kernel
theorem gV_f : flatE gV = 4 ∧ flatL gV 0 = [] := by
  unfold flatE flatL
  rw [if_neg (by decide), if_neg (by decide)]
  exact ⟨rfl, rfl⟩
theorem gW_fit : GrFit gW := ⟨fun d hd => by simp [gW] at hd; rcases hd with rfl | rfl | rfl | rfl <;> simp, fun d hd v hv => by simp [gW] at hd; rcases hd with rfl | rfl | rfl | rfl <;> (simp at hv <;> first | (rcases hv with rfl | rfl <;> simp) | (subst hv; simp)), fun d hd v hv => by simp [gW] at hd; rcases hd with rfl | rfl | rfl | rfl <;> simp at hv; rcases hv with rfl | rfl | rfl <;> decide, fun v hv => by simp [gW] at hv; subst hv; simp⟩
theorem gV_fit : GrFit gV := ⟨fun d hd => by simp [gV] at hd, fun d hd => by simp [gV] at hd, fun d hd => by simp [gV] at hd, fun v hv => by simp [gV] at hv; subst hv; simp⟩
theorem gW_bd : GrBd gW := ⟨by decide, by decide⟩
theorem gV_bd : GrBd gV := ⟨by decide, by decide⟩
end Go.Proofs.Ytmnehonmbjnnaaa
