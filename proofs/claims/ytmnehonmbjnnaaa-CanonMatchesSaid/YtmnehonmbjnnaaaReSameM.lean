/- What plans meet, counted. No program in it. -/
import Derived.Test.YtmnehonmbjnnaaaReAws
namespace Go.Proofs.Ytmnehonmbjnnaaa
open Go.RowKit Go.Lib
set_option linter.unusedVariables false

def cnt17 (n : Nat) (l : List Int) : List Int := (List.range n).map fun j : Nat => ((l.count (j : Int) : Nat) : Int)
theorem cnt_len (n : Nat) (l : List Int) : (cnt17 n l).length = n := by simp [cnt17]
theorem cnt_nil (n : Nat) : cnt17 n [] = List.replicate n 0 := by
  unfold cnt17
  apply List.ext_getElem?
  intro i
  by_cases h : i < n
  · simp [h]
  · rw [List.getElem?_eq_none (by simp; omega), List.getElem?_eq_none (by simp; omega)]
theorem cnt_at {n j : Nat} (l : List Int) (h : j < n) : (cnt17 n l)[j]? = some ((l.count (j : Int) : Nat) : Int) := by
  unfold cnt17
  rw [List.getElem?_map, List.getElem?_range h]; rfl
theorem cnt_step {n m : Nat} (l : List Int) (h : m < n) : (cnt17 n l).set m (((l.count (m : Int) : Nat) : Int) + 1) = cnt17 n (l ++ [(m : Int)]) := by
  apply List.ext_getElem?
  intro i
  rw [List.getElem?_set, cnt_len]
  by_cases hi : i < n
  · rw [cnt_at _ hi, cnt_at _ hi]
    by_cases he : m = i
    · subst he
      rw [if_pos rfl, if_pos h, List.count_append]
      simp
    · rw [if_neg he, List.count_append]
      have : [(m : Int)].count (i : Int) = 0 := by
        rw [List.count_eq_zero]
        simp; omega
      rw [this, Nat.add_zero]
  · rw [List.getElem?_eq_none (by rw [cnt_len]; omega), List.getElem?_eq_none (by rw [cnt_len]; omega)]
    by_cases he : m = i
    · omega
    · rw [if_neg he]
theorem cnt_one {l : List Int} (hn : l.Nodup) (x : Int) : l.count x = if x ∈ l then 1 else 0 := by
  by_cases h : x ∈ l
  · rw [if_pos h]
    exact Nat.le_antisymm (List.nodup_iff_count.1 hn x) (List.count_pos_iff.2 h)
  · rw [if_neg h]
    exact List.count_eq_zero.2 h
theorem take_snoc17 {l : List Int} {k : Nat} {x : Int} (h : l[k]? = some x) : l.take (k + 1) = l.take k ++ [x] := by
  rw [List.take_add_one, h]; rfl
theorem upTo_congr {l m : List Int} (n : Nat) (h : ∀ x : Int, 0 ≤ x → x < n → (x ∈ l ↔ x ∈ m)) : upTo l n = upTo m n := by
  unfold upTo
  apply List.filter_congr
  intro x hx
  obtain ⟨k, hk, rfl⟩ := List.mem_map.1 hx
  have := List.mem_range.1 hk
  exact decide_eq_decide.2 (h _ (by omega) (by omega))
/-- What a plan meets. -/
structure Met17 (g : Gr) (M R : List Int) : Prop where
  nodup : M.Nodup
  rng : ∀ x ∈ M, 0 ≤ x ∧ x < (g.nd.length : Int)
  fs : ∀ (i : Nat) d, g.nd[i]? = some d → (i : Int) ∈ M → ∀ v ∈ d.fs, v.1 = 2 → v.2 ∈ M
  rt : ∀ v ∈ g.rt, v.1 = 2 → v.2 ∈ M
  mem : ∀ j : Nat, j < g.nd.length → (decide ((j : Int) ∈ R) = decide ((j : Int) ∈ M))
  len : (upTo M g.nd.length).length = R.length
theorem fsAt_is {g : Gr} {i : Nat} {d : Nd} (h : g.nd[i]? = some d) : fsAt g (i : Int) = d.fs := by
  unfold fsAt ndAt
  rw [List.getD_eq_getElem?_getD]
  simp [h]
/-- Nothing is large to a plan with a limit beyond all. -/
theorem large_none {g : Gr} (hg : grOk g = true) {lim : Int} (hl : 8193 ≤ lim) : ∀ (l : List Sp) (s : PSt), s.large = [] → (lookW g lim l s).large = []
  | [], s, h => h
  | v :: l, s, h => by
    show (lookW g lim l (meetS g lim v s)).large = []
    refine large_none hg hl l _ ?_
    have hs := nd_sz17 hg v.2
    unfold meetS
    rw [if_neg (show ¬ lim < ndSz (ndAt g v.2) by omega)]
    by_cases hn : newS v s = true
    · rw [if_pos hn]; exact h
    · rw [if_neg hn]; exact h
theorem run_none {g : Gr} (hg : grOk g = true) {lim : Int} (hl : 8193 ≤ lim) (b : Int) : ∀ (n : Nat) (s : PSt), s.large = [] → (runS g lim 0 b n s).large = []
  | 0, s, h => h
  | n + 1, s, h => by
    rw [runS]
    cases hs : stepS g lim 0 b s with
    | none => exact h
    | some s' =>
      refine run_none hg hl b n s' ?_
      unfold stepS at hs
      split at hs
      · obtain rfl := Option.some.inj hs
        unfold lookO
        rw [if_neg (by decide)]
        exact large_none hg hl _ _ h
      · split at hs
        · cases hs
        · obtain rfl := Option.some.inj hs
          unfold lookO
          rw [if_neg (by decide)]
          exact large_none hg hl _ _ h
theorem flat_large {g : Gr} (hg : grOk g = true) : (planS g 1000000 0 1).large = [] := by
  unfold planS
  refine run_none hg (by decide) 1 _ _ ?_
  unfold lookO
  rw [if_neg (by decide)]
  exact large_none hg (by decide) _ _ rfl
theorem met17 {g : Gr} {lim order block : Int} (h : planE g lim order block = 0) : Met17 g (planSm g lim order block ++ planLg g lim order block) (reachL g) := by
  have hg : grOk g = true := by
    unfold planE at h
    by_cases hg : grOk g = true
    · exact hg
    · rw [if_neg hg] at h; cases h
  have hM : planSm g lim order block ++ planLg g lim order block = (planS g lim order block).met := by
    unfold planSm planLg
    rw [if_pos h, if_pos h]; rfl
  rw [hM]
  obtain ⟨n1, m1⟩ := plan_all lim order block hg
  obtain ⟨n2, m2⟩ := plan_all (g := g) 1000000 0 1 hg
  have hfl : (planS g 1000000 0 1).met = flatL g 0 := by
    unfold PSt.met flatL
    rw [flat_large hg, if_pos hg, List.append_nil]
  rw [hfl] at m2
  have hiff : ∀ x, x ∈ flatL g 0 ↔ x ∈ (planS g lim order block).met := fun x => (m2 x).trans (m1 x).symm
  refine ⟨n1, (plan_wf17 hg lim order block).rng, fun i d hd hi v hv h2 => ?_, fun v hv h2 => (m1 _).2 (Rch.root hv h2), fun j hj => ?_, ?_⟩
  · exact (m1 _).2 (Rch.next ((m1 _).1 hi) (by rw [fsAt_is hd]; exact hv) h2)
  · apply decide_eq_decide.2
    unfold reachL
    rw [upTo_mem]
    exact ⟨fun h => (hiff _).1 h.1, fun h => ⟨(hiff _).2 h, by omega, by omega⟩⟩
  · unfold reachL
    rw [upTo_congr g.nd.length fun x _ _ => (hiff x).symm]
end Go.Proofs.Ytmnehonmbjnnaaa
