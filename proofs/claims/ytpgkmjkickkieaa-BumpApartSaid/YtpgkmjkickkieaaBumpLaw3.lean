/- Spans laid one behind the other: plain mathematics of BumpApart. -/
import Derived.Test.YtpgkmjkickkieaaBumpLaw2
import Derived.Test.YtpgkmjkickkieaaRef03G
namespace Go.Proofs.Ytpgkmjkickkieaa
open Go.RowKit Go.Sort

/-- g lies one behind the other from a up to c, all of it. -/
structure Chain (a c : Int) (g : List Sp) : Prop where
  each : ∀ y ∈ g, Sp.ok y ∧ a ≤ y.1 ∧ y.1 + y.2 ≤ c
  rise : g.Pairwise fun y z => y.1 + y.2 ≤ z.1
  words : ∀ p, cov g p ↔ a ≤ p ∧ p < c
theorem Chain.nil (a : Int) : Chain a a [] := ⟨fun _ h => (by cases h), List.Pairwise.nil, fun p => ⟨fun h => absurd h (cov_nil p), fun h => by omega⟩⟩
theorem Chain.more {a c n : Int} {g : List Sp} (h : Chain a c g) (h0 : 0 ≤ a) (h1 : a ≤ c) (hn : 1 ≤ n) (hm : c + n ≤ 1099511627776) : Chain a (c + n) (g ++ [(c, n)]) := by
  have hok : Sp.ok (c, n) := by unfold Sp.ok most; simp; omega
  refine ⟨fun y hy => ?_, ?_, fun p => ?_⟩
  · rcases List.mem_append.1 hy with hy | hy
    · exact ⟨(h.each y hy).1, (h.each y hy).2.1, by have := (h.each y hy).2.2; omega⟩
    · obtain rfl : y = (c, n) := by simpa using hy
      exact ⟨hok, h1, Int.le_refl _⟩
  · refine List.pairwise_append.2 ⟨h.rise, List.pairwise_singleton _ _, fun y hy z hz => ?_⟩
    obtain rfl : z = (c, n) := by simpa using hz
    exact (h.each y hy).2.2
  · rw [cov_append, h.words, cov_one]
    unfold Sp.has
    simp only [hok, true_and]
    omega
theorem Chain.apart {a c : Int} {g : List Sp} (h : Chain a c g) : ApartL g := by
  refine ⟨fun y hy => (h.each y hy).1, h.rise.imp fun {y z} hyz hm => ?_⟩
  unfold Sp.meets Sp.has at hm
  have := hm.2.2
  have h1 := hm.1.2.1
  have h2 := hm.2.1.2.1
  omega
theorem Chain.joins {x : Sp} {g O : List Sp} (h : Chain x.1 (x.1 + x.2) g) (hx : x.ok) (hj : Joined O) (hc : ∀ p, cov O p ↔ cov g p) : O = [x] := by
  refine joined_unique hj ⟨fun y hy => (by rw [List.mem_singleton.1 hy]; exact hx), List.pairwise_singleton _ _⟩ fun p => ?_
  rw [hc, h.words, cov_one]
  unfold Sp.has
  simp only [hx, true_and]
end Go.Proofs.Ytpgkmjkickkieaa
