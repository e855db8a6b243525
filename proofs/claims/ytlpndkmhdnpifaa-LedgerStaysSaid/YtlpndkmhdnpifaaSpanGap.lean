/- Plain mathematics of the gaps' loop: the fold that the boxes hold. No program in it. -/
import Derived.Test.YtlpndkmhdnpifaaSpanPure
import Derived.Test.YtlpndkmhdnpifaaSpanIL
namespace Go.Proofs.Ytlpndkmhdnpifaa

/-- What the boxes hold behind the rows l: where the next gap may begin, the gaps so far. -/
def gst (x : Sp) (l : List Sp) : Int × List Sp := l.foldl (fun s y => (max s.1 (y.1 + y.2), addL s.2 s.1 y.1)) (x.1, [])
theorem gst_nil (x : Sp) : gst x [] = (x.1, []) := rfl
theorem gst_snoc (x : Sp) (l : List Sp) (y : Sp) : gst x (l ++ [y]) = (max (gst x l).1 (y.1 + y.2), addL (gst x l).2 (gst x l).1 y.1) := by unfold gst; rw [List.foldl_append]; rfl
theorem snoc_ind {α : Type} {P : List α → Prop} (h0 : P []) (h1 : ∀ l x, P l → P (l ++ [x])) : ∀ l, P l := by
  have key : ∀ n (l : List α), l.length = n → P l := by
    intro n
    induction n with
    | zero => intro l hl; rw [List.eq_nil_of_length_eq_zero hl]; exact h0
    | succ n ih =>
      intro l hl
      rcases List.eq_nil_or_concat l with rfl | ⟨m, x, rfl⟩
      · exact h0
      · rw [List.concat_eq_append] at *
        exact h1 _ _ (ih m (by simpa using hl))
  exact fun l => key _ l rfl
theorem addL_len (O : List Sp) (a b : Int) : (addL O a b).length ≤ O.length + 1 := by unfold addL; split <;> simp
theorem gst_len (x : Sp) : ∀ l : List Sp, (gst x l).2.length ≤ l.length := by
  refine snoc_ind (by simp [gst_nil]) fun l y h => ?_
  rw [gst_snoc]
  have := addL_len (gst x l).2 (gst x l).1 y.1
  simp only [List.length_append, List.length_singleton]
  omega
theorem gst_lo (x : Sp) (hx : x.ok) : ∀ l : List Sp, (∀ y ∈ l, Sp.ok y) → 0 ≤ (gst x l).1 ∧ (gst x l).1 ≤ 1099511627776 := by
  refine snoc_ind (fun _ => ?_) fun l y h hl => ?_
  · rw [gst_nil]; unfold Sp.ok most at hx; simp only; omega
  · have h1 := h fun z hz => hl z (List.mem_append_left _ hz)
    have h2 := hl y (by simp)
    unfold Sp.ok most at h2
    rw [gst_snoc]; simp only; omega
theorem gst_at (x : Sp) (hx : x.ok) : ∀ l : List Sp, Joined l → (∀ y ∈ l, y.1 < x.1 + x.2) → GapsAt x l (gst x l).2 (gst x l).1 := by
  refine snoc_ind (fun _ _ => GapsAt.start x) fun l y h hj hb => ?_
  have hi := h hj.init fun z hz => hb z (List.mem_append_left _ hz)
  have hy := hj.last
  rw [gst_snoc]
  by_cases hlt : (gst x l).1 < y.1
  · have hm : max (gst x l).1 (y.1 + y.2) = y.1 + y.2 := by have := hy.2.1; omega
    simp only
    rw [hm, show addL (gst x l).2 (gst x l).1 y.1 = (gst x l).2 ++ [((gst x l).1, y.1 - (gst x l).1)] by unfold addL; rw [if_pos hlt]]
    exact hi.gap hx hy hlt (hb y (by simp)) rfl
  · simp only
    rw [show addL (gst x l).2 (gst x l).1 y.1 = (gst x l).2 by unfold addL; rw [if_neg hlt]]
    exact hi.none hy (fun z hz => by have := hj.below z hz; have := (hj.1 z (List.mem_append_left _ hz)).2.1; omega) (by omega) rfl
/-- At the end, or where the loop is left: what is left of x. -/
theorem gst_done (x : Sp) (hx : x.ok) {l m : List Sp} (hj : Joined (l ++ m)) (hb : ∀ y ∈ l, y.1 < x.1 + x.2) (hm : ∀ z ∈ m, x.1 + x.2 ≤ z.1) : Joined (addL (gst x l).2 (gst x l).1 (x.1 + x.2)) ∧ ∀ p, cov (addL (gst x l).2 (gst x l).1 (x.1 + x.2)) p ↔ x.has p ∧ ¬ cov (l ++ m) p := by
  have hl : Joined l := ⟨fun z hz => hj.1 z (List.mem_append_left _ hz), (List.pairwise_append.1 hj.2).1⟩
  have hg := gst_at x hx l hl hb
  unfold addL
  split
  · rename_i hlt
    exact hg.rest hx (fun z hz _ => hm z hz) hlt rfl
  · rename_i hge
    exact hg.over (fun z hz _ => hm z hz) (by omega)
end Go.Proofs.Ytlpndkmhdnpifaa
