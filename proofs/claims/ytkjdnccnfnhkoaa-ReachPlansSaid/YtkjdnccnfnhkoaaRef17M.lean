/- The document's own plans, as mathematics: one value after another; where small ones begin. No program in it. -/
import Derived.Test.YtkjdnccnfnhkoaaReMath
namespace Go.Proofs.Ytkjdnccnfnhkoaa
open Go.RowKit
set_option linter.unusedVariables false

theorem sz_okR17 {g : Gr} (hg : grOk g = true) {x : Int} (hx : 0 ≤ x ∧ x < (g.nd.length : Int)) : 1 ≤ ndSz (ndAt g x) ∧ ndSz (ndAt g x) ≤ 8193 := by
  have hlt : x.toNat < g.nd.length := by omega
  have hm : ndAt g x ∈ g.nd := by
    unfold ndAt
    rw [List.getD_eq_getElem?_getD, List.getElem?_eq_getElem hlt]
    exact List.getElem_mem hlt
  obtain ⟨-, h2, h3, -⟩ := ndOk_iff.1 ((grOk_iff.1 hg).1 _ hm)
  unfold ndSz ndRaw
  rw [wrap64_id _ (by omega) (by omega)]
  omega
/-- Where small ones begin: within what was met. -/
structure Bg (s : PSt) : Prop where
  bs : ∀ b ∈ s.begins, 0 ≤ b ∧ b ≤ s.top
  tn : 0 ≤ s.top ∧ s.top ≤ 8193 * (s.small.length : Int)
theorem Bg.none_ : Bg .none := ⟨fun b hb => (by cases hb), Int.le_refl _, Int.le_refl _⟩
theorem Bg.meet {g : Gr} (hg : grOk g = true) {lim : Int} {v : Sp} {s : PSt} (h : Bg s) (hl : s.small.length ≤ 1000000) (hx : v.1 = 2 → 0 ≤ v.2 ∧ v.2 < (g.nd.length : Int)) : Bg (meetS g lim v s) := by
  unfold meetS
  by_cases hn : newS v s = true
  · rw [if_pos hn]
    by_cases hb : lim < ndSz (ndAt g v.2)
    · rw [if_pos hb]; exact ⟨h.bs, h.tn⟩
    · rw [if_neg hb]
      have hs := sz_okR17 hg (hx (new_not hn).1)
      have ht := h.tn
      have hw : wrap64 (s.top + ndSz (ndAt g v.2)) = s.top + ndSz (ndAt g v.2) := wrap64_id _ (by omega) (by omega)
      refine ⟨fun b hb => ?_, ?_⟩
      · show 0 ≤ b ∧ b ≤ wrap64 (s.top + ndSz (ndAt g v.2))
        rw [hw]
        rcases List.mem_append.1 (show b ∈ s.begins ++ [s.top] from hb) with h' | h'
        · have := h.bs b h'; omega
        · rw [List.mem_singleton.1 h']; omega
      · show 0 ≤ wrap64 (s.top + ndSz (ndAt g v.2)) ∧ wrap64 (s.top + ndSz (ndAt g v.2)) ≤ 8193 * ((s.small ++ [v.2]).length : Int)
        rw [hw, List.length_append, List.length_singleton]
        omega
  · rw [if_neg hn]; exact h
theorem Bg.mark {s : PSt} (h : Bg s) (i : Nat) : Bg (s.mark i) := ⟨h.bs, h.tn⟩
theorem Bg.off {s : PSt} (h : Bg s) : Bg { s with pile := s.pile.dropLast } := ⟨h.bs, h.tn⟩
theorem lookW_snoc {g : Gr} {lim : Int} (v : Sp) : ∀ (l : List Sp) (s : PSt), lookW g lim (l ++ [v]) s = meetS g lim v (lookW g lim l s)
  | [], s => rfl
  | u :: l, s => lookW_snoc v l (meetS g lim u s)
/-- One value in a look that goes down. -/
def stepD (g : Gr) (lim : Int) : Nat → Sp → PSt → PSt
  | 0, v, s => meetS g lim v s
  | n + 1, v, s => if meetB g lim v s = true then lookD g lim n (fsAt g v.2) ((meetS g lim v s).mark s.small.length) else meetS g lim v s
theorem lookD_snoc {g : Gr} {lim : Int} (n : Nat) (v : Sp) : ∀ (l : List Sp) (s : PSt), lookD g lim n (l ++ [v]) s = stepD g lim n v (lookD g lim n l s)
  | [], s => by cases n <;> simp [lookD, stepD]
  | u :: l, s => by
    cases n with
    | zero => rw [List.cons_append, lookD, lookD]; exact lookD_snoc 0 v l _
    | succ n => rw [List.cons_append, lookD, lookD]; exact lookD_snoc (n + 1) v l _
theorem Bg.lookW {g : Gr} (hg : grOk g = true) (hN : g.nd.length ≤ 1000000) {lim : Int} : ∀ (l : List Sp) (s : PSt), Bg s → Wf g s → Okl g l → Bg (lookW g lim l s)
  | [], s, h, _, _ => h
  | v :: l, s, h, hw, ho => by
    have hr := hw.room
    rw [met_len] at hr
    exact Bg.lookW hg hN l _ (h.meet hg (by omega) fun h2 => (ho v (List.mem_cons_self ..) h2).1) (meet_wf hw (ho v (List.mem_cons_self ..))).1 fun u hu => ho u (List.mem_cons_of_mem _ hu)
theorem Bg.lookD {g : Gr} (hg : grOk g = true) (hN : g.nd.length ≤ 1000000) {lim : Int} : ∀ (n : Nat) (l : List Sp) (s : PSt), Bg s → Wf g s → Okl g l → g.nd.length ≤ n + s.met.length → Bg (lookD g lim n l s) := by
  intro n
  induction n with
  | zero =>
    intro l
    induction l with
    | nil => intro s h _ _ _; rw [Go.Proofs.Ytkjdnccnfnhkoaa.lookD]; exact h
    | cons v l ih =>
      intro s h hw ho hf
      have hr := hw.room
      rw [met_len] at hr
      rw [Go.Proofs.Ytkjdnccnfnhkoaa.lookD]
      obtain ⟨m1, m2, -⟩ := meet_wf (lim := lim) hw (ho v (List.mem_cons_self ..))
      exact ih _ (h.meet hg (by omega) fun h2 => (ho v (List.mem_cons_self ..) h2).1) m1 (fun u hu => ho u (List.mem_cons_of_mem _ hu)) (by have := m2.len; omega)
  | succ n ihn =>
    intro l
    induction l with
    | nil => intro s h _ _ _; rw [Go.Proofs.Ytkjdnccnfnhkoaa.lookD]; exact h
    | cons v l ih =>
      intro s h hw ho hf
      have hr := hw.room
      rw [met_len] at hr
      obtain ⟨m1, m2, m3, m4, m5⟩ := meet_wf (lim := lim) hw (ho v (List.mem_cons_self ..))
      have hb1 := h.meet hg (lim := lim) (v := v) (by omega) fun h2 => (ho v (List.mem_cons_self ..) h2).1
      rw [Go.Proofs.Ytkjdnccnfnhkoaa.lookD]
      cases hb : meetB g lim v s with
      | false =>
        rw [if_neg (by simp)]
        exact ih _ hb1 m1 (fun u hu => ho u (List.mem_cons_of_mem _ hu)) (by have := m2.len; omega)
      | true =>
        rw [if_pos rfl]
        obtain ⟨e1, e2, hv2⟩ := m5 hb
        have hx := ho v (List.mem_cons_self ..) hv2
        have hfs := fs_ok hg hx.2 hx.1
        have hl2 : s.met.length + 1 ≤ ((meetS g lim v s).mark s.small.length).met.length := by
          have h3 := m2.lg.length_le
          have h4 : ((meetS g lim v s).mark s.small.length).met.length = (meetS g lim v s).met.length := rfl
          have h5 : (s.small ++ [v.2]).length = s.small.length + 1 := by simp
          rw [h4, met_len, met_len, e1, h5]
          omega
        obtain ⟨p1, p2, -, -⟩ := lookD_wf (lim := lim) hg n (fsAt g v.2) _ (m1.mark s.small.length) hfs (by omega)
        exact ih _ (ihn _ _ (hb1.mark _) (m1.mark _) hfs (by omega)) p1 (fun u hu => ho u (List.mem_cons_of_mem _ hu)) (by have := p2.len; omega)
/-- Steps of a plan, counted. -/
inductive StR (g : Gr) (lim order block : Int) : Nat → PSt → PSt → Prop
  | stop {s : PSt} : stepS g lim order block s = none → StR g lim order block 0 s s
  | go {s s' e : PSt} {n : Nat} : stepS g lim order block s = some s' → StR g lim order block n s' e → StR g lim order block (n + 1) s e
theorem steps_of {g : Gr} {lim order block : Int} : ∀ (n : Nat) (s : PSt), stepS g lim order block (runS g lim order block n s) = none → ∃ m, StR g lim order block m s (runS g lim order block n s)
  | 0, s, h => ⟨0, .stop h⟩
  | n + 1, s, h => by
    rw [runS] at h ⊢
    cases hs : stepS g lim order block s with
    | none => exact ⟨0, .stop hs⟩
    | some s' =>
      rw [hs] at h
      obtain ⟨m, hm⟩ := steps_of n s' h
      exact ⟨m + 1, .go hs hm⟩
theorem plan_steps {g : Gr} (lim order block : Int) (hg : grOk g = true) : ∃ m, StR g lim order block m (lookO g lim order g.rt .none) (planS g lim order block) := by
  obtain ⟨h1, h2⟩ := start_wf lim order hg
  obtain ⟨w, c, e⟩ := run_wf (block := block) hg (g.nd.length + 1) _ h1 h2 (by omega)
  exact steps_of _ _ e
end Go.Proofs.Ytkjdnccnfnhkoaa
