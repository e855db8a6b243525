/- A region of a round of a range over a function, that draws its order, walked as a region elsewhere. No program in it. -/
import Derived.Test.YtkjdnccnfnhkoaaHeldX
import Derived.Test.YtkjdnccnfnhkoaaSmalls
import Derived.RangeFuncNested
namespace Go.Proofs.Ytkjdnccnfnhkoaa
open Go

theorem rows_wide17 {m : Nat} {P : Program} {row : String} {args : Array Value} {w : World} {R : Value → World → Prop} (h : Rows P row args w R) : RowsIn Fence.wide m P row args w R :=
  fun c cs _ => let ⟨v, w', r, s⟩ := h c cs; ⟨v, w', r, stepsIn_wide.2 s⟩
theorem oper_wide17 {m : Nat} {P : Program} {o : Oper} {a : Act} {w : World} {K : Act → World → Prop} {Q : Exit → Act → World → Prop} (h : o.wp P a w K Q) : o.wpIn Fence.wide m P a w K Q := by
  unfold Oper.wpIn
  refine ⟨fun _ _ => trivial, ?_⟩
  rw [show Fence.wide.round = none from rfl, Oper.semAt_none]
  unfold Oper.wp at h
  generalize (execOp a.eval o).run P w = r at *
  rcases r with ⟨x, w'⟩ | ⟨x, w'⟩
  · cases x
    case enter f args => exact ⟨fun hd => (by cases hd), callsIn_wide.2 h⟩
    case row row args => exact ⟨fun hd => (by cases hd), rows_wide17 h⟩
    all_goals first | exact h | exact h.elim
  · cases x <;> first | exact h | exact h.elim
theorem any_wide17 {m : Nat} {P : Program} {md : Region.Mode} {ops : Array Oper} {Q : Exit → Act → World → Prop} (hlo : ¬ LetsOut Q) :
    ∀ (f : Nat) (d : Array Bool) (a : Act) (w : World), wpAny P md ops Q f d a w → wpAnyIn Fence.wide m P md ops Q f d a w
  | 0, _, _, _, h => h
  | f + 1, d, a, w, h => by
    refine ⟨h.1, fun i hi => ?_⟩
    have h2 := h.2 i hi
    unfold wpOp at h2
    unfold wpOpIn
    cases ho : ops[i]? with
    | none =>
      simp only [ho] at h2 ⊢
      exact any_wide17 hlo f _ _ _ h2
    | some o =>
      simp only [ho] at h2 ⊢
      split
      · rename_i hw
        simp only [hw, if_true] at h2
        rcases h2 with h2 | h2
        · exact oper_wide17 (Oper.wp_mono (fun a' w' h' => any_wide17 hlo f _ a' w' h') h2)
        · exact absurd h2.2 hlo
      · rename_i hw
        simp only [hw] at h2
        exact ⟨fun _ _ => trivial, any_wide17 hlo f _ _ _ h2⟩
theorem oper_round17 {m lp : Nat} {P : Program} {o : Oper} {a : Act} {w : World} {K : Act → World → Prop} {Q : Exit → Act → World → Prop} (hnd : ∀ c, o.op ≠ .defer c) (h : o.wpIn Fence.wide m P a w K Q) : o.wpIn (Fence.wide.inRound lp) m P a w K Q := by
  unfold Oper.wpIn at *
  refine ⟨fun _ _ => trivial, ?_⟩
  have h := h.2
  rw [show (Fence.wide.inRound lp).round = some lp from rfl, Oper.semAt_some lp _ o hnd]
  rw [show Fence.wide.round = none from rfl, Oper.semAt_none] at h
  generalize (execOp a.eval o).run P w = r at *
  cases r with
  | ok x w' => cases x <;> exact h
  | halt x w' => cases x <;> exact h
theorem any_round17 {m lp : Nat} {P : Program} {md : Region.Mode} {ops : Array Oper} {Q : Exit → Act → World → Prop} (hnd : ∀ (j : Nat) (o : Oper) c, ops[j]? = some o → o.op ≠ .defer c) :
    ∀ (f : Nat) (done : Array Bool) (a : Act) (w : World), wpAnyIn Fence.wide m P md ops Q f done a w → wpAnyIn (Fence.wide.inRound lp) m P md ops Q f done a w
  | 0, _, _, _, h => h
  | f + 1, done, a, w, h => by
    refine ⟨h.1, fun i hi => ?_⟩
    have h2 := h.2 i hi
    unfold wpOpIn at *
    cases ho : ops[i]? with
    | none =>
      simp only [ho] at h2 ⊢
      exact any_round17 hnd f _ _ _ h2
    | some o =>
      simp only [ho] at h2 ⊢
      split
      · rename_i hw
        simp only [hw, if_true] at h2
        exact oper_round17 (fun c => hnd i o c ho) (Oper.wpIn_mono (fun a' w' h' => any_round17 hnd f _ a' w' h') h2)
      · rename_i hw
        simp only [hw] at h2
        exact ⟨fun _ _ => trivial, any_round17 hnd f _ _ _ h2.2⟩
theorem round_heldX {m lp id stop : Nat} {P : Program} {l : List Oper} {Q : Exit → Act → World → Prop} {S : World → Prop} {a : Act} {w : World} (hm : P.follows .mixedOrders = true) (hnd : (l.all fun o => match o.op with | .defer _ => false | _ => true) = true) (hlo : ¬ LetsOut Q) (hS : S w.drew)
    (h : S w.drew → AnyX P .any l.toArray Q S stop l.toArray.size (Array.replicate l.toArray.size false) a w.drew) : (Code.region id l.toArray true).wpIn (Fence.wide.inRound lp) m P Q a w := by
  refine wpIn_region_any hm (any_round17 (fun j o c ho e => ?_) _ _ _ _ (any_wide17 hlo _ _ _ _ (AnyX.any _ _ _ _ (h hS))))
  have hmem : o ∈ l := by
    rw [List.getElem?_toArray] at ho
    exact List.mem_of_getElem? ho
  have := List.all_eq_true.1 hnd o hmem
  rw [e] at this
  cases this
end Go.Proofs.Ytkjdnccnfnhkoaa
