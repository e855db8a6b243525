/- A region that draws its order, whose last operation writes a cell that others have read: a condition on the world that holds behind each operation but that one. No program in it. -/
import Derived.Test.YtmnehonmbjnnaaaMem
import Derived.Test.YtmnehonmbjnnaaaSmalls
import Derived.OrdersHeld
import Derived.Deep.RegionHeld3
import Derived.RangeFuncNested
namespace Go.Proofs.Ytmnehonmbjnnaaa
open Go

section
variable {P : Program} {ops : Array Oper} {Q : Exit → Act → World → Prop} {md : Region.Mode} {S : World → Prop} {stop : Nat}

/-- Whatever order is picked; S holds behind each operation but number 'stop'. -/
def AnyX (P : Program) (md : Region.Mode) (ops : Array Oper) (Q : Exit → Act → World → Prop) (S : World → Prop) (stop : Nat) : Nat → Array Bool → Act → World → Prop
  | 0, d, a, w => Region.ready md ops d = [] ∧ Q .normal a w
  | f + 1, d, a, w => (Region.ready md ops d = [] → Q .normal a w) ∧ ∀ i ∈ Region.ready md ops d, wpOp P ops Q i (fun a' w' => (i ≠ stop → S w') ∧ AnyX P md ops Q S stop f (d.setIfInBounds i true) a' w') a w
theorem AnyX.any : ∀ (f : Nat) (d : Array Bool) (a : Act) (w : World), AnyX P md ops Q S stop f d a w → wpAny P md ops Q f d a w
  | 0, _, _, _, h => h
  | f + 1, _, _, _, h => ⟨h.1, fun i hi => wpOp_mono (fun a' w' h' => AnyX.any f _ a' w' h'.2) (h.2 i hi)⟩
/-- Operation 'stop' waits for operation i. -/
def waitsX (md : Region.Mode) (ops : Array Oper) (stop i : Nat) : Bool := match ops[stop]? with
  | some o => o.after.any fun e => Region.binds md e && e.on == i
  | none => false
theorem waits_on {d : Array Bool} {i : Nat} (h : waitsX md ops stop i = true) (hi : i ∈ Region.ready md ops d) (hs : stop ∈ Region.ready md ops d) : False := by
  obtain ⟨h1, o, ho, ha⟩ := mem_ready.1 hs
  unfold waitsX at h
  simp only [ho] at h
  obtain ⟨j, hj, hje⟩ := Array.any_eq_true.1 h
  rw [Bool.and_eq_true] at hje
  have h2 := ha _ (Array.getElem_mem hj) hje.1
  have e : (o.after[j]).on = i := by simpa using hje.2
  rw [e] at h2
  have h3 := (mem_ready.1 hi).1
  rcases Nat.lt_or_ge i d.size with h' | h'
  · simp [h'] at h2 h3; rw [h3] at h2; cases h2
  · simp [Array.getElem?_eq_none h'] at h2
/-- An operation that yields in every world that meets S comes first. -/
theorem AnyX.first {i : Nat} {oi : Oper} {v : Value} (hi : ops[i]? = some oi) (hsel : ∀ (j : Nat) (o : Oper) cs b, ops[j]? = some o → o.op ≠ .select cs b) (hQ : ∀ c a w, Q (.panic c) (a.put oi.dst v) w → Q (.panic c) a w) (hst : waitsX md ops stop i = true) :
    ∀ (f : Nat) (d : Array Bool) (a : Act) (w : World), (∀ j oj, ops[j]? = some oj → j ≠ i → d.getD j true = false → (∀ e ∈ oj.after, Region.binds md e = true → e.on ≠ i) → oi.apart ops oj = true) →
      i ∈ Region.ready md ops d → YieldsIf P ops S oi v a → S w → AnyX P md ops Q S stop f (d.setIfInBounds i true) (a.put oi.dst v) w → AnyX P md ops Q S stop (f + 1) d a w := by
  intro f
  induction f with
  | zero =>
    intro d a w _ hr hy hS H
    refine ⟨fun h => (by rw [h] at hr; cases hr), fun j hj => ?_⟩
    by_cases e : j = i
    · rw [e]; exact hy.wpOp hi hS ⟨fun _ => hS, H⟩
    · have := ready_mono hj e
      rw [H.1] at this
      cases this
  | succ f ih =>
    intro d a w hap hr hy hS H
    refine ⟨fun h => (by rw [h] at hr; cases hr), fun j hj => ?_⟩
    by_cases e : j = i
    · rw [e]; exact hy.wpOp hi hS ⟨fun _ => hS, H⟩
    · have hjs : j ≠ stop := fun h => waits_on hst hr (h ▸ hj)
      obtain ⟨hj1, oj, hoj, hafter⟩ := mem_ready.1 hj
      have hno : ∀ x ∈ oj.after, Region.binds md x = true → x.on ≠ i := fun x hx hb heq => by
        have h2 := hafter x hx hb
        rw [heq] at h2
        have h3 := (mem_ready.1 hr).1
        rcases Nat.lt_or_ge i d.size with h' | h'
        · simp [h'] at h2 h3; rw [h3] at h2; cases h2
        · simp [Array.getElem?_eq_none h'] at h2
      have key := wpOp_putIf hoj (hap j oj hoj e hj1 hno) (fun cs b => hsel i oi cs b hi) (fun cs b => hsel j oj cs b hoj) hQ hy (H.2 j (ready_mono hj e))
      refine wpOp_mono (fun a' w' h3 => ⟨fun _ => h3.2.1 hjs, ih _ a' w' (fun k ok hk hki hun hno' => ?_) (ready_mono hr (Ne.symm e)) h3.1 (h3.2.1 hjs) (by rw [Array.setIfInBounds_comm _ _ e]; exact h3.2.2)⟩) key
      by_cases hjk : j = k
      · exact hap k ok hk hki (hjk ▸ hj1) hno'
      · exact hap k ok hk hki (by rwa [getD_set_ne true hjk] at hun) hno'
theorem anyX_take {i : Nat} {oi : Oper} {v : Value} {f : Nat} {d : Array Bool} {a : Act} {w : World} (hi : ops[i]? = some oi) (hs : Region.noSelect ops = true) (hf : Region.free md ops d i = true) (hr : (Region.ready md ops d).contains i = true) (hst : waitsX md ops stop i = true)
    (hQ : ∀ c a w, Q (.panic c) (a.put oi.dst v) w → Q (.panic c) a w) (hy : YieldsIf P ops S oi v a) (hS : S w) (h : AnyX P md ops Q S stop f (d.setIfInBounds i true) (a.put oi.dst v) w) : AnyX P md ops Q S stop (f + 1) d a w :=
  AnyX.first hi (Region.noSelect_spec hs) hQ hst f d a w (Region.free_spec hi hf) (by simpa using hr) hy hS h
def AllX (P : Program) (md : Region.Mode) (ops : Array Oper) (Q : Exit → Act → World → Prop) (S : World → Prop) (stop f : Nat) (d : Array Bool) (a : Act) (w : World) (rs : List Nat) : Prop :=
  ∀ i ∈ rs, wpOp P ops Q i (fun a' w' => (i ≠ stop → S w') ∧ AnyX P md ops Q S stop f (d.setIfInBounds i true) a' w') a w
theorem AllX.nil {f : Nat} {d : Array Bool} {a : Act} {w : World} : AllX P md ops Q S stop f d a w [] := fun _ h => by cases h
theorem AllX.cons {f : Nat} {d : Array Bool} {a : Act} {w : World} {i : Nat} {o : Oper} {rs : List Nat} (ho : ops[i]? = some o)
    (h : ∀ K' : Act → World → Prop, Shut (∀ a w, (i ≠ stop → S w) → ((i ≠ stop → S w) → AnyX P md ops Q S stop f (d.setIfInBounds i true) a w) → K' a w) → if Region.wanted o (yielded ops a.tmps) = true then Oper.wp P o a w K' Q else K' (a.put o.dst undef) w)
    (hs : AllX P md ops Q S stop f d a w rs) : AllX P md ops Q S stop f d a w (i :: rs) := fun j hj => by
  rcases List.mem_cons.1 hj with rfl | hj
  · exact wpOp_step ho fun K' hK => h K' (fun a w hS hW => hK a w ⟨hS, hW hS⟩)
  · exact hs j hj
theorem anyX_ready {rs : List Nat} {f : Nat} {d : Array Bool} {a : Act} {w : World} (hr : Region.ready md ops d = rs) (hne : rs ≠ []) (h : AllX P md ops Q S stop f d a w rs) : AnyX P md ops Q S stop (f + 1) d a w :=
  ⟨fun h0 => absurd (hr ▸ h0) hne, hr ▸ h⟩
theorem anyX_done {d : Array Bool} {a : Act} {w : World} (hr : Region.ready md ops d = []) (h : Q .normal a w) : ∀ f, AnyX P md ops Q S stop f d a w
  | 0 => ⟨hr, h⟩
  | _ + 1 => ⟨fun _ => h, by rw [hr]; simp⟩
theorem region_heldX {id : Nat} {a : Act} {w : World} (hm : P.follows .mixedOrders = true) (hS : S w.drew) (h : S w.drew → AnyX P .any ops Q S stop ops.size (Array.replicate ops.size false) a w.drew) : (Code.region id ops true).wp P Q a w :=
  wp_region_any hm (AnyX.any _ _ _ _ (h hS))
end
end Go.Proofs.Ytmnehonmbjnnaaa

/- A region of a round of a range over a function, that draws its order, walked as a region elsewhere. No program in it. -/
namespace Go.Proofs.Ytmnehonmbjnnaaa
open Go

theorem rows_wide17 {m : Nat} {P : Program} {row : String} {args : Array Value} {w : World} {R : Value → World → Prop} (h : Rows P row args w R) : RowsIn Fence.wide m P row args w R :=
  fun c cs _ => let ⟨v, w', r, s⟩ := h c cs; ⟨v, w', r, stepsIn_wide.2 s⟩
theorem oper_wide17 {m : Nat} {P : Program} {o : Oper} {a : Act} {w : World} {K : Act → World → Prop} {Q : Exit → Act → World → Prop} (h : o.wp P a w K Q) : o.wpIn Fence.wide m P a w K Q := by
  unfold Oper.wpIn
  refine ⟨fun _ _ => trivial, ?_⟩
  rw [show Fence.wide.round = none from rfl, Oper.semAt_none]
  unfold Oper.wp at h
  generalize (execOp a.eval o).run P w = r at *
  rcases r with ⟨x, w'⟩ | ⟨x, w'⟩
  · cases x
    case enter f args => exact ⟨fun hd => (by cases hd), callsIn_wide.2 h⟩
    case row row args => exact ⟨fun hd => (by cases hd), rows_wide17 h⟩
    all_goals first | exact h | exact h.elim
  · cases x <;> first | exact h | exact h.elim
theorem any_wide17 {m : Nat} {P : Program} {md : Region.Mode} {ops : Array Oper} {Q : Exit → Act → World → Prop} (hlo : ¬ LetsOut Q) :
    ∀ (f : Nat) (d : Array Bool) (a : Act) (w : World), wpAny P md ops Q f d a w → wpAnyIn Fence.wide m P md ops Q f d a w
  | 0, _, _, _, h => h
  | f + 1, d, a, w, h => by
    refine ⟨h.1, fun i hi => ?_⟩
    have h2 := h.2 i hi
    unfold wpOp at h2
    unfold wpOpIn
    cases ho : ops[i]? with
    | none =>
      simp only [ho] at h2 ⊢
      exact any_wide17 hlo f _ _ _ h2
    | some o =>
      simp only [ho] at h2 ⊢
      split
      · rename_i hw
        simp only [hw, if_true] at h2
        rcases h2 with h2 | h2
        · exact oper_wide17 (Oper.wp_mono (fun a' w' h' => any_wide17 hlo f _ a' w' h') h2)
        · exact absurd h2.2 hlo
      · rename_i hw
        simp only [hw] at h2
        exact ⟨fun _ _ => trivial, any_wide17 hlo f _ _ _ h2⟩
theorem oper_round17 {m lp : Nat} {P : Program} {o : Oper} {a : Act} {w : World} {K : Act → World → Prop} {Q : Exit → Act → World → Prop} (hnd : ∀ c, o.op ≠ .defer c) (h : o.wpIn Fence.wide m P a w K Q) : o.wpIn (Fence.wide.inRound lp) m P a w K Q := by
  unfold Oper.wpIn at *
  refine ⟨fun _ _ => trivial, ?_⟩
  have h := h.2
  rw [show (Fence.wide.inRound lp).round = some lp from rfl, Oper.semAt_some lp _ o hnd]
  rw [show Fence.wide.round = none from rfl, Oper.semAt_none] at h
  generalize (execOp a.eval o).run P w = r at *
  cases r with
  | ok x w' => cases x <;> exact h
  | halt x w' => cases x <;> exact h
theorem any_round17 {m lp : Nat} {P : Program} {md : Region.Mode} {ops : Array Oper} {Q : Exit → Act → World → Prop} (hnd : ∀ (j : Nat) (o : Oper) c, ops[j]? = some o → o.op ≠ .defer c) :
    ∀ (f : Nat) (done : Array Bool) (a : Act) (w : World), wpAnyIn Fence.wide m P md ops Q f done a w → wpAnyIn (Fence.wide.inRound lp) m P md ops Q f done a w
  | 0, _, _, _, h => h
  | f + 1, done, a, w, h => by
    refine ⟨h.1, fun i hi => ?_⟩
    have h2 := h.2 i hi
    unfold wpOpIn at *
    cases ho : ops[i]? with
    | none =>
      simp only [ho] at h2 ⊢
      exact any_round17 hnd f _ _ _ h2
    | some o =>
      simp only [ho] at h2 ⊢
      split
      · rename_i hw
        simp only [hw, if_true] at h2
        exact oper_round17 (fun c => hnd i o c ho) (Oper.wpIn_mono (fun a' w' h' => any_round17 hnd f _ a' w' h') h2)
      · rename_i hw
        simp only [hw] at h2
        exact ⟨fun _ _ => trivial, any_round17 hnd f _ _ _ h2.2⟩
theorem round_heldX {m lp id stop : Nat} {P : Program} {l : List Oper} {Q : Exit → Act → World → Prop} {S : World → Prop} {a : Act} {w : World} (hm : P.follows .mixedOrders = true) (hnd : (l.all fun o => match o.op with | .defer _ => false | _ => true) = true) (hlo : ¬ LetsOut Q) (hS : S w.drew)
    (h : S w.drew → AnyX P .any l.toArray Q S stop l.toArray.size (Array.replicate l.toArray.size false) a w.drew) : (Code.region id l.toArray true).wpIn (Fence.wide.inRound lp) m P Q a w := by
  refine wpIn_region_any hm (any_round17 (fun j o c ho e => ?_) _ _ _ _ (any_wide17 hlo _ _ _ _ (AnyX.any _ _ _ _ (h hS))))
  have hmem : o ∈ l := by
    rw [List.getElem?_toArray] at ho
    exact List.mem_of_getElem? ho
  have := List.all_eq_true.1 hnd o hmem
  rw [e] at this
  cases this
end Go.Proofs.Ytmnehonmbjnnaaa
