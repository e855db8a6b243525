/- Package reach: Breadth, Depth; the document's Flat; plans that tell no node large; Live, of both. -/
import Derived.Test.YtmnehonmbjnnaaaRePl4
import Derived.Test.YtmnehonmbjnnaaaReRef2
import Derived.Test.YtmnehonmbjnnaaaRefGr
namespace Go.Proofs.Ytmnehonmbjnnaaa
open Go.RowKit Go.Lib
set_option maxRecDepth 100000
set_option linter.unusedSimpArgs false
set_option linter.unusedVariables false

/-! ### No node is large -/
theorem nd_sz17 {g : Gr} (hg : grOk g = true) (x : Int) : ndSz (ndAt g x) ≤ 8193 := by
  by_cases hlt : x.toNat < g.nd.length
  · have hm : ndAt g x ∈ g.nd := by
      unfold ndAt
      rw [List.getD_eq_getElem?_getD, List.getElem?_eq_getElem hlt]
      exact List.getElem_mem hlt
    obtain ⟨-, h2, h3, -⟩ := ndOk_iff.1 ((grOk_iff.1 hg).1 _ hm)
    unfold ndSz ndRaw
    rw [wrap64_id _ (by omega) (by omega)]
    omega
  · have : ndAt g x = noNd := by
      unfold ndAt
      rw [List.getD_eq_getElem?_getD, List.getElem?_eq_none (by omega)]; rfl
    rw [this]
    unfold ndSz ndRaw noNd
    rw [wrap64_id _ (by simp) (by simp)]
    simp
section
variable {g : Gr} {l1 l2 : Int}
theorem meet_lim (hg : grOk g = true) (h1 : 8193 ≤ l1) (h2 : 8193 ≤ l2) (v : Sp) (s : PSt) : meetS g l1 v s = meetS g l2 v s ∧ meetB g l1 v s = meetB g l2 v s := by
  have hs := nd_sz17 hg v.2
  have a1 : ¬ l1 < ndSz (ndAt g v.2) := by omega
  have a2 : ¬ l2 < ndSz (ndAt g v.2) := by omega
  unfold meetS meetB
  rw [if_neg a1, if_neg a2, decide_eq_false a1, decide_eq_false a2]
  exact ⟨rfl, rfl⟩
theorem lookW_lim (hg : grOk g = true) (h1 : 8193 ≤ l1) (h2 : 8193 ≤ l2) : ∀ (l : List Sp) (s : PSt), lookW g l1 l s = lookW g l2 l s
  | [], s => rfl
  | v :: l, s => by
    show lookW g l1 l (meetS g l1 v s) = lookW g l2 l (meetS g l2 v s)
    rw [(meet_lim hg h1 h2 v s).1]
    exact lookW_lim hg h1 h2 l _
theorem lookD_lim (hg : grOk g = true) (h1 : 8193 ≤ l1) (h2 : 8193 ≤ l2) : ∀ (n : Nat) (l : List Sp) (s : PSt), lookD g l1 n l s = lookD g l2 n l s := by
  intro n
  induction n with
  | zero =>
    intro l
    induction l with
    | nil => intro s; rw [lookD, lookD]
    | cons v l ih => intro s; rw [lookD, lookD, (meet_lim hg h1 h2 v s).1]; exact ih _
  | succ n ihn =>
    intro l
    induction l with
    | nil => intro s; rw [lookD, lookD]
    | cons v l ih =>
      intro s
      rw [lookD, lookD, (meet_lim hg h1 h2 v s).1, (meet_lim hg h1 h2 v s).2, ihn]
      exact ih _
theorem lookO_lim (hg : grOk g = true) (h1 : 8193 ≤ l1) (h2 : 8193 ≤ l2) (o : Int) (l : List Sp) (s : PSt) : lookO g l1 o l s = lookO g l2 o l s := by
  unfold lookO
  rw [lookD_lim hg h1 h2, lookW_lim hg h1 h2]
theorem run_lim (hg : grOk g = true) (h1 : 8193 ≤ l1) (h2 : 8193 ≤ l2) (o b : Int) : ∀ (n : Nat) (s : PSt), runS g l1 o b n s = runS g l2 o b n s
  | 0, s => rfl
  | n + 1, s => by
    have hs : stepS g l1 o b s = stepS g l2 o b s := by
      unfold stepS
      simp only [lookO_lim hg h1 h2]
    rw [runS, runS, hs]
    cases stepS g l2 o b s with
    | none => rfl
    | some s' => exact run_lim hg h1 h2 o b n s'
theorem plan_lim (hg : grOk g = true) (h1 : 8193 ≤ l1) (h2 : 8193 ≤ l2) (o b : Int) : planS g l1 o b = planS g l2 o b := by
  unfold planS
  rw [lookO_lim hg h1 h2, run_lim hg h1 h2]
end
/-! ### Flat -/
def flatE (g : Gr) : Int := if grOk g = true then 0 else 4
def flatL (g : Gr) (order : Int) : List Int := if grOk g = true then (planS g 1000000 order 1).small else []
theorem flat_is {g : Gr} {lim order : Int} (hl : 8193 ≤ lim) (ho : order = 0 ∨ order = 1) : planE g lim order 1 = flatE g ∧ planSm g lim order 1 = flatL g order := by
  have he : planE g lim order 1 = flatE g := by
    unfold planE flatE
    by_cases h : grOk g = true
    · rw [if_pos h, if_pos h, if_neg (by omega)]
    · rw [if_neg h, if_neg h]
  refine ⟨he, ?_⟩
  unfold planSm flatL
  rw [he]
  unfold flatE
  by_cases h : grOk g = true
  · rw [if_pos h, if_pos rfl, if_pos h]
    exact congrArg PSt.small (plan_lim h hl (by decide) order 1)
  · rw [if_neg h, if_neg (by decide), if_neg h]
def FlatGC (f : FuncId) (order : Int) : Prop := ∀ (g : Gr) (vn vr : Value) (hs : List (Value × Value)) (B : Nat) (W : World), RdG W B g vn vr hs → B ≤ W.heap.size → GrFit g → GrBd g →
  Calls Try.prog f #[.agg #[vn, vr]] W fun e w' => ∃ v1, e = .returned (.tuple #[v1, .int .i64 (flatE g)]) ∧ OwR w' W.heap.size 3 v1 (flatL g order).length (i64s (flatL g order)) ∧ Only nob W w'
theorem flat_box (W : World) (A Ar : Option Addr) (n c m cr : Nat) : ∃ X, W.alloc (.cells #[.slice A n c, .slice Ar m cr] 25) = X ∧ Only nob W X ∧ Blk X W.heap.size 25 #[.slice A n c, .slice Ar m cr] := ⟨_, rfl, (Only.refl nob W).alloc _, Blk.new _ _ _⟩
theorem OwR.more {w : World} {base base' : Nat} {E : TypeId} {v : Value} {n : Nat} {xs : List Value} (h : OwR w base E v n xs) (hk : base' ≤ base) : OwR w base' E v n xs := by
  refine ⟨h.1, ?_⟩
  rcases h.2 with h0 | ⟨g, o, cap, cur, rfl, hb, rest⟩
  · exact .inl h0
  · exact .inr ⟨g, o, cap, cur, rfl, Nat.le_trans hk hb, rest⟩
set_option maxHeartbeats 4000000 in
theorem breadth17 : FlatGC 19 0 := by
  intro g vn vr hs B W hr hB hfit hbd
  obtain ⟨An, cn, rfl, hacn, hcmn⟩ := hr.nodes.form
  obtain ⟨Ar, cr, rfl, hacr, hcmr⟩ := hr.roots.form
  obtain ⟨W1, hW1, o1, b1⟩ := flat_box W An Ar g.nd.length cn g.rt.length cr
  have HW1 := Lib.hid hW1
  have O1 := Lib.hid o1
  have HC := Lib.hid (plan_any17 g _ _ hs B W1 9223372036854775807 0 1 (hr.only o1 hB) (Nat.le_trans hB o1.size) hfit hbd (by decide))
  obtain ⟨f1, f2⟩ := flat_is (g := g) (lim := 9223372036854775807) (order := 0) (by decide) (by decide)
  rw [f1, f2] at HC
  have c0 : W1.cell? ⟨W.heap.size, 0, none⟩ = some (.slice An g.nd.length cn) := b1.cell 0
  have c1 : W1.cell? ⟨W.heap.size, 1, none⟩ = some (.slice Ar g.rt.length cr) := b1.cell 1
  clear hW1 o1 b1 hr hB hfit hbd f1 f2
  go_enter Try.func19, Try.ntmps19
  go_upto_region 1 with fail
  rw [HW1.out]
  go_wp2_with fail
  go_at_call 37
  refine HC.out.mono ?_
  rintro e w2 ⟨v1, v2, rfl, h1, h2, o2⟩
  have H1 := Lib.hid (h1.more O1.out.size)
  have O2 := Lib.hid (O1.out.trans o2)
  obtain ⟨A2, k2, rfl, -, -⟩ := h1.form
  obtain ⟨A3, k3, rfl, -, -⟩ := h2.form
  clear h1 h2 o2 c0 c1
  go_wp2
  go_ret2
  exact ⟨_, rfl, H1.out, O2.out⟩
set_option maxHeartbeats 4000000 in
theorem rFlat17_0  (g : Gr) (vn vr : Value) (hs : List (Value × Value)) (B : Nat) (W : World) (hr : RdG W B g vn vr hs) (hB : B ≤ W.heap.size) (hfit : GrFit g) (hbd : GrBd g) :
    Calls Try.prog 24 #[.agg #[vn, vr], .int .i64 0] W fun e w' => ∃ v1, e = .returned (.tuple #[v1, .int .i64 (flatE g)]) ∧ OwR w' W.heap.size 3 v1 (flatL g 0).length (i64s (flatL g 0)) ∧ Only nob W w' := by
  obtain ⟨An, cn, rfl, hacn, hcmn⟩ := hr.nodes.form
  obtain ⟨Ar, cr, rfl, hacr, hcmr⟩ := hr.roots.form
  obtain ⟨W1, hW1, o1, b1⟩ := flat_box W An Ar g.nd.length cn g.rt.length cr
  have HW1 := Lib.hid hW1
  have O1 := Lib.hid o1
  have HC := Lib.hid (rPlan17 g _ _ hs B W1 1000000 0 1 (hr.only o1 hB) (Nat.le_trans hB o1.size) hfit hbd (by decide))
  obtain ⟨f1, f2⟩ := flat_is (g := g) (lim := 1000000) (order := 0) (by decide) (by decide)
  rw [f1, f2] at HC
  have c0 : W1.cell? ⟨W.heap.size, 0, none⟩ = some (.slice An g.nd.length cn) := b1.cell 0
  have c1 : W1.cell? ⟨W.heap.size, 1, none⟩ = some (.slice Ar g.rt.length cr) := b1.cell 1
  clear hW1 o1 b1 hr hB hfit hbd f1 f2
  go_enter Try.func24, Try.ntmps24
  go_upto_region 1 with fail
  rw [HW1.out]
  go_wp2_with fail
  go_at_call 41
  refine HC.out.mono ?_
  rintro e w2 ⟨v1, v2, rfl, h1, h2, o2⟩
  have H1 := Lib.hid (h1.more O1.out.size)
  have O2 := Lib.hid (O1.out.trans o2)
  obtain ⟨A2, k2, rfl, -, -⟩ := h1.form
  obtain ⟨A3, k3, rfl, -, -⟩ := h2.form
  clear h1 h2 o2 c0 c1
  go_wp2
  go_ret2
  exact ⟨_, rfl, H1.out, O2.out⟩
set_option maxHeartbeats 4000000 in
theorem rFlat17_1  (g : Gr) (vn vr : Value) (hs : List (Value × Value)) (B : Nat) (W : World) (hr : RdG W B g vn vr hs) (hB : B ≤ W.heap.size) (hfit : GrFit g) (hbd : GrBd g) :
    Calls Try.prog 24 #[.agg #[vn, vr], .int .i64 1] W fun e w' => ∃ v1, e = .returned (.tuple #[v1, .int .i64 (flatE g)]) ∧ OwR w' W.heap.size 3 v1 (flatL g 1).length (i64s (flatL g 1)) ∧ Only nob W w' := by
  obtain ⟨An, cn, rfl, hacn, hcmn⟩ := hr.nodes.form
  obtain ⟨Ar, cr, rfl, hacr, hcmr⟩ := hr.roots.form
  obtain ⟨W1, hW1, o1, b1⟩ := flat_box W An Ar g.nd.length cn g.rt.length cr
  have HW1 := Lib.hid hW1
  have O1 := Lib.hid o1
  have HC := Lib.hid (rPlan17 g _ _ hs B W1 1000000 1 1 (hr.only o1 hB) (Nat.le_trans hB o1.size) hfit hbd (by decide))
  obtain ⟨f1, f2⟩ := flat_is (g := g) (lim := 1000000) (order := 1) (by decide) (by decide)
  rw [f1, f2] at HC
  have c0 : W1.cell? ⟨W.heap.size, 0, none⟩ = some (.slice An g.nd.length cn) := b1.cell 0
  have c1 : W1.cell? ⟨W.heap.size, 1, none⟩ = some (.slice Ar g.rt.length cr) := b1.cell 1
  clear hW1 o1 b1 hr hB hfit hbd f1 f2
  go_enter Try.func24, Try.ntmps24
  go_upto_region 1 with fail
  rw [HW1.out]
  go_wp2_with fail
  go_at_call 41
  refine HC.out.mono ?_
  rintro e w2 ⟨v1, v2, rfl, h1, h2, o2⟩
  have H1 := Lib.hid (h1.more O1.out.size)
  have O2 := Lib.hid (O1.out.trans o2)
  obtain ⟨A2, k2, rfl, -, -⟩ := h1.form
  obtain ⟨A3, k3, rfl, -, -⟩ := h2.form
  clear h1 h2 o2 c0 c1
  go_wp2
  go_ret2
  exact ⟨_, rfl, H1.out, O2.out⟩
end Go.Proofs.Ytmnehonmbjnnaaa

/- Package reach: Live, and the document's own. -/
namespace Go.Proofs.Ytmnehonmbjnnaaa
open Go.RowKit Go.Lib
set_option maxRecDepth 100000
set_option linter.unusedSimpArgs false
set_option linter.unusedVariables false

theorem plan_wf17 {g : Gr} (hg : grOk g = true) (lim order block : Int) : Wf g (planS g lim order block) := by
  obtain ⟨h1, h2⟩ := start_wf lim order hg
  exact (run_wf (block := block) hg (g.nd.length + 1) _ h1 h2 (by omega)).1
theorem plan_len17 (g : Gr) (lim order block : Int) : (planSm g lim order block).length ≤ g.nd.length ∧ (planLg g lim order block).length ≤ g.nd.length := by
  unfold planSm planLg
  by_cases h : planE g lim order block = 0
  · rw [if_pos h, if_pos h]
    have hg : grOk g = true := by
      unfold planE at h
      by_cases hg : grOk g = true
      · exact hg
      · rw [if_neg hg] at h; cases h
    have := (plan_wf17 hg lim order block).room
    rw [met_len] at this
    omega
  · rw [if_neg h, if_neg h]; simp
def LiveGC (f : FuncId) : Prop := ∀ (g : Gr) (vn vr : Value) (hs : List (Value × Value)) (B : Nat) (W : World) (lim : Int), RdG W B g vn vr hs → B ≤ W.heap.size → GrFit g → GrBd g → g.nd.length ≤ 60 →
  Calls Try.prog f #[.agg #[vn, vr], .int .i64 lim] W fun e w' => e = .returned (.tuple #[.int .i64 (sumW g (planSm g lim 0 1)), .int .i64 (sumW g (planLg g lim 0 1)), .int .i64 (wrap64 (sumF g (planSm g lim 0 1) + sumF g (planLg g lim 0 1))), .int .i64 (planE g lim 0 1)]) ∧ Only nob W w'
end Go.Proofs.Ytmnehonmbjnnaaa

/- The document's own: whether a number is among some; what is met, rising. -/
namespace Go.Proofs.Ytmnehonmbjnnaaa
open Go.RowKit Go.Lib
set_option maxRecDepth 100000
set_option linter.unusedSimpArgs false
set_option linter.unusedVariables false

theorem mem_allS17 {l : List Int} {x : Int} (h : ∀ (j : Nat) y, j < l.length → l[j]? = some y → y ≠ x) : decide (x ∈ l) = false := by
  refine decide_eq_false fun hm => ?_
  obtain ⟨j, hj⟩ := List.getElem?_of_mem hm
  exact h j x (List.getElem?_eq_some_iff.1 hj).1 hj rfl
/-- What is met of a graph, rising. -/
def upTo (l : List Int) (n : Nat) : List Int := ((List.range n).map fun k : Nat => (k : Int)).filter fun x => decide (x ∈ l)
def reachL (g : Gr) : List Int := upTo (flatL g 0) g.nd.length
theorem upTo_succ (l : List Int) (n : Nat) : upTo l (n + 1) = upTo l n ++ (if (n : Int) ∈ l then [(n : Int)] else []) := by
  unfold upTo
  rw [List.range_succ, List.map_append, List.filter_append]
  congr 1
  by_cases h : (n : Int) ∈ l <;> simp [h]
theorem upTo_len (l : List Int) (n : Nat) : (upTo l n).length ≤ n := by
  unfold upTo
  exact Nat.le_trans (List.length_filter_le _ _) (by simp)
def ReachGC (f : FuncId) : Prop := ∀ (g : Gr) (vn vr : Value) (hs : List (Value × Value)) (B : Nat) (W : World), RdG W B g vn vr hs → B ≤ W.heap.size → GrFit g → GrBd g →
  Calls Try.prog f #[.agg #[vn, vr]] W fun e w' => ∃ v1, e = .returned (.tuple #[v1, .int .i64 (flatE g)]) ∧ OwR w' W.heap.size 3 v1 (reachL g).length (i64s (reachL g)) ∧ Only nob W w'
end Go.Proofs.Ytmnehonmbjnnaaa
