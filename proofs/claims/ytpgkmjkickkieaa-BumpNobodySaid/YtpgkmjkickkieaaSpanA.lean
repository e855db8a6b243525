/- Contracts of package span: May, end, Has, Meets, Within. Each makes memory of its own alone: the world behind it is the world ahead of it, drawn on and grown. -/
import Derived.Test.YtpgkmjkickkieaaSpanSaid
import Derived.Shelf.SlSortCmp.QuietGrown
import Derived.Sort.Grow
namespace Go.Proofs.Ytpgkmjkickkieaa
open Go.RowKit Go.Sort

/-- The world has drawn and grown, no more. -/
def Grw (w w' : World) : Prop := ∃ q os, w' = grow (w.drewN q) os
theorem grow_heap (w : World) (os : Array Obj) (k : Nat) (h : k < w.heap.size) : (grow w os).heap[k]? = w.heap[k]? := by
  unfold grow
  exact Array.getElem?_append_left h
theorem grw_refl (w : World) : Grw w w := ⟨0, #[], by rw [grow_empty]; rfl⟩
theorem grw_alloc (w : World) (o : Obj) : Grw w (w.alloc o) := ⟨0, #[o], by rw [alloc_eq_grow]; rfl⟩
theorem grw_drewN (w : World) (n : Nat) : Grw w (w.drewN n) := ⟨n, #[], by rw [grow_empty]⟩
theorem grw_trans {a b c : World} (h : Grw a b) (g : Grw b c) : Grw a c := by
  obtain ⟨q, os, rfl⟩ := h
  obtain ⟨r, os', rfl⟩ := g
  refine ⟨q + r, os ++ os', ?_⟩
  show grow (grow ((a.drewN q).drewN r) os) os' = _
  rw [grow_grow, World.drewN_drewN]
theorem grw_grow {w : World} (n : Nat) (os : Array Obj) : Grw w (grow (w.drewN n) os) := ⟨n, os, rfl⟩
theorem Grw.only {w w' : World} (h : Grw w w') : Only nob w w' := by
  obtain ⟨q, os, rfl⟩ := h
  exact ⟨rfl, rfl, rfl, by unfold grow; simp [World.drewN], fun k hk _ => grow_heap _ _ _ hk⟩
theorem grw_of {P : Program} {f : FuncId} {args : Array Value} {w : World} {n : Nat} {os : Array Obj} {v : Value}
    (h : Calls P f args (grow (w.drewN n) os) fun e w' => e = .returned v ∧ Grw (grow (w.drewN n) os) w') : Calls P f args (grow (w.drewN n) os) fun e w'' => e = .returned v ∧ ∃ p : GrownBy, w'' = grow (w.drewN p.n) p.os :=
  Calls.grown_of h

set_option maxHeartbeats 400000 in
theorem may_any (x : Sp) (hx : Fit x) (w : World) : Calls Try.prog 16 #[.agg #[.int .i64 x.1, .int .i64 x.2]] w fun e w' => e = .returned (.bool (decide x.ok)) ∧ Grw w w' := by
  unfold Fit at hx
  by_cases h1 : 0 ≤ x.1
  · by_cases h2 : 1 ≤ x.2
    · by_cases h3 : x.1 ≤ 1099511627776
      · by_cases h4 : x.2 ≤ 1099511627776 - x.1
        case' pos => have HK := Lib.hid (decide_eq_true (p := x.ok) ⟨h1, h2, h3, h4⟩)
        case' neg => have HK := Lib.hid (decide_eq_false (p := x.ok) fun h => h4 h.2.2.2)
        all_goals
          go_enter Try.func16, Try.ntmps16
          go_wp2
          go_ret
          exact ⟨ret_bool (by rw [HK.out]), grw_alloc _ _⟩
      · have HK := Lib.hid (decide_eq_false (p := x.ok) fun h => h3 h.2.2.1)
        have h4 : ¬ x.2 ≤ 1099511627776 - x.1 := by omega
        go_enter Try.func16, Try.ntmps16
        go_wp2
        go_ret
        exact ⟨ret_bool (by rw [HK.out]), grw_alloc _ _⟩
    · have HK := Lib.hid (decide_eq_false (p := x.ok) fun h => h2 h.2.1)
      go_enter Try.func16, Try.ntmps16
      go_wp2
      go_ret
      exact ⟨ret_bool (by rw [HK.out]), grw_alloc _ _⟩
  · have HK := Lib.hid (decide_eq_false (p := x.ok) fun h => h1 h.1)
    go_enter Try.func16, Try.ntmps16
    go_wp2
    go_ret
    exact ⟨ret_bool (by rw [HK.out]), grw_alloc _ _⟩

end Go.Proofs.Ytpgkmjkickkieaa
