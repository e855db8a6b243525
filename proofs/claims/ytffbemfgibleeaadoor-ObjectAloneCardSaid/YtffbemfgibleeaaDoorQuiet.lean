/- Drawn regions whose calls turn nothing that was there (Only nob), in a class of worlds that says just that; with a writing tail, and in a fence. No program in its statements. -/
import Derived.Test.YtffbemfgibleeaaDoorMem
import Derived.Test.YtffbemfgibleeaaDoorTailIn
namespace Go.Proofs.YtffbemfgibleeaaDoor
open Go Go.Sort Go.RowKit

/-- W with other blocks behind it, and another count of draws. -/
def wat (W : World) (n : Nat) (os : Array Obj) : World := { W with heap := W.heap ++ os, drawn := n }
theorem only_wat (W : World) (n : Nat) (os : Array Obj) : Only nob W (wat W n os) :=
  ⟨rfl, rfl, rfl, by unfold wat; simp, fun k hk _ => Array.getElem?_append_left hk⟩
theorem wat_of {W w' : World} (h : Only nob W w') : ∃ p : GrownBy, w' = wat W p.n p.os := by
  refine ⟨⟨w'.drawn, w'.heap.extract W.heap.size w'.heap.size⟩, ?_⟩
  have hh : w'.heap = W.heap ++ w'.heap.extract W.heap.size w'.heap.size := by
    refine Array.ext_getElem? fun i => ?_
    rcases Nat.lt_or_ge i W.heap.size with hi | hi
    · rw [Array.getElem?_append_left hi]; exact h.block i hi id
    · rw [Array.getElem?_append_right hi, Array.getElem?_extract]
      rcases Nat.lt_or_ge i w'.heap.size with hj | hj
      · rw [if_pos (by have := h.size; omega)]
        congr 1; omega
      · rw [if_neg (by have := h.size; omega), Array.getElem?_eq_none hj]
  unfold wat
  rw [← hh, ← h.os, ← h.tape, ← h.output]
theorem wat_cell {W : World} {p : Addr} {v : Value} (h : W.cell? p = some v) (n : Nat) (os : Array Obj) : (wat W n os).cell? p = some v := (only_wat W n os).keeps h
theorem wat_call {P : Program} {f : FuncId} {args : Array Value} {W : World} {n : Nat} {os : Array Obj} {v : Value}
    (h : Calls P f args (wat W n os) fun e w' => e = .returned v ∧ Only nob (wat W n os) w') : Calls P f args (wat W n os) fun e w'' => e = .returned v ∧ ∃ p : GrownBy, w'' = wat W p.n p.os :=
  h.mono fun _ _ ⟨he, ho⟩ => ⟨he, wat_of ((only_wat W n os).trans ho)⟩
theorem wat_start (w : World) : ∃ p : GrownBy, ({ w with drawn := w.drawn + 1 } : World) = wat w p.n p.os := wat_of (w' := { w with drawn := w.drawn + 1 }) ⟨rfl, rfl, rfl, Nat.le_refl _, fun _ _ _ => rfl⟩
/-- A world of the class, under a name. -/
theorem wat_name (W : World) (n : Nat) (os : Array Obj) : ∃ W3, wat W n os = W3 ∧ Hid (Only nob W W3) := ⟨_, rfl, only_wat W n os⟩

section
variable {P : Program} {id : Nat} {Q : Exit → Act → World → Prop} {a : Act} {w : World} {l : List Oper}
theorem wp_region_only (hm : P.follows .mixedOrders = true) (hB : Region.lexB .any l.toArray = true)
    (h : wpQuiet P l.toArray (fun w' => ∃ p : GrownBy, w' = wat w p.n p.os) (fun a' => ∀ w', (∃ p : GrownBy, w' = wat w p.n p.os) → Q .normal a' w') l a) : (Code.region id l.toArray true).wp P Q a w :=
  wp_region_quiet (C := fun w' => ∃ p : GrownBy, w' = wat w p.n p.os) hm hB (wat_start w) (by simpa using h)
theorem wp_region_only_tail (n : Nat) (hm : P.follows .mixedOrders = true) (hB : Region.lexTailB .any l.toArray n = true)
    (h : wpQuiet P l.toArray (fun w' => ∃ p : GrownBy, w' = wat w p.n p.os) (fun a' => ∀ w', (∃ p : GrownBy, w' = wat w p.n p.os) → wpList P l.toArray Q (l.drop n) a' w') (l.take n) a) : (Code.region id l.toArray true).wp P Q a w :=
  wp_region_quiet_tail (C := fun w' => ∃ p : GrownBy, w' = wat w p.n p.os) n hm hB (wat_start w) h
theorem wpIn_region_only_tail {F : Fence} {m : Nat} (W : WideLike F) (n : Nat) (hm : P.follows .mixedOrders = true) (hB : Region.lexTailB .any l.toArray n = true)
    (hnd : (l.all fun o => match o.op with | .defer _ => false | _ => true) = true)
    (h : wpQuiet P l.toArray (fun w' => ∃ p : GrownBy, w' = wat w p.n p.os) (fun a' => ∀ w', (∃ p : GrownBy, w' = wat w p.n p.os) → wpListIn F m P l.toArray Q (l.drop n) a' w') (l.take n) a) : (Code.region id l.toArray true).wpIn F m P Q a w :=
  wpIn_region_quiet_tail (C := fun w' => ∃ p : GrownBy, w' = wat w p.n p.os) W n hm hB hnd (wat_start w) h
end
end Go.Proofs.YtffbemfgibleeaaDoor
