/- Chapter 17's example comes to what the chapter says. (Printed by wip/tools/gen_awake17.py.) -/
import Derived.Test.YtmnehonmbjnnaaaReSorts
import Derived.Test.YtmnehonmbjnnaaaGrAws
namespace Go.Proofs.Ytmnehonmbjnnaaa
open Go.RowKit Go.Lib
set_option maxRecDepth 100000
set_option linter.unusedSimpArgs false
set_option linter.unusedVariables false

abbrev lv (b n : Nat) : Value := .slice (some ⟨b, 0, none⟩) n n
def nodesW (a b : Nat) : Array Value := #[.int .i64 0, .slice (some ⟨a, 0, none⟩) 2 2, .slice none 0 0, .int .i64 0, .slice (some ⟨b, 0, none⟩) 1 1, .slice none 0 0, .int .i64 0, .slice none 0 0, .slice (some ⟨b + 1, 0, none⟩) 3 3, .int .i64 0, .slice none 0 0, .slice none 0 0, .int .i64 0, .slice none 0 0, .slice none 0 0]
def handsW (a b : Nat) : List (Value × Value) := [(.slice (some ⟨a, 0, none⟩) 2 2, .slice none 0 0), (.slice (some ⟨b, 0, none⟩) 1 1, .slice none 0 0), (.slice none 0 0, .slice (some ⟨b + 1, 0, none⟩) 3 3), (.slice none 0 0, .slice none 0 0), (.slice none 0 0, .slice none 0 0)]
/-- Three rows one after another. -/
theorem laid3 (w : World) (a : Nat) : ∃ V, ((w.alloc (.cells #[.int .i64 2, .int .i64 3] 43)).alloc (.cells #[.int .u64 1, .int .u64 2, .int .u64 3] 71)).alloc (.cells #[.int .i64 0, .slice (some ⟨a, 0, none⟩) 2 2, .slice none 0 0, .int .i64 0, .slice (some ⟨w.heap.size, 0, none⟩) 1 1, .slice none 0 0, .int .i64 0, .slice none 0 0, .slice (some ⟨w.heap.size + 1, 0, none⟩) 3 3, .int .i64 0, .slice none 0 0, .slice none 0 0, .int .i64 0, .slice none 0 0, .slice none 0 0] 41) = V ∧ Hid (Only nob w V ∧ Blk V w.heap.size 43 #[.int .i64 2, .int .i64 3] ∧ Blk V (w.heap.size + 1) 71 #[.int .u64 1, .int .u64 2, .int .u64 3] ∧ Blk V (w.heap.size + 1 + 1) 41 (nodesW a w.heap.size)) :=
  ⟨_, rfl, Lib.hid ⟨(((Only.refl nob w).alloc _).alloc _).alloc _, ((Blk.new w _ _).alloc _).alloc _, (Blk.newAt _ _ _ _ (by simp)).alloc _, Blk.newAt _ _ _ _ (by simp)⟩⟩
theorem laid1 (w : World) (t : TypeId) (cs : Array Value) : ∃ V, w.alloc (.cells cs t) = V ∧ Hid (Only nob w V ∧ Blk V w.heap.size t cs) := ⟨_, rfl, Lib.hid ⟨(Only.refl nob w).alloc _, Blk.new w _ _⟩⟩
theorem laid2 (w : World) (d : Nat) : ∃ V, (w.alloc (.cells #[.int .i64 2, .int .i64 0] 43)).alloc (.cells #[.slice (some ⟨d + 1 + 1, 0, none⟩) 5 5, .slice (some ⟨w.heap.size, 0, none⟩) 1 1] 25) = V ∧ Hid (Only nob w V ∧ Blk V w.heap.size 43 #[.int .i64 2, .int .i64 0] ∧ Blk V (w.heap.size + 1) 25 #[.slice (some ⟨d + 1 + 1, 0, none⟩) 5 5, .slice (some ⟨w.heap.size, 0, none⟩) 1 1]) :=
  ⟨_, rfl, Lib.hid ⟨((Only.refl nob w).alloc _).alloc _, (Blk.new w _ _).alloc _, Blk.newAt _ _ _ _ (by simp)⟩⟩
theorem rdW {V : World} {a b e : Nat} (b0 : Blk V a 43 #[.int .i64 2, .int .i64 1, .int .i64 2, .int .i64 2]) (b1 : Blk V b 43 #[.int .i64 2, .int .i64 3]) (b2 : Blk V (b + 1) 71 #[.int .u64 1, .int .u64 2, .int .u64 3]) (b3 : Blk V (b + 1 + 1) 41 (nodesW a b)) (b4 : Blk V e 43 #[.int .i64 2, .int .i64 0]) :
    RdG V V.heap.size gW (.slice (some ⟨b + 1 + 1, 0, none⟩) 5 5) (.slice (some ⟨e, 0, none⟩) 1 1) (handsW a b) := by
  have s0 := Sl.of_blk (size := 2) (n := 2) (c := 2) b0 rfl (Nat.le_refl _) (by decide)
  have s1 := Sl.of_blk (size := 2) (n := 1) (c := 1) b1 rfl (Nat.le_refl _) (by decide)
  have s2 := Sl.of_blk (size := 1) (n := 3) (c := 3) b2 rfl (Nat.le_refl _) (by decide)
  have s3 := Sl.of_blk (size := 3) (n := 5) (c := 5) b3 rfl (Nat.le_refl _) (by decide)
  have s4 := Sl.of_blk (size := 2) (n := 1) (c := 1) b4 rfl (Nat.le_refl _) (by decide)
  refine ⟨rfl, s3, fun i d h hd hh => ?_, s4⟩
  match i, hd, hh with
  | 0, hd, hh =>
    obtain rfl := Option.some.inj hd
    obtain rfl := Option.some.inj hh
    exact ⟨s0, Sl.nil_⟩
  | 1, hd, hh =>
    obtain rfl := Option.some.inj hd
    obtain rfl := Option.some.inj hh
    exact ⟨s1, Sl.nil_⟩
  | 2, hd, hh =>
    obtain rfl := Option.some.inj hd
    obtain rfl := Option.some.inj hh
    exact ⟨Sl.nil_, s2⟩
  | 3, hd, hh =>
    obtain rfl := Option.some.inj hd
    obtain rfl := Option.some.inj hh
    exact ⟨Sl.nil_, Sl.nil_⟩
  | 4, hd, hh =>
    obtain rfl := Option.some.inj hd
    obtain rfl := Option.some.inj hh
    exact ⟨Sl.nil_, Sl.nil_⟩
  | n + 5, hd, _ => simp [gW] at hd
theorem rdV {V : World} {e : Nat} (b4 : Blk V e 43 #[.int .i64 2, .int .i64 0]) : RdG V V.heap.size gV (.slice none 0 0) (.slice (some ⟨e, 0, none⟩) 1 1) [] :=
  ⟨rfl, Sl.nil_, fun i d h hd => by simp [gV] at hd, Sl.of_blk (size := 2) (n := 1) (c := 1) b4 rfl (Nat.le_refl _) (by decide)⟩
end Go.Proofs.Ytmnehonmbjnnaaa
