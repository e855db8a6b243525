/- Contract of span's iterator over joined rows. -/
import Derived.Test.YtfdihnfhofpjlaaDoorSpanIL
import Derived.Test.YtfdihnfhofpjlaaDoorSpanPure
import Derived.RangeFuncNested
import Derived.RangeFuncBound
import Derived.RangeFuncCalls
import Derived.RangeFuncLeaves
import Derived.RangeFuncBox
import Derived.Shelf.Abstract
import Derived.Shelf.RegionOpen
import Derived.WalkKit
import Derived.OwnWalkIn
import Derived.TacticsInMore
import Derived.LoopNIn
import Derived.LoopIn
import Derived.Maps.AppendAt
import Derived.Maps.OwnIn
namespace Go.Proofs.YtfdihnfhofpjlaaDoor
open Go.RowKit Go.Shelf Go.Sort
attribute [local go_sem] Oper.semAt_some

abbrev OkSp := { x : Sp // x.ok }
def plain (l : List OkSp) : List Sp := l.map (·.1)
theorem plain_len (l : List OkSp) : (plain l).length = l.length := List.length_map _
theorem plain_snoc (l : List OkSp) (x : OkSp) : plain (l ++ [x]) = plain l ++ [x.1] := List.map_append
theorem plain_ok (l : List OkSp) : ∀ x ∈ plain l, Sp.ok x := fun x hx => by obtain ⟨y, _, rfl⟩ := List.mem_map.1 hx; exact y.2
theorem lift_ok : ∀ l : List Sp, (∀ x ∈ l, Sp.ok x) → ∃ xs : List OkSp, plain xs = l
  | [], _ => ⟨[], rfl⟩
  | x :: l, h => by
    obtain ⟨xs, hx⟩ := lift_ok l fun y hy => h y (List.mem_cons_of_mem _ hy)
    exact ⟨⟨x, h x List.mem_cons_self⟩ :: xs, by simp [plain] at hx ⊢; exact hx⟩
/-- What joined spans of l are. -/
def JoinOf (l O : List Sp) : Prop := Joined O ∧ ∀ p, cov O p ↔ cov l p

/-- Block k holds the row that box b names. -/
def mine (b : Nat) (W : World) (k : Nat) : Prop := k < W.heap.size ∧ ∃ v, W.cell? ⟨b, 0, none⟩ = some v ∧ v.ownBlock = some k
/-- What a round of a loop over the iterator keeps: what lay below n0; from N0 on every block of cells but the one that holds the row in the caller's box b. -/
structure KeepsB (b N0 n0 : Nat) (W W' : World) : Prop where
  below : Below n0 W W'
  cells : ∀ k o, N0 ≤ k → W.heap[k]? = some o → o.isCells = true → ¬ mine b W k → W'.heap[k]? = some o
  owned : ∀ k, Go.Proofs.YtfdihnfhofpjlaaDoor.mine b W' k → Go.Proofs.YtfdihnfhofpjlaaDoor.mine b W k ∨ W.heap.size ≤ k
theorem KeepsB.refl (b N0 n0 : Nat) (W : World) : KeepsB b N0 n0 W W := ⟨Below.refl _ _, fun _ _ _ h _ _ => h, fun _ h => .inl h⟩
theorem KeepsB.trans {b N0 n0 : Nat} {A B C : World} (h : KeepsB b N0 n0 A B) (g : KeepsB b N0 n0 B C) : KeepsB b N0 n0 A C := by
  refine ⟨h.below.trans g.below, fun k o hk ho hc hm => ?_, fun k hm => ?_⟩
  · have hlt : k < A.heap.size := (Array.getElem?_eq_some_iff.1 ho).1
    refine g.cells k o hk (h.cells k o hk ho hc hm) hc fun hB => ?_
    rcases h.owned k hB with h1 | h1
    · exact hm h1
    · omega
  · rcases g.owned k hm with h1 | h1
    · exact h.owned k h1
    · exact .inr (Nat.le_trans h.below.size h1)
/-- The turn of a block that is no cells. -/
theorem KeepsB.putObj {b N0 n0 : Nat} (W : World) (l : Nat) (o o' : Obj) (hb : b < l) (hn : n0 ≤ l) (hl : W.heap[l]? = some o) (ho : o.isCells = false) : KeepsB b N0 n0 W (W.putObj l o') := by
  have hg := grownBy_putObj' W l o'
  have hlt : l < W.heap.size := (Array.getElem?_eq_some_iff.1 hl).1
  refine ⟨(Below.refl n0 W).grown hg (Nat.le_trans hn (Nat.le_of_lt hlt)) (fun j e => by cases e; exact hn), fun k q _ hq hc _ => ?_, fun k hm => .inl ?_⟩
  · have hne : k ≠ l := fun e => by rw [e, hl] at hq; cases hq; rw [ho] at hc; cases hc
    exact (hg.block k (Array.getElem?_eq_some_iff.1 hq).1 (fun e => hne (Option.some.inj e))).trans hq
  · obtain ⟨h1, v, h2, h3⟩ := hm
    have hs : (W.putObj l o').heap.size = W.heap.size := by simp [World.putObj]
    rw [hs] at h1
    refine ⟨h1, v, ?_, h3⟩
    rw [← h2]
    exact (World.cell?_of_block (a := ⟨b, 0, none⟩) (hg.block b (by omega) (fun e => by have := Option.some.inj e; omega))).symm
/-- Steps that only make memory. -/
theorem mine_only {b : Nat} {W W' : World} (h : Only nob W W') (hb : b < W.heap.size) {k : Nat} (hk : k < W.heap.size) (hm : mine b W' k) : mine b W k := by
  obtain ⟨_, v, h2, h3⟩ := hm
  exact ⟨hk, v, by rw [← h2]; exact (World.cell?_of_block (a := ⟨b, 0, none⟩) (h.block b hb id)).symm, h3⟩
theorem KeepsB.only {b N0 n0 : Nat} {W W' : World} (h : Only nob W W') (hb : b < W.heap.size) (hn : n0 ≤ W.heap.size) : KeepsB b N0 n0 W W' := by
  refine ⟨h.below hn fun _ h => h.elim, fun k q _ hq _ _ => (h.block k (Array.getElem?_eq_some_iff.1 hq).1 id).trans hq, fun k hm => ?_⟩
  rcases Nat.lt_or_ge k W.heap.size with hlt | hge
  · exact .inl (mine_only h hb hlt hm)
  · exact .inr hge
/-- What the iterator has made lies on. -/
theorem KeepsB.blk {b N0 n0 : Nat} {W W' : World} (h : KeepsB b N0 n0 W W') {g : Nat} {t : TypeId} {cs : Array Value} (hb : Blk W g t cs) (hg : N0 ≤ g) (hm : ¬ mine b W g) : Blk W' g t cs ∧ ¬ mine b W' g := by
  refine ⟨h.cells g _ hg hb rfl hm, fun h' => ?_⟩
  rcases h.owned g h' with h1 | h1
  · exact hm h1
  · have := hb.lt
    omega
theorem grown_of_only {W W' : World} (h : Only nob W W') : W.grownBy W' none := ⟨h.os, h.tape, h.output, h.size, fun k hk _ => h.block k hk id⟩

/-- The slice value v reads as xs in block g. -/
def SlG (w : World) (g size : Nat) (v : Value) (n : Nat) (xs : List Value) : Prop :=
  ∃ A c, v = .slice A n c ∧ n ≤ c ∧ c ≤ maxLen ∧ xs.length = n * size ∧ (0 < n → ∃ o, A = some ⟨g, o, none⟩ ∧ ∀ k u, xs[k]? = some u → w.cell? ⟨g, o + k, none⟩ = some u)
theorem SlG.sl {w : World} {g B size n : Nat} {v : Value} {xs : List Value} (h : SlG w g size v n xs) (hB : 0 < n → g < B) : Sl w B size v n xs := by
  obtain ⟨A, c, rfl, h1, h2, h3, h4⟩ := h
  exact ⟨A, c, rfl, h1, h2, h3, fun hn => by obtain ⟨o, rfl, hc⟩ := h4 hn; exact ⟨g, o, rfl, hB hn, hc⟩⟩
theorem SlG.keep {w w' : World} {g size n : Nat} {v : Value} {xs : List Value} (h : SlG w g size v n xs) (hk : 0 < n → w'.heap[g]? = w.heap[g]?) : SlG w' g size v n xs := by
  obtain ⟨A, c, rfl, h1, h2, h3, h4⟩ := h
  exact ⟨A, c, rfl, h1, h2, h3, fun hn => by
    obtain ⟨o, rfl, hc⟩ := h4 hn
    exact ⟨o, rfl, fun k u hu => (World.cell?_of_block (a := ⟨g, o + k, none⟩) (hk hn)).trans (hc k u hu)⟩⟩
theorem SlG.cut {w : World} {g size n c l : Nat} {A : Option Addr} {xs : List Value} (h : SlG w g size (.slice A n c) n xs) (hl : l ≤ n) : SlG w g size (cutv A l n c size) (n - l) (xs.drop (l * size)) := by
  obtain ⟨A', c', e, h1, h2, h3, h4⟩ := h
  obtain ⟨rfl, rfl⟩ : A = A' ∧ c = c' := by simpa using e
  refine ⟨_, _, rfl, by omega, by omega, ?_, fun hp => ?_⟩
  · rw [List.length_drop, h3, ← Nat.sub_mul]
  · obtain ⟨o, rfl, hc⟩ := h4 (by omega)
    refine ⟨o + l * size, ?_, fun j u hu => ?_⟩
    · rw [if_neg (by omega)]
      show some (Addr.add _ _) = _
      rw [Addr.add_lit]
    · rw [Nat.add_assoc]
      refine hc _ u ?_
      rw [List.getElem?_drop] at hu
      exact hu
def slen : Value → Nat
  | .slice _ n _ => n
  | _ => 0
end Go.Proofs.YtfdihnfhofpjlaaDoor

/- Contract of package span: Join. -/
namespace Go.Proofs.YtfdihnfhofpjlaaDoor
open Go.RowKit Go.Shelf Go.Sort
attribute [local go_sem] Oper.semAt_some

/-- A round that appends to the row in the caller's box. -/
theorem keepsB_appended {W w1 : World} {n₀ N0 b : Nat} {t e : TypeId} {size : Nat} {v v' : Value} {k m : Nat} {xs ys : List Value} {tmp : Obj}
    (hv : Boxed W b t v) (hte : t ≠ e) (hrow : W.ownsRow n₀ e size v k xs) (hn₀ : n₀ ≤ W.heap.size) (hB : n₀ ≤ b) (hbN : b < N0)
    (hown' : w1.ownsRow n₀ e size v' m ys) (hgrow : (W.alloc tmp).grownBy w1 v.ownBlock) (hvv : v'.ownBlock = v.ownBlock ∨ v'.ownBlock = some (W.alloc tmp).heap.size) :
    KeepsB b N0 n₀ W (w1.setCell ⟨b, 0, none⟩ v') := by
  obtain ⟨-, h2, -, -, h5⟩ := hv.appended hte hrow hn₀ hB hown' hgrow
  refine ⟨h5, fun k o hk ho hc hm => ?_, fun k hm => ?_⟩
  · have hlt : k < W.heap.size := (Array.getElem?_eq_some_iff.1 ho).1
    have e1 : (w1.setCell ⟨b, 0, none⟩ v').heap[k]? = w1.heap[k]? := Below.heap_setCell w1 ⟨b, 0, none⟩ v' k (by show k ≠ b; omega)
    have e2 : w1.heap[k]? = (W.alloc tmp).heap[k]? := hgrow.block k (by simp; omega) (fun e => hm ⟨hlt, v, hv.cell, e.symm⟩)
    have e3 : (W.alloc tmp).heap[k]? = W.heap[k]? := Below.heap_alloc W tmp k hlt
    rw [e1, e2, e3]; exact ho
  · obtain ⟨_, u, hu1, hu2⟩ := hm
    rw [h2.cell] at hu1
    obtain rfl := Option.some.inj hu1
    rcases hvv with e | e
    · rw [e] at hu2
      exact .inl ⟨(hrow.lt k hu2).2, v, hv.cell, hu2⟩
    · rw [e] at hu2
      have := Option.some.inj hu2
      exact .inr (by rw [← this]; simp)
theorem cells_new (w : World) (t : TypeId) (cs : Array Value) : ∀ j u, cs.toList[j]? = some u → (w.alloc (.cells cs t)).cell? ((⟨w.heap.size, 0, none⟩ : Addr).add j) = some u := by
  intro j u hj
  have := (Blk.new w t cs).cell j
  rw [Array.getElem?_toList] at hj
  rw [show (⟨w.heap.size, 0, none⟩ : Addr).add j = ⟨w.heap.size, j, none⟩ by simp [Addr.add]; try (intro h; exact h.symm)]
  rw [this, hj]
theorem maxLen_big : 1000000 ≤ maxLen := by unfold maxLen; decide

end Go.Proofs.YtfdihnfhofpjlaaDoor
