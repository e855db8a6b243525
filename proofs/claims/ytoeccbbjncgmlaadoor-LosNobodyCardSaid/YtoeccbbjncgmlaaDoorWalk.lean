/- Contracts of package walk: a step at a place, and may a walk go up to top. -/
import Derived.Test.YtoeccbbjncgmlaaDoorWalkMath
import Derived.Test.YtoeccbbjncgmlaaDoorObj
import Derived.Test.YtoeccbbjncgmlaaDoorSpanAB
import Derived.Test.YtoeccbbjncgmlaaDoorSpanMN
namespace Go.Proofs.YtoeccbbjncgmlaaDoor
open Go.RowKit
set_option maxRecDepth 100000

theorem Below.onlyF {n0 : Nat} {w w' : World} (h : Below n0 w w') : Only (fun k => n0 ≤ k) w w' := ⟨h.os, h.tape, h.output, h.size, fun k _ hn => h.block k (Nat.lt_of_not_le hn)⟩
theorem Below.trans_only {n0 : Nat} {a b c : World} (h : Below n0 a b) (o : Only nob b c) (hn : n0 ≤ a.heap.size) : Below n0 a c := h.trans (o.below (Nat.le_trans hn h.size) fun _ hf => hf.elim)
theorem Par.below {n0 : Nat} {w w' : World} (h : Par w) (hb : Below n0 w w') (hn : 0 < n0) : Par w' := by
  obtain ⟨t, fr, hh⟩ := h
  exact ⟨t, fr, (hb.block _ hn).trans hh⟩

/-- What Head tells of the places of v's words is h, as long as what lies below n0 stays. -/
structure Heads (v : Value) (n0 : Nat) (h : Int → Hd) (w : World) : Prop where
  ok : HdOk h
  par : ∀ w', Below n0 w w' → Par w'
  head : ∀ (w' : World) (a : Int), Below n0 w w' → a ≤ 9223372036854775807 →
    Calls Tryd.prog 24 #[v, .int .i64 a] w' fun e w'' => e = .returned (.tuple #[.agg #[.int .i64 (h a).k, .int .i64 (h a).f, .int .i64 (h a).r, .bool (h a).m, .int .i64 (h a).c], .int .i64 (h a).e]) ∧ Only nob w' w''
theorem Heads.later {v : Value} {n0 n1 : Nat} {h : Int → Hd} {w w' : World} (H : Heads v n0 h w) (hb : Below n0 w w') (hn : n0 ≤ n1) : Heads v n1 h w' :=
  ⟨H.ok, fun _ h2 => H.par _ (hb.trans (h2.mono hn)), fun w2 a h2 ha => H.head w2 a (hb.trans (h2.mono hn)) ha⟩
/-- Of the words of an arena; of none. -/
def hAr (l : List Nat) (a : Int) : Hd := ⟨ohE l a, ohK l a, ohF l a, ohR l a, ohM l a, ohC l a⟩
def hNo (_ : Int) : Hd := ⟨10, 0, 0, 0, false, 0⟩
theorem hAr_ok (l : List Nat) : HdOk (hAr l) := fun _ ha => (oh_bounds ha).2.2.2.2.2.2
theorem hNo_ok : HdOk hNo := fun _ ha => absurd (show (10 : Int) = 0 from ha) (by decide)
theorem heads_ar {b g n0 : Nat} {l : List Nat} {w : World} (h : Ar w b g l) (hb : b < n0) (hg : g < n0) (hp : Par w) (ht : 0 < n0) : Heads (.pointer (some ⟨b, 0, none⟩)) n0 (hAr l) w :=
  ⟨hAr_ok l, fun _ h2 => hp.below h2 ht, fun w2 a h2 ha => oHead_any b g l a w2 (h.keep (Below.onlyF h2) (Nat.not_le_of_lt hb) (Nat.not_le_of_lt hg)) (hp.below h2 ht) ha⟩
theorem heads_no {n0 : Nat} {w : World} (hp : Par w) (ht : 0 < n0) : Heads (.pointer none) n0 hNo w :=
  ⟨hNo_ok, fun _ h2 => hp.below h2 ht, fun w2 a _ _ => oHead_none (.pointer none) a w2 (.inl rfl)⟩

/-- A step as a value. -/
def itv (y : It) : Value := .agg #[.int .i64 y.at_, .int .i64 y.k, .int .i64 y.f, .int .i64 y.r, .bool y.m, .int .i64 y.c]
end Go.Proofs.YtoeccbbjncgmlaaDoor

/- Contract of package walk's iterator over the steps of a walk. -/
namespace Go.Proofs.YtoeccbbjncgmlaaDoor
open Go.RowKit Go.Shelf Go.Sort
attribute [local go_sem] Oper.semAt_some
set_option maxRecDepth 100000

/-- The row in box b, if there is one, is of this world. -/
def Sane (b : Nat) (W : World) : Prop := ∀ u k, W.cell? ⟨b, 0, none⟩ = some u → u.ownBlock = some k → k < W.heap.size
theorem Sane.only {b : Nat} {W W' : World} (h : Sane b W) (o : Only nob W W') (hb : b < W.heap.size) : Sane b W' := fun u k h1 h2 =>
  Nat.lt_of_lt_of_le (h u k (by rw [← h1]; exact (World.cell?_of_block (a := ⟨b, 0, none⟩) (o.block b hb id)).symm) h2) o.size
theorem Sane.new {b : Nat} {W : World} (h : Sane b W) (hb : b < W.heap.size) (o : Obj) : ¬ mine b (W.alloc o) W.heap.size := by
  rintro ⟨_, u, h1, h2⟩
  have := h u _ (by rw [← h1]; exact (World.cell?_of_block (a := ⟨b, 0, none⟩) (((Only.refl nob W).alloc o).block b hb id)).symm) h2
  omega
/-- What a round keeps, and that the row in box b is of the world behind it. -/
structure KeepsS (b N0 n0 : Nat) (W W' : World) : Prop where
  k : KeepsB b N0 n0 W W'
  sane : Sane b W → Sane b W'
theorem KeepsS.trans {b N0 n0 : Nat} {A B C : World} (h : KeepsS b N0 n0 A B) (g : KeepsS b N0 n0 B C) : KeepsS b N0 n0 A C := ⟨h.k.trans g.k, fun s => g.sane (h.sane s)⟩
theorem KeepsS.only {b N0 n0 : Nat} {W W' : World} (h : Only nob W W') (hb : b < W.heap.size) (hn : n0 ≤ W.heap.size) : KeepsS b N0 n0 W W' := ⟨KeepsB.only h hb hn, fun s => s.only h hb⟩
theorem KeepsS.putObj {b N0 n0 : Nat} (W : World) (l : Nat) (o o' : Obj) (hb : b < l) (hn : n0 ≤ l) (hl : W.heap[l]? = some o) (ho : o.isCells = false) : KeepsS b N0 n0 W (W.putObj l o') := by
  refine ⟨KeepsB.putObj W l o o' hb hn hl ho, fun s u k h1 h2 => ?_⟩
  have hlt : l < W.heap.size := (Array.getElem?_eq_some_iff.1 hl).1
  have hs : (W.putObj l o').heap.size = W.heap.size := by simp [World.putObj]
  rw [hs]
  refine s u k ?_ h2
  rw [← h1]
  exact (World.cell?_of_block (a := ⟨b, 0, none⟩) ((grownBy_putObj' W l o').block b (by omega) (fun e => by have := Option.some.inj e; omega))).symm
/-- A number in box b owns nothing. -/
theorem sane_int {b : Nat} {W : World} {q : IntKind} {z : Int} (h : W.cell? ⟨b, 0, none⟩ = some (.int q z)) : Sane b W := fun u k h1 h2 => by
  rw [h] at h1; cases h1; cases h2

/-- The iterator's own boxes: the span, the top, the arena. -/
structure Three (N0 b bs bt ba : Nat) (x : Sp) (top : Int) (v : Value) (W : World) : Prop where
  s : Blk W bs 25 #[.int .i64 x.1, .int .i64 x.2]
  t : Blk W bt 3 #[.int .i64 top]
  a : Blk W ba 30 #[v]
  ns : N0 ≤ bs ∧ ¬ mine b W bs
  nt : N0 ≤ bt ∧ ¬ mine b W bt
  na : N0 ≤ ba ∧ ¬ mine b W ba
theorem Three.only {N0 b bs bt ba : Nat} {x : Sp} {top : Int} {v : Value} {W W' : World} (h : Three N0 b bs bt ba x top v W) (o : Only nob W W') (hb : b < W.heap.size) : Three N0 b bs bt ba x top v W' :=
  ⟨h.s.keep o id, h.t.keep o id, h.a.keep o id, ⟨h.ns.1, fun m => h.ns.2 (mine_only o hb h.s.lt m)⟩, ⟨h.nt.1, fun m => h.nt.2 (mine_only o hb h.t.lt m)⟩, ⟨h.na.1, fun m => h.na.2 (mine_only o hb h.a.lt m)⟩⟩
theorem Three.keeps {N0 b n0 bs bt ba : Nat} {x : Sp} {top : Int} {v : Value} {W W' : World} (h : Three N0 b bs bt ba x top v W) (k : KeepsB b N0 n0 W W') : Three N0 b bs bt ba x top v W' := by
  obtain ⟨s1, s2⟩ := k.blk h.s h.ns.1 h.ns.2
  obtain ⟨t1, t2⟩ := k.blk h.t h.nt.1 h.nt.2
  obtain ⟨a1, a2⟩ := k.blk h.a h.na.1 h.na.2
  exact ⟨s1, t1, a1, ⟨h.ns.1, s2⟩, ⟨h.nt.1, t2⟩, ⟨h.na.1, a2⟩⟩

def encs (y : It) : Array Value := #[itv y, .int .i64 y.e]
def ivl : Value → Int
  | .int _ z => z
  | _ => 0

end Go.Proofs.YtoeccbbjncgmlaaDoor

/- Contract of package walk: Stop. -/
namespace Go.Proofs.YtoeccbbjncgmlaaDoor
open Go.RowKit Go.Shelf Go.Sort
attribute [local go_sem] Oper.semAt_some
set_option maxRecDepth 100000

/-- The world in which the iterator's boxes are laid. -/
theorem three_laid (b : Nat) (V : World) (A : Option Addr) (x : Sp) (top : Int) (hb : b < V.heap.size) (hs : Sane b V) :
    ∃ W, ((V.alloc (.cells #[.pointer A] 30)).alloc (.cells #[.int .i64 x.1, .int .i64 x.2] 25)).alloc (.cells #[.int .i64 top] 3) = W ∧ Only nob V W ∧ W.heap.size = V.heap.size + 3 ∧
      Three V.heap.size b (V.heap.size + 1) (V.heap.size + 1 + 1) V.heap.size x top (.pointer A) W ∧ Sane b W := by
  have o : Only nob V (((V.alloc (.cells #[.pointer A] 30)).alloc (.cells #[.int .i64 x.1, .int .i64 x.2] 25)).alloc (.cells #[.int .i64 top] 3)) := (((Only.refl nob V).alloc _).alloc _).alloc _
  have no : ∀ k, V.heap.size ≤ k → ¬ mine b (((V.alloc (.cells #[.pointer A] 30)).alloc (.cells #[.int .i64 x.1, .int .i64 x.2] 25)).alloc (.cells #[.int .i64 top] 3)) k := by
    rintro k hk ⟨_, u, h1, h2⟩
    have := hs u k (by rw [← h1]; exact (World.cell?_of_block (a := ⟨b, 0, none⟩) (o.block b hb id)).symm) h2
    omega
  refine ⟨_, rfl, o, by simp, ⟨(Blk.newAt _ _ _ _ (by simp)).alloc _, Blk.newAt _ _ _ _ (by simp), ((Blk.new V _ _).alloc _).alloc _, ⟨by omega, no _ (by omega)⟩, ⟨by omega, no _ (by omega)⟩, ⟨Nat.le_refl _, no _ (Nat.le_refl _)⟩⟩, hs.only o hb⟩

theorem blk_kept {X Y : World} {g : Nat} {t : TypeId} {cs : Array Value} {row : Option Nat} (h : Blk X g t cs) (hg : X.grownBy Y row) (hr : ∀ r, row = some r → ∃ o : Obj, X.heap[r]? = some o ∧ o.isCells = false) : Blk Y g t cs :=
  (hg.block g h.lt (fun e => by obtain ⟨o, ho, hc⟩ := hr g e.symm; rw [show X.heap[g]? = _ from h] at ho; cases ho; cases hc)).trans h
theorem blk_putObj {X : World} {g D : Nat} {t : TypeId} {cs : Array Value} {o : Obj} (h : Blk X g t cs) (o' : Obj) (hk : X.heap[D]? = some o) (hc : o.isCells = false) : Blk (X.putObj D o') g t cs :=
  blk_kept h (grownBy_putObj' X D o') fun r e => by cases e; exact ⟨o, hk, hc⟩
/-- A store into a box of the caller's that is not b. -/
theorem keepsB_put {W : World} {n0 N0 b p : Nat} (u : Value) (hp : p < N0) (hn : n0 ≤ p) (hpb : p ≠ b) : KeepsB b N0 n0 W (W.setCell ⟨p, 0, none⟩ u) := by
  have hb : (W.setCell ⟨p, 0, none⟩ u).heap[b]? = W.heap[b]? := Below.heap_setCell W ⟨p, 0, none⟩ u b (fun e => hpb e.symm)
  refine ⟨(Below.refl n0 W).setCell (p := ⟨p, 0, none⟩) hn u, fun k q hk hq _ _ => ?_, fun k hm => .inl ?_⟩
  · rw [Below.heap_setCell W ⟨p, 0, none⟩ u k (by show k ≠ p; omega)]; exact hq
  · obtain ⟨h1, v, h2, h3⟩ := hm
    have hs : (W.setCell ⟨p, 0, none⟩ u).heap.size = W.heap.size := by simp [World.setCell]
    rw [hs] at h1
    exact ⟨h1, v, by rw [← h2]; exact (World.cell?_of_block (a := ⟨b, 0, none⟩) hb).symm, h3⟩
theorem others_only {W W' : World} (h : Only nob W W') : KeepsOthers W W' := ⟨h.size, fun k _ ho _ => (h.block k (Array.getElem?_eq_some_iff.1 ho).1 id).trans ho⟩
/-- The world behind the deferred calls' end. -/
theorem below_done {w W : World} {D : Nat} (h : Below w.heap.size w W) (hD : w.heap.size ≤ D) (hK : W.heap[D]? = some (.deferred (some []))) : Only nob w (W.putObj D (.deferred none)) :=
  Below.only (h.trans (belowK_b (w := w) (Nat.le_refl _) W D _ (.deferred none) hD hK rfl rfl))

end Go.Proofs.YtoeccbbjncgmlaaDoor
