/- A graph all of whose rows are the call's own, each in a block of its own. -/
import Derived.Test.YtdlaigghejahdaaGrMap
namespace Go.Proofs.Ytdlaigghejahdaa
open Go.RowKit Go.Lib
set_option maxRecDepth 100000
set_option linter.unusedSimpArgs false
set_option linter.unusedVariables false

theorem info_node16 : (Try.prog.info? 34).map (fun i => (i.zero, i.size, i.bytes)) = some (some (.agg #[.int .i64 0, .slice none 0 0, .slice none 0 0]), 3, 56) := by kernel_rfl
theorem one_node16 (k : Int) (A1 A2 : Option Addr) (n1 c1 n2 c2 : Nat) : ∀ q ∈ [Value.int .i64 k, .slice A1 n1 c1, .slice A2 n2 c2], q.oneCell' = true := by
  intro v hv
  simp at hv
  rcases hv with rfl | rfl | rfl <;> rfl
/-- make([]api.Node, 0, n). -/
theorem make0_16 (n : Nat) (hn : n ≤ 1000000) : ∃ cs : Array Value, cs.size = n * 3 ∧ ∀ w : World, (Instr.makeSlice 22 (.int .i64 0) (.int .i64 (n : Int))).run Try.prog w = .ok (.slice (some ⟨w.heap.size, 0, none⟩) 0 n) (w.alloc (.cells cs 34)) := by
  obtain ⟨i0, hi0, hz0, hz1, hz2⟩ := info_parts info_node16
  refine ⟨madeCells (Value.agg #[.int .i64 0, .slice none 0 0, .slice none 0 0]).cells (n * 3), by rw [size_madeCells], fun w => ?_⟩
  have h := run_make (P := Try.prog) w 22 34 i0 _ Try.underlying22 hi0 hz0 .i64 .i64 0 n (by omega) (by omega) (by rw [hz2]; omega) (by omega)
  rw [h]
  simp only [Int.toNat_natCast, Int.toNat_zero, hz1]
theorem ndc_snoc : ∀ (l : List Nd) (hs : List (Value × Value)) (d : Nd) (h : Value × Value), hs.length = l.length → ndc (l ++ [d]) (hs ++ [h]) = ndc l hs ++ [.int .i64 d.kd, h.1, h.2]
  | [], [], _, _, _ => rfl
  | [], _ :: _, _, _, e => by cases e
  | _ :: _, [], _, _, e => by cases e
  | x :: l, y :: hs, d, h, e => by
    have := ndc_snoc l hs d h (by simpa using e)
    simp only [List.cons_append, ndc, this]
theorem own_apart16 {w : World} {b1 b2 : Nat} {E1 E2 : TypeId} {s1 s2 n1 n2 : Nat} {v1 v2 : Value} {x1 x2 : List Value} (h1 : w.ownsRow b1 E1 s1 v1 n1 x1) (h2 : w.ownsRow b2 E2 s2 v2 n2 x2) (hE : E1 ≠ E2) : ∀ k, v1.ownBlock = some k → ¬ v2.ownBlock = some k := by
  intro k e1 e2
  rcases h1.2 with ⟨rfl, -⟩ | ⟨g1, c1, cur1, rfl, _, hg1, -⟩
  · cases e1
  · rcases h2.2 with ⟨rfl, -⟩ | ⟨g2, c2, cur2, rfl, _, hg2, -⟩
    · cases e2
    · have h1 : g1 = k := Option.some.inj e1
      have h2 : g2 = k := Option.some.inj e2
      rw [h1] at hg1
      rw [h2, hg1] at hg2
      have := Option.some.inj hg2
      injection this with _ e
      exact hE e
theorem blk_own_ne16 {w : World} {b2 g : Nat} {t E2 : TypeId} {cs : Array Value} {s2 n2 : Nat} {v2 : Value} {x2 : List Value} (h1 : Blk w g t cs) (h2 : w.ownsRow b2 E2 s2 v2 n2 x2) (hE : t ≠ E2) : ¬ v2.ownBlock = some g := by
  intro e2
  rcases h2.2 with ⟨rfl, -⟩ | ⟨g2, c2, cur2, rfl, _, hg2, -⟩
  · cases e2
  · have h2 : g2 = g := Option.some.inj e2
    unfold Blk at h1
    rw [h2, h1] at hg2
    have := Option.some.inj hg2
    injection this with _ e
    exact hE e
/-- One element of a row is written. -/
theorem own_set16 {w : World} {base : Nat} {E : TypeId} {size n c b : Nat} {xs : List Value} (h : w.ownsRow base E size (.slice (some ⟨b, 0, none⟩) n c) n xs) (j : Nat) (hj : j < n * size) (u : Value) :
    (w.setCell ⟨b, j, none⟩ u).ownsRow base E size (.slice (some ⟨b, 0, none⟩) n c) n (xs.set j u) := by
  obtain ⟨h1, h2⟩ := h
  refine ⟨by rw [List.length_set]; exact h1, ?_⟩
  rcases h2 with ⟨e, rfl⟩ | ⟨g, cap, cur, e, hb, hg, h3, h4, h5, h6⟩
  · cases e
  · obtain ⟨rfl, rfl⟩ : b = g ∧ c = cap := by simpa using e
    have hput : Blk (w.setCell ⟨b, j, none⟩ u) b E (cur.setIfInBounds j u) := Blk.put (t := E) hg j u
    refine .inr ⟨b, c, cur.setIfInBounds j u, rfl, hb, hput, h3, h4, by simpa using h5, ?_⟩
    rw [Array.toList_setIfInBounds, ← h6, List.take_set]
/-- A node's rows are the call's own. -/
structure NdO (w : World) (base : Nat) (d : Nd) (h : Value × Value) : Prop where
  fs : w.ownsRow base 46 2 h.1 d.fs.length (spc d.fs)
  rs : w.ownsRow base 47 1 h.2 d.rs.length (u64s d.rs)
def RwO (w : World) (base : Nat) (l : List Nd) (hs : List (Value × Value)) : Prop := ∀ (i : Nat) d h, l[i]? = some d → hs[i]? = some h → NdO w base d h
/-- No two rows share a block. -/
structure ApH (hs : List (Value × Value)) : Prop where
  fs : ∀ (i j : Nat) (h k : Value × Value), i < j → hs[i]? = some h → hs[j]? = some k → ∀ b, h.1.ownBlock = some b → ¬ k.1.ownBlock = some b
  rs : ∀ (i j : Nat) (h k : Value × Value), i < j → hs[i]? = some h → hs[j]? = some k → ∀ b, h.2.ownBlock = some b → ¬ k.2.ownBlock = some b
section
variable {w w' : World} {base base' : Nat} {d : Nd} {h : Value × Value} {l : List Nd} {hs : List (Value × Value)} {F : Nat → Prop}
theorem NdO.only (H : NdO w base d h) (o : Only F w w') (h1 : ∀ k, h.1.ownBlock = some k → ¬ F k) (h2 : ∀ k, h.2.ownBlock = some k → ¬ F k) : NdO w' base d h := ⟨own_only H.fs o h1, own_only H.rs o h2⟩
theorem NdO.nob (H : NdO w base d h) (o : Only nob w w') : NdO w' base d h := H.only o (fun _ _ => id) fun _ _ => id
theorem RwO.nob (H : RwO w base l hs) (o : Only nob w w') : RwO w' base l hs := fun i d h hd hh => (H i d h hd hh).nob o
theorem NdO.rd (H : NdO w base d h) : NdR w w.heap.size d h := ⟨Sl.of_own H.fs H.fs.1, Sl.of_own H.rs H.rs.1⟩
theorem RwO.snoc (H : RwO w base l hs) (e : hs.length = l.length) (H2 : NdO w base d h) : RwO w base (l ++ [d]) (hs ++ [h]) := by
  intro i d' h' hd hh
  rcases Nat.lt_or_ge i l.length with hi | hi
  · rw [List.getElem?_append_left hi] at hd
    rw [List.getElem?_append_left (by omega)] at hh
    exact H i d' h' hd hh
  · have hi2 : i = l.length := by
      have := (List.getElem?_eq_some_iff.1 hd).1
      simp at this
      omega
    rw [hi2, List.getElem?_append_right (Nat.le_refl _), Nat.sub_self] at hd
    rw [hi2, List.getElem?_append_right (by omega), e, Nat.sub_self] at hh
    obtain rfl : d = d' := by simpa using hd
    obtain rfl : h = h' := by simpa using hh
    exact H2
theorem ApH.nil : ApH [] := ⟨(fun _ _ _ _ _ h => by simp at h), (fun _ _ _ _ _ h => by simp at h)⟩
theorem ApH.snoc (H : ApH hs) {N : Nat} (h1 : ∀ (i : Nat) k, hs[i]? = some k → (∀ b, k.1.ownBlock = some b → b < N) ∧ ∀ b, k.2.ownBlock = some b → b < N) (h2 : (∀ b, h.1.ownBlock = some b → N ≤ b) ∧ ∀ b, h.2.ownBlock = some b → N ≤ b) : ApH (hs ++ [h]) := by
  have key : ∀ (i j : Nat) (x y : Value × Value), i < j → (hs ++ [h])[i]? = some x → (hs ++ [h])[j]? = some y → (∃ j, hs[i]? = some x ∧ i < j ∧ hs[j]? = some y) ∨ (hs[i]? = some x ∧ y = h) := by
    intro i j x y hij hx hy
    have hj := (List.getElem?_eq_some_iff.1 hy).1
    simp at hj
    rw [List.getElem?_append_left (by omega)] at hx
    rcases Nat.lt_or_ge j hs.length with h' | h'
    · rw [List.getElem?_append_left h'] at hy
      exact .inl ⟨j, hx, hij, hy⟩
    · rw [List.getElem?_append_right h', show j - hs.length = 0 by omega] at hy
      exact .inr ⟨hx, by simpa using hy.symm⟩
  refine ⟨fun i j x y hij hx hy b e1 e2 => ?_, fun i j x y hij hx hy b e1 e2 => ?_⟩
  · rcases key i j x y hij hx hy with ⟨j', q1, q2, q3⟩ | ⟨q1, rfl⟩
    · exact H.fs i j' x y q2 q1 q3 b e1 e2
    · have := (h1 i x q1).1 b e1; have := h2.1 b e2; omega
  · rcases key i j x y hij hx hy with ⟨j', q1, q2, q3⟩ | ⟨q1, rfl⟩
    · exact H.rs i j' x y q2 q1 q3 b e1 e2
    · have := (h1 i x q1).2 b e1; have := h2.2 b e2; omega
end
/-- A graph of the call's own. -/
structure OwG (w : World) (base : Nat) (g : Gr) (vn vr : Value) (hs : List (Value × Value)) : Prop where
  len : hs.length = g.nd.length
  nodes : w.ownsRow base 34 3 vn g.nd.length (ndc g.nd hs)
  rows : RwO w base g.nd hs
  apart : ApH hs
  roots : w.ownsRow base 46 2 vr g.rt.length (spc g.rt)
  far : ∀ (i : Nat) h, hs[i]? = some h → ∀ b, h.1.ownBlock = some b → ¬ vr.ownBlock = some b
theorem OwG.nob {w w' : World} {base : Nat} {g : Gr} {vn vr : Value} {hs : List (Value × Value)} (h : OwG w base g vn vr hs) (o : Only nob w w') : OwG w' base g vn vr hs :=
  ⟨h.len, own_only h.nodes o (fun _ _ => id), h.rows.nob o, h.apart, own_only h.roots o (fun _ _ => id), h.far⟩
theorem OwG.rd {w : World} {base : Nat} {g : Gr} {vn vr : Value} {hs : List (Value × Value)} (h : OwG w base g vn vr hs) : RdG w w.heap.size g vn vr hs :=
  ⟨h.len, Sl.of_own h.nodes h.nodes.1, fun i d x hd hx => (h.rows i d x hd hx).rd, Sl.of_own h.roots h.roots.1⟩
theorem OwG.heap {w w' : World} {base : Nat} {g : Gr} {vn vr : Value} {hs : List (Value × Value)} (h : OwG w base g vn vr hs) (e : w'.heap = w.heap) : OwG w' base g vn vr hs :=
  ⟨h.len, own_heap h.nodes e, fun i d x hd hx => ⟨own_heap (h.rows i d x hd hx).fs e, own_heap (h.rows i d x hd hx).rs e⟩, h.apart, own_heap h.roots e, h.far⟩
end Go.Proofs.Ytdlaigghejahdaa
