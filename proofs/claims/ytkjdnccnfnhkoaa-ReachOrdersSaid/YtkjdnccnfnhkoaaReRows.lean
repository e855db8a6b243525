/- Rows of the call's own that begin at any cell of their block; appending to them; many rows, no two in one block. No program in it. -/
import Derived.Test.YtkjdnccnfnhkoaaMem
import Derived.Test.YtkjdnccnfnhkoaaSmalls
import Derived.ArgAppend
namespace Go.Proofs.Ytkjdnccnfnhkoaa
open Go.RowKit

/-- v is a slice of n one-cell elements in a block of the call's own, from any cell on; or nil. -/
def OwR (w : World) (base : Nat) (E : TypeId) (v : Value) (n : Nat) (xs : List Value) : Prop :=
  xs.length = n ∧ ((v = .slice none 0 0 ∧ n = 0) ∨ ∃ g o cap cur, v = .slice (some ⟨g, o, none⟩) n cap ∧ base ≤ g ∧ w.heap[g]? = some (.cells cur E (0, 0)) ∧ n ≤ cap ∧ cap ≤ maxLen ∧ o + cap ≤ cur.size ∧ (cur.toList.drop o).take n = xs)
section
variable {w w' : World} {base : Nat} {E : TypeId} {v : Value} {n : Nat} {xs : List Value} {F : Nat → Prop}
theorem OwR.nil_ : OwR w base E (.slice none 0 0) 0 [] := ⟨rfl, .inl ⟨rfl, rfl⟩⟩
theorem OwR.of_own (h : w.ownsRow base E 1 v n xs) : OwR w base E v n xs := by
  refine ⟨by simpa using h.1, ?_⟩
  rcases h.2 with h0 | ⟨g, cap, cur, rfl, hb, hg, h1, h2, h3, h4⟩
  · exact .inl h0
  · exact .inr ⟨g, 0, cap, cur, rfl, hb, hg, h1, h2, by omega, by simpa using h4⟩
theorem OwR.only (h : OwR w base E v n xs) (ho : Only F w w') (hn : ∀ k, v.ownBlock = some k → ¬ F k) : OwR w' base E v n xs := by
  refine ⟨h.1, ?_⟩
  rcases h.2 with h0 | ⟨g, o, cap, cur, rfl, hb, hg, rest⟩
  · exact .inl h0
  · exact .inr ⟨g, o, cap, cur, rfl, hb, (ho.block g (Array.getElem?_eq_some_iff.1 hg).1 (hn g rfl)).trans hg, rest⟩
theorem OwR.lt (h : OwR w base E v n xs) {k : Nat} (hk : v.ownBlock = some k) : base ≤ k ∧ k < w.heap.size := by
  rcases h.2 with ⟨rfl, -⟩ | ⟨g, o, cap, cur, rfl, hb, hg, -⟩
  · cases hk
  · obtain rfl := Option.some.inj hk
    exact ⟨hb, (Array.getElem?_eq_some_iff.1 hg).1⟩
theorem OwR.form (h : OwR w base E v n xs) : ∃ A c, v = .slice A n c ∧ n ≤ c ∧ c ≤ maxLen := by
  rcases h.2 with ⟨rfl, rfl⟩ | ⟨g, o, cap, cur, rfl, _, _, h1, h2, _⟩
  · exact ⟨none, 0, rfl, Nat.le_refl _, Nat.zero_le _⟩
  · exact ⟨_, cap, rfl, h1, h2⟩
theorem OwR.len (h : OwR w base E v n xs) : xs.length = n := h.1
theorem OwR.blk (h : OwR w base E v n xs) {k : Nat} (hk : v.ownBlock = some k) : ∃ cur, Blk w k E cur := by
  rcases h.2 with ⟨rfl, -⟩ | ⟨g, o, cap, cur, rfl, hb, hg, -⟩
  · cases hk
  · obtain rfl := Option.some.inj hk
    exact ⟨cur, hg⟩
theorem OwR.ne (h : OwR w base E v n xs) {g : Nat} {t : TypeId} {cs : Array Value} (b : Blk w g t cs) (hE : t ≠ E) : ¬ v.ownBlock = some g := fun e => by
  obtain ⟨cur, h2⟩ := h.blk e
  exact b.ne h2 hE rfl
theorem OwR.sl (h : OwR w base E v n xs) : Sl w w.heap.size 1 v n xs := by
  rcases h.2 with ⟨rfl, rfl⟩ | ⟨g, o, cap, cur, rfl, _, hg, h1, h2, h3, h4⟩
  · obtain rfl : xs = [] := List.eq_nil_of_length_eq_zero h.1
    exact Sl.nil_
  · refine ⟨_, cap, rfl, h1, h2, by simpa using h.1, fun _ => ⟨g, o, rfl, (Array.getElem?_eq_some_iff.1 hg).1, fun k u hk => ?_⟩⟩
    have hb : Blk w g E cur := hg
    rw [hb.cell, ← Array.getElem?_toList]
    rw [← h4] at hk
    have hkn : k < n := by
      have := (List.getElem?_eq_some_iff.1 hk).1
      simp at this; omega
    rw [List.getElem?_take_of_lt hkn, List.getElem?_drop] at hk
    exact hk
/-- The cells of a row with an element. -/
theorem OwR.at_ {A : Option Addr} {c : Nat} (h : OwR w base E (.slice A n c) n xs) (hn : 0 < n) : ∃ g o cur, A = some ⟨g, o, none⟩ ∧ Blk w g E cur ∧ o + c ≤ cur.size ∧ ∀ k u, xs[k]? = some u → w.cell? ⟨g, o + k, none⟩ = some u := by
  obtain ⟨b, o, c', e, _, _, hlt, hc⟩ := h.sl.at_ hn
  obtain ⟨rfl, rfl⟩ : A = some ⟨b, o, none⟩ ∧ c = c' := by simpa using e
  rcases h.2 with ⟨e, _⟩ | ⟨g, o', cap, cur, e, _, hg, h1, h2, h3, h4⟩
  · cases e
  · simp only [Value.slice.injEq, Option.some.injEq, Addr.mk.injEq] at e
    obtain ⟨⟨rfl, rfl, -⟩, -, rfl⟩ := e
    exact ⟨_, _, cur, rfl, hg, h3, hc⟩
/-- Without the first one. -/
theorem OwR.tail {A : Option Addr} {c : Nat} {x : Value} (h : OwR w base E (.slice A (n + 1) c) (n + 1) (x :: xs)) : OwR w base E (cutv A 1 (n + 1) c 1) n xs ∧ ∀ k, (cutv A 1 (n + 1) c 1).ownBlock = some k → (Value.slice A (n + 1) c).ownBlock = some k := by
  have hl : xs.length = n := by simpa using h.1
  rcases h.2 with ⟨e, h0⟩ | ⟨g, o, cap, cur, e, hb, hg, h1, h2, h3, h4⟩
  · cases h0
  · simp only [Value.slice.injEq] at e
    obtain ⟨rfl, -, rfl⟩ := e
    have h5 : (cur.toList.drop (o + 1)).take n = xs := by
      have h6 : ((cur.toList.drop o).take (n + 1)).drop 1 = xs := by rw [h4]; rfl
      rw [List.drop_take, List.drop_drop] at h6
      simpa using h6
    unfold cutv
    by_cases hc : c = 1
    · subst hc
      obtain rfl : n = 0 := by omega
      obtain rfl : xs = [] := List.eq_nil_of_length_eq_zero hl
      rw [if_pos rfl]
      exact ⟨⟨rfl, .inr ⟨g, o, 0, cur, rfl, hb, hg, Nat.le_refl _, Nat.zero_le _, by omega, rfl⟩⟩, fun k hk => hk⟩
    · rw [if_neg hc]
      refine ⟨⟨hl, .inr ⟨g, o + 1, c - 1, cur, rfl, hb, hg, by omega, by omega, by omega, h5⟩⟩, fun k hk => hk⟩
/-- Without the last one. -/
theorem OwR.init {A : Option Addr} {c : Nat} {x : Value} (h : OwR w base E (.slice A (n + 1) c) (n + 1) (xs ++ [x])) : OwR w base E (cutv A 0 n c 1) n xs ∧ ∀ k, (cutv A 0 n c 1).ownBlock = some k → (Value.slice A (n + 1) c).ownBlock = some k := by
  have hl : xs.length = n := by simpa using h.1
  rcases h.2 with ⟨e, h0⟩ | ⟨g, o, cap, cur, e, hb, hg, h1, h2, h3, h4⟩
  · cases h0
  · simp only [Value.slice.injEq] at e
    obtain ⟨rfl, -, rfl⟩ := e
    have h5 : (cur.toList.drop o).take n = xs := by
      have := congrArg (List.take n) h4
      rw [List.take_take, Nat.min_eq_left (by omega), List.take_left' hl] at this
      exact this
    unfold cutv
    rw [if_neg (by omega)]
    refine ⟨⟨hl, .inr ⟨g, o, c, cur, by simp [Addr.add], hb, hg, by omega, h2, h3, h5⟩⟩, fun k hk => by simpa [Value.ownBlock, Addr.add] using hk⟩
end

section
variable {P : Program} (w : World)
/-- append(s, x), s a row of the call's own, from any cell on; nil let in. -/
theorem run_append_or (base : Nat) (t ty e : TypeId) (i : TypeInfo) (z : Value) (bytes : Nat) (ht : P.underlying t = some (.slice e)) (hi : P.info? e = some i) (hz : i.zero = some z)
    (hsize : i.size = 1) (hby : i.bytes = bytes) (hzs : z.cells.size = 1)
    (v : Value) (n : Nat) (xs : List Value) (hown : OwR w base e v n xs)
    (B : Nat) (u : Value) (x : Value) (hr : Sl w B 1 u 1 [x]) (h1 : x.oneCell' = true)
    (h63 : n + 1 ≤ maxLen) (hbytes : (n + 1) * bytes ≤ 140737488355328) (hbase : base ≤ w.heap.size) :
    ∃ v' w', (Builtin.append_ #[t, t] ty #[v, u]).run P w = .ok v' w' ∧ OwR w' base e v' (n + 1) (xs ++ [x]) ∧ Only (fun k => v.ownBlock = some k) w w' ∧
      (v'.ownBlock = v.ownBlock ∨ v'.ownBlock = some w.heap.size) := by
  have hnil : v = .slice none 0 0 → ∃ v' w', (Builtin.append_ #[t, t] ty #[v, u]).run P w = .ok v' w' ∧ OwR w' base e v' (n + 1) (xs ++ [x]) ∧ Only (fun k => v.ownBlock = some k) w w' ∧
      (v'.ownBlock = v.ownBlock ∨ v'.ownBlock = some w.heap.size) := by
    intro hv
    have hn : n = 0 ∧ xs = [] := by
      rcases hown.2 with ⟨_, h0⟩ | ⟨g, o, cap, cur, e, _⟩
      · subst h0; exact ⟨rfl, List.eq_nil_of_length_eq_zero hown.1⟩
      · rw [hv] at e; cases e
    obtain ⟨rfl, rfl⟩ := hn
    subst hv
    obtain ⟨v', w', hrun, g2, g3, g4⟩ := run_append_sl (P := P) w base t ty e i z 1 bytes ht hi hz hsize hby hzs (by decide) (.slice none 0 0) 0 [] (World.ownsRow_nil _ _ _ _) B u 1 [x] hr (by simpa using h1) (by simpa using h63) (by simpa using hbytes) hbase
    exact ⟨v', w', hrun, by simpa using OwR.of_own g2, g3, g4⟩
  rcases hown.2 with ⟨hv, _⟩ | ⟨g, o, cap, cur, rfl, hbg, hg, hnc, hcm, hcs, htake⟩
  · exact hnil hv
  · obtain ⟨A, c, rfl, h2, h3, h4, h5⟩ := hr
    obtain ⟨bq, oq, rfl, hbq, hcq⟩ := h5 (by decide)
    have hx0 : w.cell? ⟨bq, oq, none⟩ = some x := by simpa using hcq 0 x rfl
    have hnews : ∀ j y, [x][j]? = some y → w.cell? ((⟨bq, oq, none⟩ : Addr).add j) = some y := by
      intro j y hy
      rw [Addr.add_lit]
      exact hcq j y hy
    have hb : Blk w g e cur := hg
    by_cases hroom : n + 1 ≤ cap
    · have hlt : o + n < cur.size := by omega
      have hrun := run_append_room_cells (P := P) w t ty e i ht hi g o n cap ⟨bq, oq, none⟩ 1 c [x] (by simp [hsize]) hnews (by simpa using h1) hroom
        (by intro j hj; obtain rfl : j = 0 := by simpa using hj
            rw [hsize, Nat.mul_one, Nat.add_zero, hb.cell]; simp [hlt])
        (by intro j hj; rw [hb.free])
      rw [hsize, Nat.mul_one] at hrun
      refine ⟨_, _, hrun, ⟨by simp [hown.1], .inr ⟨g, o, cap, _, rfl, hbg, hb.put (o + n) x, hroom, hcm, by simpa using hcs, ?_⟩⟩, (only_set w g (o + n) x).mono fun k _ h => by unfold isb at h; simp [Value.ownBlock, h], .inl rfl⟩
      have hdl : n < (cur.toList.drop o).length := by simp; omega
      rw [Array.toList_setIfInBounds, List.drop_set, if_neg (by omega), show o + n - o = n by omega]
      have e1 : ((cur.toList.drop o).set n x).take n = xs := by rw [List.take_set_of_le (Nat.le_refl _), htake]
      rw [List.take_add_one, e1, List.getElem?_set_self hdl]
      rfl
    · have holds : ∀ j y, xs[j]? = some y → w.cell? ((⟨g, o, none⟩ : Addr).add j) = some y := by
        intro j y hy
        rw [Addr.add_lit, hb.cell, ← Array.getElem?_toList]
        rw [← htake] at hy
        have hjn : j < n := by
          have := (List.getElem?_eq_some_iff.1 hy).1
          simp at this; omega
        rw [List.getElem?_take_of_lt hjn, List.getElem?_drop] at hy
        exact hy
      obtain ⟨v', w', hrun, g2, g3⟩ := run_append_arg_grows (P := P) w t ty e i z 1 bytes ht hi hz hsize hby hzs (by decide) ⟨g, o, none⟩ n cap xs (by simpa using hown.1) holds ⟨bq, oq, none⟩ 1 c [x] (by simp) hnews (by omega) h63 hbytes
      refine ⟨v', w', hrun, OwR.of_own (own_more g2 fun k hk => Nat.le_trans hbase (own_lt g2 hk).1), only_grown g3 (fun k h => by cases h), ?_⟩
      have hv' : ∃ cc, v' = .slice (some ⟨w.heap.size, 0, none⟩) (n + 1) cc := by
        have hr2 := run_append_grow (P := P) w t ty e i z ht hi hz ⟨g, o, none⟩ n cap xs (by rw [hsize]; simpa using hown.1) holds ⟨bq, oq, none⟩ 1 c [x] (by simp [hsize]) hnews (by omega) (by simp only [maxLen] at h63; omega) (growslice_fits (by omega) (by rw [hby]; exact hbytes))
        rw [hr2] at hrun
        injection hrun with e1 _
        exact ⟨_, e1.symm⟩
      obtain ⟨cc, rfl⟩ := hv'
      exact .inr rfl
theorem wp_append_or {o : Oper} {a : Act} {K : Act → World → Prop} {Q : Exit → Act → World → Prop} (s x : Operand) (t : TypeId)
    (ho : o.op = .call { callee := .builtin .append, args := #[s, x], argTypes := #[t, t] })
    (base : Nat) (e : TypeId) (i : TypeInfo) (z : Value) (bytes : Nat) (ht : P.underlying t = some (.slice e)) (hi : P.info? e = some i) (hz : i.zero = some z)
    (hsize : i.size = 1) (hby : i.bytes = bytes) (hzs : z.cells.size = 1)
    (v : Value) (n : Nat) (xs : List Value) (hs : a.eval s = v) (hown : OwR w base e v n xs)
    (B : Nat) (u : Value) (y : Value) (hx : a.eval x = u) (hr : Sl w B 1 u 1 [y]) (h1 : y.oneCell' = true)
    (h63 : n + 1 ≤ maxLen) (hbytes : (n + 1) * bytes ≤ 140737488355328) (hbase : base ≤ w.heap.size)
    (h : ∀ v' w', Hid (OwR w' base e v' (n + 1) (xs ++ [y])) → Only (fun k => v.ownBlock = some k) w w' → (v'.ownBlock = v.ownBlock ∨ v'.ownBlock = some w.heap.size) → K (a.put o.dst v') w') :
    o.wp P a w K Q := by
  obtain ⟨v', w', hrun, g2, g3, g4⟩ := run_append_or (P := P) w base t o.type e i z bytes ht hi hz hsize hby hzs v n xs hown B u y hr h1 h63 hbytes hbase
  unfold Oper.wp execOp
  simp only [ho, resolve, invoke, builtin, Sem.run_bind, Sem.run_pure, Result.andThen_ok, List.map_toArray, List.map_cons, List.map_nil, hs, hx, hrun]
  exact h v' w' g2 g3 g4
theorem wpList_append_or {ops : Array Oper} {rest : List Oper} {o : Oper} {a : Act} {Q : Exit → Act → World → Prop} (hgd : o.guard = none) (s x : Operand) (t : TypeId)
    (ho : o.op = .call { callee := .builtin .append, args := #[s, x], argTypes := #[t, t] })
    (base : Nat) (e : TypeId) (i : TypeInfo) (z : Value) (bytes : Nat) (ht : P.underlying t = some (.slice e)) (hi : P.info? e = some i) (hz : i.zero = some z)
    (hsize : i.size = 1) (hby : i.bytes = bytes) (hzs : z.cells.size = 1)
    (v : Value) (n : Nat) (xs : List Value) (hs : a.eval s = v) (hown : OwR w base e v n xs)
    (B : Nat) (u : Value) (y : Value) (hx : a.eval x = u) (hr : Sl w B 1 u 1 [y]) (h1 : y.oneCell' = true)
    (h63 : n + 1 ≤ maxLen) (hbytes : (n + 1) * bytes ≤ 140737488355328) (hbase : base ≤ w.heap.size)
    (h : ∀ v' w', Hid (OwR w' base e v' (n + 1) (xs ++ [y])) → Only (fun k => v.ownBlock = some k) w w' → (v'.ownBlock = v.ownBlock ∨ v'.ownBlock = some w.heap.size) → wpList P ops Q rest (a.put o.dst v') w') :
    wpList P ops Q (o :: rest) a w :=
  wpList_plain hgd fun _ hK => wp_append_or w s x t ho base e i z bytes ht hi hz hsize hby hzs v n xs hs hown B u y hx hr h1 h63 hbytes hbase fun v' w' g2 g3 g4 => hK _ _ (h v' w' g2 g3 g4)
theorem step_append_or {ops : Array Oper} {o : Oper} {a : Act} {K : Act → World → Prop} {Q : Exit → Act → World → Prop} {X : Prop} (hgd : o.guard = none) (s x : Operand) (t : TypeId)
    (ho : o.op = .call { callee := .builtin .append, args := #[s, x], argTypes := #[t, t] })
    (base : Nat) (e : TypeId) (i : TypeInfo) (z : Value) (bytes : Nat) (ht : P.underlying t = some (.slice e)) (hi : P.info? e = some i) (hz : i.zero = some z)
    (hsize : i.size = 1) (hby : i.bytes = bytes) (hzs : z.cells.size = 1)
    (v : Value) (n : Nat) (xs : List Value) (hs : a.eval s = v) (hown : OwR w base e v n xs)
    (B : Nat) (u : Value) (y : Value) (hx : a.eval x = u) (hr : Sl w B 1 u 1 [y]) (h1 : y.oneCell' = true)
    (h63 : n + 1 ≤ maxLen) (hbytes : (n + 1) * bytes ≤ 140737488355328) (hbase : base ≤ w.heap.size)
    (h : ∀ v' w', Hid (OwR w' base e v' (n + 1) (xs ++ [y])) → Only (fun k => v.ownBlock = some k) w w' → (v'.ownBlock = v.ownBlock ∨ v'.ownBlock = some w.heap.size) → K (a.put o.dst v') w') :
    if Region.wanted o (yielded ops a.tmps) = true then Oper.wp P o a w K Q else X := by
  have hw : Region.wanted o (yielded ops a.tmps) = true := by simp [Region.wanted, hgd]
  rw [if_pos hw]
  exact wp_append_or w s x t ho base e i z bytes ht hi hz hsize hby hzs v n xs hs hown B u y hx hr h1 h63 hbytes hbase h
end

/-! ### Many rows -/
def upd {α : Type} (f : Int → α) (i : Int) (x : α) : Int → α := fun j => if j = i then x else f j
theorem upd_same {α : Type} (f : Int → α) (i : Int) (x : α) : upd f i x i = x := if_pos rfl
theorem upd_other {α : Type} {f : Int → α} {i j : Int} {x : α} (h : j ≠ i) : upd f i x j = f j := if_neg h
/-- Rows of ints, one for each number; no two lie in one block. -/
structure Rws (w : World) (base : Nat) (E : TypeId) (V : Int → Value) (L : Int → List Int) : Prop where
  own : ∀ i, OwR w base E (V i) (L i).length (i64s (L i))
  ap : ∀ i j k, i ≠ j → (V i).ownBlock = some k → ¬ (V j).ownBlock = some k
/-- All blocks of these rows. -/
def blks (V : Int → Value) (k : Nat) : Prop := ∃ i, (V i).ownBlock = some k
section
variable {w w' : World} {base : Nat} {E : TypeId} {V : Int → Value} {L : Int → List Int} {F : Nat → Prop}
theorem Rws.only (h : Rws w base E V L) (o : Only F w w') (hF : ∀ k, blks V k → ¬ F k) : Rws w' base E V L :=
  ⟨fun i => (h.own i).only o fun k hk => hF k ⟨i, hk⟩, h.ap⟩
theorem Rws.ne (h : Rws w base E V L) {g : Nat} {t : TypeId} {cs : Array Value} (b : Blk w g t cs) (hE : t ≠ E) : ¬ blks V g := fun ⟨i, e⟩ => (h.own i).ne b hE e
theorem Rws.set (h : Rws w base E V L) {g j : Nat} {t : TypeId} {cs : Array Value} {u : Value} (b : Blk w g t cs) (hE : t ≠ E) : Rws (w.setCell ⟨g, j, none⟩ u) base E V L :=
  h.only (only_set w g j u) fun k hk e => by unfold isb at e; subst e; exact h.ne b hE hk
theorem Rws.kept (h : Rws w base E V L) (o : Only nob w w') : Rws w' base E V L := h.only o fun _ _ => id
theorem Rws.lt (h : Rws w base E V L) {k : Nat} (hk : blks V k) : base ≤ k ∧ k < w.heap.size := by
  obtain ⟨i, e⟩ := hk
  exact (h.own i).lt e
/-- A row has turned: its block alone, or a new one. -/
theorem Rws.turn (h : Rws w base E V L) (i : Int) {v' : Value} {l : List Int} (o : Only (fun k => (V i).ownBlock = some k) w w') (H : OwR w' base E v' l.length (i64s l)) (hv : v'.ownBlock = (V i).ownBlock ∨ v'.ownBlock = some w.heap.size) :
    Rws w' base E (upd V i v') (upd L i l) := by
  have hnew : ∀ k, v'.ownBlock = some k → (V i).ownBlock = some k ∨ k = w.heap.size := fun k e => by
    rcases hv with hv | hv
    · exact .inl (hv ▸ e)
    · rw [hv] at e; exact .inr (Option.some.inj e).symm
  refine ⟨fun j => ?_, fun a b k hab ha hb => ?_⟩
  · by_cases hj : j = i
    · subst hj; rw [upd_same, upd_same]; exact H
    · rw [upd_other hj, upd_other hj]
      exact (h.own j).only o fun k hk e => h.ap j i k hj hk e
  · by_cases hai : a = i
    · subst hai
      rw [upd_same] at ha
      rw [upd_other (Ne.symm hab)] at hb
      rcases hnew k ha with e | e
      · exact h.ap a b k hab e hb
      · have := ((h.own b).lt hb).2
        omega
    · rw [upd_other hai] at ha
      by_cases hbi : b = i
      · subst hbi
        rw [upd_same] at hb
        rcases hnew k hb with e | e
        · exact h.ap a b k hab ha e
        · have := ((h.own a).lt ha).2
          omega
      · rw [upd_other hbi] at hb
        exact h.ap a b k hab ha hb
/-- A row is cut: the world stays. -/
theorem Rws.cut (h : Rws w base E V L) (i : Int) {v' : Value} {l : List Int} (H : OwR w base E v' l.length (i64s l)) (hv : ∀ k, v'.ownBlock = some k → (V i).ownBlock = some k) : Rws w base E (upd V i v') (upd L i l) := by
  refine ⟨fun j => ?_, fun a b k hab ha hb => ?_⟩
  · by_cases hj : j = i
    · subst hj; rw [upd_same, upd_same]; exact H
    · rw [upd_other hj, upd_other hj]; exact h.own j
  · by_cases hai : a = i
    · subst hai
      rw [upd_same] at ha
      rw [upd_other (Ne.symm hab)] at hb
      exact h.ap a b k hab (hv k ha) hb
    · rw [upd_other hai] at ha
      by_cases hbi : b = i
      · subst hbi
        rw [upd_same] at hb
        exact h.ap a b k hab ha (hv k hb)
      · rw [upd_other hbi] at hb
        exact h.ap a b k hab ha hb
theorem Rws.like {V' : Int → Value} {L' : Int → List Int} (h : Rws w base E V L) (e1 : V' = V) (e2 : L' = L) : Rws w base E V' L' := by rw [e1, e2]; exact h
end
end Go.Proofs.Ytkjdnccnfnhkoaa
