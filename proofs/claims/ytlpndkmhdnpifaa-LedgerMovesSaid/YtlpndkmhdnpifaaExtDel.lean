/- Contract of slices.Delete at spans: one goes out of a row of the call's own. -/
import Derived.Test.YtlpndkmhdnpifaaExtLib
namespace Go.Proofs.Ytlpndkmhdnpifaa
set_option maxRecDepth 100000
open Go.RowKit Go.Lib Go.Shelf

theorem only_setCells (g : Nat) : ∀ (vs : List Value) (o : Nat) (w : World), Only (isb g) w (w.setCells g o vs)
  | [], _, w => Only.refl _ w
  | v :: vs, o, w => (only_set w g o v).trans (only_setCells g vs (o + 1) (w.setCell ⟨g, o, none⟩ v))
theorem splice_cons {α : Type} (L vs : List α) (o : Nat) (v : α) (h : o + (vs.length + 1) ≤ L.length) : splice (L.set o v) (o + 1) vs = splice L o (v :: vs) := by
  have h1 : (L.set o v).take (o + 1) = L.take o ++ [v] := by
    rw [List.take_add_one, List.take_set_of_le (Nat.le_refl _), List.getElem?_set, if_pos rfl, if_pos (by omega)]
    rfl
  have h2 : ∀ k, o < k → (L.set o v).drop k = L.drop k := fun k hk => by rw [List.drop_set_of_lt hk]
  unfold splice
  rw [h1, h2 _ (by omega)]
  simp [Nat.add_assoc, Nat.add_comm 1 vs.length]
theorem Blk.setCells {g : Nat} {t : TypeId} : ∀ (vs : List Value) (o : Nat) {w : World} {cs : Array Value}, Blk w g t cs → o + vs.length ≤ cs.size → Blk (w.setCells g o vs) g t (splice cs.toList o vs).toArray
  | [], o, w, cs, h, _ => by
    show Blk w g t _
    simpa [splice] using h
  | v :: vs, o, w, cs, h, hl => by
    have h1 := Blk.setCells vs (o + 1) (h.put o v) (by simp at hl ⊢; omega)
    have h2 := splice_cons cs.toList vs o v (by simp at hl ⊢; omega)
    rw [Array.toList_setIfInBounds, h2] at h1
    exact h1
/-- The elements behind one place go to the left, the last one becomes 0. -/
theorem splice_erase (l : List Sp) (k : Nat) (cur : List Value) (hk : k < l.length) (hc : cur.take (l.length * 2) = spc l) (z : List Value) :
    (splice (splice cur (k * 2) (spc (l.drop (k + 1)))) ((l.length - 1) * 2) z).take ((l.length - 1) * 2) = spc (l.eraseIdx k) := by
  have hlen : l.length * 2 ≤ cur.length := by
    have h1 := congrArg List.length hc
    rw [List.length_take, spc_len] at h1
    omega
  have hd : (spc (l.drop (k + 1))).length = (l.length - (k + 1)) * 2 := by rw [spc_len, List.length_drop]
  have h1 : ∀ (L : List Value) (o : Nat), o ≤ L.length → (splice L o z).take o = L.take o := fun L o ho => by
    unfold splice
    rw [List.take_append_of_le_length (by rw [List.length_take]; omega), List.take_take, Nat.min_self]
  have hls := splice_len cur (k * 2) (spc (l.drop (k + 1))) (by rw [hd]; omega)
  rw [h1 _ _ (by rw [hls]; omega)]
  unfold splice
  have h2 : cur.take (k * 2) = spc (l.take k) := by
    have := congrArg (List.take (k * 2)) hc
    rw [List.take_take, Nat.min_eq_left (by omega), spc_take] at this
    exact this
  rw [h2, hd, List.take_append, List.take_of_length_le (by rw [spc_len, List.length_take]; omega), spc_len, List.length_take, Nat.min_eq_left (by omega), show (l.length - 1) * 2 - k * 2 = (spc (l.drop (k + 1))).length by rw [hd]; omega, List.take_append_of_le_length (Nat.le_refl _), List.take_length, ← spc_append, erase_at]

/-- 'clear' of one span: its two cells become 0. -/
theorem run_clear_one {P : Program} (w : World) (t e ty : TypeId) (z : Value) (ht : P.underlying t = some (.slice e)) (hv : ∀ w, (zeroValue e).run P w = .ok z w) (x y : Value) (hz : z.cells = #[x, y]) (hx : x.oneCell' = true) (hy : y.oneCell' = true) (b o c : Nat)
    (hc : ∀ j, j < 2 → (w.cell? ⟨b, o + j, none⟩).isSome = true) (hf : ∀ j, j < 2 → w.frozen? ⟨b, o + j, none⟩ = false) :
    (Builtin.clear_ #[t] ty #[.slice (some ⟨b, o, none⟩) 1 c]).run P w = .ok (.tuple #[]) (w.setCells b o [x, y]) := by
  have hzc : (Builtin.zeroCells z.cells 1).toList = [x, y] := by
    rw [hz]; simp [Builtin.zeroCells, Array.range, Array.ofFn]; rfl
  have hst := run_storeCells_cells (P := P) b o [x, y] 0 w (by simpa using hc) (by simpa using hf) (by intro v hv'; simp at hv'; rcases hv' with rfl | rfl <;> assumption)
  rw [Nat.add_zero] at hst
  simp [Builtin.clear_, run_underlying ht, hv, hzc, hst]

set_option maxHeartbeats 4000000 in
theorem delete_any (g cap n k j : Nat) (cur : Array Value) (l : List Sp) (w : World) (hb : Blk w g 24 cur) (hs : cur.size = cap * 2) (hn : l.length = n) (hnc : n ≤ cap) (hcm : cap ≤ maxLen) (hc : cur.toList.take (n * 2) = spc l) (hk : k < n) (hj : j = k + 1) :
    Calls Try.prog 29 #[.slice (some ⟨g, 0, none⟩) n cap, .int .i64 k, .int .i64 j] w fun e w' => e = .returned (.slice (some ⟨g, 0, none⟩) (n - 1) cap) ∧ Only (isb g) w w' ∧
      ∃ cur' : Array Value, Blk w' g 24 cur' ∧ cur'.size = cap * 2 ∧ cur'.toList.take ((n - 1) * 2) = spc (l.eraseIdx k) := by
  obtain ⟨i0, hi0, hz0, hz1, hz2⟩ := info_parts info_span
  have hcm' : cap ≤ 9223372036854775807 := by unfold maxLen at hcm; omega
  have hcl : cur.toList.length = cap * 2 := by simpa using hs
  obtain ⟨news, hnews⟩ : ∃ news, news = spc (l.drop (k + 1)) := ⟨_, rfl⟩
  have hlen : news.length = (n - j) * 2 := by rw [hnews, spc_len, List.length_drop]; omega
  have hsrc : ∀ t u, news[t]? = some u → w.cell? ⟨g, j * 2 + t, none⟩ = some u := by
    intro t u hu
    rw [hb.cell, ← Array.getElem?_toList]
    rw [hnews, ← spc_drop, List.getElem?_drop, ← hc, List.getElem?_take] at hu
    split at hu
    · rw [hj]; exact hu
    · cases hu
  obtain ⟨A, hA, hAs⟩ : ∃ A : Addr, cutv (some ⟨g, 0, none⟩) j n cap 2 = .slice (some A) (n - j) (cap - j) ∧ Hid (∀ t u, news[t]? = some u → w.drew.cell? (A.add t) = some u) := by
    by_cases h : cap = j
    · refine ⟨⟨g, 0, none⟩, by unfold cutv; rw [if_pos h], fun t u hu => ?_⟩
      have h0 : news.length = 0 := by rw [hlen]; omega
      rw [List.length_eq_zero_iff.1 h0] at hu
      simp at hu
    · refine ⟨⟨g, j * 2, none⟩, by unfold cutv; rw [if_neg h]; show Value.slice (some (Addr.add _ _)) _ _ = _; rw [Addr.add_lit, Nat.zero_add], fun t u hu => ?_⟩
      rw [Addr.add_lit]
      exact hsrc t u hu
  have s3 : Hid (∀ t, t < news.length → (w.drew.cell? ⟨g, 0 + k * 2 + t, none⟩).isSome = true ∧ w.drew.frozen? ⟨g, 0 + k * 2 + t, none⟩ = false) := by
    intro t ht
    rw [hlen] at ht
    have h1 : Blk w.drew g 24 cur := hb
    rw [h1.cell, h1.free, Array.getElem?_eq_getElem (by omega)]
    exact ⟨rfl, rfl⟩
  have s1 : Hid (news.length = (n - j) * i0.size) := by rw [hz1]; exact hlen
  have s2 : Hid (∀ u ∈ news, u.oneCell' = true) := by rw [hnews]; exact spc_one _
  obtain ⟨W1, hW1⟩ : ∃ W1, W1 = w.drew.setCells g (0 + k * 2) news := ⟨_, rfl⟩
  have B1 : Blk W1 g 24 (splice cur.toList (k * 2) news).toArray := by
    rw [hW1, Nat.zero_add]
    exact Blk.setCells news (k * 2) (show Blk w.drew g _ cur from hb) (by rw [hlen]; omega)
  have hsz1 : (splice cur.toList (k * 2) news).toArray.size = cap * 2 := by
    rw [List.size_toArray, splice_len _ _ _ (by rw [hlen]; omega), hcl]
  have O1 : Only (isb g) w W1 := by rw [hW1]; exact (((Only.refl (isb g) w).drewN 1)).trans (only_setCells g news _ w.drew)
  obtain ⟨W2, hW2⟩ : ∃ W2, W2 = W1.setCells g ((n - 1) * 2) [.int .i64 0, .int .i64 0] := ⟨_, rfl⟩
  have B2 : Hid (Blk W2 g 24 (splice (splice cur.toList (k * 2) news) ((n - 1) * 2) [.int .i64 0, .int .i64 0]).toArray) := by
    rw [hW2]
    have := Blk.setCells [.int .i64 0, .int .i64 0] ((n - 1) * 2) B1 (by rw [hsz1]; simp; omega)
    refine Lib.hid ?_
    simpa using this
  have O2 : Hid (Only (isb g) w W2) := by rw [hW2]; exact O1.trans (only_setCells g _ _ _)
  have E2 : Hid ((splice (splice cur.toList (k * 2) news) ((n - 1) * 2) [.int .i64 0, .int .i64 0]).toArray.toList.take ((n - 1) * 2) = spc (l.eraseIdx k)) := by
    have := splice_erase l k cur.toList (by omega) (by rw [hn]; exact hc) [.int .i64 0, .int .i64 0]
    rw [hn, ← hnews] at this
    refine Lib.hid ?_
    simpa using this
  have Z2 : Hid ((splice (splice cur.toList (k * 2) news) ((n - 1) * 2) [.int .i64 0, .int .i64 0]).toArray.size = cap * 2) := by
    have h1 : (splice cur.toList (k * 2) news).length = cap * 2 := by simpa using hsz1
    refine Lib.hid ?_
    rw [List.size_toArray, splice_len _ _ _ (by rw [h1]; simp; omega), h1]
  have hclr : ∀ ty, (Builtin.clear_ #[22] ty #[.slice (some ⟨g, (n - 1) * 2, none⟩) 1 (cap - (n - 1))]).run Try.prog W1 = .ok (.tuple #[]) W2 := fun ty => by
    rw [hW2]
    refine run_clear_one W1 _ 24 ty (.agg #[.int .i64 0, .int .i64 0]) Try.underlying22 (fun w => by simp [zeroValue, typeInfo, hi0, hz0]) _ _ rfl rfl rfl g _ _ (fun q hq => ?_) (fun q _ => B1.free _)
    rw [B1.cell, Array.getElem?_eq_getElem (by rw [hsz1]; omega)]
    rfl
  have hcut1 := run_cut_h Try.underlying22 hi0 (some ⟨g, 0, none⟩) n cap k (by omega)
  have hcut2 := run_cut_l Try.underlying22 hi0 (some ⟨g, 0, none⟩) n cap j (by omega)
  have hcut3 := run_cut_lh Try.underlying22 hi0 (some ⟨g, 0, none⟩) (n - 1) cap (n - 1) n (by omega) hnc
  rw [hz1] at hcut1 hcut2 hcut3
  rw [hA] at hcut2
  rw [show cutv (some ⟨g, 0, none⟩) 0 k cap 2 = .slice (some ⟨g, 0, none⟩) k cap by unfold cutv; split <;> simp [Addr.add]] at hcut1
  rw [show cutv (some ⟨g, 0, none⟩) (n - 1) n cap 2 = .slice (some ⟨g, (n - 1) * 2, none⟩) 1 (cap - (n - 1)) by unfold cutv; rw [if_neg (by omega), show n - (n - 1) = 1 by omega]; show Value.slice (some (Addr.add _ _)) _ _ = _; rw [Addr.add_lit, Nat.zero_add]] at hcut3
  have HW1 := Lib.hid hW1
  clear hW1 hW2 B1 hsz1 O1 hsrc hlen hnews hc hcl hs hA hb hn
  have hjc : j ≤ cap := by omega
  have hjn : j ≤ n := by omega
  have hkj : k ≤ j := by omega
  have hne : ¬ ((k : Int) = (j : Int)) := by omega
  have hm : k + (n - j) = n - 1 := by omega
  clear hj
  have mixed : Try.prog.follows .mixedOrders = true := by kernel_rfl
  go_enter Try.func29, Try.ntmps29
  go_wp2_with fail
  go_region_law_o (refine step_append_room rfl (.tmp 22) (.tmp 25) 22 rfl 24 i0 2 Try.underlying22 hi0 hz1 g 0 k cap (by simp [Act.eval, Act.put]) A (n - j) (cap - j) news (by simp [Act.eval, Act.put]) (by rw [← hz1]; exact s1.out) hAs.out s2.out (by omega) s3.out ?_; rw [← HW1.out])
  go_wp2
  go_ret
  exact ⟨rfl, O2.out, _, B2.out, Z2.out, E2.out⟩
end Go.Proofs.Ytlpndkmhdnpifaa
