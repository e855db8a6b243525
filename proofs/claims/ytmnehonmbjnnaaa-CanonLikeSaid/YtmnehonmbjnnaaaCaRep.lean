/- slices.Repeat of one number: a row of that number, so many times; math/bits.Mul by the library's contract. -/
import Derived.Test.YtmnehonmbjnnaaaGrLaw
import Derived.Test.YtmnehonmbjnnaaaRePl1
import Derived.Shelf.Bits.Mul64
import Derived.Lib.SlBuf
namespace Go.Proofs.Ytmnehonmbjnnaaa
open Go.RowKit Go.Lib Go.Shelf
set_option maxRecDepth 100000
set_option linter.unusedSimpArgs false
set_option linter.unusedVariables false
def lays212_ren : Ren := ⟨fun | 212 => 38 | 263 => 55 | 264 => 56 | n => n, fun | 46 => 74 | 51 => 99 | 53 => 71 | 146 => 100 | 148 => 102 | n => n, fun  | n => n⟩
theorem lays212 : Lays.n212 Try.prog lays212_ren := {
  mixed := by kernel_rfl
  f212 := Try.func38.trans (congrArg some (by kernel_rfl))
  f263 := Try.func55.trans (congrArg some (by kernel_rfl))
  f264 := Try.func56.trans (congrArg some (by kernel_rfl))
  t46 := Try.underlying74
  a46 := Try.isAgg74
  z46 := Try.sizeOf74
  v46 := Try.zeroValue74
  t51 := Try.underlying99
  a51 := Try.isAgg99
  z51 := Try.sizeOf99
  v51 := Try.zeroValue99
  t53 := Try.underlying71
  a53 := Try.isAgg71
  z53 := Try.sizeOf71
  v53 := Try.zeroValue71
  t146 := Try.underlying100
  a146 := Try.isAgg100
  z146 := Try.sizeOf100
  v146 := Try.zeroValue100
  t148 := Try.underlying102
  a148 := Try.isAgg102
  z148 := Try.sizeOf102
  v148 := Try.zeroValue102 }
theorem mul18 (n : Nat) (hn : n ≤ 1000000) (w : World) :
    Calls Try.prog 38 #[.int .u64 1, .int .u64 (n : Int)] w fun e w' => e = .returned (.tuple #[.int .u64 0, .int .u64 (n : Int)]) ∧ w' = w := by
  have h := Any.bits_Mul lays212 1 n (by omega) (by omega) w
  rw [Nat.one_mul, Nat.div_eq_of_lt (by omega), Nat.mod_eq_of_lt (by omega)] at h
  exact h

/-! ### Cells laid over a row -/
theorem only_sets18 (g : Nat) : ∀ (vs : List Value) (o : Nat) (w : World), Only (isb g) w (w.setCells g o vs)
  | [], _, w => Only.refl _ w
  | v :: vs, o, w => (only_set w g o v).trans (only_sets18 g vs (o + 1) (w.setCell ⟨g, o, none⟩ v))
theorem splice_cons18 {α : Type} (L vs : List α) (o : Nat) (v : α) (h : o + (vs.length + 1) ≤ L.length) : splice (L.set o v) (o + 1) vs = splice L o (v :: vs) := by
  have h1 : (L.set o v).take (o + 1) = L.take o ++ [v] := by
    rw [List.take_add_one, List.take_set_of_le (Nat.le_refl _), List.getElem?_set, if_pos rfl, if_pos (by omega)]
    rfl
  have h2 : ∀ k, o < k → (L.set o v).drop k = L.drop k := fun k hk => by rw [List.drop_set_of_lt hk]
  unfold splice
  rw [h1, h2 _ (by omega), show o + 1 + vs.length = o + (v :: vs).length by simp; omega]
  simp
theorem blk_sets18 {g : Nat} {t : TypeId} : ∀ (vs : List Value) (o : Nat) {w : World} {cs : Array Value}, Blk w g t cs → o + vs.length ≤ cs.size → Blk (w.setCells g o vs) g t (splice cs.toList o vs).toArray
  | [], o, w, cs, h, _ => by
    show Blk w g t _
    simpa [splice] using h
  | v :: vs, o, w, cs, h, hl => by
    have h1 := blk_sets18 vs (o + 1) (h.put o v) (by simp at hl ⊢; omega)
    have h2 := splice_cons18 cs.toList vs o v (by simp at hl ⊢; omega)
    rw [Array.toList_setIfInBounds, h2] at h1
    exact h1
/-- copy at elements of one cell, its run. -/
theorem run_copy18 {P : Program} {w : World} (dT sT ty elem : TypeId) (i : TypeInfo) (n : Nat) (hu : P.underlying dT = some (.slice elem)) (hi : P.info? elem = some i) (hz : i.size = 1)
    (g off dLen dCap b o sLen sCap : Nat) (cur : Array Value) (t : TypeId) (hg : Blk w g t cur) (news : List Value) (hn : Nat.min sLen dLen = n) (hnl : news.length = n) (hfit : off + news.length ≤ cur.size)
    (hsrc : ∀ j v, news[j]? = some v → w.cell? ⟨b, o + j, none⟩ = some v) (h1 : ∀ v ∈ news, v.oneCell' = true) :
    (Builtin.copy_ #[dT, sT] ty #[.slice (some ⟨g, off, none⟩) dLen dCap, .slice (some ⟨b, o, none⟩) sLen sCap]).run P w = .ok (goInt n) (w.setCells g off news) := by
  have hf := run_firstCells_some (P := P) w i.size n ⟨b, o, none⟩ sLen sCap news (by rw [hz, Nat.mul_one]; exact hnl) (fun j v hj => by rw [Addr.add_lit]; exact hsrc j v hj)
  have hst := run_storeCells_cells (P := P) g off news 0 w (fun j hj => by rw [Nat.add_zero, hg.cell, Array.getElem?_eq_getElem (by omega)]; rfl) (fun j hj => by rw [hg.free]) h1
  rw [Nat.add_zero] at hst
  simp [Builtin.copy_, run_underlying hu, Builtin.lenOf, sizeOf, typeInfo, hi, hn, hf, hst]

theorem step_copy_run18 {P : Program} {ops : Array Oper} {o : Oper} {a : Act} {w : World} {K : Act → World → Prop} {Q : Exit → Act → World → Prop} {E : Prop} (hg : o.guard = none) (d s : Operand) (t t' : TypeId)
    (ho : o.op = .call { callee := .builtin .copy, args := #[d, s], argTypes := #[t, t'] }) (v u : Value) (hd : a.eval d = v) (hs : a.eval s = u) {v' : Value} {w' : World}
    (hr : (Builtin.copy_ #[t, t'] o.type #[v, u]).run P w = .ok v' w') (h : K (a.put o.dst v') w') : if Region.wanted o (yielded ops a.tmps) = true then Oper.wp P o a w K Q else E := by
  rw [if_pos (by simp [Region.wanted, hg])]
  exact Lib.wp_copy_run w d s t t' ho v u hd hs hr h

/-- A row of which the first k cells are laid with x. -/
def rp18 (x : Int) (k n : Nat) : List Value := i64s (List.replicate k x ++ List.replicate (n - k) 0)
theorem rp18_len {x : Int} {k n : Nat} (h : k ≤ n) : (rp18 x k n).length = n := by simp [rp18, i64s]; omega
theorem rp18_at {x : Int} {k n j : Nat} (h : j < k) : (rp18 x k n)[j]? = some (.int .i64 x) := by
  refine i64s_at ?_
  rw [List.getElem?_append_left (by simpa using h), List.getElem?_replicate, if_pos h]
theorem rp18_put {x : Int} {k m n : Nat} (h : k + m ≤ n) : splice (rp18 x k n) k (i64s (List.replicate m x)) = rp18 x (k + m) n := by
  unfold splice rp18
  rw [i64s_len, List.length_replicate, i64s_append, i64s_append]
  have e1 : (i64s (List.replicate k x)).length = k := by simp [i64s]
  rw [List.take_append_of_le_length (by omega), List.take_of_length_le (by omega), List.drop_append, e1, List.drop_eq_nil_of_le (by omega), List.nil_append]
  have e2 : (i64s (List.replicate (n - k) (0 : Int))).drop (k + m - k) = i64s (List.replicate (n - (k + m)) 0) := by
    simp only [i64s, List.map_replicate, List.drop_replicate]
    congr 1; omega
  rw [e2, ← List.append_assoc, ← i64s_append, List.replicate_append_replicate]
theorem own_sets18 {w : World} {base b n c : Nat} {E : TypeId} {xs : List Value} (h : w.ownsRow base E 1 (.slice (some ⟨b, 0, none⟩) n c) n xs) (off : Nat) (vs : List Value) (hv : off + vs.length ≤ n) :
    (w.setCells b off vs).ownsRow base E 1 (.slice (some ⟨b, 0, none⟩) n c) n (splice xs off vs) := by
  obtain ⟨h0, h2⟩ := h
  rw [Nat.mul_one] at h0
  refine ⟨by rw [splice_len _ _ _ (by omega), h0, Nat.mul_one], ?_⟩
  rcases h2 with ⟨e, -⟩ | ⟨g, cap, cur, e, hb, hg, h1, h2, h3, h4⟩
  · cases e
  · simp only [Value.slice.injEq, Option.some.injEq, Addr.mk.injEq] at e
    obtain ⟨⟨rfl, -⟩, -, rfl⟩ := e
    have hk : Blk w b E cur := hg
    refine .inr ⟨b, c, _, rfl, hb, blk_sets18 vs off hk (by omega), h1, h2, ?_, ?_⟩
    · rw [List.size_toArray, splice_len _ _ _ (by simp; omega)]; simpa using h3
    · rw [← h4, Nat.mul_one]
      show (splice cur.toList off vs).take n = splice (cur.toList.take n) off vs
      unfold splice
      rw [List.take_take, Nat.min_eq_left (by omega), List.take_append, List.take_of_length_le (l := cur.toList.take off) (by simp; omega), List.take_append, List.take_of_length_le (l := vs) (by simp; omega), List.drop_take]
      congr 3
      simp
      omega
theorem blk_own18 {w : World} {base b n c : Nat} {E : TypeId} {xs : List Value} (h : w.ownsRow base E 1 (.slice (some ⟨b, 0, none⟩) n c) n xs) : ∃ cur, Blk w b E cur ∧ n ≤ cur.size := by
  rcases h.2 with ⟨e, -⟩ | ⟨g, cap, cur, e, hb, hg, h1, h2, h3, h4⟩
  · cases e
  · simp only [Value.slice.injEq, Option.some.injEq, Addr.mk.injEq] at e
    obtain ⟨⟨rfl, -⟩, -, rfl⟩ := e
    exact ⟨cur, hg, by omega⟩
/-- copy of m of the laid cells, or of as many as there is room for, behind them: its run. -/
theorem cp18 (x : Int) (b base k m n l l' c c' : Nat) (q o : Nat) (w : World) (h : w.ownsRow base 3 1 (.slice (some ⟨b, 0, none⟩) n n) n (rp18 x k n)) (hm : Nat.min l' l = m) (hkm : k + m ≤ n)
    (hs : ∀ j, j < m → w.cell? ⟨q, o + j, none⟩ = some (.int .i64 x)) (ty : TypeId) :
    ∃ W, (Builtin.copy_ #[28, 28] ty #[.slice (some ⟨b, k, none⟩) l c, .slice (some ⟨q, o, none⟩) l' c']).run Try.prog w = .ok (goInt (m : Nat)) W ∧ W.ownsRow base 3 1 (.slice (some ⟨b, 0, none⟩) n n) n (rp18 x (k + m) n) ∧ Only (isb b) w W := by
  obtain ⟨i0, hi0, hz0, hz1, hz2⟩ := info_parts info_int
  obtain ⟨cur, hb, hc⟩ := blk_own18 h
  have hl : (i64s (List.replicate m x)).length = m := by simp [i64s]
  refine ⟨_, run_copy18 _ _ ty 3 i0 m Try.underlying28 hi0 hz1 b k l c q o l' c' cur _ hb (i64s (List.replicate m x)) hm hl (by omega) (fun j v hj => ?_) (i64s_one _), ?_, only_sets18 _ _ _ _⟩
  · have hj2 : j < m := by have := (List.getElem?_eq_some_iff.1 hj).1; omega
    rw [i64s_at (z := x) (by rw [List.getElem?_replicate, if_pos hj2])] at hj
    rw [← Option.some.inj hj]
    exact hs j hj2
  · have := own_sets18 h k (i64s (List.replicate m x)) (by omega)
    rwa [rp18_put hkm] at this
theorem rp18_cell {w : World} {base b k n : Nat} {x : Int} (h : w.ownsRow base 3 1 (.slice (some ⟨b, 0, none⟩) n n) n (rp18 x k n)) (hk : k ≤ n) (j : Nat) (hj : j < k) : w.cell? ⟨b, 0 + j, none⟩ = some (.int .i64 x) := by
  rw [Nat.zero_add]
  exact (h.cellAt j (by omega)).trans (rp18_at hj)

set_option maxHeartbeats 4000000 in
/-- A number, so many times. -/
theorem repeat18 (x : Int) (q n : Nat) (hn : n ≤ 1000000) (W : World) (hq : Blk W q 3 #[.int .i64 x]) :
    Calls Try.prog 20 #[.slice (some ⟨q, 0, none⟩) 1 1, .int .i64 n] W fun e w' => e = .returned (.slice (some ⟨W.heap.size, 0, none⟩) n n) ∧ w'.ownsRow W.heap.size 3 1 (.slice (some ⟨W.heap.size, 0, none⟩) n n) n (i64s (List.replicate n x)) ∧ Only nob W w' := by
  obtain ⟨WM, hmk, om, hown⟩ := make_ints16 n hn W
  have OM := Lib.hid om
  have HOW := Lib.hid (show WM.ownsRow W.heap.size 3 1 (.slice (some ⟨W.heap.size, 0, none⟩) n n) n (rp18 x 0 n) from by simpa [rp18] using hown)
  have hqM := hq.keep om id
  obtain ⟨b, hb⟩ : ∃ b, b = W.heap.size := ⟨_, rfl⟩
  rw [← hb] at hmk HOW ⊢
  have HB := Lib.hid hb
  obtain ⟨W1, hcp, hrow, o1⟩ := cp18 x b b 0 (Nat.min 1 n) n n 1 n 1 q 0 WM HOW.out rfl (by simp only [Nat.min_def]; split <;> omega) (fun j hj => by obtain rfl : j = 0 := Nat.lt_one_iff.1 (Nat.lt_of_lt_of_le hj (Nat.min_le_left 1 n)); exact hqM.cell 0) 3
  obtain ⟨k1, hk1⟩ : ∃ k1, k1 = Nat.min 1 n := ⟨_, rfl⟩
  rw [Nat.zero_add, ← hk1] at hrow
  rw [← hk1] at hcp
  have HROW := Lib.hid hrow
  have HK1 := Lib.hid (show k1 ≤ n ∧ (0 < n → 0 < k1) by rw [hk1]; simp only [Nat.min_def]; split <;> omega)
  have O1 := Lib.hid (show Only nob W W1 from OM.out.andThen o1 fun i hi e => by unfold isb at e; omega)
  clear om hown hb hq hqM hrow o1 hk1
  go_enter Try.func20, Try.ntmps20
  go_wp2_with fail
  go_at_call 38
  refine (mul18 n hn _).mono ?_
  rintro e w' ⟨rfl, hw⟩
  rw [hw]
  clear hw
  have n1 : ¬ (9223372036854775807 : Int) < (n : Int) := by omega
  go_wp2_with fail
  clear n1 hcp hmk
  go_loopw [8] (fun s wr => ∃ k : Nat, k ≤ n ∧ (0 < n → 0 < k) ∧ s = .int .i64 k ∧ Hid (wr.ownsRow b 3 1 (.slice (some ⟨b, 0, none⟩) n n) n (rp18 x k n)) ∧ Hid (Only nob W wr)) (fun s _ => n - (RowKit.intOf s).toNat)
  case atStart => exact ⟨k1, HK1.out.1, HK1.out.2, rfl, HROW, O1⟩
  case round =>
    obtain ⟨k, hk, hpos, rfl, HR, HO⟩ := hrel
    by_cases hlt : k < n
    · obtain ⟨m, hm⟩ : ∃ m, m = Nat.min k (n - k) := ⟨_, rfl⟩
      have hm1 : m ≤ n - k := by rw [hm]; exact Nat.min_le_right _ _
      have hm0 : 0 < m := by rw [hm]; simp only [Nat.min_def]; split <;> omega
      have hm2 : m ≤ k := by rw [hm]; exact Nat.min_le_left _ _
      have HD := Lib.hid (own_only HR.out (((Only.refl nob wr).drewN 1)) (fun _ _ h => h) : wr.drew.ownsRow b 3 1 (.slice (some ⟨b, 0, none⟩) n n) n (rp18 x k n))
      obtain ⟨W2, hcp, hrow, o2⟩ := cp18 x b b k m n (n - k) k (n - k) n b 0 wr.drew HD.out hm.symm (by omega) (fun j hj => rp18_cell HD.out hk j (by omega)) 3
      have HROW := Lib.hid hrow
      have O2 := Lib.hid (show Only nob W W2 from (HO.out.drewN 1).andThen o2 fun i hi e => by unfold isb at e; have := HB.out; omega)
      obtain ⟨i0, hi0, hz0, hz1, hz2⟩ := info_parts info_int
      have hcutA : ∀ w, (Instr.sliceAt 28 (.slice (some ⟨b, 0, none⟩) n n) (some (.int .i64 (k : Int))) none none).run Try.prog w = .ok (.slice (some ⟨b, k, none⟩) (n - k) (n - k)) w := fun w => by
        have := run_cut_l Try.underlying28 hi0 (some ⟨b, 0, none⟩) n n k hk w
        rw [hz1, show cutv (some ⟨b, 0, none⟩) k n n 1 = .slice (some ⟨b, k, none⟩) (n - k) (n - k) by unfold cutv; rw [if_neg (by omega)]; show Value.slice (some (Addr.add _ _)) _ _ = _; rw [Addr.add_lit, Nat.zero_add, Nat.mul_one]] at this
        exact this
      have hcutB : ∀ w, (Instr.sliceAt 28 (.slice (some ⟨b, 0, none⟩) n n) none (some (.int .i64 (k : Int))) none).run Try.prog w = .ok (.slice (some ⟨b, 0, none⟩) k n) w := fun w => by
        have := run_cut_h Try.underlying28 hi0 (some ⟨b, 0, none⟩) n n k hk w
        rw [show cutv (some ⟨b, 0, none⟩) 0 k n i0.size = .slice (some ⟨b, 0, none⟩) k n by unfold cutv; split <;> simp [Addr.add]] at this
        exact this
      have hb1 : (k : Int) ≤ (n : Int) := by omega
      have hb5 : ¬ (n = k) := by omega
      have hw1 : IntKind.i64.wrap ((k : Int) + (m : Int)) = (k : Int) + (m : Int) := by rw [IntKind.wrap_i64]; omega
      have hltI : (k : Int) < (n : Int) := by omega
      have mixed : Try.prog.follows .mixedOrders = true := by kernel_rfl
      clear hm hrow o2 hi0 hz0 hz1 hz2 hpos
      go_wp2_with fail
      go_region_held3 (fun _ => True) (first | exact True.intro | go_keep) ((refine step_copy_run18 (by rfl) (.tmp 41) (.tmp 44) 28 28 (by rfl) _ _ (by rfl) (by rfl) hcp ?_))
      go_roundw
      case rel => exact ⟨_, _, _, _, _, _, _, _, _, _, _, _, _, _, ⟨k + m, by omega, fun _ => by omega, by go_num, HROW, O2⟩, rfl⟩
      case measure => simp [RowKit.intOf]; omega
    · obtain rfl : k = n := by omega
      have HF := Lib.hid (show wr.ownsRow b 3 1 (.slice (some ⟨b, 0, none⟩) k k) k (i64s (List.replicate k x)) by have := HR.out; simpa [rp18] using this)
      go_wp2
      go_ret
      exact ⟨rfl, HF.out, HO.out⟩
end Go.Proofs.Ytmnehonmbjnnaaa
