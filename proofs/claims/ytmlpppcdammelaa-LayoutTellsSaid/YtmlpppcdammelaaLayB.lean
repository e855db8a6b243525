/- Contracts of package layout: parts. -/
import Derived.Test.YtmlpppcdammelaaLayA
import Derived.Test.YtmlpppcdammelaaLayLaw2
namespace Go.Proofs.Ytmlpppcdammelaa
open Go.RowKit Go.Sort

def zero6 : Array Value := #[.int .i64 0, .int .i64 0, .int .i64 0, .int .i64 0, .int .i64 0, .int .i64 0]
def cAgg (c : Cf) : Value := .agg #[.int .i64 c.semi, .int .i64 c.large, .int .i64 c.slots, .int .i64 c.limit]
/-- The world in which parts begins. -/
theorem parts_world (w : World) (c : Cf) : ∃ W, (((w.alloc (.cells #[.int .i64 c.semi, .int .i64 c.large, .int .i64 c.slots, .int .i64 c.limit] 23)).alloc (.cells #[.int .i64 0, .int .i64 0, .int .i64 0, .int .i64 0, .int .i64 0, .int .i64 0] 39)).alloc (.cells #[.int .i64 0, .int .i64 0, .int .i64 0, .int .i64 0, .int .i64 0, .int .i64 0] 39)) = W ∧
    Hid (Only nob w W ∧ CBox W w.heap.size c ∧ Blk W (w.heap.size + 1) 39 zero6 ∧ Blk W (w.heap.size + 2) 39 zero6) :=
  ⟨_, rfl, ((only_box w c).alloc _).alloc _, (CBox.new w c).keep (((Only.refl nob _).alloc _).alloc _), (Blk.newAt _ _ zero6 _ (by simp)).alloc _, Blk.newAt _ _ zero6 _ (by simp)⟩
theorem six_cells {w : World} {b : Nat} {t : TypeId} {x0 x1 x2 x3 x4 x5 : Value} (h : Blk w b t #[x0, x1, x2, x3, x4, x5]) : w.cell? ⟨b, 0, none⟩ = some x0 ∧ w.cell? ⟨b, 1, none⟩ = some x1 ∧ w.cell? ⟨b, 2, none⟩ = some x2 ∧ w.cell? ⟨b, 3, none⟩ = some x3 ∧ w.cell? ⟨b, 4, none⟩ = some x4 ∧ w.cell? ⟨b, 5, none⟩ = some x5 ∧
    w.frozen? ⟨b, 0, none⟩ = false ∧ w.frozen? ⟨b, 1, none⟩ = false ∧ w.frozen? ⟨b, 2, none⟩ = false ∧ w.frozen? ⟨b, 3, none⟩ = false ∧ w.frozen? ⟨b, 4, none⟩ = false ∧ w.frozen? ⟨b, 5, none⟩ = false :=
  ⟨h.cell 0, h.cell 1, h.cell 2, h.cell 3, h.cell 4, h.cell 5, h.free 0, h.free 1, h.free 2, h.free 3, h.free 4, h.free 5⟩
theorem only_set_new {w W : World} (o : Only nob w W) {p : Addr} (hp : w.heap.size ≤ p.block) (u : Value) : Only nob w (W.setCell p u) := o.setCell (fun h => absurd h (Nat.not_lt_of_le hp)) u
/-- Cells of a block of the call's own are written; another one stays. -/
theorem own_sets {w W : World} (o : Only nob w W) {b b' : Nat} {t : TypeId} {cs : Array Value} (hb : w.heap.size ≤ b) (hne : b ≠ b') (B : Blk W b' t cs) (l : List (Nat × Value)) :
    ∃ W4, l.foldl (fun W p => W.setCell ⟨b, p.1, none⟩ p.2) W = W4 ∧ Only nob w W4 ∧ Blk W4 b' t cs := by
  refine ⟨_, rfl, ?_⟩
  induction l generalizing W with
  | nil => exact ⟨o, B⟩
  | cons x l ih => exact ih (only_set_new o hb _) (B.other hne _)
/-- As own_sets, and what is written is known. -/
theorem own_puts {w W : World} (o : Only nob w W) {b b' : Nat} {t t' : TypeId} {cs cs' : Array Value} (hb : w.heap.size ≤ b) (hne : b ≠ b') (B : Blk W b t cs) (B' : Blk W b' t' cs') (l : List (Nat × Value)) :
    ∃ W4, l.foldl (fun W p => W.setCell ⟨b, p.1, none⟩ p.2) W = W4 ∧ Only nob w W4 ∧ Blk W4 b t (l.foldl (fun c p => c.setIfInBounds p.1 p.2) cs) ∧ Blk W4 b' t' cs' ∧ ∀ p : Addr, p.block ≠ b → W4.cell? p = W.cell? p := by
  refine ⟨_, rfl, ?_⟩
  induction l generalizing W cs with
  | nil => exact ⟨o, B, B', fun _ _ => rfl⟩
  | cons x l ih =>
    obtain ⟨h1, h2, h3, h4⟩ := ih (only_set_new o hb x.2) (B.put x.1 x.2) (B'.other (p := ⟨b, x.1, none⟩) hne x.2)
    exact ⟨h1, h2, h3, fun p hp => (h4 p hp).trans (World.cell?_of_block (Below.heap_setCell W ⟨b, x.1, none⟩ x.2 p.block hp))⟩
/-- Six cells of the call's own block are written, and it is handed back. -/
theorem res_six {w W : World} (o : Only nob w W) {b : Nat} {t : TypeId} (hb : w.heap.size ≤ b) (B : Blk W b t zero6) (x0 x1 x2 x3 x4 x5 : Value) :
    ∃ W4, ((((((W.setCell ⟨b, 0, none⟩ x0).setCell ⟨b, 1, none⟩ x1).setCell ⟨b, 2, none⟩ x2).setCell ⟨b, 3, none⟩ x3).setCell ⟨b, 4, none⟩ x4).setCell ⟨b, 5, none⟩ x5) = W4 ∧ Only nob w W4 ∧ Blk W4 b t #[x0, x1, x2, x3, x4, x5] := by
  refine ⟨_, rfl, only_set_new (only_set_new (only_set_new (only_set_new (only_set_new (only_set_new o hb _) hb _) hb _) hb _) hb _) hb _, ?_⟩
  simpa [zero6] using (((((B.put 0 x0).put 1 x1).put 2 x2).put 3 x3).put 4 x4).put 5 x5
/-- What parts hands back. -/
def partsV (c : Cf) (s : Bool) : Value := .agg #[.int .i64 (cFrom c s).1, .int .i64 (cFrom c s).2, .int .i64 (cTo c s).1, .int .i64 (cTo c s).2, .int .i64 (cLarge c).1, .int .i64 (cLarge c).2]
theorem parts_not {c : Cf} (h : ¬ c.ok) (s : Bool) : partsV c s = .agg #[.int .i64 0, .int .i64 0, .int .i64 0, .int .i64 0, .int .i64 0, .int .i64 0] := by
  unfold partsV cFrom cTo cFrom cHalf cLarge
  cases s <;> simp [h]
theorem parts_is {c : Cf} (h : c.ok) (s : Bool) : partsV c s = .agg #[.int .i64 (if s then c.semi else 0), .int .i64 c.semi, .int .i64 (if s then 0 else c.semi), .int .i64 c.semi, .int .i64 (if 0 < c.large then 2 * c.semi else 0), .int .i64 (if 0 < c.large then c.large else 0)] := by
  have hl : cLarge c = (if 0 < c.large then 2 * c.semi else 0, if 0 < c.large then c.large else 0) := by
    unfold cLarge
    have h2 := h.2.2.1
    by_cases hq : 0 < c.large
    · rw [if_pos hq, if_pos hq, if_pos ⟨h, by omega⟩]; ext <;> simp; omega
    · rw [if_neg hq, if_neg hq, if_neg (fun q => q.2 (by omega))]
  unfold partsV
  rw [hl]
  unfold cTo cFrom cHalf
  cases s <;> simp [h]

set_option maxRecDepth 100000 in
set_option maxHeartbeats 4000000 in
theorem parts_no (c : Cf) (s : Bool) (w : World) (hc : CFit c) (hno : ¬ c.ok) : Calls Try.prog 24 #[.agg #[.int .i64 c.semi, .int .i64 c.large, .int .i64 c.slots, .int .i64 c.limit], .bool s] w fun e w' => e = .returned (partsV c s) ∧ Only nob w w' := by
  have A1 := fun w => lyCheck c w hc
  obtain ⟨W, hWn, HB⟩ := parts_world w c
  replace hWn := Lib.hid hWn
  have HP : Hid (partsV c s = .agg #[.int .i64 0, .int .i64 0, .int .i64 0, .int .i64 0, .int .i64 0, .int .i64 0]) := Lib.hid (by rw [parts_not hno])
  rw [decide_eq_false hno] at A1
  replace A1 := Lib.hid A1
  clear hno hc
  go_enter Try.func24, Try.ntmps24
  go_wp2_with fail
  go_at_call 5
  rw [hWn.out]
  refine (A1.out _).mono ?_
  rintro e w1 ⟨rfl, o⟩
  have O1 := Lib.hid (And.intro (HB.out.1.trans o) (And.intro (HB.out.2.1.keep o) (And.intro (HB.out.2.2.1.keep o id) (HB.out.2.2.2.keep o id))))
  clear o
  obtain ⟨c0, c1, c2, c3⟩ := O1.out.2.1
  obtain ⟨r0, r1, r2, r3, r4, r5, f0, f1, f2, f3, f4, f5⟩ := six_cells O1.out.2.2.1
  obtain ⟨s0, s1, s2, s3, s4, s5, g0, g1, g2, g3, g4, g5⟩ := six_cells O1.out.2.2.2
  go_wp2
  obtain ⟨W5, hW5, O5, B5⟩ := own_sets O1.out.1 (b := w.heap.size + 1 + 1) (by omega) (by omega) O1.out.2.2.1 []
  simp only [List.foldl] at hW5
  rw [hW5]
  obtain ⟨W4, hW4, O4, B4⟩ := res_six O5 (by omega) B5 (.int .i64 0) (.int .i64 0) (.int .i64 0) (.int .i64 0) (.int .i64 0) (.int .i64 0)
  with_reducible rw [hW4]
  have h0 := B4.cell 0
  have h1 := B4.cell 1
  have h2 := B4.cell 2
  have h3 := B4.cell 3
  have h4 := B4.cell 4
  have h5 := B4.cell 5
  simp at h0 h1 h2 h3 h4 h5
  exact bodyPost_ret (v := .agg #[.int .i64 0, .int .i64 0, .int .i64 0, .int .i64 0, .int .i64 0, .int .i64 0]) (by simp [results, Try.results24, go_sem, h0, h1, h2, h3, h4, h5]) rfl ⟨by rw [HP.out], O4⟩
set_option maxRecDepth 100000 in
set_option maxHeartbeats 4000000 in
theorem parts_fn (c : Cf) (w : World) (hc : CFit c) (hno : c.ok) (hl : ¬ 0 < c.large) : Calls Try.prog 24 #[.agg #[.int .i64 c.semi, .int .i64 c.large, .int .i64 c.slots, .int .i64 c.limit], .bool false] w fun e w' => e = .returned (partsV c false) ∧ Only nob w w' := by
  have A1 := fun w => lyCheck c w hc
  obtain ⟨W, hWn, HB⟩ := parts_world w c
  replace hWn := Lib.hid hWn
  have HP : Hid (partsV c false = .agg #[.int .i64 0, .int .i64 c.semi, .int .i64 c.semi, .int .i64 c.semi, .int .i64 0, .int .i64 0]) := Lib.hid (by rw [parts_is hno]; simp [hl])
  rw [decide_eq_true hno] at A1
  replace A1 := Lib.hid A1
  have b1 : 2 ≤ c.semi ∧ c.semi ≤ 32768 := by unfold Cf.ok at hno; omega
  have b2 : 0 ≤ c.large ∧ c.large ≤ 32768 := by unfold Cf.ok at hno; omega
  clear hno hc
  go_enter Try.func24, Try.ntmps24
  go_wp2_with fail
  go_at_call 5
  rw [hWn.out]
  refine (A1.out _).mono ?_
  rintro e w1 ⟨rfl, o⟩
  have O1 := Lib.hid (And.intro (HB.out.1.trans o) (And.intro (HB.out.2.1.keep o) (And.intro (HB.out.2.2.1.keep o id) (HB.out.2.2.2.keep o id))))
  clear o
  obtain ⟨c0, c1, c2, c3⟩ := O1.out.2.1
  obtain ⟨r0, r1, r2, r3, r4, r5, f0, f1, f2, f3, f4, f5⟩ := six_cells O1.out.2.2.1
  obtain ⟨s0, s1, s2, s3, s4, s5, g0, g1, g2, g3, g4, g5⟩ := six_cells O1.out.2.2.2
  go_wp2
  obtain ⟨W5, hW5, O5, B5⟩ := own_sets O1.out.1 (b := w.heap.size + 1 + 1) (by omega) (by omega) O1.out.2.2.1 [(0, .int .i64 0), (1, .int .i64 c.semi), (2, .int .i64 c.semi), (3, .int .i64 c.semi)]
  simp only [List.foldl] at hW5
  with_reducible rw [hW5]
  obtain ⟨W4, hW4, O4, B4⟩ := res_six O5 (by omega) B5 (.int .i64 0) (.int .i64 c.semi) (.int .i64 c.semi) (.int .i64 c.semi) (.int .i64 0) (.int .i64 0)
  with_reducible rw [hW4]
  have h0 := B4.cell 0
  have h1 := B4.cell 1
  have h2 := B4.cell 2
  have h3 := B4.cell 3
  have h4 := B4.cell 4
  have h5 := B4.cell 5
  simp at h0 h1 h2 h3 h4 h5
  exact bodyPost_ret (v := .agg #[.int .i64 0, .int .i64 c.semi, .int .i64 c.semi, .int .i64 c.semi, .int .i64 0, .int .i64 0]) (by simp [results, Try.results24, go_sem, h0, h1, h2, h3, h4, h5]) rfl ⟨by rw [HP.out], O4⟩
set_option maxRecDepth 100000 in
set_option maxHeartbeats 4000000 in
theorem parts_fl (c : Cf) (w : World) (hc : CFit c) (hno : c.ok) (hl : 0 < c.large) : Calls Try.prog 24 #[.agg #[.int .i64 c.semi, .int .i64 c.large, .int .i64 c.slots, .int .i64 c.limit], .bool false] w fun e w' => e = .returned (partsV c false) ∧ Only nob w w' := by
  have A1 := fun w => lyCheck c w hc
  obtain ⟨W, hWn, HB⟩ := parts_world w c
  replace hWn := Lib.hid hWn
  have HP : Hid (partsV c false = .agg #[.int .i64 0, .int .i64 c.semi, .int .i64 c.semi, .int .i64 c.semi, .int .i64 (2 * c.semi), .int .i64 c.large]) := Lib.hid (by rw [parts_is hno]; simp [hl])
  rw [decide_eq_true hno] at A1
  replace A1 := Lib.hid A1
  have b1 : 2 ≤ c.semi ∧ c.semi ≤ 32768 := by unfold Cf.ok at hno; omega
  have b2 : 0 ≤ c.large ∧ c.large ≤ 32768 := by unfold Cf.ok at hno; omega
  clear hno hc
  go_enter Try.func24, Try.ntmps24
  go_wp2_with fail
  go_at_call 5
  rw [hWn.out]
  refine (A1.out _).mono ?_
  rintro e w1 ⟨rfl, o⟩
  have O1 := Lib.hid (And.intro (HB.out.1.trans o) (And.intro (HB.out.2.1.keep o) (And.intro (HB.out.2.2.1.keep o id) (HB.out.2.2.2.keep o id))))
  clear o
  obtain ⟨c0, c1, c2, c3⟩ := O1.out.2.1
  obtain ⟨r0, r1, r2, r3, r4, r5, f0, f1, f2, f3, f4, f5⟩ := six_cells O1.out.2.2.1
  obtain ⟨s0, s1, s2, s3, s4, s5, g0, g1, g2, g3, g4, g5⟩ := six_cells O1.out.2.2.2
  go_wp2
  obtain ⟨W5, hW5, O5, B5⟩ := own_sets O1.out.1 (b := w.heap.size + 1 + 1) (by omega) (by omega) O1.out.2.2.1 [(0, .int .i64 0), (1, .int .i64 c.semi), (2, .int .i64 c.semi), (3, .int .i64 c.semi), (4, .int .i64 (2 * c.semi)), (5, .int .i64 c.large)]
  simp only [List.foldl] at hW5
  with_reducible rw [hW5]
  obtain ⟨W4, hW4, O4, B4⟩ := res_six O5 (by omega) B5 (.int .i64 0) (.int .i64 c.semi) (.int .i64 c.semi) (.int .i64 c.semi) (.int .i64 (2 * c.semi)) (.int .i64 c.large)
  with_reducible rw [hW4]
  have h0 := B4.cell 0
  have h1 := B4.cell 1
  have h2 := B4.cell 2
  have h3 := B4.cell 3
  have h4 := B4.cell 4
  have h5 := B4.cell 5
  simp at h0 h1 h2 h3 h4 h5
  exact bodyPost_ret (v := .agg #[.int .i64 0, .int .i64 c.semi, .int .i64 c.semi, .int .i64 c.semi, .int .i64 (2 * c.semi), .int .i64 c.large]) (by simp [results, Try.results24, go_sem, h0, h1, h2, h3, h4, h5]) rfl ⟨by rw [HP.out], O4⟩
set_option maxRecDepth 100000 in
set_option maxHeartbeats 4000000 in
theorem parts_sn (c : Cf) (w : World) (hc : CFit c) (hno : c.ok) (hl : ¬ 0 < c.large) : Calls Try.prog 24 #[.agg #[.int .i64 c.semi, .int .i64 c.large, .int .i64 c.slots, .int .i64 c.limit], .bool true] w fun e w' => e = .returned (partsV c true) ∧ Only nob w w' := by
  have A1 := fun w => lyCheck c w hc
  obtain ⟨W, hWn, HB⟩ := parts_world w c
  replace hWn := Lib.hid hWn
  have HP : Hid (partsV c true = .agg #[.int .i64 c.semi, .int .i64 c.semi, .int .i64 0, .int .i64 c.semi, .int .i64 0, .int .i64 0]) := Lib.hid (by rw [parts_is hno]; simp [hl])
  rw [decide_eq_true hno] at A1
  replace A1 := Lib.hid A1
  have b1 : 2 ≤ c.semi ∧ c.semi ≤ 32768 := by unfold Cf.ok at hno; omega
  have b2 : 0 ≤ c.large ∧ c.large ≤ 32768 := by unfold Cf.ok at hno; omega
  clear hno hc
  go_enter Try.func24, Try.ntmps24
  go_wp2_with fail
  go_at_call 5
  rw [hWn.out]
  refine (A1.out _).mono ?_
  rintro e w1 ⟨rfl, o⟩
  have O1 := Lib.hid (And.intro (HB.out.1.trans o) (And.intro (HB.out.2.1.keep o) (And.intro (HB.out.2.2.1.keep o id) (HB.out.2.2.2.keep o id))))
  clear o
  obtain ⟨c0, c1, c2, c3⟩ := O1.out.2.1
  obtain ⟨s0, s1, s2, s3, s4, s5, g0, g1, g2, g3, g4, g5⟩ := six_cells O1.out.2.2.2
  go_upto_region 7 with fail
  obtain ⟨W5, hW5, O5, B5a, B5r, K5⟩ := own_puts O1.out.1 (b := w.heap.size + 1 + 1) (by omega) (by omega) O1.out.2.2.2 O1.out.2.2.1 [(0, .int .i64 0), (1, .int .i64 c.semi), (2, .int .i64 c.semi), (3, .int .i64 c.semi)]
  simp only [List.foldl] at hW5 B5a
  with_reducible rw [hW5]
  have B5 : Blk W5 (w.heap.size + 2) 39 #[.int .i64 0, .int .i64 c.semi, .int .i64 c.semi, .int .i64 c.semi, .int .i64 0, .int .i64 0] := by simpa [zero6] using B5a
  replace c0 := (K5 ⟨w.heap.size, 0, none⟩ (by simp only []; omega)).trans c0
  replace c1 := (K5 ⟨w.heap.size, 1, none⟩ (by simp only []; omega)).trans c1
  clear c2 c3 s0 s1 s2 s3 s4 s5 g0 g1 g2 g3 g4 g5 hW5 B5a K5
  obtain ⟨s0, s1, s2, s3, s4, s5, g0, g1, g2, g3, g4, g5⟩ := six_cells B5
  replace O5 := Lib.hid O5
  replace B5r := Lib.hid B5r
  replace B5 := Lib.hid B5
  go_upto_region 8 with fail
  obtain ⟨W7, hW7, O7, B7a, B7r, K7⟩ := own_puts O5.out (b := w.heap.size + 1 + 1) (by omega) (by omega) B5.out B5r.out [(0, .int .i64 c.semi), (1, .int .i64 c.semi), (2, .int .i64 0), (3, .int .i64 c.semi)]
  simp only [List.foldl] at hW7 B7a
  with_reducible rw [hW7]
  have B7 : Blk W7 (w.heap.size + 2) 39 #[.int .i64 c.semi, .int .i64 c.semi, .int .i64 0, .int .i64 c.semi, .int .i64 0, .int .i64 0] := by simpa using B7a
  replace c0 := (K7 ⟨w.heap.size, 0, none⟩ (by simp only []; omega)).trans c0
  replace c1 := (K7 ⟨w.heap.size, 1, none⟩ (by simp only []; omega)).trans c1
  clear s0 s1 s2 s3 s4 s5 g0 g1 g2 g3 g4 g5 hW7 B7a K7
  obtain ⟨s0, s1, s2, s3, s4, s5, g0, g1, g2, g3, g4, g5⟩ := six_cells B7
  obtain ⟨r0, r1, r2, r3, r4, r5, f0, f1, f2, f3, f4, f5⟩ := six_cells B7r
  replace O7 := Lib.hid O7
  replace B7r := Lib.hid B7r
  replace B7 := Lib.hid B7
  go_wp2
  obtain ⟨W4, hW4, O4, B4⟩ := res_six O7.out (by omega) B7r.out (.int .i64 c.semi) (.int .i64 c.semi) (.int .i64 0) (.int .i64 c.semi) (.int .i64 0) (.int .i64 0)
  with_reducible rw [hW4]
  have h0 := B4.cell 0
  have h1 := B4.cell 1
  have h2 := B4.cell 2
  have h3 := B4.cell 3
  have h4 := B4.cell 4
  have h5 := B4.cell 5
  simp at h0 h1 h2 h3 h4 h5
  exact bodyPost_ret (v := .agg #[.int .i64 c.semi, .int .i64 c.semi, .int .i64 0, .int .i64 c.semi, .int .i64 0, .int .i64 0]) (by simp [results, Try.results24, go_sem, h0, h1, h2, h3, h4, h5]) rfl ⟨by rw [HP.out], O4⟩
set_option maxRecDepth 100000 in
set_option maxHeartbeats 4000000 in
theorem parts_sl (c : Cf) (w : World) (hc : CFit c) (hno : c.ok) (hl : 0 < c.large) : Calls Try.prog 24 #[.agg #[.int .i64 c.semi, .int .i64 c.large, .int .i64 c.slots, .int .i64 c.limit], .bool true] w fun e w' => e = .returned (partsV c true) ∧ Only nob w w' := by
  have A1 := fun w => lyCheck c w hc
  obtain ⟨W, hWn, HB⟩ := parts_world w c
  replace hWn := Lib.hid hWn
  have HP : Hid (partsV c true = .agg #[.int .i64 c.semi, .int .i64 c.semi, .int .i64 0, .int .i64 c.semi, .int .i64 (2 * c.semi), .int .i64 c.large]) := Lib.hid (by rw [parts_is hno]; simp [hl])
  rw [decide_eq_true hno] at A1
  replace A1 := Lib.hid A1
  have b1 : 2 ≤ c.semi ∧ c.semi ≤ 32768 := by unfold Cf.ok at hno; omega
  have b2 : 0 ≤ c.large ∧ c.large ≤ 32768 := by unfold Cf.ok at hno; omega
  clear hno hc
  go_enter Try.func24, Try.ntmps24
  go_wp2_with fail
  go_at_call 5
  rw [hWn.out]
  refine (A1.out _).mono ?_
  rintro e w1 ⟨rfl, o⟩
  have O1 := Lib.hid (And.intro (HB.out.1.trans o) (And.intro (HB.out.2.1.keep o) (And.intro (HB.out.2.2.1.keep o id) (HB.out.2.2.2.keep o id))))
  clear o
  obtain ⟨c0, c1, c2, c3⟩ := O1.out.2.1
  obtain ⟨s0, s1, s2, s3, s4, s5, g0, g1, g2, g3, g4, g5⟩ := six_cells O1.out.2.2.2
  go_upto_region 7 with fail
  obtain ⟨W5, hW5, O5, B5a, B5r, K5⟩ := own_puts O1.out.1 (b := w.heap.size + 1 + 1) (by omega) (by omega) O1.out.2.2.2 O1.out.2.2.1 [(0, .int .i64 0), (1, .int .i64 c.semi), (2, .int .i64 c.semi), (3, .int .i64 c.semi)]
  simp only [List.foldl] at hW5 B5a
  with_reducible rw [hW5]
  have B5 : Blk W5 (w.heap.size + 2) 39 #[.int .i64 0, .int .i64 c.semi, .int .i64 c.semi, .int .i64 c.semi, .int .i64 0, .int .i64 0] := by simpa [zero6] using B5a
  replace c0 := (K5 ⟨w.heap.size, 0, none⟩ (by simp only []; omega)).trans c0
  replace c1 := (K5 ⟨w.heap.size, 1, none⟩ (by simp only []; omega)).trans c1
  clear c2 c3 s0 s1 s2 s3 s4 s5 g0 g1 g2 g3 g4 g5 hW5 B5a K5
  obtain ⟨s0, s1, s2, s3, s4, s5, g0, g1, g2, g3, g4, g5⟩ := six_cells B5
  replace O5 := Lib.hid O5
  replace B5r := Lib.hid B5r
  replace B5 := Lib.hid B5
  go_upto_region 8 with fail
  obtain ⟨W7, hW7, O7, B7a, B7r, K7⟩ := own_puts O5.out (b := w.heap.size + 1 + 1) (by omega) (by omega) B5.out B5r.out [(0, .int .i64 c.semi), (1, .int .i64 c.semi), (2, .int .i64 0), (3, .int .i64 c.semi)]
  simp only [List.foldl] at hW7 B7a
  with_reducible rw [hW7]
  have B7 : Blk W7 (w.heap.size + 2) 39 #[.int .i64 c.semi, .int .i64 c.semi, .int .i64 0, .int .i64 c.semi, .int .i64 0, .int .i64 0] := by simpa using B7a
  replace c0 := (K7 ⟨w.heap.size, 0, none⟩ (by simp only []; omega)).trans c0
  replace c1 := (K7 ⟨w.heap.size, 1, none⟩ (by simp only []; omega)).trans c1
  clear s0 s1 s2 s3 s4 s5 g0 g1 g2 g3 g4 g5 hW7 B7a K7
  obtain ⟨s0, s1, s2, s3, s4, s5, g0, g1, g2, g3, g4, g5⟩ := six_cells B7
  obtain ⟨r0, r1, r2, r3, r4, r5, f0, f1, f2, f3, f4, f5⟩ := six_cells B7r
  replace O7 := Lib.hid O7
  replace B7r := Lib.hid B7r
  replace B7 := Lib.hid B7
  go_wp2
  obtain ⟨W6, hW6, O6, B6⟩ := own_sets O7.out (b := w.heap.size + 1 + 1) (by omega) (by omega) B7r.out [(4, .int .i64 (2 * c.semi)), (5, .int .i64 c.large)]
  simp only [List.foldl] at hW6
  with_reducible rw [hW6]
  obtain ⟨W4, hW4, O4, B4⟩ := res_six O6 (by omega) B6 (.int .i64 c.semi) (.int .i64 c.semi) (.int .i64 0) (.int .i64 c.semi) (.int .i64 (2 * c.semi)) (.int .i64 c.large)
  with_reducible rw [hW4]
  have h0 := B4.cell 0
  have h1 := B4.cell 1
  have h2 := B4.cell 2
  have h3 := B4.cell 3
  have h4 := B4.cell 4
  have h5 := B4.cell 5
  simp at h0 h1 h2 h3 h4 h5
  exact bodyPost_ret (v := .agg #[.int .i64 c.semi, .int .i64 c.semi, .int .i64 0, .int .i64 c.semi, .int .i64 (2 * c.semi), .int .i64 c.large]) (by simp [results, Try.results24, go_sem, h0, h1, h2, h3, h4, h5]) rfl ⟨by rw [HP.out], O4⟩
theorem parts_any (c : Cf) (s : Bool) (w : World) (hc : CFit c) : Calls Try.prog 24 #[.agg #[.int .i64 c.semi, .int .i64 c.large, .int .i64 c.slots, .int .i64 c.limit], .bool s] w fun e w' => e = .returned (partsV c s) ∧ Only nob w w' := by
  by_cases h : c.ok
  · by_cases hl : 0 < c.large <;> cases s
    · exact parts_fl c w hc h hl
    · exact parts_sl c w hc h hl
    · exact parts_fn c w hc h hl
    · exact parts_sn c w hc h hl
  · exact parts_no c s w hc h
end Go.Proofs.Ytmlpppcdammelaa
