/- Contracts of package bump, further: the exported calls, of a bump and of nobody's. -/
import Derived.Test.YtpgkmjkickkieaaBumpA
namespace Go.Proofs.Ytpgkmjkickkieaa
open Go.RowKit Go.Sort

set_option maxHeartbeats 400000 in
theorem bNew_yes (x : Sp) (w : World) (hx : x.ok) :
    Calls Try.prog 7 #[.agg #[.int .i64 x.1, .int .i64 x.2]] w fun e w' => ∃ b, e = .returned (.tuple #[.pointer (some ⟨b, 0, none⟩), .int .i64 0]) ∧ w.heap.size ≤ b ∧ Bm w' b x x.1 ∧ Only nob w w' := by
  have HM := Lib.hid hx
  have HB := Lib.hid (BoxAt.new w x)
  have HO := Lib.hid ((Only.refl nob w).alloc (.cells #[.int .i64 x.1, .int .i64 x.2] 23))
  clear hx
  go_enter Try.func7, Try.ntmps7
  go_wp2_with fail
  go_at_call 16
  refine (may_yes HM.out _).mono ?_
  rintro e w1 ⟨rfl, g⟩
  have HB1 := Lib.hid (HB.out.grw g)
  have HO1 := Lib.hid (HO.out.trans g.only)
  clear g
  obtain ⟨c0, c1⟩ := HB1.out
  go_wp2
  go_ret2
  have hok := HM.out
  exact ⟨w1.heap.size, rfl, HO1.out.size, ⟨Blk.new _ _ _, hok, Int.le_refl _, by have := hok.2.1; omega⟩, HO1.out.alloc _⟩

set_option maxHeartbeats 400000 in
theorem bNew_no (x : Sp) (w : World) (hf : Fit x) (hx : ¬ x.ok) :
    Calls Try.prog 7 #[.agg #[.int .i64 x.1, .int .i64 x.2]] w fun e w' => e = .returned (.tuple #[.pointer none, .int .i64 1]) ∧ Only nob w w' := by
  have HM := Lib.hid hx
  have HB := Lib.hid (BoxAt.new w x)
  have HO := Lib.hid ((Only.refl nob w).alloc (.cells #[.int .i64 x.1, .int .i64 x.2] 23))
  clear hx
  go_enter Try.func7, Try.ntmps7
  go_wp2_with fail
  go_at_call 16
  refine (may_no hf HM.out _).mono ?_
  rintro e w1 ⟨rfl, g⟩
  have HO1 := Lib.hid (HO.out.trans g.only)
  clear g
  go_wp2
  go_ret2
  exact ⟨rfl, HO1.out⟩

theorem Bm.row {w : World} {b : Nat} {x : Sp} {t : Int} (h : Bm w b x t) : BRow x t := h.range

set_option maxHeartbeats 400000 in
theorem bTake_yes (b : Nat) (x : Sp) (t n : Int) (w : World) (h : Bm w b x t) (h1 : 1 ≤ n) (h2 : n ≤ x.2 - (t - x.1)) :
    Calls Try.prog 10 #[.pointer (some ⟨b, 0, none⟩), .int .i64 n] w fun e w' => e = .returned (.tuple #[.int .i64 t, .int .i64 0]) ∧ Bm w' b x (t + n) ∧ Only (isb b) w w' := by
  obtain ⟨r0, r1, r2, r3, r4, r5, r6⟩ := h.range
  have HH := Lib.hid h
  clear h
  go_enter Try.func10, Try.ntmps10
  go_wp2_with fail
  go_at_call 17
  refine (bNone_bm b x t _ HH.out).mono ?_
  rintro e w1 ⟨rfl, o⟩
  have H1 := Lib.hid (HH.out.old o)
  have O1 := Lib.hid o
  clear o
  obtain ⟨c0, c1, c2⟩ := H1.out.cells
  go_wp2_with fail
  go_at_call 18
  refine (bRoom_row x t _ HH.out.row).mono ?_
  rintro e w2 ⟨rfl, o⟩
  have H2 := Lib.hid (H1.out.old o)
  have O2 := Lib.hid (O1.out.trans o)
  clear o c0 c1 c2
  obtain ⟨c0, c1, c2⟩ := H2.out.cells
  have cz := H2.out.blk.free 2
  go_wp2
  go_ret2
  exact ⟨rfl, H2.out.set _ (by omega) (by omega), (O2.out.mono (G := isb b) fun _ _ h => h.elim).trans (only_set _ _ _ _)⟩

/-- Why so many words can't be taken. -/
def tno (n : Int) : Int := if n < 1 then 7 else 9
theorem tno_1 {n : Int} (h : n < 1) : tno n = 7 := if_pos h
theorem tno_2 {n : Int} (h : ¬ n < 1) : tno n = 9 := if_neg h

set_option maxHeartbeats 400000 in
theorem bTake_no (b : Nat) (x : Sp) (t n : Int) (w : World) (h : Bm w b x t) (h2 : n < 1 ∨ x.2 - (t - x.1) < n) :
    Calls Try.prog 10 #[.pointer (some ⟨b, 0, none⟩), .int .i64 n] w fun e w' => e = .returned (.tuple #[.int .i64 0, .int .i64 (tno n)]) ∧ Only nob w w' := by
  obtain ⟨r0, r1, r2, r3, r4, r5, r6⟩ := h.range
  have HH := Lib.hid h
  clear h
  by_cases hn : n < 1
  · have HT := Lib.hid (tno_1 hn)
    go_enter Try.func10, Try.ntmps10
    go_wp2_with fail
    go_at_call 17
    refine (bNone_bm b x t _ HH.out).mono ?_
    rintro e w1 ⟨rfl, o⟩
    have O1 := Lib.hid o
    clear o
    go_wp2
    go_ret2
    exact ⟨by rw [HT.out]; rfl, O1.out⟩
  · have HT := Lib.hid (tno_2 hn)
    have h3 : x.2 - (t - x.1) < n := by omega
    clear h2
    go_enter Try.func10, Try.ntmps10
    go_wp2_with fail
    go_at_call 17
    refine (bNone_bm b x t _ HH.out).mono ?_
    rintro e w1 ⟨rfl, o⟩
    have H1 := Lib.hid (HH.out.old o)
    have O1 := Lib.hid o
    clear o
    obtain ⟨c0, c1, c2⟩ := H1.out.cells
    go_wp2_with fail
    go_at_call 18
    refine (bRoom_row x t _ HH.out.row).mono ?_
    rintro e w2 ⟨rfl, o⟩
    have O2 := Lib.hid (O1.out.trans o)
    clear o c0 c1 c2
    go_wp2
    go_ret2
    exact ⟨by rw [HT.out]; rfl, O2.out⟩

set_option maxHeartbeats 400000 in
theorem bTop_bm (b : Nat) (x : Sp) (t : Int) (w : World) (h : Bm w b x t) :
    Calls Try.prog 12 #[.pointer (some ⟨b, 0, none⟩)] w fun e w' => e = .returned (.int .i64 t) ∧ Only nob w w' := by
  have HH := Lib.hid h
  clear h
  go_enter Try.func12, Try.ntmps12
  go_wp2_with fail
  go_at_call 17
  refine (bNone_bm b x t _ HH.out).mono ?_
  rintro e w1 ⟨rfl, o⟩
  have H1 := Lib.hid (HH.out.old o)
  have O1 := Lib.hid o
  clear o
  obtain ⟨c0, c1, c2⟩ := H1.out.cells
  go_wp2
  go_ret
  exact ⟨rfl, O1.out⟩

set_option maxHeartbeats 400000 in
theorem bUsed_bm (b : Nat) (x : Sp) (t : Int) (w : World) (h : Bm w b x t) :
    Calls Try.prog 11 #[.pointer (some ⟨b, 0, none⟩)] w fun e w' => e = .returned (.int .i64 (t - x.1)) ∧ Only nob w w' := by
  have HH := Lib.hid h
  clear h
  go_enter Try.func11, Try.ntmps11
  go_wp2_with fail
  go_at_call 17
  refine (bNone_bm b x t _ HH.out).mono ?_
  rintro e w1 ⟨rfl, o⟩
  have H1 := Lib.hid (HH.out.old o)
  have O1 := Lib.hid o
  clear o
  obtain ⟨c0, c1, c2⟩ := H1.out.cells
  go_wp2_with fail
  go_at_call 19
  refine (bUsed_row x t _ HH.out.row).mono ?_
  rintro e w2 ⟨rfl, o⟩
  have O2 := Lib.hid (O1.out.trans o)
  clear o c0 c1 c2
  go_wp2
  go_ret
  exact ⟨rfl, O2.out⟩

set_option maxHeartbeats 400000 in
theorem bRoom_bm (b : Nat) (x : Sp) (t : Int) (w : World) (h : Bm w b x t) :
    Calls Try.prog 13 #[.pointer (some ⟨b, 0, none⟩)] w fun e w' => e = .returned (.int .i64 (x.2 - (t - x.1))) ∧ Only nob w w' := by
  have HH := Lib.hid h
  clear h
  go_enter Try.func13, Try.ntmps13
  go_wp2_with fail
  go_at_call 17
  refine (bNone_bm b x t _ HH.out).mono ?_
  rintro e w1 ⟨rfl, o⟩
  have H1 := Lib.hid (HH.out.old o)
  have O1 := Lib.hid o
  clear o
  obtain ⟨c0, c1, c2⟩ := H1.out.cells
  go_wp2_with fail
  go_at_call 18
  refine (bRoom_row x t _ HH.out.row).mono ?_
  rintro e w2 ⟨rfl, o⟩
  have O2 := Lib.hid (O1.out.trans o)
  clear o c0 c1 c2
  go_wp2
  go_ret
  exact ⟨rfl, O2.out⟩

set_option maxHeartbeats 400000 in
theorem bBack_yes (b : Nat) (x : Sp) (t u : Int) (w : World) (h : Bm w b x t) (h1 : x.1 ≤ u) (h2 : u ≤ t) :
    Calls Try.prog 9 #[.pointer (some ⟨b, 0, none⟩), .int .i64 u] w fun e w' => e = .returned (.int .i64 0) ∧ Bm w' b x u ∧ Only (isb b) w w' := by
  obtain ⟨r0, r1, r2, r3, r4, r5, r6⟩ := h.range
  have HH := Lib.hid h
  clear h
  go_enter Try.func9, Try.ntmps9
  go_wp2_with fail
  go_at_call 17
  refine (bNone_bm b x t _ HH.out).mono ?_
  rintro e w1 ⟨rfl, o⟩
  have H1 := Lib.hid (HH.out.old o)
  have O1 := Lib.hid o
  clear o
  obtain ⟨c0, c1, c2⟩ := H1.out.cells
  have cz := H1.out.blk.free 2
  have d1 : decide (u < x.1) = false := by simp; omega
  have d2 : decide (t < u) = false := by simp; omega
  go_wp2
  go_ret
  exact ⟨rfl, H1.out.set _ (by omega) (by omega), (O1.out.mono (G := isb b) fun _ _ h => h.elim).trans (only_set _ _ _ _)⟩

set_option maxHeartbeats 400000 in
theorem bBack_no (b : Nat) (x : Sp) (t u : Int) (w : World) (h : Bm w b x t) (h2 : u < x.1 ∨ t < u) :
    Calls Try.prog 9 #[.pointer (some ⟨b, 0, none⟩), .int .i64 u] w fun e w' => e = .returned (.int .i64 2) ∧ Only nob w w' := by
  obtain ⟨r0, r1, r2, r3, r4, r5, r6⟩ := h.range
  have HH := Lib.hid h
  clear h
  by_cases hl : u < x.1
  case' pos => have d1 : decide (u < x.1) = true := by simp; omega
  case' neg =>
    have d1 : decide (u < x.1) = false := by simp; omega
    have d2 : decide (t < u) = true := by simp; omega
  all_goals
    clear h2
    go_enter Try.func9, Try.ntmps9
    go_wp2_with fail
    go_at_call 17
    refine (bNone_bm b x t _ HH.out).mono ?_
    rintro e w1 ⟨rfl, o⟩
    have H1 := Lib.hid (HH.out.old o)
    have O1 := Lib.hid o
    clear o
    obtain ⟨c0, c1, c2⟩ := H1.out.cells
    go_wp2
    go_ret
    exact ⟨rfl, O1.out⟩
end Go.Proofs.Ytpgkmjkickkieaa
