/- The walks of LedgerTells and LedgerMoves. -/
import Derived.Test.YtlpndkmhdnpifaaLedLaw1
namespace Go.Proofs.Ytlpndkmhdnpifaa
set_option maxRecDepth 100000
open Go.RowKit Go.Lib Go.Sort

theorem spanBox11 (w : World) (x : Sp) : ∃ W, (w.alloc (.cells #[.int .i64 x.1, .int .i64 x.2] 24)) = W ∧ Hid (Only nob w W ∧ W.cell? ⟨w.heap.size, 0, none⟩ = some (.int .i64 x.1) ∧ W.cell? ⟨w.heap.size, 1, none⟩ = some (.int .i64 x.2)) :=
  ⟨_, rfl, (Only.refl nob w).alloc _, by simp, by simp⟩

set_option maxHeartbeats 2000000 in
theorem ledgerTells_small (x : Sp) (v u : Value) (l m : List Sp) (w : World) (h : Sl w w.heap.size 2 v l.length (spc l)) (k : Sl w w.heap.size 2 u m.length (spc m)) (hx : Fit x) (hf : Fits l) (hl : l.length ≤ 100) (hm : m.length ≤ 100) :
    Calls Try.prog 4 #[.agg #[.int .i64 x.1, .int .i64 x.2], v, u] w fun e w' => e = .returned (.bool true) ∧ Below w.heap.size w w' := by
  obtain ⟨W, hW, HB⟩ := spanBox11 w x
  have HWE := Lib.hid hW
  have hsz : w.heap.size ≤ W.heap.size := HB.out.1.size
  have hS : ∀ n os, Sl (wat W n os) w.heap.size 2 v l.length (spc l) := fun n os => h.below ((HB.out.1.trans (only_wat W n os)).whole)
  have hU : ∀ n os, Sl (wat W n os) w.heap.size 2 u m.length (spc m) := fun n os => k.below ((HB.out.1.trans (only_wat W n os)).whole)
  have hZ : ∀ n os, w.heap.size ≤ (wat W n os).heap.size := fun n os => Nat.le_trans hsz (only_wat W n os).size
  obtain ⟨A, ca, rfl, -, -⟩ := h.form
  obtain ⟨A', ca', rfl, -, -⟩ := k.form
  obtain ⟨q, hq⟩ : ∃ q, q = decide (TableP x l m) := ⟨_, rfl⟩
  have H1 := Lib.hid (show ∀ (n : Nat) (os : Array Obj), Calls Try.prog 16 #[.agg #[.int .i64 x.1, .int .i64 x.2], .slice A l.length ca, .slice A' m.length ca'] (wat W n os) fun e w' => e = .returned (.bool q) ∧ Only nob (wat W n os) w' from fun n os => by
    rw [hq]; exact spTable x _ _ l m _ _ (hS n os) (hU n os) (hZ n os) (by omega) hf hx)
  have H2 := Lib.hid (show ∀ (n : Nat) (os : Array Obj), Calls Try.prog 17 #[.agg #[.int .i64 x.1, .int .i64 x.2], .slice A l.length ca, .slice A' m.length ca'] (wat W n os) fun e w' => e = .returned (.bool q) ∧ Only nob (wat W n os) w' from fun n os => by
    rw [hq]; exact rTable x _ _ l m _ _ (hS n os) (hU n os) (hZ n os) (by omega))
  have H5 := Lib.hid (show ∀ (n : Nat) (os : Array Obj), Calls Try.prog 6 #[] (wat W n os) fun e w' => e = .returned (.bool true) ∧ Only nob (wat W n os) w' from fun n os => awake11_any _)
  clear hq hS hU hZ hW h k hf
  go_enter Try.func4, Try.ntmps4
  go_wp2_with fail
  rw [HWE.out]
  have g0 := wat_cell HB.out.2.1
  have g1 := wat_cell HB.out.2.2
  refine wp_region_only mixedLed (by kernel_rfl) ?_
  repeat (quiet_step (first
    | (go_at_call 16; with_reducible refine wat_call (H1.out _ _))
    | (go_at_call 17; with_reducible refine wat_call (H2.out _ _))
    | (go_at_call 6; with_reducible refine wat_call (H5.out _ _))))
  refine wpQuiet_nil ?_
  rintro w' ⟨⟨nq, osq⟩, rfl⟩
  obtain ⟨W3, hW3, O4⟩ := wat_name W nq osq
  rw [hW3]
  clear hW3 g0 g1
  have O5 := Lib.hid (HB.out.1.trans O4.out)
  go_wp2
  go_ret
  exact ⟨rfl, O5.out.whole⟩
set_option maxHeartbeats 400000 in
theorem ledgerTells_big (x : Sp) (A A' : Option Addr) (n c n' c' : Nat) (w : World) (hn : 100 < n ∨ 100 < n') :
    Calls Try.prog 4 #[.agg #[.int .i64 x.1, .int .i64 x.2], .slice A n c, .slice A' n' c'] w fun e w' => e = .returned (.bool true) ∧ Below w.heap.size w w' := by
  by_cases h1 : 100 < n
  case' pos => clear hn
  case' neg =>
    have h2 : 100 < n' := by omega
    clear hn
  all_goals
    go_enter Try.func4, Try.ntmps4
    go_wp2_with fail
    go_at_call 6
    refine (awake11_any _).mono ?_
    rintro e w1 ⟨rfl, o⟩
    have O1 := Lib.hid (((Only.refl nob w).alloc _).trans o)
    clear o
    go_wp2
    go_ret
    exact ⟨rfl, O1.out.whole⟩
theorem ledgerTells_walk (x : Sp) (v u : Value) (l m : List Sp) (w : World) (h : Sl w w.heap.size 2 v l.length (spc l)) (k : Sl w w.heap.size 2 u m.length (spc m)) (hx : Fit x) (hf : Fits l) :
    Calls Try.prog 4 #[.agg #[.int .i64 x.1, .int .i64 x.2], v, u] w fun e w' => e = .returned (.bool true) ∧ Below w.heap.size w w' := by
  by_cases hl : l.length ≤ 100
  · by_cases hm : m.length ≤ 100
    · exact ledgerTells_small x v u l m w h k hx hf hl hm
    · obtain ⟨A, c, rfl, -⟩ := h
      obtain ⟨A', c', rfl, -⟩ := k
      exact ledgerTells_big x A A' _ c _ c' w (by omega)
  · obtain ⟨A, c, rfl, -⟩ := h
    obtain ⟨A', c', rfl, -⟩ := k
    exact ledgerTells_big x A A' _ c _ c' w (by omega)

set_option maxHeartbeats 400000 in
theorem ledgerMoves_big (s : Sp) (A : Option Addr) (n c : Nat) (a : Int) (w : World) (hn : 100 < n) :
    Calls Try.prog 3 #[.slice A n c, .agg #[.int .i64 s.1, .int .i64 s.2], .int .i64 a] w fun e w' => e = .returned (.bool true) ∧ Below w.heap.size w w' := by
  go_enter Try.func3, Try.ntmps3
  go_wp2_with fail
  go_at_call 6
  refine (awake11_any _).mono ?_
  rintro e w1 ⟨rfl, o⟩
  have O1 := Lib.hid (((Only.refl nob w).alloc _).trans o)
  clear o
  go_wp2
  go_ret
  exact ⟨rfl, O1.out.whole⟩

set_option maxHeartbeats 8000000 in
theorem ledgerMoves_small (s : Sp) (v : Value) (l : List Sp) (a : Int) (w : World) (h : Sl w w.heap.size 2 v l.length (spc l)) (hs : Fit s) (hf : Fits l) (hl : l.length ≤ 100) (ha1 : -9223372036854775808 ≤ a) (ha2 : a ≤ 9223372036854775807) :
    Calls Try.prog 3 #[v, .agg #[.int .i64 s.1, .int .i64 s.2], .int .i64 a] w fun e w' => e = .returned (.bool true) ∧ Below w.heap.size w w' := by
  obtain ⟨i0, hi0, hz0, hz1, hz2⟩ := info_parts info_span
  obtain ⟨W, hW, HB⟩ := spanBox11 w s
  have HWE := Lib.hid hW
  have HA := Lib.hid h
  have HF := Lib.hid hf
  obtain ⟨A, ca, rfl, hac, ham⟩ := h.form
  unfold maxLen at ham
  obtain ⟨la, ea, hT⟩ : ∃ la ea, addT l s = (la, ea) := ⟨_, _, rfl⟩
  have HT := Lib.hid hT
  obtain ⟨ld, xd, ed, hD⟩ : ∃ ld xd ed, dropT l a = (ld, xd, ed) := ⟨_, _, _, rfl⟩
  have HD := Lib.hid hD
  obtain ⟨fd, hfd⟩ : ∃ fd, fd = findT l a := ⟨_, rfl⟩
  have HFD := Lib.hid hfd
  obtain ⟨od, hod⟩ : ∃ od, od = ofT l a := ⟨_, rfl⟩
  have HOD := Lib.hid hod
  clear hW h hf hT hD hfd hod
  go_enter Try.func3, Try.ntmps3
  go_upto_region 1 with fail
  rw [HWE.out]
  go_wp2_with (with_reducible refine wpList_append_sl (o := ⟨some 25, _, _, _, _, _⟩) _ rfl (.tmp 23) (.tmp 24) _ rfl W.heap.size 24 i0 _ 2 16 Try.underlying22 hi0 hz0 hz1 hz2 rfl (by decide) (.slice (some ⟨W.heap.size, 0, none⟩) 0 0) 0 [] rfl ?c1 w.heap.size (.slice A l.length ca) l.length (spc l) rfl ?c2 (spc_one _) ?c3 ?c4 ?c5 ?c6)
  case c1 => exact lit_own W _ _
  case c2 => exact HA.out.below (HB.out.1.alloc _).whole
  case c3 => unfold maxLen; omega
  case c4 => omega
  case c5 => simp
  case c6 =>
    intro v1 w1 H1 o1 _
    have o1' := lit_only o1
    have O1 := Lib.hid (HB.out.1.trans o1')
    have S1 := Lib.hid (show Sl w1 w1.heap.size 2 v1 l.length (spc l) by
      have := Sl.of_own H1.out H1.out.1
      simpa using this)
    have X1 := Lib.hid (And.intro (o1'.keeps HB.out.2.1) (o1'.keeps HB.out.2.2))
    obtain ⟨A1, c1', rfl, -, hc1⟩ := S1.out.form
    unfold maxLen at hc1
    obtain ⟨x0, x1⟩ := X1.out
    clear H1 o1 o1'
    go_wp2_with fail
    go_at_call 7
    refine (spAdd _ l s _ w1 S1.out (Nat.le_refl _) (by omega) HF.out hs).mono ?_
    rw [HT.out]
    rintro e w2 ⟨va, rfl, hsa, o⟩
    have O2 := Lib.hid (O1.out.trans o)
    have SA := Lib.hid (show Sl w2 w2.heap.size 2 va la.length (spc la) from hsa)
    have S2 := Lib.hid (sl_top S1.out o (Nat.le_refl _))
    have X2 := Lib.hid (And.intro (o.keeps X1.out.1) (o.keeps X1.out.2))
    clear o hsa x0 x1
    obtain ⟨x0, x1⟩ := X2.out
    go_wp2_with fail
    go_at_call 8
    refine (rAdd _ l s _ w2 (HA.out.below O2.out.whole) O2.out.size (by omega)).mono ?_
    unfold RAddP
    rw [HT.out]
    rintro e w3 ⟨vb, rfl, hsb, o⟩
    have O3 := Lib.hid (O2.out.trans o)
    have SB := Lib.hid (show Sl w3 w3.heap.size 2 vb la.length (spc la) from hsb)
    have SA3 := Lib.hid (sl_top SA.out o (Nat.le_refl _))
    have S3 := Lib.hid (sl_top S2.out o (Nat.le_refl _))
    clear o hsb x0 x1
    go_wp2_with fail
    go_at_call 9
    refine (spDrop _ l a _ w3 S3.out (Nat.le_refl _) (by omega) HF.out).mono ?_
    rw [HD.out]
    rintro e w4 ⟨vc, rfl, hsc, o⟩
    obtain ⟨W4, hW4, HB4⟩ := spanBox11 w4 xd
    have HWE4 := Lib.hid hW4
    have o4 := o.trans HB4.out.1
    have O4 := Lib.hid (O3.out.trans o4)
    have SC := Lib.hid (sl_top (show Sl w4 w4.heap.size 2 vc ld.length (spc ld) from hsc) HB4.out.1 (Nat.le_refl _))
    have SA4 := Lib.hid (sl_top SA3.out o4 (Nat.le_refl _))
    have SB4 := Lib.hid (sl_top SB.out o4 (Nat.le_refl _))
    have S4 := Lib.hid (sl_top S3.out o4 (Nat.le_refl _))
    clear o o4 hsc hW4
    go_wp2_with fail
    go_at_call 10
    rw [HWE4.out]
    refine (rDrop _ l a _ W4 (HA.out.below O4.out.whole) O4.out.size (by omega)).mono ?_
    unfold DropP
    rw [HD.out]
    rintro e w5 ⟨vd, rfl, hsd, o⟩
    obtain ⟨W5, hW5, HB5⟩ := spanBox11 w5 xd
    have HWE5 := Lib.hid hW5
    have o5 := o.trans HB5.out.1
    have O5 := Lib.hid (O4.out.trans o5)
    have SD := Lib.hid (sl_top (show Sl w5 w5.heap.size 2 vd ld.length (spc ld) from hsd) HB5.out.1 (Nat.le_refl _))
    have SC5 := Lib.hid (sl_top SC.out o5 (Nat.le_refl _))
    have SA5 := Lib.hid (sl_top SA4.out o5 (Nat.le_refl _))
    have SB5 := Lib.hid (sl_top SB4.out o5 (Nat.le_refl _))
    have S5 := Lib.hid (sl_top S4.out o5 (Nat.le_refl _))
    have Y5 := Lib.hid (And.intro (o5.keeps HB4.out.2.1) (o5.keeps HB4.out.2.2))
    have hne : w4.heap.size ≠ w5.heap.size := by have h1 := HB4.out.2.1; have h2 := o.size; have h3 := World.block_lt_of_cell? _ _ h1; simp only at h3; omega
    clear o o5 hsd hW5 hne
    go_upto_region 8 with fail
    rw [HWE5.out]
    go_wp2_with fail
    go_at_call 11
    refine (refSameS_any _ _ la _ _ W5 SA5.out SB5.out).mono ?_
    rintro e w6 ⟨rfl, m6, rfl⟩
    go_wp2_with fail
    go_at_call 11
    refine (refSameS_any _ _ ld W5.heap.size W5.heap.size (W5.drewN m6) (SC5.out.heap rfl) (SD.out.heap rfl)).mono ?_
    rintro e w7 ⟨rfl, m7, rfl⟩
    obtain ⟨W7, hW7⟩ : ∃ W7, W7 = (W5.drewN m6).drewN m7 := ⟨_, rfl⟩
    have o7 : Only nob W5 W7 := by rw [hW7]; exact ((Only.refl nob W5).drewN _).drewN _
    have y0 : W7.cell? ⟨w4.heap.size, 0, none⟩ = some (.int .i64 xd.1) := o7.keeps Y5.out.1
    have y1 : W7.cell? ⟨w4.heap.size, 1, none⟩ = some (.int .i64 xd.2) := o7.keeps Y5.out.2
    have z0 : W7.cell? ⟨w5.heap.size, 0, none⟩ = some (.int .i64 xd.1) := o7.keeps HB5.out.2.1
    have z1 : W7.cell? ⟨w5.heap.size, 1, none⟩ = some (.int .i64 xd.2) := o7.keeps HB5.out.2.2
    have O7 := Lib.hid (O5.out.trans o7)
    have S7 := Lib.hid (sl_top S5.out o7 (Nat.le_refl _))
    rw [← hW7]
    clear hW7 o7
    go_wp2_with fail
    go_at_call 12
    refine (spFind _ l a _ _ (HA.out.below O7.out.whole) O7.out.size HF.out).mono ?_
    rw [← HFD.out]
    rintro e w8 ⟨rfl, o⟩
    have O8 := Lib.hid (O7.out.trans o)
    have S8 := Lib.hid (sl_top S7.out o (Nat.le_refl _))
    clear o y0 y1 z0 z1
    go_wp2_with fail
    go_at_call 13
    refine (rFind _ l a _ _ (HA.out.below O8.out.whole)).mono ?_
    rw [← HFD.out]
    rintro e w9 ⟨rfl, rfl⟩
    go_wp2_with fail
    go_at_call 14
    refine (spOf _ l a _ _ (HA.out.below O8.out.whole) O8.out.size HF.out ha1 ha2).mono ?_
    rw [← HOD.out]
    rintro e w10 ⟨rfl, o⟩
    have O10 := Lib.hid (O8.out.trans o)
    have S10 := Lib.hid (sl_top S8.out o (Nat.le_refl _))
    clear o
    go_wp2_with fail
    go_at_call 15
    refine (rOf _ l a _ _ (HA.out.below O10.out.whole) O10.out.size).mono ?_
    rw [← HOD.out]
    rintro e w11 ⟨rfl, o⟩
    have O11 := Lib.hid (O10.out.trans o)
    have S11 := Lib.hid (sl_top S10.out o (Nat.le_refl _))
    clear o
    go_wp2_with fail
    go_at_call 11
    refine (refSameS_any _ _ l _ _ _ S11.out (HA.out.below O11.out.whole)).mono ?_
    rintro e w12 ⟨rfl, m12, rfl⟩
    have O12 := Lib.hid (O11.out.drewN m12)
    go_wp2_with fail
    go_at_call 6
    refine (awake11_any _).mono ?_
    rintro e w13 ⟨rfl, o⟩
    have O13 := Lib.hid (O12.out.trans o)
    clear o
    go_wp2
    go_ret
    exact ⟨rfl, O13.out.whole⟩
theorem ledgerMoves_walk (v : Value) (l : List Sp) (s : Sp) (a : Int) (ha1 : -9223372036854775808 ≤ a) (ha2 : a ≤ 9223372036854775807) (w : World) (h : Sl w w.heap.size 2 v l.length (spc l)) (hs : Fit s) (hf : Fits l) :
    Calls Try.prog 3 #[v, .agg #[.int .i64 s.1, .int .i64 s.2], .int .i64 a] w fun e w' => e = .returned (.bool true) ∧ Below w.heap.size w w' := by
  by_cases hl : l.length ≤ 100
  · exact ledgerMoves_small s v l a w h hs hf hl ha1 ha2
  · obtain ⟨A, c, rfl, -⟩ := h
    exact ledgerMoves_big s A _ c a w (by omega)
end Go.Proofs.Ytlpndkmhdnpifaa
