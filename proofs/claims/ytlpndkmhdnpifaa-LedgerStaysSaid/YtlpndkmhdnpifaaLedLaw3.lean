/- The walk of LedgerStays. -/
import Derived.Test.YtlpndkmhdnpifaaLedLaw2
namespace Go.Proofs.Ytlpndkmhdnpifaa
set_option maxRecDepth 100000
open Go.RowKit Go.Lib Go.Sort

set_option maxHeartbeats 400000 in
theorem ledgerStays_big (x : Sp) (A : Option Addr) (u : Value) (len c : Nat) (n a : Int) (w : World) (hn : 100 < len) :
    Calls Try.prog 5 #[.agg #[.int .i64 x.1, .int .i64 x.2], .slice A len c, u, .int .i64 n, .int .i64 a] w fun e w' => e = .returned (.bool true) ∧ Below w.heap.size w w' := by
  go_enter Try.func5, Try.ntmps5
  go_wp2_with fail
  go_at_call 6
  refine (awake11_any _).mono ?_
  rintro e w1 ⟨rfl, o⟩
  have O1 := Lib.hid (((Only.refl nob w).alloc _).trans o)
  clear o
  go_wp2
  go_ret
  exact ⟨rfl, O1.out.whole⟩

set_option maxHeartbeats 1000000 in
theorem ledgerStays_wrong (x : Sp) (v u : Value) (l m : List Sp) (n a : Int) (w : World) (h : Sl w w.heap.size 2 v l.length (spc l)) (k : Sl w w.heap.size 2 u m.length (spc m)) (hx : Fit x) (hf : Fits l) (hl : l.length ≤ 100) (hr : ¬ TableP x l m) :
    Calls Try.prog 5 #[.agg #[.int .i64 x.1, .int .i64 x.2], v, u, .int .i64 n, .int .i64 a] w fun e w' => e = .returned (.bool true) ∧ Below w.heap.size w w' := by
  obtain ⟨W, hW, HB⟩ := spanBox11 w x
  have HWE := Lib.hid hW
  have HA := Lib.hid h
  have HU := Lib.hid k
  have HF := Lib.hid hf
  have HR := Lib.hid (decide_eq_false hr)
  obtain ⟨A, ca, rfl, -, -⟩ := h.form
  obtain ⟨A', ca', rfl, -, -⟩ := k.form
  have c0 := HB.out.2.1
  have c1 := HB.out.2.2
  clear hW h k hf hr
  go_enter Try.func5, Try.ntmps5
  go_upto_region 1 with fail
  rw [HWE.out]
  go_wp2_with fail
  go_at_call 16
  refine (spTable x _ _ l m _ _ (HA.out.below HB.out.1.whole) (HU.out.below HB.out.1.whole) HB.out.1.size (by omega) HF.out hx).mono ?_
  rw [HR.out]
  rintro e w1 ⟨rfl, o⟩
  have O1 := Lib.hid (HB.out.1.trans o)
  clear o c0 c1
  go_wp2_with fail
  go_at_call 6
  refine (awake11_any _).mono ?_
  rintro e w2 ⟨rfl, o⟩
  have O2 := Lib.hid (O1.out.trans o)
  clear o
  go_wp2
  go_ret
  exact ⟨rfl, O2.out.whole⟩

theorem stays_gave {x s : Sp} {l m O : List Sp} {a c : Int} {k : Nat} (h : TableP x l m) (hs : l[k]? = some s) (ha : s.1 = a) (hg : GaveT m s O c) : c = 0 ∧ TableP x (l.eraseIdx k) O := by
  obtain ⟨h1, h2, h3, -⟩ := table_gave h hs ha
  rcases hg with ⟨h4, -⟩ | ⟨-, h4, -⟩ | ⟨-, -, hj, hc, he⟩
  · exact absurd h1 h4
  · rw [h2] at h4; cases h4
  · exact ⟨he, h3 O hj hc⟩
theorem fits_ins {l : List Sp} {k : Nat} {s : Sp} (h : Fits l) (hs : Fit s) : Fits (insAt l k s) := fun y hy => by
  rcases insAt_mem.1 hy with rfl | hy
  · exact hs
  · exact h y hy
theorem fits_erase {l : List Sp} (h : Fits l) (k : Nat) : Fits (l.eraseIdx k) := fun y hy => h y (List.mem_of_mem_eraseIdx hy)

/-- Behind the first half: what is left. -/
structure Half (w W : World) (x : Sp) (g : Nat) : Prop where
  only : Only nob w W
  c0 : W.cell? ⟨g, 0, none⟩ = some (.int .i64 x.1)
  c1 : W.cell? ⟨g, 1, none⟩ = some (.int .i64 x.2)
theorem Half.on {w W W' : World} {x : Sp} {g : Nat} (h : Half w W x g) (o : Only nob W W') : Half w W' x g := ⟨h.only.trans o, o.keeps h.c0, o.keeps h.c1⟩

set_option maxHeartbeats 8000000 in
theorem ledgerStays_ok (x : Sp) (v u : Value) (l m : List Sp) (n a : Int) (w : World) (h : Sl w w.heap.size 2 v l.length (spc l)) (k : Sl w w.heap.size 2 u m.length (spc m)) (hx : Fit x) (hf : Fits l) (hl : l.length ≤ 100) (hr : TableP x l m) (hn1 : -9223372036854775808 ≤ n) (hn2 : n ≤ 9223372036854775807) :
    Calls Try.prog 5 #[.agg #[.int .i64 x.1, .int .i64 x.2], v, u, .int .i64 n, .int .i64 a] w fun e w' => e = .returned (.bool true) ∧ Below w.heap.size w w' := by
  obtain ⟨W, hW, HB⟩ := spanBox11 w x
  have HWE := Lib.hid hW
  have HA := Lib.hid h
  have HU := Lib.hid k
  have HF := Lib.hid hf
  have HRR := Lib.hid hr
  have HR := Lib.hid (decide_eq_true hr)
  have HFM := Lib.hid (Fits.joined hr.2.2.2.1)
  have hml : m.length ≤ 101 := by have := table_len hr; omega
  obtain ⟨A, ca, rfl, -, -⟩ := h.form
  obtain ⟨A', ca', rfl, -, -⟩ := k.form
  have c0 := HB.out.2.1
  have c1 := HB.out.2.2
  have HH := Lib.hid (show Half w W x w.heap.size from ⟨HB.out.1, c0, c1⟩)
  have hway := take_right (n := n) (table_right hr)
  clear hW h k hf hr
  go_enter Try.func5, Try.ntmps5
  go_upto_region 1 with fail
  rw [HWE.out]
  go_wp2_with fail
  go_at_call 16
  refine (spTable x _ _ l m _ _ (HA.out.below HH.out.only.whole) (HU.out.below HH.out.only.whole) HH.out.only.size (by omega) HF.out hx).mono ?_
  rw [HR.out]
  rintro e w1 ⟨rfl, o⟩
  have H1 := Lib.hid (HH.out.on o)
  clear o c0 c1
  rcases hway with ⟨-, e0, ht, he⟩ | ⟨h1, h2, f, st, ht, hT⟩
  case' inl =>
    have HT := Lib.hid ht
    clear ht
    have hne : (e0 == 0) = false := by rcases he with rfl | rfl <;> rfl
    clear he
    go_wp2_with fail
    go_at_call 18
    refine (spTake _ m n _ _ (HU.out.below H1.out.only.whole) H1.out.only.size (by omega) HFM.out hn1 hn2).mono ?_
    rw [HT.out]
    rintro e w2 ⟨va, rfl, -, o⟩
    have H4 := Lib.hid (H1.out.on o)
    clear o
  case' inr =>
    have HT := Lib.hid ht
    have HTK := Lib.hid hT
    obtain ⟨ha, hb, hc⟩ := table_took HRR.out hT
    have HADD := Lib.hid ha
    have HTB := Lib.hid (decide_eq_true hb)
    have hok := hT.ok
    have hfl : f.length ≤ 101 := Nat.le_trans hT.len hml
    have HFS := Lib.hid (fits_ins (k := placeT l st) HF.out (Fit.of_ok hok))
    have hFS := Fit.of_ok hok
    have hil : (insAt l (placeT l st) (st, n)).length ≤ 101 := by rw [insAt_len _ (placeT_le _ _)]; omega
    obtain ⟨q, hq⟩ : ∃ q, q = insAt l (placeT l st) (st, n) := ⟨_, rfl⟩
    rw [← hq] at HADD HTB HFS hil hc
    obtain ⟨fi, hfi⟩ : ∃ fi, fi = findT q st := ⟨_, rfl⟩
    have HFI := Lib.hid hfi
    rw [← hfi] at hc
    clear ht hT ha hb hq hfi hok
    go_wp2_with fail
    go_at_call 18
    refine (spTake _ m n _ _ (HU.out.below H1.out.only.whole) H1.out.only.size (by omega) HFM.out hn1 hn2).mono ?_
    rw [HT.out]
    rintro e w2 ⟨va, rfl, hs, o⟩
    have H2 := Lib.hid (H1.out.on o)
    have SF := Lib.hid (show Sl w2 w2.heap.size 2 va f.length (spc f) from hs)
    clear hs o
    go_wp2_with fail
    go_at_call 7
    refine (spAdd _ l (st, n) _ _ (HA.out.below H2.out.only.whole) H2.out.only.size (by omega) HF.out hFS).mono ?_
    rw [HADD.out]
    rintro e w3 ⟨vt, rfl, hs, o⟩
    have H3 := Lib.hid (H2.out.on o)
    have SF3 := Lib.hid (sl_top SF.out o (Nat.le_refl _))
    have SQ3 := Lib.hid (show Sl w3 w3.heap.size 2 vt q.length (spc q) from hs)
    have c0 := H3.out.c0
    have c1 := H3.out.c1
    clear hs o
    go_wp2_with fail
    go_at_call 16
    refine (spTable x _ _ q f _ _ SQ3.out SF3.out (Nat.le_refl _) (by omega) HFS.out hx).mono ?_
    rw [HTB.out]
    rintro e w4 ⟨rfl, o⟩
    have H3b := Lib.hid (H3.out.on o)
    have SQ4 := Lib.hid (sl_top SQ3.out o (Nat.le_refl _))
    clear o c0 c1
    go_wp2_with fail
    go_at_call 12
    refine (spFind _ q st _ _ SQ4.out (Nat.le_refl _) HFS.out).mono ?_
    rw [← HFI.out]
    rintro e w5 ⟨rfl, o⟩
    have H4 := Lib.hid (H3b.out.on o)
    clear o
  all_goals
    clear H1 HH HB
    obtain ⟨fd, hfd⟩ : ∃ fd, fd = findT l a := ⟨_, rfl⟩
    have HFD := Lib.hid hfd
    clear hfd
    by_cases hfl : fd < 0
    · have HD := Lib.hid (dropT_none (l := l) (a := a) (by rw [← HFD.out]; exact hfl))
      go_wp2_with fail
      go_at_call 9
      refine (spDrop _ l a _ _ (HA.out.below H4.out.only.whole) H4.out.only.size (by omega) HF.out).mono ?_
      rw [HD.out]
      rintro e w6 ⟨vc, rfl, -, o⟩
      obtain ⟨W6, hW6, HB6⟩ := spanBox11 w6 (0, 0)
      have HWE6 := Lib.hid hW6
      have H6 := Lib.hid (H4.out.on (o.trans HB6.out.1))
      clear o hW6
      go_wp2_with fail
      go_at_call 12
      rw [HWE6.out]
      refine (spFind _ l a _ _ (HA.out.below H6.out.only.whole) H6.out.only.size HF.out).mono ?_
      rw [← HFD.out]
      rintro e w7 ⟨rfl, o⟩
      have H7 := Lib.hid (H6.out.on o)
      clear o
      go_wp2_with fail
      go_at_call 6
      refine (awake11_any _).mono ?_
      rintro e w8 ⟨rfl, o⟩
      have O8 := Lib.hid (H7.out.only.trans o)
      clear o
      go_wp2
      go_ret
      exact ⟨ret_bool (by simp; omega), O8.out.whole⟩
    · obtain ⟨k, s, hk, hs, hsa, hd⟩ := dropT_some (l := l) (a := a) (by rw [← HFD.out]; exact hfl)
      rw [← HFD.out] at hk
      obtain rfl := hk
      have HD := Lib.hid hd
      have HS := Lib.hid hs
      have HSA := Lib.hid hsa
      obtain ⟨hok, -, -, hgone⟩ := table_gave HRR.out hs hsa
      have hfs := Fit.of_ok hok
      have HFE := Lib.hid (fits_erase HF.out k)
      obtain ⟨le, hle⟩ : ∃ le, le = l.eraseIdx k := ⟨_, rfl⟩
      have hel : le.length ≤ 100 := by rw [hle, List.length_eraseIdx]; split <;> omega
      have HLE := Lib.hid hle
      rw [← hle] at HD hgone HFE
      obtain ⟨fe, hfe⟩ : ∃ fe, fe = findT le a := ⟨_, rfl⟩
      have HFEE := Lib.hid hfe
      rw [← hfe] at hgone
      have hk0 : (0 : Int) ≤ (k : Int) := by omega
      clear hd hs hsa hok hle hfe
      go_wp2_with fail
      go_at_call 9
      refine (spDrop _ l a _ _ (HA.out.below H4.out.only.whole) H4.out.only.size (by omega) HF.out).mono ?_
      rw [HD.out]
      rintro e w6 ⟨vc, rfl, hst, o⟩
      obtain ⟨W6, hW6, HB6⟩ := spanBox11 w6 s
      have HWE6 := Lib.hid hW6
      have H6 := Lib.hid (H4.out.on (o.trans HB6.out.1))
      have SE := Lib.hid (sl_top (show Sl w6 w6.heap.size 2 vc le.length (spc le) from hst) HB6.out.1 (Nat.le_refl _))
      have y0 := HB6.out.2.1
      have y1 := HB6.out.2.2
      clear o hW6 hst
      go_upto_region 9 with fail
      rw [HWE6.out]
      go_wp2_with fail
      go_at_call 19
      refine (spGive _ m s _ _ (HU.out.below H6.out.only.whole) H6.out.only.size (by omega) HFM.out hfs).mono ?_
      rintro e w7 ⟨ve, O, c, rfl, hg, hso, o⟩
      obtain ⟨rfl, hTE⟩ := stays_gave HRR.out HS.out HSA.out hg
      rw [← HLE.out] at hTE
      have HTE := Lib.hid (decide_eq_true hTE)
      have H7 := Lib.hid (H6.out.on o)
      have SO := Lib.hid hso
      have SE7 := Lib.hid (sl_top SE.out o (Nat.le_refl _))
      have c0 := H7.out.c0
      have c1 := H7.out.c1
      clear hg hso o hTE y0 y1
      go_wp2_with fail
      go_at_call 16
      refine (spTable x _ _ le O _ _ SE7.out SO.out (Nat.le_refl _) (by omega) HFE.out hx).mono ?_
      rw [HTE.out]
      rintro e w8 ⟨rfl, o⟩
      have H8 := Lib.hid (H7.out.on o)
      have SE8 := Lib.hid (sl_top SE7.out o (Nat.le_refl _))
      clear o c0 c1
      go_wp2_with fail
      go_at_call 12
      refine (spFind _ le a _ _ SE8.out (Nat.le_refl _) HFE.out).mono ?_
      rw [← HFEE.out]
      rintro e w9 ⟨rfl, o⟩
      have H9 := Lib.hid (H8.out.on o)
      clear o
      go_wp2_with fail
      go_at_call 12
      refine (spFind _ l a _ _ (HA.out.below H9.out.only.whole) H9.out.only.size HF.out).mono ?_
      rw [← HFD.out]
      rintro e w10 ⟨rfl, o⟩
      have H10 := Lib.hid (H9.out.on o)
      clear o
      go_wp2_with fail
      go_at_call 6
      refine (awake11_any _).mono ?_
      rintro e w11 ⟨rfl, o⟩
      have O11 := Lib.hid (H10.out.only.trans o)
      clear o
      go_wp2
      go_ret
      exact ⟨rfl, O11.out.whole⟩
theorem ledgerStays_walk (x : Sp) (v u : Value) (l m : List Sp) (n a : Int) (hn1 : -9223372036854775808 ≤ n) (hn2 : n ≤ 9223372036854775807) (w : World) (h : Sl w w.heap.size 2 v l.length (spc l)) (k : Sl w w.heap.size 2 u m.length (spc m)) (hx : Fit x) (hf : Fits l) :
    Calls Try.prog 5 #[.agg #[.int .i64 x.1, .int .i64 x.2], v, u, .int .i64 n, .int .i64 a] w fun e w' => e = .returned (.bool true) ∧ Below w.heap.size w w' := by
  by_cases hl : l.length ≤ 100
  · by_cases hr : TableP x l m
    · exact ledgerStays_ok x v u l m n a w h k hx hf hl hr hn1 hn2
    · exact ledgerStays_wrong x v u l m n a w h k hx hf hl hr
  · obtain ⟨A, c, rfl, -⟩ := h
    exact ledgerStays_big x A u _ c n a w (by omega)
end Go.Proofs.Ytlpndkmhdnpifaa
