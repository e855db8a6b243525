/- Contracts of package extent: Give, Right, Largest. -/
import Derived.Test.YtfcinjnpaphneaaExtProg
namespace Go.Proofs.Ytfcinjnpaphneaa
set_option maxRecDepth 100000
open Go.RowKit Go.Lib

/-- What Give tells. -/
def GaveT (l : List Sp) (s : Sp) (O : List Sp) (e : Int) : Prop :=
  (¬ s.ok ∧ O = l ∧ e = 1) ∨ (s.ok ∧ l.any (fun x => decide (Sp.meets x s)) = true ∧ O = l ∧ e = 16) ∨
  (s.ok ∧ l.any (fun x => decide (Sp.meets x s)) = false ∧ Joined O ∧ (∀ p, cov O p ↔ cov (l ++ [s]) p) ∧ e = 0)
def SpGive : Prop := ∀ (v : Value) (l : List Sp) (s : Sp) (B : Nat) (w : World), Sl w B 2 v l.length (spc l) → B ≤ w.heap.size → l.length ≤ 10000 → Fits l → Fit s →
  Calls Try.prog 13 #[v, .agg #[.int .i64 s.1, .int .i64 s.2]] w fun e w' => ∃ v' O c, e = .returned (.tuple #[v', .int .i64 c]) ∧ GaveT l s O c ∧ Sl w' w'.heap.size 2 v' O.length (spc O) ∧ Only nob w w'
theorem fits_app {l m : List Sp} (h : Fits l) (k : Fits m) : Fits (l ++ m) := fun x hx => (List.mem_append.1 hx).elim (h x) (k x)
theorem fits_one {s : Sp} (h : Fit s) : Fits [s] := fun x hx => by rw [List.mem_singleton.1 hx]; exact h

set_option maxHeartbeats 4000000 in
theorem spGive : SpGive := by
  intro v l s B w h hB hl hf hs
  have HA := Lib.hid h
  have HF := Lib.hid hf
  obtain ⟨A, ca, rfl, -, -⟩ := h.form
  have HB := Lib.hid (Blk.new w 23 #[.int .i64 s.1, .int .i64 s.2])
  have O0 := Lib.hid ((Only.refl nob w).alloc (.cells #[.int .i64 s.1, .int .i64 s.2] 23))
  clear h hf
  by_cases ho : s.ok
  · have HM := Lib.hid (decide_eq_true ho)
    have HOK := Lib.hid ho
    clear ho
    go_enter Try.func13, Try.ntmps13
    go_wp2_with fail
    go_at_call 20
    refine (spMay s hs _).mono ?_
    rw [HM.out]
    rintro e w1 ⟨rfl, o⟩
    have HB1 := Lib.hid (HB.out.keep o id)
    have O1 := Lib.hid (O0.out.trans o)
    clear o
    go_wp2_with fail
    go_at_call 16
    refine (containsFunc_any _ _ _ _ l B w1 (give1_pred hs HB1.out) (HA.out.below (O1.out.below hB fun _ h => h.elim)) (Nat.le_trans hB O1.out.size) HF.out).mono ?_
    obtain ⟨q, hq⟩ : ∃ q, q = l.any (fun x => decide (Sp.meets x s)) := ⟨_, rfl⟩
    have HQ := Lib.hid hq
    rw [← hq]
    clear hq
    rintro e w2 ⟨rfl, o⟩
    have HB2 := Lib.hid (HB1.out.keep o id)
    have O2 := Lib.hid (O1.out.trans o)
    clear o
    cases q with
    | true =>
      go_wp2_with fail
      go_at_call 22
      refine (clone_spans _ l B w2 (HA.out.below (O2.out.below hB fun _ h => h.elim)) (Nat.le_trans hB O2.out.size) (by omega)).mono ?_
      rintro e w3 ⟨v3, rfl, own, o⟩
      have S3 := Lib.hid (Sl.of_own own own.1)
      have O3 := Lib.hid (O2.out.trans o)
      clear own o
      go_wp2
      go_ret2
      exact ⟨v3, l, 16, rfl, .inr (.inl ⟨HOK.out, HQ.out.symm, rfl, rfl⟩), S3.out, O3.out⟩
    | false =>
      have c0 := HB2.out.cell 0
      have c1 := HB2.out.cell 1
      simp at c0 c1
      go_wp2_with fail
      go_at_call 29
      have O3 := ((Only.refl nob w2).alloc (.cells #[.int .i64 s.1, .int .i64 s.2] 23)).alloc (.cells #[.slice A l.length ca, .slice (some ⟨w2.heap.size, 0, none⟩) 1 1] 24)
      have HO3 := Lib.hid O3
      have HQ3 := Lib.hid (Blk.newAt (w2.alloc (.cells #[.int .i64 s.1, .int .i64 s.2] 23)) 24 #[.slice A l.length ca, .slice (some ⟨w2.heap.size, 0, none⟩) 1 1] (w2.heap.size + 1) (by simp))
      have HS3 := Lib.hid (Sl.of_blk (size := 2) (n := 1) (c := 1) ((Blk.new w2 23 #[.int .i64 s.1, .int .i64 s.2]).alloc (.cells #[.slice A l.length ca, .slice (some ⟨w2.heap.size, 0, none⟩) 1 1] 24)) rfl (Nat.le_refl _) (by decide))
      have HA3 := Lib.hid ((HA.out.below ((O2.out.trans O3).below hB fun _ h => h.elim)).more (Nat.le_trans hB (O2.out.trans O3).size))
      refine (concat_two (.slice A l.length ca) (.slice (some ⟨w2.heap.size, 0, none⟩) 1 1) l [s] _ (w2.heap.size + 1) _ HQ3.out HA3.out HS3.out (Nat.le_refl _) (by omega) (by simp)).mono ?_
      rintro e w4 ⟨v4, rfl, own4, o⟩
      have S4 := Lib.hid (Sl.of_own own4 own4.1)
      have O4 := Lib.hid (O2.out.trans (HO3.out.trans o))
      obtain ⟨A4, c4, rfl, -, -⟩ := own_len own4
      have hl4 : (l ++ [s]).length ≤ 40000 := by simp; omega
      have HF4 := Lib.hid (fits_app HF.out (fits_one hs))
      obtain ⟨m, hm⟩ : ∃ m, m = l ++ [s] := ⟨_, rfl⟩
      rw [← hm] at S4 hl4 HF4 ⊢
      have HM4 := Lib.hid hm
      clear own4 o hm O3 c0 c1
      go_wp2_with fail
      go_at_call 18
      refine (spJoin _ m w4.heap.size w4 S4.out (Nat.le_refl _) hl4 HF4.out).mono ?_
      rintro e w5 ⟨v5, O, rfl, hj, hc, hsl, o⟩
      have HJ := Lib.hid (And.intro hj hc)
      have S5 := Lib.hid hsl
      have O5 := Lib.hid (O4.out.trans o)
      clear hj hc hsl o
      go_wp2
      go_ret2
      exact ⟨v5, O, 0, rfl, .inr (.inr ⟨HOK.out, HQ.out.symm, HJ.out.1, by rw [← HM4.out]; exact HJ.out.2, rfl⟩), S5.out, O5.out⟩
  · have HM := Lib.hid (decide_eq_false ho)
    have HOK := Lib.hid ho
    clear ho
    go_enter Try.func13, Try.ntmps13
    go_wp2_with fail
    go_at_call 20
    refine (spMay s hs _).mono ?_
    rw [HM.out]
    rintro e w1 ⟨rfl, o⟩
    have O1 := Lib.hid (O0.out.trans o)
    clear o
    go_wp2_with fail
    go_at_call 22
    refine (clone_spans _ l B w1 (HA.out.below (O1.out.below hB fun _ h => h.elim)) (Nat.le_trans hB O1.out.size) (by omega)).mono ?_
    rintro e w3 ⟨v3, rfl, own, o⟩
    have S3 := Lib.hid (Sl.of_own own own.1)
    have O3 := Lib.hid (O1.out.trans o)
    clear own o
    go_wp2
    go_ret2
    exact ⟨v3, l, 1, rfl, .inl ⟨HOK.out, rfl, rfl⟩, S3.out, O3.out⟩

def SpRight : Prop := ∀ (all : Sp) (v : Value) (l : List Sp) (B : Nat) (w : World), Sl w B 2 v l.length (spc l) → B ≤ w.heap.size → l.length ≤ 10000 → Fits l → Fit all →
  Calls Try.prog 6 #[.agg #[.int .i64 all.1, .int .i64 all.2], v] w fun e w' => e = .returned (.bool (decide (RightP all l))) ∧ Only nob w w'
theorem any_within {all : Sp} {l : List Sp} : l.any (fun x => !decide (Sp.within x all)) = false ↔ ∀ x ∈ l, Sp.within x all := by
  rw [List.any_eq_false]
  constructor
  · intro h x hx
    by_cases hw : Sp.within x all
    · exact hw
    · exact absurd (by simpa using hw) (h x hx)
  · intro h x hx
    simpa using h x hx
set_option maxHeartbeats 4000000 in
theorem spRight : SpRight := by
  intro all v l B w h hB hl hf ha
  have HA := Lib.hid h
  have HF := Lib.hid hf
  obtain ⟨A, ca, rfl, -, -⟩ := h.form
  have HB := Lib.hid (Blk.new w 23 #[.int .i64 all.1, .int .i64 all.2])
  have O0 := Lib.hid ((Only.refl nob w).alloc (.cells #[.int .i64 all.1, .int .i64 all.2] 23))
  clear h hf
  obtain ⟨q, hq⟩ : ∃ q, q = l.any (fun x => !decide (Sp.within x all)) := ⟨_, rfl⟩
  have HQ := Lib.hid hq
  clear hq
  cases q with
  | true =>
    have HK := Lib.hid (show decide (RightP all l) = false from decide_eq_false fun h => by have := any_within.2 h.1; rw [← HQ.out] at this; cases this)
    go_enter Try.func6, Try.ntmps6
    go_wp2_with fail
    go_at_call 16
    refine (containsFunc_any _ _ _ _ l B _ (right1_pred ha HB.out) (HA.out.below (O0.out.below hB fun _ h => h.elim)) (Nat.le_trans hB O0.out.size) HF.out).mono ?_
    rw [← HQ.out]
    rintro e w1 ⟨rfl, o⟩
    have O1 := Lib.hid (O0.out.trans o)
    clear o
    go_wp2
    go_ret
    exact ⟨ret_bool (by rw [HK.out]), O1.out⟩
  | false =>
    have HW := Lib.hid (any_within.1 HQ.out.symm)
    go_enter Try.func6, Try.ntmps6
    go_wp2_with fail
    go_at_call 16
    refine (containsFunc_any _ _ _ _ l B _ (right1_pred ha HB.out) (HA.out.below (O0.out.below hB fun _ h => h.elim)) (Nat.le_trans hB O0.out.size) HF.out).mono ?_
    rw [← HQ.out]
    rintro e w1 ⟨rfl, o⟩
    have O1 := Lib.hid (O0.out.trans o)
    clear o
    go_wp2_with fail
    go_at_call 18
    refine (spJoin _ l B w1 (HA.out.below (O1.out.below hB fun _ h => h.elim)) (Nat.le_trans hB O1.out.size) (by omega) HF.out).mono ?_
    rintro e w2 ⟨v2, O, rfl, hj, hc, hsl, o⟩
    have HE := Lib.hid (right_iff hj hc)
    have S2 := Lib.hid hsl
    have O2 := Lib.hid (O1.out.trans o)
    clear hj hc hsl o
    go_wp2_with fail
    go_at_call 17
    refine (equal_any _ _ l O B _ w2 (HA.out.below (O2.out.below hB fun _ h => h.elim)) S2.out).mono ?_
    rw [HE.out]
    obtain ⟨j, hj⟩ : ∃ j, j = decide (Joined l) := ⟨_, rfl⟩
    rw [← hj]
    have HK := Lib.hid (show decide (RightP all l) = j by
      rw [hj, Bool.eq_iff_iff, decide_eq_true_iff, decide_eq_true_iff]
      exact ⟨fun h => h.2, fun h => ⟨HW.out, h⟩⟩)
    clear hj
    rintro e w3 ⟨rfl, o⟩
    have O3 := Lib.hid (O2.out.trans o)
    clear o
    go_wp2
    go_ret
    exact ⟨ret_bool (by rw [HK.out]), O3.out⟩

def SpLargest : Prop := ∀ (v : Value) (l : List Sp) (B : Nat) (w : World), Sl w B 2 v l.length (spc l) → B ≤ w.heap.size → l.length ≤ 10000 → Fits l →
  Calls Try.prog 8 #[v] w fun e w' => e = .returned (.int .i64 (largest l)) ∧ Only nob w w'
set_option maxHeartbeats 2000000 in
theorem spLargest : SpLargest := by
  intro v l B w h hB hl hf
  have HA := Lib.hid h
  have HF := Lib.hid hf
  obtain ⟨A, ca, rfl, hac, ham, -⟩ := h
  unfold maxLen at ham
  clear hf
  go_enter Try.func8, Try.ntmps8
  go_wp2_with fail
  go_loopw [3, 5, 8] (fun n _ i wr => ∃ (k : Nat) (t : Int), k ≤ l.length ∧ i = .int .i64 k ∧ n = .int .i64 t ∧ Hid (t = largest (l.take k)) ∧ Hid (Only nob w wr)) (fun _ _ i _ => l.length - (intOf i).toNat)
  case atStart => exact ⟨0, 0, Nat.zero_le _, rfl, rfl, by rw [List.take_zero]; rfl, Only.refl _ _⟩
  case round =>
    obtain ⟨k, t, hk, rfl, rfl, HT, HX⟩ := hrel
    by_cases hlt : k < l.length
    · obtain ⟨x, hx⟩ : ∃ x, l[k]? = some x := ⟨_, List.getElem?_eq_getElem hlt⟩
      obtain ⟨b, q, rfl, hb, d0, d1⟩ := sl_span HA.out (HX.out.below hB fun _ h => h.elim) hx
      have HXX := Lib.hid hx
      have HBX := Lib.hid (Blk.new wr 23 #[.int .i64 x.1, .int .i64 x.2])
      have O0 := Lib.hid ((Only.refl nob wr).alloc (.cells #[.int .i64 x.1, .int .i64 x.2] 23))
      clear hx
      by_cases ho : x.ok
      · have HM := Lib.hid (decide_eq_true ho)
        have HE := Lib.hid (largest_yes HXX.out ho)
        clear ho
        go_wp2_with fail
        go_at_call 20
        refine (spMay x (HF.out.get HXX.out) _).mono ?_
        rw [HM.out]
        rintro e w2 ⟨rfl, o⟩
        have O2 := Lib.hid (HX.out.trans (O0.out.trans o))
        have c1 := o.keeps (HBX.out.cell 1)
        simp at c1
        clear o d0 d1
        go_wp2
        go_roundw
        case rel => exact ⟨k + 1, _, by omega, by go_num, rfl, by rw [HE.out, ← HT.out]; rfl, O2.out⟩
        case measure => simp [intOf]; omega
      · have HM := Lib.hid (decide_eq_false ho)
        have HE := Lib.hid (largest_no HXX.out ho)
        clear ho
        go_wp2_with fail
        go_at_call 20
        refine (spMay x (HF.out.get HXX.out) _).mono ?_
        rw [HM.out]
        rintro e w2 ⟨rfl, o⟩
        have O2 := Lib.hid (HX.out.trans (O0.out.trans o))
        clear o d0 d1
        go_wp2
        go_roundw
        case rel => exact ⟨k + 1, _, by omega, by go_num, rfl, by rw [HE.out]; exact HT.out, O2.out⟩
        case measure => simp [intOf]; omega
    · obtain rfl : k = l.length := by omega
      have HK := Lib.hid (show t = largest l by rw [HT.out, List.take_length])
      go_wp2
      go_ret
      exact ⟨ret_i64 HK.out, HX.out⟩
end Go.Proofs.Ytfcinjnpaphneaa
