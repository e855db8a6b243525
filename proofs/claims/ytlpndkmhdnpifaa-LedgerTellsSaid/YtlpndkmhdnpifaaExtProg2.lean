/- Contracts of package extent: Give, Right, Largest. -/
import Derived.Test.YtlpndkmhdnpifaaExtProg
namespace Go.Proofs.Ytlpndkmhdnpifaa
set_option maxRecDepth 100000
open Go.RowKit Go.Lib

/-- What Give tells. -/
def GaveT (l : List Sp) (s : Sp) (O : List Sp) (e : Int) : Prop :=
  (¬ s.ok ∧ O = l ∧ e = 1) ∨ (s.ok ∧ l.any (fun x => decide (Sp.meets x s)) = true ∧ O = l ∧ e = 16) ∨
  (s.ok ∧ l.any (fun x => decide (Sp.meets x s)) = false ∧ Joined O ∧ (∀ p, cov O p ↔ cov (l ++ [s]) p) ∧ e = 0)
def SpGive : Prop := ∀ (v : Value) (l : List Sp) (s : Sp) (B : Nat) (w : World), Sl w B 2 v l.length (spc l) → B ≤ w.heap.size → l.length ≤ 10000 → Fits l → Fit s →
  Calls Try.prog 19 #[v, .agg #[.int .i64 s.1, .int .i64 s.2]] w fun e w' => ∃ v' O c, e = .returned (.tuple #[v', .int .i64 c]) ∧ GaveT l s O c ∧ Sl w' w'.heap.size 2 v' O.length (spc O) ∧ Only nob w w'
theorem fits_app {l m : List Sp} (h : Fits l) (k : Fits m) : Fits (l ++ m) := fun x hx => (List.mem_append.1 hx).elim (h x) (k x)
theorem fits_one {s : Sp} (h : Fit s) : Fits [s] := fun x hx => by rw [List.mem_singleton.1 hx]; exact h

set_option maxHeartbeats 4000000 in
theorem spGive : SpGive := by
  intro v l s B w h hB hl hf hs
  have HA := Lib.hid h
  have HF := Lib.hid hf
  obtain ⟨A, ca, rfl, -, -⟩ := h.form
  have HB := Lib.hid (Blk.new w 24 #[.int .i64 s.1, .int .i64 s.2])
  have O0 := Lib.hid ((Only.refl nob w).alloc (.cells #[.int .i64 s.1, .int .i64 s.2] 24))
  clear h hf
  by_cases ho : s.ok
  · have HM := Lib.hid (decide_eq_true ho)
    have HOK := Lib.hid ho
    clear ho
    go_enter Try.func19, Try.ntmps19
    go_wp2_with fail
    go_at_call 21
    refine (spMay s hs _).mono ?_
    rw [HM.out]
    rintro e w1 ⟨rfl, o⟩
    have HB1 := Lib.hid (HB.out.keep o id)
    have O1 := Lib.hid (O0.out.trans o)
    clear o
    go_wp2_with fail
    go_at_call 24
    refine (containsFunc_any _ _ _ _ l B w1 (give1_pred hs HB1.out) (HA.out.below (O1.out.below hB fun _ h => h.elim)) (Nat.le_trans hB O1.out.size) HF.out).mono ?_
    obtain ⟨q, hq⟩ : ∃ q, q = l.any (fun x => decide (Sp.meets x s)) := ⟨_, rfl⟩
    have HQ := Lib.hid hq
    rw [← hq]
    clear hq
    rintro e w2 ⟨rfl, o⟩
    have HB2 := Lib.hid (HB1.out.keep o id)
    have O2 := Lib.hid (O1.out.trans o)
    clear o
    cases q with
    | true =>
      go_wp2_with fail
      go_at_call 20
      refine (clone_spans _ l B w2 (HA.out.below (O2.out.below hB fun _ h => h.elim)) (Nat.le_trans hB O2.out.size) (by omega)).mono ?_
      rintro e w3 ⟨v3, rfl, own, o⟩
      have S3 := Lib.hid (Sl.of_own own own.1)
      have O3 := Lib.hid (O2.out.trans o)
      clear own o
      go_wp2
      go_ret2
      exact ⟨v3, l, 16, rfl, .inr (.inl ⟨HOK.out, HQ.out.symm, rfl, rfl⟩), S3.out, O3.out⟩
    | false =>
      have c0 := HB2.out.cell 0
      have c1 := HB2.out.cell 1
      simp at c0 c1
      go_wp2_with fail
      go_at_call 48
      have O3 := ((Only.refl nob w2).alloc (.cells #[.int .i64 s.1, .int .i64 s.2] 24)).alloc (.cells #[.slice A l.length ca, .slice (some ⟨w2.heap.size, 0, none⟩) 1 1] 22)
      have HO3 := Lib.hid O3
      have HQ3 := Lib.hid (Blk.newAt (w2.alloc (.cells #[.int .i64 s.1, .int .i64 s.2] 24)) 22 #[.slice A l.length ca, .slice (some ⟨w2.heap.size, 0, none⟩) 1 1] (w2.heap.size + 1) (by simp))
      have HS3 := Lib.hid (Sl.of_blk (size := 2) (n := 1) (c := 1) ((Blk.new w2 24 #[.int .i64 s.1, .int .i64 s.2]).alloc (.cells #[.slice A l.length ca, .slice (some ⟨w2.heap.size, 0, none⟩) 1 1] 22)) rfl (Nat.le_refl _) (by decide))
      have HA3 := Lib.hid ((HA.out.below ((O2.out.trans O3).below hB fun _ h => h.elim)).more (Nat.le_trans hB (O2.out.trans O3).size))
      refine (concat_two (.slice A l.length ca) (.slice (some ⟨w2.heap.size, 0, none⟩) 1 1) l [s] _ (w2.heap.size + 1) _ HQ3.out HA3.out HS3.out (Nat.le_refl _) (by omega) (by simp)).mono ?_
      rintro e w4 ⟨v4, rfl, own4, o⟩
      have S4 := Lib.hid (Sl.of_own own4 own4.1)
      have O4 := Lib.hid (O2.out.trans (HO3.out.trans o))
      obtain ⟨A4, c4, rfl, -, -⟩ := own_len own4
      have hl4 : (l ++ [s]).length ≤ 40000 := by simp; omega
      have HF4 := Lib.hid (fits_app HF.out (fits_one hs))
      obtain ⟨m, hm⟩ : ∃ m, m = l ++ [s] := ⟨_, rfl⟩
      rw [← hm] at S4 hl4 HF4 ⊢
      have HM4 := Lib.hid hm
      clear own4 o hm O3 c0 c1
      go_wp2_with fail
      go_at_call 47
      refine (spJoin _ m w4.heap.size w4 S4.out (Nat.le_refl _) hl4 HF4.out).mono ?_
      rintro e w5 ⟨v5, O, rfl, hj, hc, hsl, o⟩
      have HJ := Lib.hid (And.intro hj hc)
      have S5 := Lib.hid hsl
      have O5 := Lib.hid (O4.out.trans o)
      clear hj hc hsl o
      go_wp2
      go_ret2
      exact ⟨v5, O, 0, rfl, .inr (.inr ⟨HOK.out, HQ.out.symm, HJ.out.1, by rw [← HM4.out]; exact HJ.out.2, rfl⟩), S5.out, O5.out⟩
  · have HM := Lib.hid (decide_eq_false ho)
    have HOK := Lib.hid ho
    clear ho
    go_enter Try.func19, Try.ntmps19
    go_wp2_with fail
    go_at_call 21
    refine (spMay s hs _).mono ?_
    rw [HM.out]
    rintro e w1 ⟨rfl, o⟩
    have O1 := Lib.hid (O0.out.trans o)
    clear o
    go_wp2_with fail
    go_at_call 20
    refine (clone_spans _ l B w1 (HA.out.below (O1.out.below hB fun _ h => h.elim)) (Nat.le_trans hB O1.out.size) (by omega)).mono ?_
    rintro e w3 ⟨v3, rfl, own, o⟩
    have S3 := Lib.hid (Sl.of_own own own.1)
    have O3 := Lib.hid (O1.out.trans o)
    clear own o
    go_wp2
    go_ret2
    exact ⟨v3, l, 1, rfl, .inl ⟨HOK.out, rfl, rfl⟩, S3.out, O3.out⟩

theorem any_within {all : Sp} {l : List Sp} : l.any (fun x => !decide (Sp.within x all)) = false ↔ ∀ x ∈ l, Sp.within x all := by
  rw [List.any_eq_false]
  constructor
  · intro h x hx
    by_cases hw : Sp.within x all
    · exact hw
    · exact absurd (by simpa using hw) (h x hx)
  · intro h x hx
    simpa using h x hx
end Go.Proofs.Ytlpndkmhdnpifaa
