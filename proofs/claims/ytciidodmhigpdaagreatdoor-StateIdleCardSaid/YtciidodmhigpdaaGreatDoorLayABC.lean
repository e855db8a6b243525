/- The walk of LayoutTells, out of the contracts of package layout. -/
import Derived.Test.YtciidodmhigpdaaGreatDoorRef04L
import Derived.Test.YtciidodmhigpdaaGreatDoorSpanBase
namespace Go.Proofs.YtciidodmhigpdaaGreatDoor
open Go.RowKit Go.Sort

theorem CBox.all {W : World} {b : Nat} {c : Cf} (h : CBox W b c) : (∀ n os, (wat W n os).cell? ⟨b, 0, none⟩ = some (.int .i64 c.semi)) ∧ (∀ n os, (wat W n os).cell? ⟨b, 1, none⟩ = some (.int .i64 c.large)) ∧ (∀ n os, (wat W n os).cell? ⟨b, 2, none⟩ = some (.int .i64 c.slots)) ∧ (∀ n os, (wat W n os).cell? ⟨b, 3, none⟩ = some (.int .i64 c.limit)) :=
  ⟨wat_cell h.c0, wat_cell h.c1, wat_cell h.c2, wat_cell h.c3⟩
theorem mixedL : Tryz.prog.follows .mixedOrders = true := by kernel_rfl

end Go.Proofs.YtciidodmhigpdaaGreatDoor

/- The walk of LayoutParts, out of the contracts of packages layout and span. -/
namespace Go.Proofs.YtciidodmhigpdaaGreatDoor
open Go.RowKit Go.Sort

/-- A config's parts, as the statement lists them. -/
def cParts (c : Cf) (s : Bool) : List Sp := [cFrom c s, cTo c s] ++ if 0 < c.large then [cLarge c] else []
def cntP (l : List Sp) (p : Int) : Int := (l.filter fun x => decide (x.has p)).length
theorem cntP_next {l : List Sp} {k : Nat} {x : Sp} (h : l[k]? = some x) (p : Int) : cntP (l.take (k + 1)) p = cntP (l.take k) p + if x.has p then 1 else 0 := by
  unfold cntP
  rw [take_snoc_get h, List.filter_append, List.length_append]
  by_cases hp : x.has p <;> simp [hp]
theorem cntP_lo (l : List Sp) (p : Int) : 0 ≤ cntP l p ∧ cntP l p ≤ l.length := by
  unfold cntP
  have := List.length_filter_le (fun x : Sp => decide (x.has p)) l
  omega
theorem parts_facts {c : Cf} (h : c.ok) (s : Bool) : ∃ a b : Int, ((a = 0 ∧ b = c.semi) ∨ (a = c.semi ∧ b = 0)) ∧ cFrom c s = (a, c.semi) ∧ cTo c s = (b, c.semi) ∧ cLarge c = (if 0 < c.large then (c.semi + c.semi, c.large) else (0, 0)) ∧ cWords c = c.semi + c.semi + c.large := by
  have hl : cLarge c = (if 0 < c.large then (c.semi + c.semi, c.large) else (0, 0)) := by
    unfold cLarge
    have := h.2.2.1
    by_cases hq : 0 < c.large
    · rw [if_pos hq, if_pos ⟨h, by omega⟩]
    · rw [if_neg hq, if_neg (fun q => q.2 (by omega))]
  have hw : cWords c = c.semi + c.semi + c.large := by unfold cWords; rw [if_pos h]
  cases s
  · exact ⟨0, c.semi, .inl ⟨rfl, rfl⟩, by simp [cFrom, cHalf, h], by simp [cTo, cFrom, cHalf, h], hl, hw⟩
  · exact ⟨c.semi, 0, .inr ⟨rfl, rfl⟩, by simp [cFrom, cHalf, h], by simp [cTo, cFrom, cHalf, h], hl, hw⟩
theorem has_iff' (a s p : Int) (h : 0 ≤ a) (h1 : 1 ≤ s) (h2 : a ≤ 100000) (h3 : s ≤ 100000) : Sp.has (a, s) p ↔ a ≤ p ∧ p < a + s := by
  unfold Sp.has Sp.ok most; simp only; omega
theorem ok_small (a s : Int) (h : 0 ≤ a) (h1 : 1 ≤ s) (h2 : a ≤ 100000) (h3 : s ≤ 100000) : Sp.ok (a, s) := by unfold Sp.ok most; simp only; omega
structure PartsAre (c : Cf) (s : Bool) : Prop where
  ok : ∀ x ∈ cParts c s, Sp.ok x
  apart : ApartL (cParts c s)
  words : ∀ p, cov (cParts c s) p ↔ 0 ≤ p ∧ p < cWords c
  count : ∀ p, cntP (cParts c s) p = if 0 ≤ p ∧ p < cWords c then 1 else 0
  whole : Joined [(0, cWords c)]
  wholeWords : ∀ p, cov [(0, cWords c)] p ↔ 0 ≤ p ∧ p < cWords c
theorem parts_are {c : Cf} (h : c.ok) (s : Bool) : PartsAre c s := by
  obtain ⟨a, b, hab, hf, ht, hl, hw⟩ := parts_facts h s
  have hc := h
  unfold Cf.ok at hc
  have oa : Sp.ok (a, c.semi) := ok_small _ _ (by omega) (by omega) (by omega) (by omega)
  have ob : Sp.ok (b, c.semi) := ok_small _ _ (by omega) (by omega) (by omega) (by omega)
  have ow : Sp.ok (0, cWords c) := ok_small _ _ (by omega) (by omega) (by omega) (by omega)
  have ha := fun p => has_iff' a c.semi p (by omega) (by omega) (by omega) (by omega)
  have hb := fun p => has_iff' b c.semi p (by omega) (by omega) (by omega) (by omega)
  have hww := fun p => has_iff' 0 (cWords c) p (by omega) (by omega) (by omega) (by omega)
  have e : cParts c s = [(a, c.semi), (b, c.semi)] ++ if 0 < c.large then [(c.semi + c.semi, c.large)] else [] := by
    unfold cParts
    rw [hf, ht, hl]
    split <;> rfl
  have j1 : Joined [(0, cWords c)] := ⟨fun x hx => by rw [List.mem_singleton.1 hx]; exact ow, List.pairwise_singleton _ _⟩
  have j2 : ∀ p, cov [(0, cWords c)] p ↔ 0 ≤ p ∧ p < cWords c := fun p => by rw [cov_one, hww]; omega
  by_cases hq : 0 < c.large
  · rw [if_pos hq] at e
    have ol : Sp.ok (c.semi + c.semi, c.large) := ok_small _ _ (by omega) (by omega) (by omega) (by omega)
    have hlg := fun p => has_iff' (c.semi + c.semi) c.large p (by omega) (by omega) (by omega) (by omega)
    refine ⟨?_, ?_, fun p => ?_, fun p => ?_, j1, j2⟩
    · rw [e]; intro x hx; simp at hx; rcases hx with rfl | rfl | rfl <;> assumption
    · rw [e]
      refine ⟨by intro x hx; simp at hx; rcases hx with rfl | rfl | rfl <;> assumption, ?_⟩
      simp only [List.cons_append, List.nil_append, List.pairwise_cons, List.mem_cons, List.not_mem_nil, or_false, forall_eq_or_imp, forall_eq, List.Pairwise.nil, and_true, implies_true, false_imp_iff]
      refine ⟨⟨?_, ?_⟩, ?_⟩
      · rw [meets_lt ob oa]; rcases hab with ⟨rfl, rfl⟩ | ⟨rfl, rfl⟩ <;> simp only <;> omega
      · rw [meets_lt ol oa]; rcases hab with ⟨rfl, rfl⟩ | ⟨rfl, rfl⟩ <;> simp only <;> omega
      · rw [meets_lt ol ob]; rcases hab with ⟨rfl, rfl⟩ | ⟨rfl, rfl⟩ <;> simp only <;> omega
    · rw [e]; simp only [List.cons_append, List.nil_append, cov_cons, ha, hb, hlg]
      have := cov_nil p
      constructor
      · rintro (q | q | q | q)
        · omega
        · omega
        · omega
        · exact absurd q this
      · intro q
        rcases Int.lt_or_le p (c.semi + c.semi) with r | r
        · rcases Int.lt_or_le p c.semi with r' | r' <;> rcases hab with ⟨rfl, rfl⟩ | ⟨rfl, rfl⟩ <;> omega
        · exact .inr (.inr (.inl (by omega)))
    · rw [e]
      unfold cntP
      have d1 : decide (Sp.has (a, c.semi) p) = decide (a ≤ p ∧ p < a + c.semi) := decide_eq_decide.2 (ha p)
      have d2 : decide (Sp.has (b, c.semi) p) = decide (b ≤ p ∧ p < b + c.semi) := decide_eq_decide.2 (hb p)
      have d3 : decide (Sp.has (c.semi + c.semi, c.large) p) = decide (c.semi + c.semi ≤ p ∧ p < c.semi + c.semi + c.large) := decide_eq_decide.2 (hlg p)
      simp only [List.cons_append, List.nil_append, List.filter_cons, List.filter_nil, d1, d2, d3]
      rcases hab with ⟨rfl, rfl⟩ | ⟨rfl, rfl⟩ <;> (repeat' split) <;> simp_all <;> omega
  · rw [if_neg hq, List.append_nil] at e
    refine ⟨?_, ?_, fun p => ?_, fun p => ?_, j1, j2⟩
    · rw [e]; intro x hx; simp at hx; rcases hx with rfl | rfl <;> assumption
    · rw [e]
      refine ⟨by intro x hx; simp at hx; rcases hx with rfl | rfl <;> assumption, ?_⟩
      simp only [List.pairwise_cons, List.mem_cons, List.not_mem_nil, or_false, forall_eq, List.Pairwise.nil, and_true, implies_true, false_imp_iff]
      rw [meets_lt ob oa]; rcases hab with ⟨rfl, rfl⟩ | ⟨rfl, rfl⟩ <;> simp only <;> omega
    · rw [e]; simp only [cov_cons, ha, hb]
      have := cov_nil p
      constructor
      · rintro (q | q | q)
        · omega
        · omega
        · exact absurd q this
      · intro q
        have hz : p < c.semi + c.semi := by omega
        rcases Int.lt_or_le p c.semi with r' | r' <;> rcases hab with ⟨h1, h2⟩ | ⟨h1, h2⟩
        · exact .inl (by omega)
        · exact .inr (.inl (by omega))
        · exact .inr (.inl (by omega))
        · exact .inl (by omega)
    · rw [e]
      unfold cntP
      have d1 : decide (Sp.has (a, c.semi) p) = decide (a ≤ p ∧ p < a + c.semi) := decide_eq_decide.2 (ha p)
      have d2 : decide (Sp.has (b, c.semi) p) = decide (b ≤ p ∧ p < b + c.semi) := decide_eq_decide.2 (hb p)
      simp only [List.filter_cons, List.filter_nil, d1, d2]
      rcases hab with ⟨rfl, rfl⟩ | ⟨rfl, rfl⟩ <;> (repeat' split) <;> simp only [List.length_cons, List.length_nil, decide_eq_true_eq] at * <;> omega
end Go.Proofs.YtciidodmhigpdaaGreatDoor

/- Contracts of package layout: isIn, Check, Small. -/
namespace Go.Proofs.YtciidodmhigpdaaGreatDoor
open Go.RowKit Go.Sort

def isInB (n a b : Int) : Bool := decide (a ≤ n) && decide (n ≤ b)
theorem isInB_yes {n a b : Int} : isInB n a b = true ↔ a ≤ n ∧ n ≤ b := by unfold isInB; simp
theorem isInB_no {n a b : Int} : isInB n a b = false ↔ ¬ (a ≤ n ∧ n ≤ b) := by unfold isInB; simp
theorem lyIsIn_any (n a b : Int) (w : World) : Calls Tryz.prog 73 #[.int .i64 n, .int .i64 a, .int .i64 b] w fun e w' => e = .returned (.bool (isInB n a b)) ∧ w = w' := by
  by_cases h1 : a ≤ n
  · by_cases h2 : n ≤ b
    case' pos => have HK := Lib.hid (show isInB n a b = true by unfold isInB; simp [h1, h2])
    case' neg => have HK := Lib.hid (show isInB n a b = false by unfold isInB; simp [h2])
    all_goals
      go_enter Tryz.func73, Tryz.ntmps73
      go_wp2
      go_ret
      exact ⟨ret_bool (by rw [HK.out]), rfl⟩
  · have HK := Lib.hid (show isInB n a b = false by unfold isInB; simp [h1])
    go_enter Tryz.func73, Tryz.ntmps73
    go_wp2
    go_ret
    exact ⟨ret_bool (by rw [HK.out]), rfl⟩
theorem isIn_is {n a b : Int} {v : Bool} (h : isInB n a b = v) : Hid (∀ w : World, Calls Tryz.prog 73 #[.int .i64 n, .int .i64 a, .int .i64 b] w fun e w' => e = .returned (.bool v) ∧ Only nob w w') := by
  subst h
  exact fun w => (lyIsIn_any n a b w).mono fun _ _ ⟨h, e⟩ => ⟨h, e ▸ Only.refl nob w⟩

theorem check_ways (c : Cf) : (isInB c.semi 2 32768 = false ∧ decide c.ok = false) ∨ (isInB c.semi 2 32768 = true ∧ isInB c.large 0 32768 = false ∧ decide c.ok = false) ∨ (isInB c.semi 2 32768 = true ∧ isInB c.large 0 32768 = true ∧ isInB c.slots 1 1024 = false ∧ decide c.ok = false) ∨
    (isInB c.semi 2 32768 = true ∧ isInB c.large 0 32768 = true ∧ isInB c.slots 1 1024 = true ∧ isInB c.limit 1 c.semi = decide c.ok) := by
  have e : decide c.ok = (isInB c.semi 2 32768 && isInB c.large 0 32768 && isInB c.slots 1 1024 && isInB c.limit 1 c.semi) := by
    rw [Bool.eq_iff_iff]
    simp only [decide_eq_true_eq, Bool.and_eq_true, isInB_yes]
    unfold Cf.ok
    omega
  rw [e]
  cases isInB c.semi 2 32768 <;> cases isInB c.large 0 32768 <;> cases isInB c.slots 1 1024 <;> simp

set_option maxRecDepth 100000 in
set_option maxHeartbeats 4000000 in
theorem lyCheck : LyCheck := by
  intro c w hc
  obtain ⟨W, hWn, HB⟩ : ∃ W, (w.alloc (.cells #[.int .i64 c.semi, .int .i64 c.large, .int .i64 c.slots, .int .i64 c.limit] 23)) = W ∧ Hid (Only nob w W ∧ CBox W w.heap.size c) := ⟨_, rfl, only_box w c, CBox.new w c⟩
  have HWN := Lib.hid hWn
  clear hWn hc
  have ways := check_ways c
  obtain ⟨r, hr⟩ : ∃ r, decide c.ok = r := ⟨_, rfl⟩
  rw [hr] at ways ⊢
  clear hr
  rcases ways with ⟨h1, h⟩ | ⟨h1, h2, h⟩ | ⟨h1, h2, h3, h⟩ | ⟨h1, h2, h3, h4⟩
  · subst h
    replace h1 := isIn_is h1
    go_enter Tryz.func43, Tryz.ntmps43
    go_wp2_with fail
    rw [HWN.out]
    obtain ⟨c0, c1, c2, c3⟩ := HB.out.2
    go_wp2_with fail
    go_at_call 73
    refine (h1.out _).mono ?_
    rintro e w1 ⟨rfl, o⟩
    have O1 := Lib.hid (And.intro (HB.out.1.trans o) (HB.out.2.keep o))
    clear o c0 c1 c2 c3
    obtain ⟨c0, c1, c2, c3⟩ := O1.out.2
    go_wp2
    go_ret
    exact ⟨rfl, O1.out.1⟩
  · subst h
    replace h1 := isIn_is h1
    replace h2 := isIn_is h2
    go_enter Tryz.func43, Tryz.ntmps43
    go_wp2_with fail
    rw [HWN.out]
    obtain ⟨c0, c1, c2, c3⟩ := HB.out.2
    go_wp2_with fail
    go_at_call 73
    refine (h1.out _).mono ?_
    rintro e w1 ⟨rfl, o⟩
    have O1 := Lib.hid (And.intro (HB.out.1.trans o) (HB.out.2.keep o))
    clear o c0 c1 c2 c3
    obtain ⟨c0, c1, c2, c3⟩ := O1.out.2
    go_wp2_with fail
    go_at_call 73
    refine (h2.out _).mono ?_
    rintro e w2 ⟨rfl, o⟩
    have O2 := Lib.hid (And.intro (O1.out.1.trans o) (O1.out.2.keep o))
    clear o c0 c1 c2 c3
    obtain ⟨c0, c1, c2, c3⟩ := O2.out.2
    go_wp2
    go_ret
    exact ⟨rfl, O2.out.1⟩
  · subst h
    replace h1 := isIn_is h1
    replace h2 := isIn_is h2
    replace h3 := isIn_is h3
    go_enter Tryz.func43, Tryz.ntmps43
    go_wp2_with fail
    rw [HWN.out]
    obtain ⟨c0, c1, c2, c3⟩ := HB.out.2
    go_wp2_with fail
    go_at_call 73
    refine (h1.out _).mono ?_
    rintro e w1 ⟨rfl, o⟩
    have O1 := Lib.hid (And.intro (HB.out.1.trans o) (HB.out.2.keep o))
    clear o c0 c1 c2 c3
    obtain ⟨c0, c1, c2, c3⟩ := O1.out.2
    go_wp2_with fail
    go_at_call 73
    refine (h2.out _).mono ?_
    rintro e w2 ⟨rfl, o⟩
    have O2 := Lib.hid (And.intro (O1.out.1.trans o) (O1.out.2.keep o))
    clear o c0 c1 c2 c3
    obtain ⟨c0, c1, c2, c3⟩ := O2.out.2
    go_wp2_with fail
    go_at_call 73
    refine (h3.out _).mono ?_
    rintro e w3 ⟨rfl, o⟩
    have O3 := Lib.hid (And.intro (O2.out.1.trans o) (O2.out.2.keep o))
    clear o c0 c1 c2 c3
    obtain ⟨c0, c1, c2, c3⟩ := O3.out.2
    go_wp2
    go_ret
    exact ⟨rfl, O3.out.1⟩
  · replace h1 := isIn_is h1
    replace h2 := isIn_is h2
    replace h3 := isIn_is h3
    replace h4 := isIn_is h4
    go_enter Tryz.func43, Tryz.ntmps43
    go_wp2_with fail
    rw [HWN.out]
    obtain ⟨c0, c1, c2, c3⟩ := HB.out.2
    go_wp2_with fail
    go_at_call 73
    refine (h1.out _).mono ?_
    rintro e w1 ⟨rfl, o⟩
    have O1 := Lib.hid (And.intro (HB.out.1.trans o) (HB.out.2.keep o))
    clear o c0 c1 c2 c3
    obtain ⟨c0, c1, c2, c3⟩ := O1.out.2
    go_wp2_with fail
    go_at_call 73
    refine (h2.out _).mono ?_
    rintro e w2 ⟨rfl, o⟩
    have O2 := Lib.hid (And.intro (O1.out.1.trans o) (O1.out.2.keep o))
    clear o c0 c1 c2 c3
    obtain ⟨c0, c1, c2, c3⟩ := O2.out.2
    go_wp2_with fail
    go_at_call 73
    refine (h3.out _).mono ?_
    rintro e w3 ⟨rfl, o⟩
    have O3 := Lib.hid (And.intro (O2.out.1.trans o) (O2.out.2.keep o))
    clear o c0 c1 c2 c3
    obtain ⟨c0, c1, c2, c3⟩ := O3.out.2
    go_wp2_with fail
    go_at_call 73
    refine (h4.out _).mono ?_
    rintro e w4 ⟨rfl, o⟩
    have O4 := Lib.hid (And.intro (O3.out.1.trans o) (O3.out.2.keep o))
    clear o c0 c1 c2 c3
    obtain ⟨c0, c1, c2, c3⟩ := O4.out.2
    go_wp2
    go_ret
    exact ⟨rfl, O4.out.1⟩

set_option maxRecDepth 100000 in
set_option maxHeartbeats 4000000 in
theorem lySmall : LySmall := by
  intro c n w hc hn
  obtain ⟨W, hWn, HB⟩ : ∃ W, (w.alloc (.cells #[.int .i64 c.semi, .int .i64 c.large, .int .i64 c.slots, .int .i64 c.limit] 23)) = W ∧ Hid (Only nob w W ∧ CBox W w.heap.size c) := ⟨_, rfl, only_box w c, CBox.new w c⟩
  have HWN := Lib.hid hWn
  clear hWn
  have A1 := fun w => lyCheck c w hc
  have ways : (decide c.ok = false ∧ cSmall c n = false) ∨ (decide c.ok = true ∧ isInB n 1 c.limit = cSmall c n) := by
    unfold cSmall
    by_cases h : c.ok
    · refine .inr ⟨by simp [h], ?_⟩
      rw [Bool.eq_iff_iff]; simp [isInB_yes, h]; omega
    · exact .inl ⟨by simp [h], by simp [h]⟩
  obtain ⟨r, hr⟩ : ∃ r, cSmall c n = r := ⟨_, rfl⟩
  rw [hr] at ways ⊢
  clear hr hc hn
  rcases ways with ⟨h, h'⟩ | ⟨h, h'⟩
  · rw [h] at A1
    subst h'
    replace A1 := Lib.hid A1
    clear h
    go_enter Tryz.func103, Tryz.ntmps103
    go_wp2_with fail
    rw [HWN.out]
    obtain ⟨c0, c1, c2, c3⟩ := HB.out.2
    go_wp2_with fail
    go_at_call 43
    refine (A1.out _).mono ?_
    rintro e w1 ⟨rfl, o⟩
    have O1 := Lib.hid (And.intro (HB.out.1.trans o) (HB.out.2.keep o))
    clear o c0 c1 c2 c3
    obtain ⟨c0, c1, c2, c3⟩ := O1.out.2
    go_wp2
    go_ret
    exact ⟨rfl, O1.out.1⟩
  · rw [h] at A1
    have I1 := isIn_is h'
    clear h'
    replace A1 := Lib.hid A1
    clear h
    go_enter Tryz.func103, Tryz.ntmps103
    go_wp2_with fail
    rw [HWN.out]
    obtain ⟨c0, c1, c2, c3⟩ := HB.out.2
    go_wp2_with fail
    go_at_call 43
    refine (A1.out _).mono ?_
    rintro e w1 ⟨rfl, o⟩
    have O1 := Lib.hid (And.intro (HB.out.1.trans o) (HB.out.2.keep o))
    clear o c0 c1 c2 c3
    obtain ⟨c0, c1, c2, c3⟩ := O1.out.2
    go_wp2_with fail
    go_at_call 73
    refine (I1.out _).mono ?_
    rintro e w2 ⟨rfl, o⟩
    have O2 := Lib.hid (And.intro (O1.out.1.trans o) (O1.out.2.keep o))
    clear o c0 c1 c2 c3
    obtain ⟨c0, c1, c2, c3⟩ := O2.out.2
    go_wp2
    go_ret
    exact ⟨rfl, O2.out.1⟩
end Go.Proofs.YtciidodmhigpdaaGreatDoor

/- Contracts of package layout: parts. -/
namespace Go.Proofs.YtciidodmhigpdaaGreatDoor
open Go.RowKit Go.Sort

def zero6 : Array Value := #[.int .i64 0, .int .i64 0, .int .i64 0, .int .i64 0, .int .i64 0, .int .i64 0]
def cAgg (c : Cf) : Value := .agg #[.int .i64 c.semi, .int .i64 c.large, .int .i64 c.slots, .int .i64 c.limit]
/-- The world in which parts begins. -/
theorem parts_world (w : World) (c : Cf) : ∃ W, (((w.alloc (.cells #[.int .i64 c.semi, .int .i64 c.large, .int .i64 c.slots, .int .i64 c.limit] 23)).alloc (.cells #[.int .i64 0, .int .i64 0, .int .i64 0, .int .i64 0, .int .i64 0, .int .i64 0] 107)).alloc (.cells #[.int .i64 0, .int .i64 0, .int .i64 0, .int .i64 0, .int .i64 0, .int .i64 0] 107)) = W ∧
    Hid (Only nob w W ∧ CBox W w.heap.size c ∧ Blk W (w.heap.size + 1) 107 zero6 ∧ Blk W (w.heap.size + 2) 107 zero6) :=
  ⟨_, rfl, ((only_box w c).alloc _).alloc _, (CBox.new w c).keep (((Only.refl nob _).alloc _).alloc _), (Blk.newAt _ _ zero6 _ (by simp)).alloc _, Blk.newAt _ _ zero6 _ (by simp)⟩
theorem six_cells {w : World} {b : Nat} {t : TypeId} {x0 x1 x2 x3 x4 x5 : Value} (h : Blk w b t #[x0, x1, x2, x3, x4, x5]) : w.cell? ⟨b, 0, none⟩ = some x0 ∧ w.cell? ⟨b, 1, none⟩ = some x1 ∧ w.cell? ⟨b, 2, none⟩ = some x2 ∧ w.cell? ⟨b, 3, none⟩ = some x3 ∧ w.cell? ⟨b, 4, none⟩ = some x4 ∧ w.cell? ⟨b, 5, none⟩ = some x5 ∧
    w.frozen? ⟨b, 0, none⟩ = false ∧ w.frozen? ⟨b, 1, none⟩ = false ∧ w.frozen? ⟨b, 2, none⟩ = false ∧ w.frozen? ⟨b, 3, none⟩ = false ∧ w.frozen? ⟨b, 4, none⟩ = false ∧ w.frozen? ⟨b, 5, none⟩ = false :=
  ⟨h.cell 0, h.cell 1, h.cell 2, h.cell 3, h.cell 4, h.cell 5, h.free 0, h.free 1, h.free 2, h.free 3, h.free 4, h.free 5⟩
theorem only_set_new {w W : World} (o : Only nob w W) {p : Addr} (hp : w.heap.size ≤ p.block) (u : Value) : Only nob w (W.setCell p u) := o.setCell (fun h => absurd h (Nat.not_lt_of_le hp)) u
/-- Cells of a block of the call's own are written; another one stays. -/
theorem own_sets {w W : World} (o : Only nob w W) {b b' : Nat} {t : TypeId} {cs : Array Value} (hb : w.heap.size ≤ b) (hne : b ≠ b') (B : Blk W b' t cs) (l : List (Nat × Value)) :
    ∃ W4, l.foldl (fun W p => W.setCell ⟨b, p.1, none⟩ p.2) W = W4 ∧ Only nob w W4 ∧ Blk W4 b' t cs := by
  refine ⟨_, rfl, ?_⟩
  induction l generalizing W with
  | nil => exact ⟨o, B⟩
  | cons x l ih => exact ih (only_set_new o hb _) (B.other hne _)
/-- As own_sets, and what is written is known. -/
theorem own_puts {w W : World} (o : Only nob w W) {b b' : Nat} {t t' : TypeId} {cs cs' : Array Value} (hb : w.heap.size ≤ b) (hne : b ≠ b') (B : Blk W b t cs) (B' : Blk W b' t' cs') (l : List (Nat × Value)) :
    ∃ W4, l.foldl (fun W p => W.setCell ⟨b, p.1, none⟩ p.2) W = W4 ∧ Only nob w W4 ∧ Blk W4 b t (l.foldl (fun c p => c.setIfInBounds p.1 p.2) cs) ∧ Blk W4 b' t' cs' ∧ ∀ p : Addr, p.block ≠ b → W4.cell? p = W.cell? p := by
  refine ⟨_, rfl, ?_⟩
  induction l generalizing W cs with
  | nil => exact ⟨o, B, B', fun _ _ => rfl⟩
  | cons x l ih =>
    obtain ⟨h1, h2, h3, h4⟩ := ih (only_set_new o hb x.2) (B.put x.1 x.2) (B'.other (p := ⟨b, x.1, none⟩) hne x.2)
    exact ⟨h1, h2, h3, fun p hp => (h4 p hp).trans (World.cell?_of_block (Below.heap_setCell W ⟨b, x.1, none⟩ x.2 p.block hp))⟩
/-- Six cells of the call's own block are written, and it is handed back. -/
theorem res_six {w W : World} (o : Only nob w W) {b : Nat} {t : TypeId} (hb : w.heap.size ≤ b) (B : Blk W b t zero6) (x0 x1 x2 x3 x4 x5 : Value) :
    ∃ W4, ((((((W.setCell ⟨b, 0, none⟩ x0).setCell ⟨b, 1, none⟩ x1).setCell ⟨b, 2, none⟩ x2).setCell ⟨b, 3, none⟩ x3).setCell ⟨b, 4, none⟩ x4).setCell ⟨b, 5, none⟩ x5) = W4 ∧ Only nob w W4 ∧ Blk W4 b t #[x0, x1, x2, x3, x4, x5] := by
  refine ⟨_, rfl, only_set_new (only_set_new (only_set_new (only_set_new (only_set_new (only_set_new o hb _) hb _) hb _) hb _) hb _) hb _, ?_⟩
  simpa [zero6] using (((((B.put 0 x0).put 1 x1).put 2 x2).put 3 x3).put 4 x4).put 5 x5
/-- What parts hands back. -/
def partsV (c : Cf) (s : Bool) : Value := .agg #[.int .i64 (cFrom c s).1, .int .i64 (cFrom c s).2, .int .i64 (cTo c s).1, .int .i64 (cTo c s).2, .int .i64 (cLarge c).1, .int .i64 (cLarge c).2]
theorem parts_not {c : Cf} (h : ¬ c.ok) (s : Bool) : partsV c s = .agg #[.int .i64 0, .int .i64 0, .int .i64 0, .int .i64 0, .int .i64 0, .int .i64 0] := by
  unfold partsV cFrom cTo cFrom cHalf cLarge
  cases s <;> simp [h]
theorem parts_is {c : Cf} (h : c.ok) (s : Bool) : partsV c s = .agg #[.int .i64 (if s then c.semi else 0), .int .i64 c.semi, .int .i64 (if s then 0 else c.semi), .int .i64 c.semi, .int .i64 (if 0 < c.large then 2 * c.semi else 0), .int .i64 (if 0 < c.large then c.large else 0)] := by
  have hl : cLarge c = (if 0 < c.large then 2 * c.semi else 0, if 0 < c.large then c.large else 0) := by
    unfold cLarge
    have h2 := h.2.2.1
    by_cases hq : 0 < c.large
    · rw [if_pos hq, if_pos hq, if_pos ⟨h, by omega⟩]; ext <;> simp; omega
    · rw [if_neg hq, if_neg hq, if_neg (fun q => q.2 (by omega))]
  unfold partsV
  rw [hl]
  unfold cTo cFrom cHalf
  cases s <;> simp [h]

set_option maxRecDepth 100000 in
set_option maxHeartbeats 4000000 in
theorem parts_no (c : Cf) (s : Bool) (w : World) (hc : CFit c) (hno : ¬ c.ok) : Calls Tryz.prog 75 #[.agg #[.int .i64 c.semi, .int .i64 c.large, .int .i64 c.slots, .int .i64 c.limit], .bool s] w fun e w' => e = .returned (partsV c s) ∧ Only nob w w' := by
  have A1 := fun w => lyCheck c w hc
  obtain ⟨W, hWn, HB⟩ := parts_world w c
  replace hWn := Lib.hid hWn
  have HP : Hid (partsV c s = .agg #[.int .i64 0, .int .i64 0, .int .i64 0, .int .i64 0, .int .i64 0, .int .i64 0]) := Lib.hid (by rw [parts_not hno])
  rw [decide_eq_false hno] at A1
  replace A1 := Lib.hid A1
  clear hno hc
  go_enter Tryz.func75, Tryz.ntmps75
  go_wp2_with fail
  go_at_call 43
  rw [hWn.out]
  refine (A1.out _).mono ?_
  rintro e w1 ⟨rfl, o⟩
  have O1 := Lib.hid (And.intro (HB.out.1.trans o) (And.intro (HB.out.2.1.keep o) (And.intro (HB.out.2.2.1.keep o id) (HB.out.2.2.2.keep o id))))
  clear o
  obtain ⟨c0, c1, c2, c3⟩ := O1.out.2.1
  obtain ⟨r0, r1, r2, r3, r4, r5, f0, f1, f2, f3, f4, f5⟩ := six_cells O1.out.2.2.1
  obtain ⟨s0, s1, s2, s3, s4, s5, g0, g1, g2, g3, g4, g5⟩ := six_cells O1.out.2.2.2
  go_wp2
  obtain ⟨W5, hW5, O5, B5⟩ := own_sets O1.out.1 (b := w.heap.size + 1 + 1) (by omega) (by omega) O1.out.2.2.1 []
  simp only [List.foldl] at hW5
  rw [hW5]
  obtain ⟨W4, hW4, O4, B4⟩ := res_six O5 (by omega) B5 (.int .i64 0) (.int .i64 0) (.int .i64 0) (.int .i64 0) (.int .i64 0) (.int .i64 0)
  with_reducible rw [hW4]
  have h0 := B4.cell 0
  have h1 := B4.cell 1
  have h2 := B4.cell 2
  have h3 := B4.cell 3
  have h4 := B4.cell 4
  have h5 := B4.cell 5
  simp at h0 h1 h2 h3 h4 h5
  exact bodyPost_ret (v := .agg #[.int .i64 0, .int .i64 0, .int .i64 0, .int .i64 0, .int .i64 0, .int .i64 0]) (by simp [results, Tryz.results75, go_sem, h0, h1, h2, h3, h4, h5]) rfl ⟨by rw [HP.out], O4⟩
set_option maxRecDepth 100000 in
set_option maxHeartbeats 4000000 in
theorem parts_fn (c : Cf) (w : World) (hc : CFit c) (hno : c.ok) (hl : ¬ 0 < c.large) : Calls Tryz.prog 75 #[.agg #[.int .i64 c.semi, .int .i64 c.large, .int .i64 c.slots, .int .i64 c.limit], .bool false] w fun e w' => e = .returned (partsV c false) ∧ Only nob w w' := by
  have A1 := fun w => lyCheck c w hc
  obtain ⟨W, hWn, HB⟩ := parts_world w c
  replace hWn := Lib.hid hWn
  have HP : Hid (partsV c false = .agg #[.int .i64 0, .int .i64 c.semi, .int .i64 c.semi, .int .i64 c.semi, .int .i64 0, .int .i64 0]) := Lib.hid (by rw [parts_is hno]; simp [hl])
  rw [decide_eq_true hno] at A1
  replace A1 := Lib.hid A1
  have b1 : 2 ≤ c.semi ∧ c.semi ≤ 32768 := by unfold Cf.ok at hno; omega
  have b2 : 0 ≤ c.large ∧ c.large ≤ 32768 := by unfold Cf.ok at hno; omega
  clear hno hc
  go_enter Tryz.func75, Tryz.ntmps75
  go_wp2_with fail
  go_at_call 43
  rw [hWn.out]
  refine (A1.out _).mono ?_
  rintro e w1 ⟨rfl, o⟩
  have O1 := Lib.hid (And.intro (HB.out.1.trans o) (And.intro (HB.out.2.1.keep o) (And.intro (HB.out.2.2.1.keep o id) (HB.out.2.2.2.keep o id))))
  clear o
  obtain ⟨c0, c1, c2, c3⟩ := O1.out.2.1
  obtain ⟨r0, r1, r2, r3, r4, r5, f0, f1, f2, f3, f4, f5⟩ := six_cells O1.out.2.2.1
  obtain ⟨s0, s1, s2, s3, s4, s5, g0, g1, g2, g3, g4, g5⟩ := six_cells O1.out.2.2.2
  go_wp2
  obtain ⟨W5, hW5, O5, B5⟩ := own_sets O1.out.1 (b := w.heap.size + 1 + 1) (by omega) (by omega) O1.out.2.2.1 [(0, .int .i64 0), (1, .int .i64 c.semi), (2, .int .i64 c.semi), (3, .int .i64 c.semi)]
  simp only [List.foldl] at hW5
  with_reducible rw [hW5]
  obtain ⟨W4, hW4, O4, B4⟩ := res_six O5 (by omega) B5 (.int .i64 0) (.int .i64 c.semi) (.int .i64 c.semi) (.int .i64 c.semi) (.int .i64 0) (.int .i64 0)
  with_reducible rw [hW4]
  have h0 := B4.cell 0
  have h1 := B4.cell 1
  have h2 := B4.cell 2
  have h3 := B4.cell 3
  have h4 := B4.cell 4
  have h5 := B4.cell 5
  simp at h0 h1 h2 h3 h4 h5
  exact bodyPost_ret (v := .agg #[.int .i64 0, .int .i64 c.semi, .int .i64 c.semi, .int .i64 c.semi, .int .i64 0, .int .i64 0]) (by simp [results, Tryz.results75, go_sem, h0, h1, h2, h3, h4, h5]) rfl ⟨by rw [HP.out], O4⟩
set_option maxRecDepth 100000 in
set_option maxHeartbeats 4000000 in
theorem parts_fl (c : Cf) (w : World) (hc : CFit c) (hno : c.ok) (hl : 0 < c.large) : Calls Tryz.prog 75 #[.agg #[.int .i64 c.semi, .int .i64 c.large, .int .i64 c.slots, .int .i64 c.limit], .bool false] w fun e w' => e = .returned (partsV c false) ∧ Only nob w w' := by
  have A1 := fun w => lyCheck c w hc
  obtain ⟨W, hWn, HB⟩ := parts_world w c
  replace hWn := Lib.hid hWn
  have HP : Hid (partsV c false = .agg #[.int .i64 0, .int .i64 c.semi, .int .i64 c.semi, .int .i64 c.semi, .int .i64 (2 * c.semi), .int .i64 c.large]) := Lib.hid (by rw [parts_is hno]; simp [hl])
  rw [decide_eq_true hno] at A1
  replace A1 := Lib.hid A1
  have b1 : 2 ≤ c.semi ∧ c.semi ≤ 32768 := by unfold Cf.ok at hno; omega
  have b2 : 0 ≤ c.large ∧ c.large ≤ 32768 := by unfold Cf.ok at hno; omega
  clear hno hc
  go_enter Tryz.func75, Tryz.ntmps75
  go_wp2_with fail
  go_at_call 43
  rw [hWn.out]
  refine (A1.out _).mono ?_
  rintro e w1 ⟨rfl, o⟩
  have O1 := Lib.hid (And.intro (HB.out.1.trans o) (And.intro (HB.out.2.1.keep o) (And.intro (HB.out.2.2.1.keep o id) (HB.out.2.2.2.keep o id))))
  clear o
  obtain ⟨c0, c1, c2, c3⟩ := O1.out.2.1
  obtain ⟨r0, r1, r2, r3, r4, r5, f0, f1, f2, f3, f4, f5⟩ := six_cells O1.out.2.2.1
  obtain ⟨s0, s1, s2, s3, s4, s5, g0, g1, g2, g3, g4, g5⟩ := six_cells O1.out.2.2.2
  go_wp2
  obtain ⟨W5, hW5, O5, B5⟩ := own_sets O1.out.1 (b := w.heap.size + 1 + 1) (by omega) (by omega) O1.out.2.2.1 [(0, .int .i64 0), (1, .int .i64 c.semi), (2, .int .i64 c.semi), (3, .int .i64 c.semi), (4, .int .i64 (2 * c.semi)), (5, .int .i64 c.large)]
  simp only [List.foldl] at hW5
  with_reducible rw [hW5]
  obtain ⟨W4, hW4, O4, B4⟩ := res_six O5 (by omega) B5 (.int .i64 0) (.int .i64 c.semi) (.int .i64 c.semi) (.int .i64 c.semi) (.int .i64 (2 * c.semi)) (.int .i64 c.large)
  with_reducible rw [hW4]
  have h0 := B4.cell 0
  have h1 := B4.cell 1
  have h2 := B4.cell 2
  have h3 := B4.cell 3
  have h4 := B4.cell 4
  have h5 := B4.cell 5
  simp at h0 h1 h2 h3 h4 h5
  exact bodyPost_ret (v := .agg #[.int .i64 0, .int .i64 c.semi, .int .i64 c.semi, .int .i64 c.semi, .int .i64 (2 * c.semi), .int .i64 c.large]) (by simp [results, Tryz.results75, go_sem, h0, h1, h2, h3, h4, h5]) rfl ⟨by rw [HP.out], O4⟩
set_option maxRecDepth 100000 in
set_option maxHeartbeats 4000000 in
theorem parts_sn (c : Cf) (w : World) (hc : CFit c) (hno : c.ok) (hl : ¬ 0 < c.large) : Calls Tryz.prog 75 #[.agg #[.int .i64 c.semi, .int .i64 c.large, .int .i64 c.slots, .int .i64 c.limit], .bool true] w fun e w' => e = .returned (partsV c true) ∧ Only nob w w' := by
  have A1 := fun w => lyCheck c w hc
  obtain ⟨W, hWn, HB⟩ := parts_world w c
  replace hWn := Lib.hid hWn
  have HP : Hid (partsV c true = .agg #[.int .i64 c.semi, .int .i64 c.semi, .int .i64 0, .int .i64 c.semi, .int .i64 0, .int .i64 0]) := Lib.hid (by rw [parts_is hno]; simp [hl])
  rw [decide_eq_true hno] at A1
  replace A1 := Lib.hid A1
  have b1 : 2 ≤ c.semi ∧ c.semi ≤ 32768 := by unfold Cf.ok at hno; omega
  have b2 : 0 ≤ c.large ∧ c.large ≤ 32768 := by unfold Cf.ok at hno; omega
  clear hno hc
  go_enter Tryz.func75, Tryz.ntmps75
  go_wp2_with fail
  go_at_call 43
  rw [hWn.out]
  refine (A1.out _).mono ?_
  rintro e w1 ⟨rfl, o⟩
  have O1 := Lib.hid (And.intro (HB.out.1.trans o) (And.intro (HB.out.2.1.keep o) (And.intro (HB.out.2.2.1.keep o id) (HB.out.2.2.2.keep o id))))
  clear o
  obtain ⟨c0, c1, c2, c3⟩ := O1.out.2.1
  obtain ⟨s0, s1, s2, s3, s4, s5, g0, g1, g2, g3, g4, g5⟩ := six_cells O1.out.2.2.2
  go_upto_region 7 with fail
  obtain ⟨W5, hW5, O5, B5a, B5r, K5⟩ := own_puts O1.out.1 (b := w.heap.size + 1 + 1) (by omega) (by omega) O1.out.2.2.2 O1.out.2.2.1 [(0, .int .i64 0), (1, .int .i64 c.semi), (2, .int .i64 c.semi), (3, .int .i64 c.semi)]
  simp only [List.foldl] at hW5 B5a
  with_reducible rw [hW5]
  have B5 : Blk W5 (w.heap.size + 2) 107 #[.int .i64 0, .int .i64 c.semi, .int .i64 c.semi, .int .i64 c.semi, .int .i64 0, .int .i64 0] := by simpa [zero6] using B5a
  replace c0 := (K5 ⟨w.heap.size, 0, none⟩ (by simp only []; omega)).trans c0
  replace c1 := (K5 ⟨w.heap.size, 1, none⟩ (by simp only []; omega)).trans c1
  clear c2 c3 s0 s1 s2 s3 s4 s5 g0 g1 g2 g3 g4 g5 hW5 B5a K5
  obtain ⟨s0, s1, s2, s3, s4, s5, g0, g1, g2, g3, g4, g5⟩ := six_cells B5
  replace O5 := Lib.hid O5
  replace B5r := Lib.hid B5r
  replace B5 := Lib.hid B5
  go_upto_region 8 with fail
  obtain ⟨W7, hW7, O7, B7a, B7r, K7⟩ := own_puts O5.out (b := w.heap.size + 1 + 1) (by omega) (by omega) B5.out B5r.out [(0, .int .i64 c.semi), (1, .int .i64 c.semi), (2, .int .i64 0), (3, .int .i64 c.semi)]
  simp only [List.foldl] at hW7 B7a
  with_reducible rw [hW7]
  have B7 : Blk W7 (w.heap.size + 2) 107 #[.int .i64 c.semi, .int .i64 c.semi, .int .i64 0, .int .i64 c.semi, .int .i64 0, .int .i64 0] := by simpa using B7a
  replace c0 := (K7 ⟨w.heap.size, 0, none⟩ (by simp only []; omega)).trans c0
  replace c1 := (K7 ⟨w.heap.size, 1, none⟩ (by simp only []; omega)).trans c1
  clear s0 s1 s2 s3 s4 s5 g0 g1 g2 g3 g4 g5 hW7 B7a K7
  obtain ⟨s0, s1, s2, s3, s4, s5, g0, g1, g2, g3, g4, g5⟩ := six_cells B7
  obtain ⟨r0, r1, r2, r3, r4, r5, f0, f1, f2, f3, f4, f5⟩ := six_cells B7r
  replace O7 := Lib.hid O7
  replace B7r := Lib.hid B7r
  replace B7 := Lib.hid B7
  go_wp2
  obtain ⟨W4, hW4, O4, B4⟩ := res_six O7.out (by omega) B7r.out (.int .i64 c.semi) (.int .i64 c.semi) (.int .i64 0) (.int .i64 c.semi) (.int .i64 0) (.int .i64 0)
  with_reducible rw [hW4]
  have h0 := B4.cell 0
  have h1 := B4.cell 1
  have h2 := B4.cell 2
  have h3 := B4.cell 3
  have h4 := B4.cell 4
  have h5 := B4.cell 5
  simp at h0 h1 h2 h3 h4 h5
  exact bodyPost_ret (v := .agg #[.int .i64 c.semi, .int .i64 c.semi, .int .i64 0, .int .i64 c.semi, .int .i64 0, .int .i64 0]) (by simp [results, Tryz.results75, go_sem, h0, h1, h2, h3, h4, h5]) rfl ⟨by rw [HP.out], O4⟩
set_option maxRecDepth 100000 in
set_option maxHeartbeats 4000000 in
theorem parts_sl (c : Cf) (w : World) (hc : CFit c) (hno : c.ok) (hl : 0 < c.large) : Calls Tryz.prog 75 #[.agg #[.int .i64 c.semi, .int .i64 c.large, .int .i64 c.slots, .int .i64 c.limit], .bool true] w fun e w' => e = .returned (partsV c true) ∧ Only nob w w' := by
  have A1 := fun w => lyCheck c w hc
  obtain ⟨W, hWn, HB⟩ := parts_world w c
  replace hWn := Lib.hid hWn
  have HP : Hid (partsV c true = .agg #[.int .i64 c.semi, .int .i64 c.semi, .int .i64 0, .int .i64 c.semi, .int .i64 (2 * c.semi), .int .i64 c.large]) := Lib.hid (by rw [parts_is hno]; simp [hl])
  rw [decide_eq_true hno] at A1
  replace A1 := Lib.hid A1
  have b1 : 2 ≤ c.semi ∧ c.semi ≤ 32768 := by unfold Cf.ok at hno; omega
  have b2 : 0 ≤ c.large ∧ c.large ≤ 32768 := by unfold Cf.ok at hno; omega
  clear hno hc
  go_enter Tryz.func75, Tryz.ntmps75
  go_wp2_with fail
  go_at_call 43
  rw [hWn.out]
  refine (A1.out _).mono ?_
  rintro e w1 ⟨rfl, o⟩
  have O1 := Lib.hid (And.intro (HB.out.1.trans o) (And.intro (HB.out.2.1.keep o) (And.intro (HB.out.2.2.1.keep o id) (HB.out.2.2.2.keep o id))))
  clear o
  obtain ⟨c0, c1, c2, c3⟩ := O1.out.2.1
  obtain ⟨s0, s1, s2, s3, s4, s5, g0, g1, g2, g3, g4, g5⟩ := six_cells O1.out.2.2.2
  go_upto_region 7 with fail
  obtain ⟨W5, hW5, O5, B5a, B5r, K5⟩ := own_puts O1.out.1 (b := w.heap.size + 1 + 1) (by omega) (by omega) O1.out.2.2.2 O1.out.2.2.1 [(0, .int .i64 0), (1, .int .i64 c.semi), (2, .int .i64 c.semi), (3, .int .i64 c.semi)]
  simp only [List.foldl] at hW5 B5a
  with_reducible rw [hW5]
  have B5 : Blk W5 (w.heap.size + 2) 107 #[.int .i64 0, .int .i64 c.semi, .int .i64 c.semi, .int .i64 c.semi, .int .i64 0, .int .i64 0] := by simpa [zero6] using B5a
  replace c0 := (K5 ⟨w.heap.size, 0, none⟩ (by simp only []; omega)).trans c0
  replace c1 := (K5 ⟨w.heap.size, 1, none⟩ (by simp only []; omega)).trans c1
  clear c2 c3 s0 s1 s2 s3 s4 s5 g0 g1 g2 g3 g4 g5 hW5 B5a K5
  obtain ⟨s0, s1, s2, s3, s4, s5, g0, g1, g2, g3, g4, g5⟩ := six_cells B5
  replace O5 := Lib.hid O5
  replace B5r := Lib.hid B5r
  replace B5 := Lib.hid B5
  go_upto_region 8 with fail
  obtain ⟨W7, hW7, O7, B7a, B7r, K7⟩ := own_puts O5.out (b := w.heap.size + 1 + 1) (by omega) (by omega) B5.out B5r.out [(0, .int .i64 c.semi), (1, .int .i64 c.semi), (2, .int .i64 0), (3, .int .i64 c.semi)]
  simp only [List.foldl] at hW7 B7a
  with_reducible rw [hW7]
  have B7 : Blk W7 (w.heap.size + 2) 107 #[.int .i64 c.semi, .int .i64 c.semi, .int .i64 0, .int .i64 c.semi, .int .i64 0, .int .i64 0] := by simpa using B7a
  replace c0 := (K7 ⟨w.heap.size, 0, none⟩ (by simp only []; omega)).trans c0
  replace c1 := (K7 ⟨w.heap.size, 1, none⟩ (by simp only []; omega)).trans c1
  clear s0 s1 s2 s3 s4 s5 g0 g1 g2 g3 g4 g5 hW7 B7a K7
  obtain ⟨s0, s1, s2, s3, s4, s5, g0, g1, g2, g3, g4, g5⟩ := six_cells B7
  obtain ⟨r0, r1, r2, r3, r4, r5, f0, f1, f2, f3, f4, f5⟩ := six_cells B7r
  replace O7 := Lib.hid O7
  replace B7r := Lib.hid B7r
  replace B7 := Lib.hid B7
  go_wp2
  obtain ⟨W6, hW6, O6, B6⟩ := own_sets O7.out (b := w.heap.size + 1 + 1) (by omega) (by omega) B7r.out [(4, .int .i64 (2 * c.semi)), (5, .int .i64 c.large)]
  simp only [List.foldl] at hW6
  with_reducible rw [hW6]
  obtain ⟨W4, hW4, O4, B4⟩ := res_six O6 (by omega) B6 (.int .i64 c.semi) (.int .i64 c.semi) (.int .i64 0) (.int .i64 c.semi) (.int .i64 (2 * c.semi)) (.int .i64 c.large)
  with_reducible rw [hW4]
  have h0 := B4.cell 0
  have h1 := B4.cell 1
  have h2 := B4.cell 2
  have h3 := B4.cell 3
  have h4 := B4.cell 4
  have h5 := B4.cell 5
  simp at h0 h1 h2 h3 h4 h5
  exact bodyPost_ret (v := .agg #[.int .i64 c.semi, .int .i64 c.semi, .int .i64 0, .int .i64 c.semi, .int .i64 (2 * c.semi), .int .i64 c.large]) (by simp [results, Tryz.results75, go_sem, h0, h1, h2, h3, h4, h5]) rfl ⟨by rw [HP.out], O4⟩
theorem parts_any (c : Cf) (s : Bool) (w : World) (hc : CFit c) : Calls Tryz.prog 75 #[.agg #[.int .i64 c.semi, .int .i64 c.large, .int .i64 c.slots, .int .i64 c.limit], .bool s] w fun e w' => e = .returned (partsV c s) ∧ Only nob w w' := by
  by_cases h : c.ok
  · by_cases hl : 0 < c.large <;> cases s
    · exact parts_fl c w hc h hl
    · exact parts_sl c w hc h hl
    · exact parts_fn c w hc h hl
    · exact parts_sn c w hc h hl
  · exact parts_no c s w hc h
end Go.Proofs.YtciidodmhigpdaaGreatDoor

/- Contracts of package layout: From, To, Large, Words, Where. -/
namespace Go.Proofs.YtciidodmhigpdaaGreatDoor
open Go.RowKit Go.Sort

theorem partsV_are (c : Cf) (s : Bool) {P : Value → Prop} (h : P (.agg #[.int .i64 (cFrom c s).1, .int .i64 (cFrom c s).2, .int .i64 (cTo c s).1, .int .i64 (cTo c s).2, .int .i64 (cLarge c).1, .int .i64 (cLarge c).2])) : P (partsV c s) := h
/-- parts, its numbers under names. -/
theorem parts_named (c : Cf) (s : Bool) (hc : CFit c) : ∃ x0 x1 x2 x3 x4 x5 : Int, cFrom c s = (x0, x1) ∧ cTo c s = (x2, x3) ∧ cLarge c = (x4, x5) ∧ ∀ w : World, Calls Tryz.prog 75 #[.agg #[.int .i64 c.semi, .int .i64 c.large, .int .i64 c.slots, .int .i64 c.limit], .bool s] w fun e w' => e = .returned (.agg #[.int .i64 x0, .int .i64 x1, .int .i64 x2, .int .i64 x3, .int .i64 x4, .int .i64 x5]) ∧ Only nob w w' :=
  ⟨_, _, _, _, _, _, rfl, rfl, rfl, fun w => parts_any c s w hc⟩

/-- A part of the array that parts hands back. -/
theorem idx3 (x0 x1 x2 x3 x4 x5 : Int) :
    (∀ w : World, (Instr.index 107 (.agg #[.int .i64 x0, .int .i64 x1, .int .i64 x2, .int .i64 x3, .int .i64 x4, .int .i64 x5]) (.int .i64 0)).run Tryz.prog w = .ok (.agg #[.int .i64 x0, .int .i64 x1]) w) ∧
    (∀ w : World, (Instr.index 107 (.agg #[.int .i64 x0, .int .i64 x1, .int .i64 x2, .int .i64 x3, .int .i64 x4, .int .i64 x5]) (.int .i64 1)).run Tryz.prog w = .ok (.agg #[.int .i64 x2, .int .i64 x3]) w) ∧
    (∀ w : World, (Instr.index 107 (.agg #[.int .i64 x0, .int .i64 x1, .int .i64 x2, .int .i64 x3, .int .i64 x4, .int .i64 x5]) (.int .i64 2)).run Tryz.prog w = .ok (.agg #[.int .i64 x4, .int .i64 x5]) w) :=
  ⟨fun _ => by kernel_rfl, fun _ => by kernel_rfl, fun _ => by kernel_rfl⟩
set_option maxRecDepth 100000 in
set_option maxHeartbeats 1000000 in
theorem lyFrom : LyFrom := by
  intro c s w hc
  have o2 := Lib.hid ((only_box w c).alloc (.cells #[.int .i64 0, .int .i64 0] 50))
  have b2 := Lib.hid (Blk.newAt (w.alloc (.cells #[.int .i64 c.semi, .int .i64 c.large, .int .i64 c.slots, .int .i64 c.limit] 23)) 50 #[.int .i64 0, .int .i64 0] (w.heap.size + 1) (by simp))
  obtain ⟨x0, x1, x2, x3, x4, x5, e0, e1, e2, HC⟩ := parts_named c s hc
  rw [e0]
  replace HC := Lib.hid HC
  clear e0 e1 e2 hc
  go_enter Tryz.func72, Tryz.ntmps72
  go_wp2_with fail
  go_at_call 75
  refine (HC.out _).mono ?_
  rintro e w1 ⟨rfl, o⟩
  have O1 := Lib.hid (o2.out.trans o)
  have B1 := Lib.hid (b2.out.keep o id)
  have g0 : w1.cell? ⟨w.heap.size + 1, 0, none⟩ = some (.int .i64 0) := B1.out.cell 0
  have g1 : w1.cell? ⟨w.heap.size + 1, 1, none⟩ = some (.int .i64 0) := B1.out.cell 1
  have g2 := B1.out.free 0
  have g3 := B1.out.free 1
  clear o
  obtain ⟨i0, i1, i2⟩ := idx3 x0 x1 x2 x3 x4 x5
  go_wp2
  obtain ⟨W4, hW4, O4, h0, h1⟩ := res_span O1.out (by omega) B1.out x0 x1
  rw [hW4]
  exact bodyPost_ret (v := .agg #[.int .i64 x0, .int .i64 x1]) (by simp [results, Tryz.results72, go_sem, h0, h1]) rfl ⟨rfl, O4⟩

set_option maxRecDepth 100000 in
set_option maxHeartbeats 1000000 in
theorem lyLarge : LyLarge := by
  intro c w hc
  have o2 := Lib.hid ((only_box w c).alloc (.cells #[.int .i64 0, .int .i64 0] 50))
  have b2 := Lib.hid (Blk.newAt (w.alloc (.cells #[.int .i64 c.semi, .int .i64 c.large, .int .i64 c.slots, .int .i64 c.limit] 23)) 50 #[.int .i64 0, .int .i64 0] (w.heap.size + 1) (by simp))
  obtain ⟨x0, x1, x2, x3, x4, x5, e0, e1, e2, HC⟩ := parts_named c false hc
  rw [e2]
  replace HC := Lib.hid HC
  clear e0 e1 e2 hc
  go_enter Tryz.func47, Tryz.ntmps47
  go_wp2_with fail
  go_at_call 75
  refine (HC.out _).mono ?_
  rintro e w1 ⟨rfl, o⟩
  have O1 := Lib.hid (o2.out.trans o)
  have B1 := Lib.hid (b2.out.keep o id)
  have g0 : w1.cell? ⟨w.heap.size + 1, 0, none⟩ = some (.int .i64 0) := B1.out.cell 0
  have g1 : w1.cell? ⟨w.heap.size + 1, 1, none⟩ = some (.int .i64 0) := B1.out.cell 1
  have g2 := B1.out.free 0
  have g3 := B1.out.free 1
  clear o
  obtain ⟨i0, i1, i2⟩ := idx3 x0 x1 x2 x3 x4 x5
  go_wp2
  obtain ⟨W4, hW4, O4, h0, h1⟩ := res_span O1.out (by omega) B1.out x4 x5
  rw [hW4]
  exact bodyPost_ret (v := .agg #[.int .i64 x4, .int .i64 x5]) (by simp [results, Tryz.results47, go_sem, h0, h1]) rfl ⟨rfl, O4⟩

theorem not_has0 (p : Int) : ¬ Sp.has (0, 0) p := fun h => by have := h.1.2.1; simp at this
theorem parts_fit (c : Cf) (s : Bool) : Fit (cFrom c s) ∧ Fit (cTo c s) ∧ Fit (cLarge c) := by
  by_cases h : c.ok
  · obtain ⟨a, b, hab, e0, e1, e2, -⟩ := parts_facts h s
    unfold Cf.ok at h
    rw [e0, e1, e2]
    refine ⟨?_, ?_, ?_⟩ <;> unfold Fit
    · simp only []; omega
    · simp only []; omega
    · split <;> simp only [] <;> omega
  · unfold cTo cFrom cHalf cLarge
    cases s <;> simp [h, Fit]
theorem tot_parts (c : Cf) : total [cFrom c false, cTo c false, cLarge c] = cWords c := by
  by_cases h : c.ok
  · obtain ⟨a, b, hab, e0, e1, e2, e3⟩ := parts_facts h false
    have hc := h
    unfold Cf.ok at hc
    rw [e0, e1, e2, e3]
    have o0 : Sp.ok (a, c.semi) := ok_small _ _ (by omega) (by omega) (by omega) (by omega)
    have o1 : Sp.ok (b, c.semi) := ok_small _ _ (by omega) (by omega) (by omega) (by omega)
    have ht : tot [(a, c.semi), (b, c.semi), if 0 < c.large then (c.semi + c.semi, c.large) else (0, 0)] = c.semi + c.semi + c.large := by
      simp only [tot, if_pos o0, if_pos o1]
      by_cases hl : 0 < c.large
      · have o2 : Sp.ok (c.semi + c.semi, c.large) := ok_small _ _ (by omega) (by omega) (by omega) (by omega)
        rw [if_pos hl, if_pos o2]; omega
      · rw [if_neg hl, if_neg (fun q => by have := q.2.1; simp at this)]; omega
    unfold total cap62
    rw [ht, if_pos (by omega)]
  · have e : cFrom c false = (0, 0) ∧ cTo c false = (0, 0) ∧ cLarge c = (0, 0) := by
      unfold cTo cFrom cHalf cLarge; simp [h]
    have hz : ¬ Sp.ok (0, 0) := fun q => by have := q.2.1; simp at this
    rw [e.1, e.2.1, e.2.2]
    unfold cWords total tot tot tot tot cap62
    simp [h, hz]
theorem where_is (c : Cf) (s : Bool) (p : Int) : cWhere c s p = if (cFrom c s).has p then 1 else if (cTo c s).has p then 2 else if (cLarge c).has p then 3 else 0 := by
  by_cases h : c.ok
  · obtain ⟨a, b, hab, e0, e1, e2, e3⟩ := parts_facts h s
    have hs : (a = 0 ↔ s = false) := by
      have hc := h
      unfold Cf.ok at hc
      cases s
      · have : cFrom c false = (0, c.semi) := by simp [cFrom, cHalf, h]
        rw [this] at e0; simp at e0; simp [e0]
      · have : cFrom c true = (c.semi, c.semi) := by simp [cFrom, cHalf, h]
        rw [this] at e0; simp at e0; simp; omega
    have hc := h
    unfold Cf.ok at hc
    have d0 := has_iff' a c.semi p (by omega) (by omega) (by omega) (by omega)
    have d1 := has_iff' b c.semi p (by omega) (by omega) (by omega) (by omega)
    have d2 : Sp.has (cLarge c) p ↔ c.semi + c.semi ≤ p ∧ p < c.semi + c.semi + c.large := by
      rw [e2]
      by_cases hl : 0 < c.large
      · rw [if_pos hl]; exact has_iff' _ _ p (by omega) (by omega) (by omega) (by omega)
      · rw [if_neg hl]; exact ⟨fun q => absurd q (not_has0 p), fun q => by omega⟩
    rw [e0, e1]
    simp only [d0, d1, d2]
    unfold cWhere
    rw [e3]
    by_cases hp : 0 ≤ p ∧ p < c.semi + c.semi + c.large
    · rw [if_pos ⟨h, hp⟩]
      cases s
      · have := hs.2 rfl
        by_cases h3 : 2 * c.semi ≤ p
        · rw [if_pos h3, if_neg (by omega), if_neg (by omega), if_pos (by omega)]
        · rw [if_neg h3]
          by_cases h4 : c.semi ≤ p
          · rw [if_neg (by simp [h4]), if_neg (by omega), if_pos (by omega)]
          · rw [if_pos (by simp [h4]), if_pos (by omega)]
      · have : ¬ a = 0 := fun q => by have := hs.1 q; simp at this
        by_cases h3 : 2 * c.semi ≤ p
        · rw [if_pos h3, if_neg (by omega), if_neg (by omega), if_pos (by omega)]
        · rw [if_neg h3]
          by_cases h4 : c.semi ≤ p
          · rw [if_pos (by simp [h4]), if_pos (by omega)]
          · rw [if_neg (by simp [h4]), if_neg (by omega), if_pos (by omega)]
    · rw [if_neg (fun q => hp q.2), if_neg (by omega), if_neg (by omega), if_neg (by omega)]
  · have e : cFrom c s = (0, 0) ∧ cTo c s = (0, 0) ∧ cLarge c = (0, 0) := by
      unfold cTo cFrom cHalf cLarge; cases s <;> simp [h]
    have hz := not_has0 p
    rw [e.1, e.2.1, e.2.2]
    unfold cWhere
    simp [h, hz]

theorem lyWords (hTo : SpTotal) : LyWords := by
  intro c w hc
  obtain ⟨x0, x1, x2, x3, x4, x5, e0, e1, e2, HC⟩ := parts_named c false hc
  have ht := tot_parts c
  obtain ⟨f0, f1, f2⟩ := parts_fit c false
  rw [e0, e1, e2] at ht
  rw [e0] at f0
  rw [e1] at f1
  rw [e2] at f2
  rw [← ht]
  have HF : Hid (Fits [(x0, x1), (x2, x3), (x4, x5)]) := fun z hz => by
    simp only [List.mem_cons, List.not_mem_nil, or_false] at hz
    rcases hz with rfl | rfl | rfl <;> assumption
  replace HC := Lib.hid HC
  have HB := Lib.hid (only_box w c)
  have HCB := Lib.hid (CBox.new w c)
  clear e0 e1 e2 ht f0 f1 f2 hc
  obtain ⟨l, hl⟩ : ∃ l : List Sp, l = [(x0, x1), (x2, x3), (x4, x5)] := ⟨_, rfl⟩
  rw [← hl]
  replace hl := Lib.hid hl
  go_enter Tryz.func45, Tryz.ntmps45
  go_wp2_with fail
  go_at_call 75
  refine (HC.out _).mono ?_
  rintro e w1 ⟨rfl, o⟩
  have O1 := Lib.hid (HB.out.trans o)
  clear o
  go_wp2_with fail
  go_at_call 76
  have hs : Sl (w1.alloc (.cells #[.int .i64 x0, .int .i64 x1, .int .i64 x2, .int .i64 x3, .int .i64 x4, .int .i64 x5] 107)) (w1.alloc (.cells #[.int .i64 x0, .int .i64 x1, .int .i64 x2, .int .i64 x3, .int .i64 x4, .int .i64 x5] 107)).heap.size 2 (.slice (some ⟨w1.heap.size, 0, none⟩) 3 3) 3 (spc [(x0, x1), (x2, x3), (x4, x5)]) :=
    Sl.of_blk (Blk.new w1 107 _) (by simp) (Nat.le_refl _) (by decide)
  refine (hTo _ [(x0, x1), (x2, x3), (x4, x5)] _ _ hs (Nat.le_refl _) (by simp) HF).mono ?_
  rintro e w2 ⟨rfl, o⟩
  rw [← hl.out]
  have O2 := Lib.hid ((O1.out.alloc _).trans o)
  clear o hs
  go_wp2
  go_ret
  exact ⟨rfl, O2.out⟩

/-- The first k parts have no place p. -/
def NotIn (l : List Sp) (k : Nat) (p : Int) : Prop := ∀ (j : Nat) x, j < k → l[j]? = some x → ¬ x.has p
end Go.Proofs.YtciidodmhigpdaaGreatDoor
