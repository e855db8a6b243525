/- Contracts of package layout: isIn, Check, Small. -/
import Derived.Test.YtmlpppcdammelaaLayLaw1
namespace Go.Proofs.Ytmlpppcdammelaa
open Go.RowKit Go.Sort

def isInB (n a b : Int) : Bool := decide (a ≤ n) && decide (n ≤ b)
theorem isInB_yes {n a b : Int} : isInB n a b = true ↔ a ≤ n ∧ n ≤ b := by unfold isInB; simp
theorem isInB_no {n a b : Int} : isInB n a b = false ↔ ¬ (a ≤ n ∧ n ≤ b) := by unfold isInB; simp
theorem isIn_any (n a b : Int) (w : World) : Calls Try.prog 23 #[.int .i64 n, .int .i64 a, .int .i64 b] w fun e w' => e = .returned (.bool (isInB n a b)) ∧ w = w' := by
  by_cases h1 : a ≤ n
  · by_cases h2 : n ≤ b
    case' pos => have HK := Lib.hid (show isInB n a b = true by unfold isInB; simp [h1, h2])
    case' neg => have HK := Lib.hid (show isInB n a b = false by unfold isInB; simp [h2])
    all_goals
      go_enter Try.func23, Try.ntmps23
      go_wp2
      go_ret
      exact ⟨ret_bool (by rw [HK.out]), rfl⟩
  · have HK := Lib.hid (show isInB n a b = false by unfold isInB; simp [h1])
    go_enter Try.func23, Try.ntmps23
    go_wp2
    go_ret
    exact ⟨ret_bool (by rw [HK.out]), rfl⟩
theorem isIn_is {n a b : Int} {v : Bool} (h : isInB n a b = v) : Hid (∀ w : World, Calls Try.prog 23 #[.int .i64 n, .int .i64 a, .int .i64 b] w fun e w' => e = .returned (.bool v) ∧ Only nob w w') := by
  subst h
  exact fun w => (isIn_any n a b w).mono fun _ _ ⟨h, e⟩ => ⟨h, e ▸ Only.refl nob w⟩

theorem check_ways (c : Cf) : (isInB c.semi 2 32768 = false ∧ decide c.ok = false) ∨ (isInB c.semi 2 32768 = true ∧ isInB c.large 0 32768 = false ∧ decide c.ok = false) ∨ (isInB c.semi 2 32768 = true ∧ isInB c.large 0 32768 = true ∧ isInB c.slots 1 1024 = false ∧ decide c.ok = false) ∨
    (isInB c.semi 2 32768 = true ∧ isInB c.large 0 32768 = true ∧ isInB c.slots 1 1024 = true ∧ isInB c.limit 1 c.semi = decide c.ok) := by
  have e : decide c.ok = (isInB c.semi 2 32768 && isInB c.large 0 32768 && isInB c.slots 1 1024 && isInB c.limit 1 c.semi) := by
    rw [Bool.eq_iff_iff]
    simp only [decide_eq_true_eq, Bool.and_eq_true, isInB_yes]
    unfold Cf.ok
    omega
  rw [e]
  cases isInB c.semi 2 32768 <;> cases isInB c.large 0 32768 <;> cases isInB c.slots 1 1024 <;> simp

set_option maxRecDepth 100000 in
set_option maxHeartbeats 4000000 in
theorem lyCheck : LyCheck := by
  intro c w hc
  obtain ⟨W, hWn, HB⟩ : ∃ W, (w.alloc (.cells #[.int .i64 c.semi, .int .i64 c.large, .int .i64 c.slots, .int .i64 c.limit] 23)) = W ∧ Hid (Only nob w W ∧ CBox W w.heap.size c) := ⟨_, rfl, only_box w c, CBox.new w c⟩
  have HWN := Lib.hid hWn
  clear hWn hc
  have ways := check_ways c
  obtain ⟨r, hr⟩ : ∃ r, decide c.ok = r := ⟨_, rfl⟩
  rw [hr] at ways ⊢
  clear hr
  rcases ways with ⟨h1, h⟩ | ⟨h1, h2, h⟩ | ⟨h1, h2, h3, h⟩ | ⟨h1, h2, h3, h4⟩
  · subst h
    replace h1 := isIn_is h1
    go_enter Try.func5, Try.ntmps5
    go_wp2_with fail
    rw [HWN.out]
    obtain ⟨c0, c1, c2, c3⟩ := HB.out.2
    go_wp2_with fail
    go_at_call 23
    refine (h1.out _).mono ?_
    rintro e w1 ⟨rfl, o⟩
    have O1 := Lib.hid (And.intro (HB.out.1.trans o) (HB.out.2.keep o))
    clear o c0 c1 c2 c3
    obtain ⟨c0, c1, c2, c3⟩ := O1.out.2
    go_wp2
    go_ret
    exact ⟨rfl, O1.out.1⟩
  · subst h
    replace h1 := isIn_is h1
    replace h2 := isIn_is h2
    go_enter Try.func5, Try.ntmps5
    go_wp2_with fail
    rw [HWN.out]
    obtain ⟨c0, c1, c2, c3⟩ := HB.out.2
    go_wp2_with fail
    go_at_call 23
    refine (h1.out _).mono ?_
    rintro e w1 ⟨rfl, o⟩
    have O1 := Lib.hid (And.intro (HB.out.1.trans o) (HB.out.2.keep o))
    clear o c0 c1 c2 c3
    obtain ⟨c0, c1, c2, c3⟩ := O1.out.2
    go_wp2_with fail
    go_at_call 23
    refine (h2.out _).mono ?_
    rintro e w2 ⟨rfl, o⟩
    have O2 := Lib.hid (And.intro (O1.out.1.trans o) (O1.out.2.keep o))
    clear o c0 c1 c2 c3
    obtain ⟨c0, c1, c2, c3⟩ := O2.out.2
    go_wp2
    go_ret
    exact ⟨rfl, O2.out.1⟩
  · subst h
    replace h1 := isIn_is h1
    replace h2 := isIn_is h2
    replace h3 := isIn_is h3
    go_enter Try.func5, Try.ntmps5
    go_wp2_with fail
    rw [HWN.out]
    obtain ⟨c0, c1, c2, c3⟩ := HB.out.2
    go_wp2_with fail
    go_at_call 23
    refine (h1.out _).mono ?_
    rintro e w1 ⟨rfl, o⟩
    have O1 := Lib.hid (And.intro (HB.out.1.trans o) (HB.out.2.keep o))
    clear o c0 c1 c2 c3
    obtain ⟨c0, c1, c2, c3⟩ := O1.out.2
    go_wp2_with fail
    go_at_call 23
    refine (h2.out _).mono ?_
    rintro e w2 ⟨rfl, o⟩
    have O2 := Lib.hid (And.intro (O1.out.1.trans o) (O1.out.2.keep o))
    clear o c0 c1 c2 c3
    obtain ⟨c0, c1, c2, c3⟩ := O2.out.2
    go_wp2_with fail
    go_at_call 23
    refine (h3.out _).mono ?_
    rintro e w3 ⟨rfl, o⟩
    have O3 := Lib.hid (And.intro (O2.out.1.trans o) (O2.out.2.keep o))
    clear o c0 c1 c2 c3
    obtain ⟨c0, c1, c2, c3⟩ := O3.out.2
    go_wp2
    go_ret
    exact ⟨rfl, O3.out.1⟩
  · replace h1 := isIn_is h1
    replace h2 := isIn_is h2
    replace h3 := isIn_is h3
    replace h4 := isIn_is h4
    go_enter Try.func5, Try.ntmps5
    go_wp2_with fail
    rw [HWN.out]
    obtain ⟨c0, c1, c2, c3⟩ := HB.out.2
    go_wp2_with fail
    go_at_call 23
    refine (h1.out _).mono ?_
    rintro e w1 ⟨rfl, o⟩
    have O1 := Lib.hid (And.intro (HB.out.1.trans o) (HB.out.2.keep o))
    clear o c0 c1 c2 c3
    obtain ⟨c0, c1, c2, c3⟩ := O1.out.2
    go_wp2_with fail
    go_at_call 23
    refine (h2.out _).mono ?_
    rintro e w2 ⟨rfl, o⟩
    have O2 := Lib.hid (And.intro (O1.out.1.trans o) (O1.out.2.keep o))
    clear o c0 c1 c2 c3
    obtain ⟨c0, c1, c2, c3⟩ := O2.out.2
    go_wp2_with fail
    go_at_call 23
    refine (h3.out _).mono ?_
    rintro e w3 ⟨rfl, o⟩
    have O3 := Lib.hid (And.intro (O2.out.1.trans o) (O2.out.2.keep o))
    clear o c0 c1 c2 c3
    obtain ⟨c0, c1, c2, c3⟩ := O3.out.2
    go_wp2_with fail
    go_at_call 23
    refine (h4.out _).mono ?_
    rintro e w4 ⟨rfl, o⟩
    have O4 := Lib.hid (And.intro (O3.out.1.trans o) (O3.out.2.keep o))
    clear o c0 c1 c2 c3
    obtain ⟨c0, c1, c2, c3⟩ := O4.out.2
    go_wp2
    go_ret
    exact ⟨rfl, O4.out.1⟩

set_option maxRecDepth 100000 in
set_option maxHeartbeats 4000000 in
theorem lySmall : LySmall := by
  intro c n w hc hn
  obtain ⟨W, hWn, HB⟩ : ∃ W, (w.alloc (.cells #[.int .i64 c.semi, .int .i64 c.large, .int .i64 c.slots, .int .i64 c.limit] 23)) = W ∧ Hid (Only nob w W ∧ CBox W w.heap.size c) := ⟨_, rfl, only_box w c, CBox.new w c⟩
  have HWN := Lib.hid hWn
  clear hWn
  have A1 := fun w => lyCheck c w hc
  have ways : (decide c.ok = false ∧ cSmall c n = false) ∨ (decide c.ok = true ∧ isInB n 1 c.limit = cSmall c n) := by
    unfold cSmall
    by_cases h : c.ok
    · refine .inr ⟨by simp [h], ?_⟩
      rw [Bool.eq_iff_iff]; simp [isInB_yes, h]; omega
    · exact .inl ⟨by simp [h], by simp [h]⟩
  obtain ⟨r, hr⟩ : ∃ r, cSmall c n = r := ⟨_, rfl⟩
  rw [hr] at ways ⊢
  clear hr hc hn
  rcases ways with ⟨h, h'⟩ | ⟨h, h'⟩
  · rw [h] at A1
    subst h'
    replace A1 := Lib.hid A1
    clear h
    go_enter Try.func17, Try.ntmps17
    go_wp2_with fail
    rw [HWN.out]
    obtain ⟨c0, c1, c2, c3⟩ := HB.out.2
    go_wp2_with fail
    go_at_call 5
    refine (A1.out _).mono ?_
    rintro e w1 ⟨rfl, o⟩
    have O1 := Lib.hid (And.intro (HB.out.1.trans o) (HB.out.2.keep o))
    clear o c0 c1 c2 c3
    obtain ⟨c0, c1, c2, c3⟩ := O1.out.2
    go_wp2
    go_ret
    exact ⟨rfl, O1.out.1⟩
  · rw [h] at A1
    have I1 := isIn_is h'
    clear h'
    replace A1 := Lib.hid A1
    clear h
    go_enter Try.func17, Try.ntmps17
    go_wp2_with fail
    rw [HWN.out]
    obtain ⟨c0, c1, c2, c3⟩ := HB.out.2
    go_wp2_with fail
    go_at_call 5
    refine (A1.out _).mono ?_
    rintro e w1 ⟨rfl, o⟩
    have O1 := Lib.hid (And.intro (HB.out.1.trans o) (HB.out.2.keep o))
    clear o c0 c1 c2 c3
    obtain ⟨c0, c1, c2, c3⟩ := O1.out.2
    go_wp2_with fail
    go_at_call 23
    refine (I1.out _).mono ?_
    rintro e w2 ⟨rfl, o⟩
    have O2 := Lib.hid (And.intro (O1.out.1.trans o) (O1.out.2.keep o))
    clear o c0 c1 c2 c3
    obtain ⟨c0, c1, c2, c3⟩ := O2.out.2
    go_wp2
    go_ret
    exact ⟨rfl, O2.out.1⟩
end Go.Proofs.Ytmlpppcdammelaa
