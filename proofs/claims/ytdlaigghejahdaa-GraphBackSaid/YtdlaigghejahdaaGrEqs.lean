/- The document's own comparisons of words and numbers. -/
import Derived.Test.YtdlaigghejahdaaGrLib
namespace Go.Proofs.Ytdlaigghejahdaa
open Go.RowKit Go.Lib
set_option maxRecDepth 100000
set_option linter.unusedSimpArgs false
set_option linter.unusedVariables false

set_option maxHeartbeats 2000000 in
theorem rWords16 (va vb : Value) (l m : List Nat) (B B' : Nat) (w : World) (ha : Sl w B 1 va l.length (u64s l)) (hb : Sl w B' 1 vb m.length (u64s m)) :
    Calls Try.prog 37 #[va, vb] w fun e w' => e = .returned (.bool (decide (l = m))) ∧ Only nob w w' := by
  have HA := Lib.hid ha
  have HB := Lib.hid hb
  obtain ⟨A, ca, rfl, hac, ham, -⟩ := ha
  obtain ⟨A', cb, rfl, hbc, hbm, -⟩ := hb
  unfold maxLen at ham hbm
  by_cases hlen : l.length = m.length
  · have HL := Lib.hid hlen
    rw [← hlen] at hbc ⊢
    clear hlen
    go_enter Try.func37, Try.ntmps37
    go_wp2
    go_loopw [5] (fun i wr => ∃ k m' : Nat, k ≤ l.length ∧ i = .int .i64 k ∧ Hid (∀ (j : Nat) x, j < k → l[j]? = some x → m[j]? = some x) ∧ wr = w.drewN m') (fun i _ => l.length - (intOf i).toNat)
    case atStart => exact ⟨0, 0, Nat.zero_le _, rfl, fun j _ hj _ => absurd hj (Nat.not_lt_zero j), rfl⟩
    case round =>
      obtain ⟨k, m', hk, rfl, hno, rfl⟩ := hrel
      by_cases hlt : k < l.length
      · obtain ⟨x, hx⟩ : ∃ x, l[k]? = some x := ⟨_, List.getElem?_eq_getElem hlt⟩
        obtain ⟨y, hy⟩ : ∃ y, m[k]? = some y := ⟨_, List.getElem?_eq_getElem (by rw [← HL.out]; exact hlt)⟩
        obtain ⟨b1, o1, rfl, -, c0⟩ := sl_word16 HA.out (Below.refl _ _) hx
        obtain ⟨b2, o2, rfl, -, d0⟩ := sl_word16 HB.out (Below.refl _ _) hy
        have HX := Lib.hid hx
        have HY := Lib.hid hy
        clear hx hy
        by_cases h1 : x = y
        · subst h1
          go_wp2
          go_quiet (fail)
          go_wp2
          go_roundw
          case rel =>
            refine ⟨k + 1, _, by omega, by go_num, fun j z hj hz => ?_, rfl⟩
            rcases Nat.lt_or_ge j k with h' | h'
            · exact hno.out j z h' hz
            · obtain rfl : j = k := by omega
              rw [HX.out] at hz
              rw [HY.out]; exact hz
          case measure => simp [intOf]; omega
        · have HN := Lib.hid (decide_eq_false (ne_at16 HX.out HY.out h1))
          have hbq : (((x : Nat) : Int) != (y : Nat)) = true := by simp; omega
          clear h1
          go_wp2
          go_quiet (fail)
          go_wp2
          go_ret
          exact ⟨ret_bool (by rw [HN.out]), ((Only.refl _ _).drewN _).drewN _⟩
      · obtain rfl : k = l.length := by omega
        have HN := Lib.hid (decide_eq_true (eq_all16 HL.out hno.out))
        go_wp2
        go_ret
        exact ⟨ret_bool (by rw [HN.out]), (Only.refl _ _).drewN _⟩
  · have HN := Lib.hid (decide_eq_false (ne_len16 hlen))
    have hn1 : ¬ ((l.length : Int) = (m.length : Int)) := by omega
    go_enter Try.func37, Try.ntmps37
    go_wp2
    go_ret
    exact ⟨ret_bool (by rw [HN.out]), Only.refl _ _⟩
set_option maxHeartbeats 1000000 in
/-- The same numbers. -/
theorem rInts16 (va vb : Value) (l : List Int) (B B' : Nat) (w : World) (ha : Sl w B 1 va l.length (i64s l)) (hb : Sl w B' 1 vb l.length (i64s l)) :
    Calls Try.prog 13 #[va, vb] w fun e w' => e = .returned (.bool true) ∧ ∃ m, w' = w.drewN m := by
  have HA := Lib.hid ha
  have HB := Lib.hid hb
  obtain ⟨A, ca, rfl, hac, ham, -⟩ := ha
  obtain ⟨A', cb, rfl, hbc, hbm, -⟩ := hb
  unfold maxLen at ham hbm
  go_enter Try.func13, Try.ntmps13
  go_wp2
  go_loopw [5] (fun i wr => ∃ k m : Nat, k ≤ l.length ∧ i = .int .i64 k ∧ wr = w.drewN m) (fun i _ => l.length - (intOf i).toNat)
  case atStart => exact ⟨0, 0, Nat.zero_le _, rfl, rfl⟩
  case round =>
    obtain ⟨k, m, hk, rfl, rfl⟩ := hrel
    by_cases hlt : k < l.length
    · obtain ⟨y, hy⟩ : ∃ y, l[k]? = some y := ⟨_, List.getElem?_eq_getElem hlt⟩
      obtain ⟨b1, o1, rfl, -, g1⟩ := sl_int HA.out (Below.refl _ _) hy
      obtain ⟨b2, o2, rfl, -, g2⟩ := sl_int HB.out (Below.refl _ _) hy
      clear hy
      go_wp2
      go_quiet (fail)
      go_wp2
      go_roundw
      case rel => exact ⟨k + 1, _, by omega, by go_num, rfl⟩
      case measure => simp [intOf]; omega
    · obtain rfl : k = l.length := by omega
      go_wp2
      go_ret
      exact ⟨rfl, _, rfl⟩
end Go.Proofs.Ytdlaigghejahdaa
