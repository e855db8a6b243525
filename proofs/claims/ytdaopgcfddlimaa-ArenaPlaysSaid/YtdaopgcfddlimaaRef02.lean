/- Contracts of the document's own answers for arenas. -/
import Derived.Test.YtdaopgcfddlimaaArenaB
namespace Go.Proofs.Ytdaopgcfddlimaa
open Go.RowKit

set_option maxHeartbeats 400000 in
theorem there_any (len : Nat) (a n : Int) (w : World) (hl : len ≤ 98304) :
    Calls Try.prog 21 #[.int .i64 len, .int .i64 a, .int .i64 n] w fun e w' => e = .returned (.bool (decide (0 ≤ a ∧ a ≤ (len : Int) ∧ n ≤ (len : Int) - a))) ∧ w = w' := by
  by_cases h1 : 0 ≤ a
  · by_cases h2 : a ≤ (len : Int)
    · by_cases h3 : n ≤ (len : Int) - a
      all_goals
        go_enter Try.func21, Try.ntmps21
        go_wp2
        go_ret
        exact ⟨ret_bool (by simp; omega), rfl⟩
    · go_enter Try.func21, Try.ntmps21
      go_wp2
      go_ret
      exact ⟨ret_bool (by simp; omega), rfl⟩
  · go_enter Try.func21, Try.ntmps21
    go_wp2
    go_ret
    exact ⟨ret_bool (by simp; omega), rfl⟩

set_option maxHeartbeats 1000000 in
theorem same_any (va vb : Value) (l : List Nat) (B B' : Nat) (w : World) (ha : Sl w B 1 va l.length (u64s l)) (hb : Sl w B' 1 vb l.length (u64s l)) :
    Calls Try.prog 14 #[va, vb] w fun e w' => e = .returned (.bool true) ∧ ∃ m, w' = w.drewN m := by
  have HA := Lib.hid ha
  have HB := Lib.hid hb
  obtain ⟨A, ca, rfl, hac, ham, -⟩ := ha
  obtain ⟨A', cb, rfl, hbc, hbm, -⟩ := hb
  unfold maxLen at ham hbm
  go_enter Try.func14, Try.ntmps14
  go_wp2
  go_loopw [5] (fun i wr => ∃ k m : Nat, k ≤ l.length ∧ i = .int .i64 k ∧ wr = w.drewN m) (fun i _ => l.length - (intOf i).toNat)
  case atStart => exact ⟨0, 0, Nat.zero_le _, rfl, rfl⟩
  case round =>
    obtain ⟨k, m, hk, rfl, rfl⟩ := hrel
    by_cases hlt : k < l.length
    · obtain ⟨b1, o1, c1, e1, -, -, -, hc1⟩ := HA.out.at_ (by omega)
      obtain ⟨b2, o2, c2, e2, -, -, -, hc2⟩ := HB.out.at_ (by omega)
      obtain ⟨rfl, rfl⟩ : A = some ⟨b1, o1, none⟩ ∧ ca = c1 := by simpa using e1
      obtain ⟨rfl, rfl⟩ : A' = some ⟨b2, o2, none⟩ ∧ cb = c2 := by simpa using e2
      have g1 := hc1 k _ (u64s_wd l k hlt)
      have g2 := hc2 k _ (u64s_wd l k hlt)
      clear hc1 hc2 e1 e2
      go_wp2
      go_quiet (fail)
      go_wp2
      go_roundw
      case rel => exact ⟨k + 1, _, by omega, by go_num, rfl⟩
      case measure => simp [intOf]; omega
    · obtain rfl : k = l.length := by omega
      go_wp2
      go_ret
      exact ⟨rfl, _, rfl⟩

/-- A list whose words from t on are k of those from f on. -/
def moved (l : List Nat) (t f k : Nat) : List Nat := splice l t (part l f k)
theorem moved_len (l : List Nat) (t f k : Nat) (h : t + k ≤ l.length) (h' : f + k ≤ l.length) : (moved l t f k).length = l.length := splice_len _ _ _ (by rw [part_len l f k h']; exact h)
theorem moved_zero (l : List Nat) (t f : Nat) : moved l t f 0 = l := by unfold moved part; simp [splice]
theorem part_snoc (l : List Nat) (f k : Nat) (h : f + k < l.length) : part l f (k + 1) = part l f k ++ [wd l (f + k)] := by
  unfold part
  rw [List.take_add_one, wd_get l _ h]
  simp [List.getElem?_drop, h]
theorem moved_set (l : List Nat) (t f k : Nat) (h : t + k < l.length) (h' : f + k < l.length) : (moved l t f k).set (t + k) (wd l (f + k)) = moved l t f (k + 1) := by
  unfold moved
  rw [part_snoc l f k h']
  have e := part_len l f k (by omega)
  have := splice_snoc l t (part l f k) (wd l (f + k)) (by rw [e]; exact h)
  rw [e] at this
  exact this

set_option maxHeartbeats 1000000 in
theorem refMove_any (v : Value) (l : List Nat) (t f n : Nat) (w : World) (h : Sl w w.heap.size 1 v l.length (u64s l)) (hl : l.length ≤ 98304) (ht : t + n ≤ l.length) (hf : f + n ≤ l.length) :
    Calls Try.prog 11 #[v, .int .i64 t, .int .i64 f, .int .i64 n] w fun e w' => ∃ v', e = .returned (.tuple #[v', .int .i64 0]) ∧ w'.ownsRow w.heap.size 29 1 v' l.length (u64s (moved l t f n)) ∧ Only nob w w' := by
  obtain ⟨i0, hi0, hz0, hz1, hz2⟩ := info_parts info_u64
  have HA := Lib.hid h
  obtain ⟨A, ca, rfl, hac, ham, -⟩ := h
  unfold maxLen at ham
  have HT := Lib.hid (show decide (0 ≤ (t : Int) ∧ (t : Int) ≤ (l.length : Int) ∧ (n : Int) ≤ (l.length : Int) - t) = true by simp; omega)
  have HF := Lib.hid (show decide (0 ≤ (f : Int) ∧ (f : Int) ≤ (l.length : Int) ∧ (n : Int) ≤ (l.length : Int) - f) = true by simp; omega)
  go_enter Try.func11, Try.ntmps11
  go_wp2_with fail
  refine (there_any l.length t n _ hl).mono ?_
  rw [HT.out]
  rintro e w' ⟨rfl, rfl⟩
  go_wp2_with fail
  refine (there_any l.length f n _ hl).mono ?_
  rw [HF.out]
  rintro e w' ⟨rfl, rfl⟩
  go_wp2_with (with_reducible refine wpList_append_sl (o := ⟨some 32, _, _, _, _, _⟩) _ rfl (.tmp 30) (.tmp 31) _ rfl w.heap.size 29 i0 _ 1 8 Try.underlying22 hi0 hz0 hz1 hz2 rfl (by decide) (.slice (some ⟨w.heap.size, 0, none⟩) 0 0) 0 [] rfl ?c1 w.heap.size (.slice A l.length ca) l.length (u64s l) rfl ?c6 (u64s_one l) ?c2 ?c3 ?c4 ?c5)
  case c1 => exact lit_own w _ _
  case c6 => exact HA.out.below ((Below.refl _ _).alloc (Nat.le_refl _) _)
  case c2 => unfold maxLen; omega
  case c3 => omega
  case c4 => simp
  case c5 =>
    intro v1 w1 H1 o1 _
    have o2 := lit_only o1
    have HO := Lib.hid (show w1.ownsRow w.heap.size 29 1 v1 l.length (u64s l) by simpa using H1.out)
    have HS := Lib.hid (HA.out.below o2.whole)
    obtain ⟨A1, c1, rfl, -, -⟩ := own_len HO.out
    clear H1 o1
    go_wp2_with fail
    go_loopw [11] (fun i wr => ∃ k : Nat, k ≤ n ∧ i = .int .i64 k ∧ wr.ownsRow w.heap.size 29 1 (.slice A1 l.length c1) l.length (u64s (moved l t f k)) ∧ Only nob w wr) (fun i _ => n - (intOf i).toNat)
    case atStart => exact ⟨0, Nat.zero_le _, rfl, by rw [moved_zero]; exact HO.out, o2⟩
    case round =>
      obtain ⟨k, hk, rfl, hw, hO⟩ := hrel
      have HX := Lib.hid hO
      by_cases hlt : k < n
      · obtain ⟨b1, q1, c2, e1, -, -, -, hc1⟩ := (HA.out.below hO.whole).at_ (by omega)
        obtain ⟨rfl, rfl⟩ : A = some ⟨b1, q1, none⟩ ∧ ca = c2 := by simpa using e1
        obtain ⟨g, c3, e2, -, -, hg⟩ := own_form hw (by omega)
        obtain ⟨rfl, rfl⟩ : A1 = some ⟨g, 0, none⟩ ∧ c1 = c3 := by simpa using e2
        have g1 := hc1 (f + k) _ (u64s_wd l (f + k) (by omega))
        have g2 : wr.cell? ⟨g, t + k, none⟩ = some (.int .u64 (wd (moved l t f k) (t + k) : Nat)) := by
          rw [hw.cellAt (t + k) (by omega)]; exact u64s_wd _ _ (by rw [moved_len _ _ _ _ (by omega) (by omega)]; omega)
        have g3 := hw.frozenAt (t + k)
        have HN := Lib.hid (hw.stored (t + k) (.int .u64 (wd l (f + k) : Nat)))
        rw [u64s_set, moved_set _ _ _ _ (by omega) (by omega)] at HN
        have HG := Lib.hid hg
        clear hc1 e1 e2 hw hO hg
        go_wp2
        go_roundw
        case rel => exact ⟨k + 1, by omega, by go_num, HN.out.1, HX.out.andThen (only_set _ _ _ _) fun i hi e => by unfold isb at e; have := HG.out; omega⟩
        case measure => simp [intOf]; omega
      · obtain rfl : k = n := by omega
        have HW := Lib.hid hw
        clear hw hO
        go_wp2
        go_ret2
        exact ⟨_, rfl, HW.out, HX.out⟩

set_option maxHeartbeats 400000 in
theorem refMove_no (A : Option Addr) (len c : Nat) (t f n : Int) (w : World) (hl : len ≤ 98304) (hn : ¬ (Fits len t n ∧ Fits len f n)) :
    Calls Try.prog 11 #[.slice A len c, .int .i64 t, .int .i64 f, .int .i64 n] w fun e w' => e = .returned (.tuple #[.slice A len c, .int .i64 (eno n)]) ∧ w = w' := by
  by_cases hn0 : n < 0
  · rw [show eno n = 1 from if_pos hn0]
    go_enter Try.func11, Try.ntmps11
    go_wp2
    go_ret2
    exact ⟨rfl, rfl⟩
  · rw [show eno n = 2 from if_neg hn0]
    by_cases h1 : 0 ≤ t ∧ t ≤ (len : Int) ∧ n ≤ (len : Int) - t
    · have HT := Lib.hid (decide_eq_true h1)
      have HF := Lib.hid (show decide (0 ≤ f ∧ f ≤ (len : Int) ∧ n ≤ (len : Int) - f) = false by unfold Fits at hn; simp; omega)
      clear hn h1
      go_enter Try.func11, Try.ntmps11
      go_wp2_with fail
      refine (there_any len t n _ hl).mono ?_
      rw [HT.out]
      rintro e w' ⟨rfl, rfl⟩
      go_wp2_with fail
      refine (there_any len f n _ hl).mono ?_
      rw [HF.out]
      rintro e w' ⟨rfl, rfl⟩
      go_wp2
      go_ret2
      exact ⟨rfl, rfl⟩
    · have HT := Lib.hid (decide_eq_false h1)
      clear hn h1
      go_enter Try.func11, Try.ntmps11
      go_wp2_with fail
      refine (there_any len t n _ hl).mono ?_
      rw [HT.out]
      rintro e w' ⟨rfl, rfl⟩
      go_wp2
      go_ret2
      exact ⟨rfl, rfl⟩

set_option maxHeartbeats 400000 in
theorem refFill_no (A : Option Addr) (len c : Nat) (a n x : Int) (w : World) (hl : len ≤ 98304) (hn : ¬ Fits len a n) :
    Calls Try.prog 13 #[.slice A len c, .int .i64 a, .int .i64 n, .int .u64 x] w fun e w' => e = .returned (.tuple #[.slice A len c, .int .i64 (eno n)]) ∧ w = w' := by
  by_cases hn0 : n < 0
  · rw [show eno n = 1 from if_pos hn0]
    go_enter Try.func13, Try.ntmps13
    go_wp2
    go_ret2
    exact ⟨rfl, rfl⟩
  · rw [show eno n = 2 from if_neg hn0]
    have HT := Lib.hid (show decide (0 ≤ a ∧ a ≤ (len : Int) ∧ n ≤ (len : Int) - a) = false by unfold Fits at hn; simp; omega)
    clear hn
    go_enter Try.func13, Try.ntmps13
    go_wp2_with fail
    refine (there_any len a n _ hl).mono ?_
    rw [HT.out]
    rintro e w' ⟨rfl, rfl⟩
    go_wp2
    go_ret2
    exact ⟨rfl, rfl⟩

set_option maxHeartbeats 1000000 in
theorem refFill_any (v : Value) (l : List Nat) (a n x : Nat) (w : World) (h : Sl w w.heap.size 1 v l.length (u64s l)) (hl : l.length ≤ 98304) (ha : a + n ≤ l.length) :
    Calls Try.prog 13 #[v, .int .i64 a, .int .i64 n, .int .u64 x] w fun e w' => ∃ v', e = .returned (.tuple #[v', .int .i64 0]) ∧ w'.ownsRow w.heap.size 29 1 v' l.length (u64s (filled l a n x)) ∧ Only nob w w' := by
  obtain ⟨i0, hi0, hz0, hz1, hz2⟩ := info_parts info_u64
  have HA := Lib.hid h
  obtain ⟨A, ca, rfl, hac, ham, -⟩ := h
  unfold maxLen at ham
  have HT := Lib.hid (show decide (0 ≤ (a : Int) ∧ (a : Int) ≤ (l.length : Int) ∧ (n : Int) ≤ (l.length : Int) - a) = true by simp; omega)
  go_enter Try.func13, Try.ntmps13
  go_wp2_with fail
  refine (there_any l.length a n _ hl).mono ?_
  rw [HT.out]
  rintro e w' ⟨rfl, rfl⟩
  go_wp2_with (with_reducible refine wpList_append_sl (o := ⟨some 24, _, _, _, _, _⟩) _ rfl (.tmp 22) (.tmp 23) _ rfl w.heap.size 29 i0 _ 1 8 Try.underlying22 hi0 hz0 hz1 hz2 rfl (by decide) (.slice (some ⟨w.heap.size, 0, none⟩) 0 0) 0 [] rfl ?c1 w.heap.size (.slice A l.length ca) l.length (u64s l) rfl ?c6 (u64s_one l) ?c2 ?c3 ?c4 ?c5)
  case c1 => exact lit_own w _ _
  case c6 => exact HA.out.below ((Below.refl _ _).alloc (Nat.le_refl _) _)
  case c2 => unfold maxLen; omega
  case c3 => omega
  case c4 => simp
  case c5 =>
    intro v1 w1 H1 o1 _
    have o2 := lit_only o1
    have HO := Lib.hid (show w1.ownsRow w.heap.size 29 1 v1 l.length (u64s l) by simpa using H1.out)
    obtain ⟨A1, c1, rfl, -, -⟩ := own_len HO.out
    clear H1 o1
    go_wp2_with fail
    go_loopw [11] (fun i wr => ∃ k : Nat, k ≤ n ∧ i = .int .i64 k ∧ wr.ownsRow w.heap.size 29 1 (.slice A1 l.length c1) l.length (u64s (filled l a k x)) ∧ Only nob w wr) (fun i _ => n - (intOf i).toNat)
    case atStart => exact ⟨0, Nat.zero_le _, rfl, by rw [filled_zero]; exact HO.out, o2⟩
    case round =>
      obtain ⟨k, hk, rfl, hw, hO⟩ := hrel
      have HX := Lib.hid hO
      by_cases hlt : k < n
      · obtain ⟨g, c3, e2, -, -, hg⟩ := own_form hw (by omega)
        obtain ⟨rfl, rfl⟩ : A1 = some ⟨g, 0, none⟩ ∧ c1 = c3 := by simpa using e2
        have g2 : wr.cell? ⟨g, a + k, none⟩ = some (.int .u64 (wd (filled l a k x) (a + k) : Nat)) := by
          rw [hw.cellAt (a + k) (by omega)]; exact u64s_wd _ _ (by rw [filled_len _ _ _ _ (by omega)]; omega)
        have g3 := hw.frozenAt (a + k)
        have HN := Lib.hid (hw.stored (a + k) (.int .u64 (x : Nat)))
        rw [u64s_set, filled_set _ _ _ _ (by omega)] at HN
        have HG := Lib.hid hg
        clear e2 hw hO hg
        go_wp2
        go_roundw
        case rel => exact ⟨k + 1, by omega, by go_num, HN.out.1, HX.out.andThen (only_set _ _ _ _) fun i hi e => by unfold isb at e; have := HG.out; omega⟩
        case measure => simp [intOf]; omega
      · obtain rfl : k = n := by omega
        have HW := Lib.hid hw
        clear hw hO
        go_wp2
        go_ret2
        exact ⟨_, rfl, HW.out, HX.out⟩
end Go.Proofs.Ytdaopgcfddlimaa
