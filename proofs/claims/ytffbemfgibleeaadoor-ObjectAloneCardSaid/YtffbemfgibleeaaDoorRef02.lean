/- Contracts of the document's own answers for arenas. -/
import Derived.Test.YtffbemfgibleeaaDoorArenaB
namespace Go.Proofs.YtffbemfgibleeaaDoor
open Go.RowKit

set_option maxHeartbeats 1000000 in
theorem same_any (va vb : Value) (l : List Nat) (B B' : Nat) (w : World) (ha : Sl w B 1 va l.length (u64s l)) (hb : Sl w B' 1 vb l.length (u64s l)) :
    Calls Tryd.prog 10 #[va, vb] w fun e w' => e = .returned (.bool true) ∧ ∃ m, w' = w.drewN m := by
  have HA := Lib.hid ha
  have HB := Lib.hid hb
  obtain ⟨A, ca, rfl, hac, ham, -⟩ := ha
  obtain ⟨A', cb, rfl, hbc, hbm, -⟩ := hb
  unfold maxLen at ham hbm
  go_enter Tryd.func10, Tryd.ntmps10
  go_wp2
  go_loopw [5] (fun i wr => ∃ k m : Nat, k ≤ l.length ∧ i = .int .i64 k ∧ wr = w.drewN m) (fun i _ => l.length - (intOf i).toNat)
  case atStart => exact ⟨0, 0, Nat.zero_le _, rfl, rfl⟩
  case round =>
    obtain ⟨k, m, hk, rfl, rfl⟩ := hrel
    by_cases hlt : k < l.length
    · obtain ⟨b1, o1, c1, e1, -, -, -, hc1⟩ := HA.out.at_ (by omega)
      obtain ⟨b2, o2, c2, e2, -, -, -, hc2⟩ := HB.out.at_ (by omega)
      obtain ⟨rfl, rfl⟩ : A = some ⟨b1, o1, none⟩ ∧ ca = c1 := by simpa using e1
      obtain ⟨rfl, rfl⟩ : A' = some ⟨b2, o2, none⟩ ∧ cb = c2 := by simpa using e2
      have g1 := hc1 k _ (u64s_wd l k hlt)
      have g2 := hc2 k _ (u64s_wd l k hlt)
      clear hc1 hc2 e1 e2
      go_wp2
      go_quiet (fail)
      go_wp2
      go_roundw
      case rel => exact ⟨k + 1, _, by omega, by go_num, rfl⟩
      case measure => simp [intOf]; omega
    · obtain rfl : k = l.length := by omega
      go_wp2
      go_ret
      exact ⟨rfl, _, rfl⟩

/-- A list whose words from t on are k of those from f on. -/
def moved (l : List Nat) (t f k : Nat) : List Nat := splice l t (part l f k)
theorem moved_len (l : List Nat) (t f k : Nat) (h : t + k ≤ l.length) (h' : f + k ≤ l.length) : (moved l t f k).length = l.length := splice_len _ _ _ (by rw [part_len l f k h']; exact h)
theorem moved_zero (l : List Nat) (t f : Nat) : moved l t f 0 = l := by unfold moved part; simp [splice]
theorem part_snoc (l : List Nat) (f k : Nat) (h : f + k < l.length) : part l f (k + 1) = part l f k ++ [wd l (f + k)] := by
  unfold part
  rw [List.take_add_one, wd_get l _ h]
  simp [List.getElem?_drop, h]
theorem moved_set (l : List Nat) (t f k : Nat) (h : t + k < l.length) (h' : f + k < l.length) : (moved l t f k).set (t + k) (wd l (f + k)) = moved l t f (k + 1) := by
  unfold moved
  rw [part_snoc l f k h']
  have e := part_len l f k (by omega)
  have := splice_snoc l t (part l f k) (wd l (f + k)) (by rw [e]; exact h)
  rw [e] at this
  exact this

end Go.Proofs.YtffbemfgibleeaaDoor
