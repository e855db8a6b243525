/- Contracts of Read of word, and of the reference's (stage 1). -/
import Derived.Test.YthbodadmnhodfaaDoorWordC
import Derived.Deep.Cut
namespace Go.Proofs.YthbodadmnhodfaaDoor
open Go.RowKit

/-- The byte of s at k. -/
def sb (s : ByteArray) (k : Nat) : Nat := if h : k < s.size then s[k].toNat else 0
theorem sb_eq (s : ByteArray) (k : Nat) (h : k < s.size) : s[k].toNat = sb s k := by unfold sb; rw [dif_pos h]
theorem sb_lt (s : ByteArray) (k : Nat) : sb s k < 256 := by
  unfold sb; split
  · exact UInt8.toNat_lt _
  · decide
/-- The word that the first k digits tell. -/
def rdv (s : ByteArray) : Nat → Nat
  | 0 => 0
  | k + 1 => rdv s k * 16 + dval (sb s k)
theorem rdv_lt (s : ByteArray) (k : Nat) : rdv s k < 16 ^ k := by
  induction k with
  | zero => show 0 < 1; decide
  | succ k ih => have := dval_lt (sb s k); unfold rdv; rw [Nat.pow_succ]; omega
def RdOk (s : ByteArray) : Prop := s.size = 16 ∧ ∀ j, j < 16 → dok (sb s j) = true
instance (s : ByteArray) : Decidable (RdOk s) := by unfold RdOk; exact inferInstance
def rdV (s : ByteArray) : Nat := if RdOk s then rdv s 16 else 0
def rdE (s : ByteArray) : Int := if RdOk s then 0 else 4
theorem rdV_yes {s : ByteArray} (h : RdOk s) : rdV s = rdv s 16 := if_pos h
theorem rdE_yes {s : ByteArray} (h : RdOk s) : rdE s = 0 := if_pos h
theorem rdV_no {s : ByteArray} (h : ¬ RdOk s) : rdV s = 0 := if_neg h
theorem rdE_no {s : ByteArray} (h : ¬ RdOk s) : rdE s = 4 := if_neg h

/-- The code's row of bits behind k digits. -/
def rdc (s : ByteArray) (k : Nat) : Nat := rdv s k * 2 ^ (64 - 4 * k)
theorem rdc_step (s : ByteArray) (k : Nat) (hk : k < 16) : bits .or .u64 (rdc s k : Int) (IntKind.u64.wrap ((dval (sb s k) : Int) * 2 ^ (60 - 4 * k))) = (rdc s (k + 1) : Int) := by
  have hv := rdv_lt s k
  have hd := dval_lt (sb s k)
  have e16 : (16 : Nat) ^ k = 2 ^ (4 * k) := by rw [Nat.pow_mul]
  have hp := Nat.two_pow_pos (60 - 4 * k)
  have h1 : dval (sb s k) * 2 ^ (60 - 4 * k) < 2 ^ (64 - 4 * k) := by
    have : dval (sb s k) * 2 ^ (60 - 4 * k) < 16 * 2 ^ (60 - 4 * k) := Nat.mul_lt_mul_of_pos_right hd hp
    rw [show (16 : Nat) = 2 ^ 4 from rfl, ← Nat.pow_add, show 4 + (60 - 4 * k) = 64 - 4 * k by omega] at this
    exact this
  have h2 : 2 ^ (64 - 4 * k) ≤ full := pow_le_full (by omega)
  have h3 : rdc s k < full := by
    unfold rdc
    have : rdv s k * 2 ^ (64 - 4 * k) < 2 ^ (4 * k) * 2 ^ (64 - 4 * k) := Nat.mul_lt_mul_of_pos_right (by rw [← e16]; exact hv) (Nat.two_pow_pos _)
    rw [← Nat.pow_add, show 4 * k + (64 - 4 * k) = 64 by omega] at this
    exact this
  rw [shl_val, Nat.mod_eq_of_lt (by omega), u64_or_nat _ _ h3 (by unfold full at h2; omega)]
  congr 1
  rw [nat_join (64 - 4 * k) _ _ (by unfold rdc; exact Nat.mul_mod_left _ _) h1]
  unfold rdc
  show _ = (rdv s k * 16 + dval (sb s k)) * 2 ^ (64 - 4 * (k + 1))
  rw [show 64 - 4 * (k + 1) = 60 - 4 * k by omega, Nat.add_mul, Nat.mul_assoc, show (16 : Nat) = 2 ^ 4 from rfl, ← Nat.pow_add, show 4 + (60 - 4 * k) = 64 - 4 * k by omega]
theorem rdc_0 (s : ByteArray) : rdc s 0 = 0 := by simp [rdc, rdv]
theorem rdc_16 (s : ByteArray) : rdc s 16 = rdv s 16 := by simp [rdc]

set_option maxRecDepth 100000 in
set_option maxHeartbeats 1000000 in
theorem read_any (s : ByteArray) (w : World) (hD : Dig w) :
    Calls Tryd.prog 11 #[.string s] w fun e w' => e = .returned (.tuple #[.int .u64 (rdV s), .int .i64 (rdE s)]) ∧ Below w.heap.size w w' := by
  have hds := hD.size
  have H0 := Lib.hid (rdc_0 s)
  by_cases h16 : s.size = 16
  · have h16' : ((s.size : Int) != 16) = false := by simp [h16]
    have H16 := Lib.hid h16
    have hle : 16 ≤ s.size := by omega
    have hle' : s.size ≤ 16 := by omega
    clear h16
    have HDg := Lib.hid hD
    clear hD
    go_enter Tryd.func11, Tryd.ntmps11
    go_wp2_with fail
    go_at_call 26
    refine (places_any 60 (-4) _).mono ?_
    rintro e w1 ⟨rfl, hp, hb⟩
    have HP := Lib.hid hp
    have HB := Lib.hid hb
    clear hp hb
    go_wp2
    go_loopw [4, 13] (fun v i wr => ∃ k : Nat, k ≤ 16 ∧ i = .int .i64 k ∧ v = .int .u64 (rdc s k) ∧ (∀ j, j < k → dok (sb s j) = true) ∧ (k < 16 → PL wr w.heap.size ((60 - 4 * k : Nat) : Int) (-4)) ∧ Below w.heap.size w wr) (fun _ i _ => 16 - (intOf i).toNat)
    case atStart => exact ⟨0, Nat.zero_le _, rfl, by rw [H0.out]; rfl, fun j h => absurd h (Nat.not_lt_zero j), fun _ => HP.out, HB.out⟩
    case round =>
      clear H0
      obtain ⟨k, hk, rfl, rfl, hok, hpl, hbl⟩ := hrel
      by_cases hlt : k < 16
      · have hks : k < s.size := by omega
        have HP := Lib.hid (hpl hlt)
        have HBl := Lib.hid hbl
        have HO := Lib.hid hok
        have HS := Lib.hid (rdc_step s k hlt)
        have hbt := sb_lt s k
        clear hpl hbl hok h16' hle hle'
        by_cases hd : dok (sb s k) = true
        · have HK := Lib.hid hd
          clear hd
          unfold plv
          go_wp2_with fail
          go_at_call 27
          rw [sb_eq s k hks]
          refine (digitOf_any (sb s k) _ (HDg.out.below hds HBl.out) hbt).mono ?_
          rw [HK.out]
          rintro e w' ⟨rfl, rfl⟩
          go_wp2_with fail
          go_at_call 30
          refine (placer_any ((60 - 4 * k : Nat) : Int) (-4) _ _ HP.out (by omega) (by omega)).mono ?_
          rintro e w' ⟨rfl, rfl⟩
          go_wp2
          go_roundw
          case rel =>
            refine ⟨k + 1, by omega, by go_num, by rw [HS.out], fun j hj => ?_, fun h1 => ?_, HBl.out.setCell (Nat.le_refl _) _⟩
            · rcases Nat.lt_or_ge j k with h | h
              · exact HO.out j h
              · obtain rfl : j = k := by omega
                exact HK.out
            · rw [show ((60 - 4 * k : Nat) : Int) + -4 = ((60 - 4 * (k + 1) : Nat) : Int) by omega]
              exact pl_set HP.out _
          case measure => simp [intOf]; omega
        · have HK := Lib.hid (show dok (sb s k) = false by simpa using hd)
          have HN := Lib.hid (show ¬ RdOk s from fun h => hd (h.2 k hlt))
          clear hd
          go_wp2_with fail
          go_at_call 27
          rw [sb_eq s k hks]
          refine (digitOf_any (sb s k) _ (HDg.out.below hds HBl.out) hbt).mono ?_
          rw [HK.out]
          rintro e w' ⟨rfl, rfl⟩
          go_wp2
          go_ret2
          exact ⟨by rw [rdV_no HN.out, rdE_no HN.out]; rfl, HBl.out⟩
      · obtain rfl : k = 16 := by omega
        have HY := Lib.hid (show RdOk s from ⟨H16.out, hok⟩)
        clear hok hpl
        go_wp2
        go_ret2
        exact ⟨by rw [rdV_yes HY.out, rdE_yes HY.out, rdc_16]; rfl, hbl⟩
  · have h16' : ((s.size : Int) != 16) = true := by simp; omega
    have HN := Lib.hid (show ¬ RdOk s from fun h => h16 h.1)
    clear h16 H0
    go_enter Tryd.func11, Tryd.ntmps11
    go_wp2
    go_ret2
    exact ⟨by rw [rdV_no HN.out, rdE_no HN.out]; rfl, Below.refl _ _⟩

theorem rdv_dec (s : ByteArray) (k : Nat) (hk : k < 16) (h : 48 ≤ sb s k) (h' : sb s k ≤ 57) : IntKind.u64.wrap (IntKind.u64.wrap ((rdv s k : Int) * 16) + ((sb s k : Int) - 48)) = (rdv s (k + 1) : Int) := by
  have hv := rdv_lt s k
  have e : dval (sb s k) = sb s k - 48 := by
    have e1 : dgt (sb s k) = sb s k - 48 := by unfold dgt; rw [if_pos ⟨h, h'⟩]
    unfold dval; rw [e1, if_pos (by omega)]
  have h2 : (16 : Nat) ^ k ≤ 16 ^ 15 := Nat.pow_le_pow_right (by decide) (by omega)
  have h3 : rdv s k < 1152921504606846976 := Nat.lt_of_lt_of_le hv h2
  show _ = ((rdv s k * 16 + dval (sb s k) : Nat) : Int)
  rw [e, IntKind.wrap_u64, IntKind.wrap_u64]
  omega
theorem rdv_hex (s : ByteArray) (k : Nat) (hk : k < 16) (h : 97 ≤ sb s k) (h' : sb s k ≤ 102) : IntKind.u64.wrap (IntKind.u64.wrap (IntKind.u64.wrap ((rdv s k : Int) * 16) + ((sb s k : Int) - 97)) + 10) = (rdv s (k + 1) : Int) := by
  have hv := rdv_lt s k
  have e : dval (sb s k) = sb s k - 87 := by
    have e1 : dgt (sb s k) = sb s k - 87 := by unfold dgt; rw [if_neg (by omega), if_pos ⟨h, h'⟩]
    unfold dval; rw [e1, if_pos (by omega)]
  have h2 : (16 : Nat) ^ k ≤ 16 ^ 15 := Nat.pow_le_pow_right (by decide) (by omega)
  have h3 : rdv s k < 1152921504606846976 := Nat.lt_of_lt_of_le hv h2
  show _ = ((rdv s k * 16 + dval (sb s k) : Nat) : Int)
  rw [e, IntKind.wrap_u64, IntKind.wrap_u64, IntKind.wrap_u64]
  omega
theorem dok_dec {c : Nat} (h : 48 ≤ c) (h' : c ≤ 57) : dok c = true := by unfold dok dgt; rw [if_pos ⟨h, h'⟩]; simp; omega
theorem dok_hex {c : Nat} (h : 97 ≤ c) (h' : c ≤ 102) : dok c = true := by unfold dok dgt; rw [if_neg (by omega), if_pos ⟨h, h'⟩]; simp; omega
theorem dok_not {c : Nat} (h : ¬ (48 ≤ c ∧ c ≤ 57)) (h' : ¬ (97 ≤ c ∧ c ≤ 102)) : dok c = false := by unfold dok dgt; rw [if_neg h, if_neg h']; rfl

set_option maxRecDepth 100000 in
set_option maxHeartbeats 1000000 in
theorem refRead_any (s : ByteArray) (w : World) :
    Calls Tryd.prog 12 #[.string s] w fun e w' => e = .returned (.tuple #[.int .u64 (rdV s), .int .i64 (rdE s)]) ∧ w = w' := by
  by_cases h16 : s.size = 16
  · have h16' : ((s.size : Int) != 16) = false := by simp [h16]
    have H16 := Lib.hid h16
    clear h16
    go_enter Tryd.func12, Tryd.ntmps12
    go_wp2
    clear h16'
    go_loop [4, 5] (fun v i => ∃ k : Nat, k ≤ 16 ∧ i = .int .i64 k ∧ v = .int .u64 (rdv s k) ∧ (∀ j, j < k → dok (sb s j) = true)) (fun _ i => 16 - (intOf i).toNat)
    case atStart => exact ⟨0, Nat.zero_le _, rfl, rfl, fun j h => absurd h (Nat.not_lt_zero j)⟩
    case round =>
      obtain ⟨k, hk, rfl, rfl, hok⟩ := hrel
      by_cases hlt : k < 16
      · have hks : k < s.size := by have := H16.out; omega
        have HO := Lib.hid hok
        clear hok
        go_upto_region 8 with fail
        rw [sb_eq s k hks]
        clear hks
        have rel' : dok (sb s k) = true → ∀ j, j < k + 1 → dok (sb s j) = true := fun hd j hj => by
          rcases Nat.lt_or_ge j k with h | h
          · exact HO.out j h
          · obtain rfl : j = k := by omega
            exact hd
        have HR := Lib.hid rel'
        clear rel'
        by_cases h1 : 48 ≤ sb s k ∧ sb s k ≤ 57
        · obtain ⟨ha, hb⟩ := h1
          have HV := Lib.hid (rdv_dec s k hlt ha hb)
          have HK := Lib.hid (dok_dec ha hb)
          go_wp2
          go_round
          case rel => exact ⟨k + 1, by omega, by go_num, by rw [HV.out], HR.out HK.out⟩
          case measure => simp [intOf]; omega
        · by_cases h2 : 97 ≤ sb s k ∧ sb s k ≤ 102
          · obtain ⟨ha, hb⟩ := h2
            have HV := Lib.hid (rdv_hex s k hlt ha hb)
            have HK := Lib.hid (dok_hex ha hb)
            have h3 : ¬ sb s k ≤ 57 := by omega
            have h4 : 48 ≤ sb s k := by omega
            clear h1
            go_wp2
            go_round
            case rel => exact ⟨k + 1, by omega, by go_num, by rw [HV.out], HR.out HK.out⟩
            case measure => simp [intOf]; omega
          · have HK := Lib.hid (dok_not h1 h2)
            have HN := Lib.hid (show ¬ RdOk s from fun h => by have := h.2 k hlt; rw [HK.out] at this; cases this)
            by_cases h3 : 48 ≤ sb s k <;> by_cases h4 : 97 ≤ sb s k
            all_goals try (exfalso; omega)
            all_goals
              try have h5 : ¬ sb s k ≤ 57 := by omega
              try have h6 : ¬ sb s k ≤ 102 := by omega
              clear h1 h2
              go_wp2
              go_ret2
              exact ⟨by rw [rdV_no HN.out, rdE_no HN.out]; rfl, rfl⟩
      · obtain rfl : k = 16 := by omega
        have HY := Lib.hid (show RdOk s from ⟨H16.out, hok⟩)
        clear hok
        go_wp2
        go_ret2
        exact ⟨by rw [rdV_yes HY.out, rdE_yes HY.out]; rfl, rfl⟩
  · have h16' : ((s.size : Int) != 16) = true := by simp; omega
    have HN := Lib.hid (show ¬ RdOk s from fun h => h16 h.1)
    clear h16
    go_enter Tryd.func12, Tryd.ntmps12
    go_wp2
    go_ret2
    exact ⟨by rw [rdV_no HN.out, rdE_no HN.out]; rfl, rfl⟩
end Go.Proofs.YthbodadmnhodfaaDoor
