/- Headers as words: Enc, Dec, Size, Forward, Forwarded of package head. -/
import Derived.Test.YtffbemfgibleeaaDoorHeadD
namespace Go.Proofs.YtffbemfgibleeaaDoor
open Go.RowKit

/-- The word of a header, and the error; its size. -/
def hEW (k f r : Int) (m : Bool) (c : Int) : Int := if hmay k f r c then hW k f r m c else 0
def hEE (k f r c : Int) : Int := if hmay k f r c then 0 else 1
def hSz (k f r c : Int) : Int := if hmay k f r c then 1 + f + r else 0
theorem hEW_yes {k f r c : Int} (m : Bool) (h : hmay k f r c = true) : hEW k f r m c = hW k f r m c := by unfold hEW; rw [h]; rfl
theorem hEE_yes {k f r c : Int} (h : hmay k f r c = true) : hEE k f r c = 0 := by unfold hEE; rw [h]; rfl
theorem hSz_yes {k f r c : Int} (h : hmay k f r c = true) : hSz k f r c = 1 + f + r := by unfold hSz; rw [h]; rfl
theorem hEW_no {k f r c : Int} (m : Bool) (h : hmay k f r c = false) : hEW k f r m c = 0 := by unfold hEW; rw [h]; rfl
theorem hEE_no {k f r c : Int} (h : hmay k f r c = false) : hEE k f r c = 1 := by unfold hEE; rw [h]; rfl
theorem hSz_no {k f r c : Int} (h : hmay k f r c = false) : hSz k f r c = 0 := by unfold hSz; rw [h]; rfl

theorem pack_yes {k f r : Int} (m : Bool) {c : Int} (h : hmay k f r c = true) (w : World) (hp : Par w) : Calls Tryd.prog 46 #[numV k f r m c] w fun e w' => e = .returned (.tuple #[.int .u64 (hW k f r m c), .bool true]) ∧ Only nob w w' :=
  (pack_said 3 (bi m) k f r c w hp).mono fun e w' ⟨h1, _, h3⟩ => ⟨(h1 ((mayTo_iff k f r m c).2 h)).trans (by rw [show ((accW (num6 3 (bi m) k f r c) 6 : Nat) : Int) = hW k f r m c from accW_is m h]), h3⟩
theorem pack_no {k f r : Int} (m : Bool) {c : Int} (h : hmay k f r c = false) (w : World) (hp : Par w) : Calls Tryd.prog 46 #[numV k f r m c] w fun e w' => e = .returned (.tuple #[.int .u64 0, .bool false]) ∧ Only nob w w' :=
  (pack_said 3 (bi m) k f r c w hp).mono fun e w' ⟨_, h2, h3⟩ => ⟨h2 (fun hm => by rw [(mayTo_iff k f r m c).1 hm] at h; cases h), h3⟩

theorem hEnc_any (k f r : Int) (m : Bool) (c : Int) (w : World) (hp : Par w) : Calls Tryd.prog 39 #[.agg #[.int .i64 k, .int .i64 f, .int .i64 r, .bool m, .int .i64 c]] w fun e w' => e = .returned (.tuple #[.int .u64 (hEW k f r m c), .int .i64 (hEE k f r c)]) ∧ Only nob w w' := by
  obtain ⟨W, hW0, HB⟩ := box_head w k f r m c
  have HWE := Lib.hid hW0
  have HP := Lib.hid hp
  obtain ⟨c0, c1, c2, c3, c4⟩ := cells5 HB.out.2
  clear hW0 hp
  rcases hm : hmay k f r c with _ | _
  case' false =>
    rw [hEW_no m hm, hEE_no hm]
    have HC := Lib.hid (fun w hp => pack_no m hm w hp)
  case' true =>
    rw [hEW_yes m hm, hEE_yes hm]
    have HC := Lib.hid (fun w hp => pack_yes m hm w hp)
  all_goals
    clear hm
    go_enter Tryd.func39, Tryd.ntmps39
    go_wp2_with fail
    rw [HWE.out]
    go_at_call 47
    refine (numbersOf_any k f r m c _).mono ?_
    rintro e w1 ⟨rfl, o⟩
    have O1 := Lib.hid (HB.out.1.trans o)
    clear o c0 c1 c2 c3 c4
    go_wp2_with fail
    go_at_call 46
    refine (HC.out _ (HP.out.old O1.out)).mono ?_
    rintro e w2 ⟨rfl, o⟩
    have O2 := Lib.hid (O1.out.trans o)
    clear o
    go_wp2
    go_ret2
    exact ⟨rfl, O2.out⟩

theorem hSize_any (k f r : Int) (m : Bool) (c : Int) (w : World) (hp : Par w) : Calls Tryd.prog 30 #[.agg #[.int .i64 k, .int .i64 f, .int .i64 r, .bool m, .int .i64 c]] w fun e w' => e = .returned (.int .i64 (hSz k f r c)) ∧ Only nob w w' := by
  obtain ⟨W, hW0, HB⟩ := box_head w k f r m c
  have HWE := Lib.hid hW0
  have HP := Lib.hid hp
  obtain ⟨c0, c1, c2, c3, c4⟩ := cells5 HB.out.2
  clear hW0 hp
  rcases hm : hmay k f r c with _ | _
  case' false =>
    rw [hSz_no hm]
    have HC := Lib.hid (fun w hp => pack_no m hm w hp)
  case' true =>
    rw [hSz_yes hm]
    have HC := Lib.hid (fun w hp => pack_yes m hm w hp)
    obtain ⟨-, ⟨b1, b2⟩, ⟨b3, b4⟩, -⟩ := hmay_iff.1 hm
  all_goals
    clear hm
    go_enter Tryd.func30, Tryd.ntmps30
    go_wp2_with fail
    rw [HWE.out]
    go_at_call 47
    refine (numbersOf_any k f r m c _).mono ?_
    rintro e w1 ⟨rfl, o⟩
    have O1 := Lib.hid (HB.out.1.trans o)
    have B1 := Lib.hid (HB.out.2.keep o id)
    clear o c0 c1 c2 c3 c4
    go_wp2_with fail
    go_at_call 46
    refine (HC.out _ (HP.out.old O1.out)).mono ?_
    rintro e w2 ⟨rfl, o⟩
    have O2 := Lib.hid (O1.out.trans o)
    obtain ⟨c0, c1, c2, c3, c4⟩ := cells5 (B1.out.keep o id)
    clear o
    go_wp2
    go_ret
    exact ⟨rfl, O2.out⟩

/-- The numbers of a word. -/
def wK (n : Nat) : Int := (n / 8 % 32 : Nat)
def wF (n : Nat) : Int := (n / 256 % 65536 : Nat)
def wR (n : Nat) : Int := (n / 16777216 % 65536 : Nat)
def wM (n : Nat) : Bool := n / 4 % 2 == 1
def wC (n : Nat) : Int := (n / 1099511627776 : Nat)
/-- Is it a header's? -/
def wOk (n : Nat) : Bool := n % 4 == 3 && hmay (wK n) (wF n) (wR n) (wC n)
theorem un_0 (n : Nat) : un n 0 = (n % 4 : Nat) := by show ((n / 2 ^ 0 % 2 ^ 2 : Nat) : Int) = _; simp
theorem un_1 (n : Nat) : un n 1 = (n / 4 % 2 : Nat) := rfl
theorem un_2 (n : Nat) : un n 2 = wK n := rfl
theorem un_3 (n : Nat) : un n 3 = wF n := rfl
theorem un_4 (n : Nat) : un n 4 = wR n := rfl
theorem un_5 {n : Nat} (hn : n < full) : un n 5 = wC n := by
  show ((n / 1099511627776 % 16777216 : Nat) : Int) = ((n / 1099511627776 : Nat) : Int)
  rw [Nat.mod_eq_of_lt (by unfold full at hn; omega)]
theorem un_1b (n : Nat) : (un n 1 == 1) = wM n := by
  rw [un_1]
  unfold wM
  rw [Bool.eq_iff_iff]
  simp only [beq_iff_eq]
  omega
theorem mayTo_un {n : Nat} (hn : n < full) : MayTo (un n) 6 ↔ wOk n = true := by
  unfold wOk
  rw [Bool.and_eq_true, beq_iff_eq, hmay_iff]
  constructor
  · intro h
    have h0 := vin_iff.1 (h 0 (by decide))
    rw [un_0] at h0
    have h2 := vin_iff.1 (h 2 (by decide))
    have h3 := vin_iff.1 (h 3 (by decide))
    have h4 := vin_iff.1 (h 4 (by decide))
    have h5 := vin_iff.1 (h 5 (by decide))
    rw [un_5 hn] at h5
    refine ⟨?_, h2, h3, h4, h5⟩
    simp only [pL, pU] at h0
    omega
  · rintro ⟨h0, h1, h2, h3, h4⟩ i hi
    rcases lt_six hi with rfl | rfl | rfl | rfl | rfl | rfl
    · rw [un_0, h0]; decide
    · rw [un_1]; exact vin_yes (by simp only [pL]; omega) (by simp only [pU]; omega)
    · exact vin_yes h1.1 h1.2
    · exact vin_yes h2.1 h2.2
    · exact vin_yes h3.1 h3.2
    · rw [un_5 hn]; exact vin_yes h4.1 h4.2
theorem unpack_yes {n : Nat} (hn : n < full) (h : wOk n = true) (w : World) (hp : Par w) : Calls Tryd.prog 44 #[.int .u64 n] w fun e w' => e = .returned (.tuple #[.agg #[.int .i64 (un n 0), .int .i64 (un n 1), .int .i64 (wK n), .int .i64 (wF n), .int .i64 (wR n), .int .i64 (wC n)], .bool true]) ∧ Only nob w w' :=
  (unpack_said n hn w hp).mono fun e w' ⟨h1, _, h3⟩ => ⟨(h1 ((mayTo_un hn).2 h)).trans (by rw [un_5 hn]; rfl), h3⟩
theorem unpack_no {n : Nat} (hn : n < full) (h : wOk n = false) (w : World) (hp : Par w) : Calls Tryd.prog 44 #[.int .u64 n] w fun e w' => e = .returned (.tuple #[.agg #[.int .i64 0, .int .i64 0, .int .i64 0, .int .i64 0, .int .i64 0, .int .i64 0], .bool false]) ∧ Only nob w w' :=
  (unpack_said n hn w hp).mono fun e w' ⟨_, h2, h3⟩ => ⟨h2 (fun hm => by rw [(mayTo_un hn).1 hm] at h; cases h), h3⟩

/-- The header of a word, and the error. -/
def oK (n : Nat) : Int := if wOk n then wK n else 0
def oF (n : Nat) : Int := if wOk n then wF n else 0
def oR (n : Nat) : Int := if wOk n then wR n else 0
def oM (n : Nat) : Bool := wOk n && wM n
def oC (n : Nat) : Int := if wOk n then wC n else 0
def oE (n : Nat) : Int := if wOk n then 0 else 3
theorem o_yes {n : Nat} (h : wOk n = true) : oK n = wK n ∧ oF n = wF n ∧ oR n = wR n ∧ oM n = wM n ∧ oC n = wC n ∧ oE n = 0 := by
  unfold oK oF oR oM oC oE; rw [h]; exact ⟨rfl, rfl, rfl, rfl, rfl, rfl⟩
theorem o_no {n : Nat} (h : wOk n = false) : oK n = 0 ∧ oF n = 0 ∧ oR n = 0 ∧ oM n = false ∧ oC n = 0 ∧ oE n = 3 := by
  unfold oK oF oR oM oC oE; rw [h]; exact ⟨rfl, rfl, rfl, rfl, rfl, rfl⟩
theorem zero_head (w : World) : ∃ W, w.alloc (.cells #[.int .i64 0, .int .i64 0, .int .i64 0, .bool false, .int .i64 0] 30) = W ∧ Hid (Only nob w W ∧ Blk W w.heap.size 30 #[.int .i64 0, .int .i64 0, .int .i64 0, .bool false, .int .i64 0]) := box_head w 0 0 0 false 0

set_option maxRecDepth 100000 in
set_option maxHeartbeats 1000000 in
theorem hDec_yes {n : Nat} (hn : n < full) (h : wOk n = true) (w : World) (hp : Par w) : Calls Tryd.prog 29 #[.int .u64 n] w fun e w' => e = .returned (.tuple #[.agg #[.int .i64 (wK n), .int .i64 (wF n), .int .i64 (wR n), .bool (wM n), .int .i64 (wC n)], .int .i64 0]) ∧ Only nob w w' := by
  obtain ⟨W, hW0, HB⟩ := zero_head w
  have HWE := Lib.hid hW0
  have HP := Lib.hid hp
  have HC := Lib.hid (fun w hp => unpack_yes hn h w hp)
  have HM := Lib.hid (un_1b n)
  clear hW0 hp h hn
  go_enter Tryd.func29, Tryd.ntmps29
  go_wp2_with fail
  rw [HWE.out]
  go_at_call 44
  refine (HC.out _ (HP.out.old HB.out.1)).mono ?_
  rintro e w1 ⟨rfl, o⟩
  have O1 := Lib.hid (HB.out.1.trans o)
  have B1 := Lib.hid (HB.out.2.keep o id)
  clear o
  obtain ⟨W2, hW2, HB2⟩ := box_six w1 (un n 0) (un n 1) (wK n) (wF n) (wR n) (wC n)
  have HW2 := Lib.hid hW2
  clear hW2
  go_upto_region 4 with fail
  rw [HW2.out]
  have c0 := HB2.out.2 0 (by decide)
  have c1 := HB2.out.2 1 (by decide)
  have c2 := HB2.out.2 2 (by decide)
  have c3 := HB2.out.2 3 (by decide)
  have c4 := HB2.out.2 4 (by decide)
  have c5 := HB2.out.2 5 (by decide)
  simp only [num6] at c0 c1 c2 c3 c4 c5
  go_wp2_with fail
  go_at_call 45
  refine (headOf_any _ _ _ _ _ _ _).mono ?_
  rw [HM.out]
  rintro e w3 ⟨rfl, o⟩
  have O3 := Lib.hid (O1.out.trans (HB2.out.1.trans o))
  have B3 := Lib.hid (B1.out.keep (HB2.out.1.trans o) id)
  clear o c0 c1 c2 c3 c4 c5
  obtain ⟨s0, s1, s2, s3, s4⟩ := cells5 B3.out
  obtain ⟨r0, r1, r2, r3, r4⟩ := frees5 B3.out
  go_wp2
  clear s0 s1 s2 s3 s4 r0 r1 r2 r3 r4
  obtain ⟨W6, hW6, O6, B6⟩ := puts5 O3.out (Nat.le_refl _) B3.out (.int .i64 (wK n)) (.int .i64 (wF n)) (.int .i64 (wR n)) (.bool (wM n)) (.int .i64 (wC n))
  with_reducible rw [hW6]
  obtain ⟨h0, h1, h2, h3, h4⟩ := cells5 B6
  exact bodyPost_ret (v := .tuple #[.agg #[.int .i64 (wK n), .int .i64 (wF n), .int .i64 (wR n), .bool (wM n), .int .i64 (wC n)], .int .i64 0]) (by simp [results, Tryd.results29, go_sem, h0, h1, h2, h3, h4]) rfl ⟨rfl, O6⟩
set_option maxRecDepth 100000 in
set_option maxHeartbeats 1000000 in
theorem hDec_no {n : Nat} (hn : n < full) (h : wOk n = false) (w : World) (hp : Par w) : Calls Tryd.prog 29 #[.int .u64 n] w fun e w' => e = .returned (.tuple #[.agg #[.int .i64 0, .int .i64 0, .int .i64 0, .bool false, .int .i64 0], .int .i64 3]) ∧ Only nob w w' := by
  obtain ⟨W, hW0, HB⟩ := zero_head w
  have HWE := Lib.hid hW0
  have HP := Lib.hid hp
  have HC := Lib.hid (fun w hp => unpack_no hn h w hp)
  clear hW0 hp h hn
  go_enter Tryd.func29, Tryd.ntmps29
  go_wp2_with fail
  rw [HWE.out]
  go_at_call 44
  refine (HC.out _ (HP.out.old HB.out.1)).mono ?_
  rintro e w1 ⟨rfl, o⟩
  have O1 := Lib.hid (HB.out.1.trans o)
  have B1 := Lib.hid (HB.out.2.keep o id)
  clear o
  obtain ⟨W2, hW2, HB2⟩ := box_six w1 0 0 0 0 0 0
  have HW2 := Lib.hid hW2
  clear hW2
  go_upto_region 3 with fail
  rw [HW2.out]
  have O3 := Lib.hid (O1.out.trans HB2.out.1)
  have B3 := Lib.hid (B1.out.keep HB2.out.1 id)
  obtain ⟨s0, s1, s2, s3, s4⟩ := cells5 B3.out
  obtain ⟨r0, r1, r2, r3, r4⟩ := frees5 B3.out
  go_wp2
  clear s0 s1 s2 s3 s4 r0 r1 r2 r3 r4
  obtain ⟨W6, hW6, O6, B6⟩ := puts5 O3.out (Nat.le_refl _) B3.out (.int .i64 0) (.int .i64 0) (.int .i64 0) (.bool false) (.int .i64 0)
  with_reducible rw [hW6]
  obtain ⟨h0, h1, h2, h3, h4⟩ := cells5 B6
  exact bodyPost_ret (v := .tuple #[.agg #[.int .i64 0, .int .i64 0, .int .i64 0, .bool false, .int .i64 0], .int .i64 3]) (by simp [results, Tryd.results29, go_sem, h0, h1, h2, h3, h4]) rfl ⟨rfl, O6⟩
theorem hDec_any {n : Nat} (hn : n < full) (w : World) (hp : Par w) : Calls Tryd.prog 29 #[.int .u64 n] w fun e w' => e = .returned (.tuple #[.agg #[.int .i64 (oK n), .int .i64 (oF n), .int .i64 (oR n), .bool (oM n), .int .i64 (oC n)], .int .i64 (oE n)]) ∧ Only nob w w' := by
  rcases h : wOk n with _ | _
  · obtain ⟨h1, h2, h3, h4, h5, h6⟩ := o_no h
    rw [h1, h2, h3, h4, h5, h6]
    exact hDec_no hn h w hp
  · obtain ⟨h1, h2, h3, h4, h5, h6⟩ := o_yes h
    rw [h1, h2, h3, h4, h5, h6]
    exact hDec_yes hn h w hp
end Go.Proofs.YtffbemfgibleeaaDoor
