/- Objects in a row of words: what each call tells and leaves, in plain words. -/
import Derived.Test.YtciidodmhigpdaaGreatDoorArena
import Derived.Test.YtciidodmhigpdaaGreatDoorHeads
import Derived.Test.YtciidodmhigpdaaGreatDoorSmalls
import Derived.Test.YtciidodmhigpdaaGreatDoorVal
import Derived.Deep.Cut
namespace Go.Proofs.YtciidodmhigpdaaGreatDoor
open Go.RowKit

theorem wOk_may {n : Nat} (h : wOk n = true) : hmay (wK n) (wF n) (wR n) (wC n) = true := by
  unfold wOk at h
  rw [Bool.and_eq_true] at h
  exact h.2
theorem wOk_bounds {n : Nat} (h : wOk n = true) : 0 ≤ wF n ∧ wF n ≤ 4096 ∧ 0 ≤ wR n ∧ wR n ≤ 4096 := by
  have := hmay_iff.1 (wOk_may h)
  omega
theorem hW_lt {k f r c : Int} (m : Bool) (h : hmay k f r c = true) : 0 ≤ hW k f r m c ∧ hW k f r m c < 18446744073709551616 := by
  have h1 := hmay_iff.1 h
  have h2 := bi_in m
  unfold hW
  omega

/-- An object stands at a. -/
structure Ob (l : List Nat) (a : Nat) : Prop where
  there : a < l.length
  ok : wOk (wd l a) = true
  far : 1 + wF (wd l a) + wR (wd l a) ≤ (l.length : Int) - a

/-- Head's error, and its header. -/
def ohE (l : List Nat) (a : Int) : Int :=
  if 0 ≤ a ∧ a < (l.length : Int) then (if wOk (wd l a.toNat) = true then (if 1 + wF (wd l a.toNat) + wR (wd l a.toNat) ≤ (l.length : Int) - a then 0 else 2) else 3) else 2
def ohK (l : List Nat) (a : Int) : Int := if ohE l a = 0 then wK (wd l a.toNat) else 0
def ohF (l : List Nat) (a : Int) : Int := if ohE l a = 0 then wF (wd l a.toNat) else 0
def ohR (l : List Nat) (a : Int) : Int := if ohE l a = 0 then wR (wd l a.toNat) else 0
def ohM (l : List Nat) (a : Int) : Bool := if ohE l a = 0 then wM (wd l a.toNat) else false
def ohC (l : List Nat) (a : Int) : Int := if ohE l a = 0 then wC (wd l a.toNat) else 0
section
variable {l : List Nat} {a : Int}
theorem oh_none (h : ohE l a ≠ 0) : ohK l a = 0 ∧ ohF l a = 0 ∧ ohR l a = 0 ∧ ohM l a = false ∧ ohC l a = 0 := by
  unfold ohK ohF ohR ohM ohC
  simp [h]
theorem oh_out (h : ¬ (0 ≤ a ∧ a < (l.length : Int))) : ohE l a = 2 := by unfold ohE; rw [if_neg h]
theorem oh_tag (h : 0 ≤ a ∧ a < (l.length : Int)) (k : wOk (wd l a.toNat) = false) : ohE l a = 3 := by
  unfold ohE
  rw [if_pos h, if_neg (by rw [k]; decide)]
theorem oh_far (h : 0 ≤ a ∧ a < (l.length : Int)) (k : wOk (wd l a.toNat) = true) (hf : ¬ 1 + wF (wd l a.toNat) + wR (wd l a.toNat) ≤ (l.length : Int) - a) : ohE l a = 2 := by
  unfold ohE
  rw [if_pos h, if_pos k, if_neg hf]
theorem oh_zero {a : Nat} (h : Ob l a) : ohE l a = 0 := by
  unfold ohE
  rw [if_pos ⟨by omega, by have := h.there; omega⟩, Int.toNat_natCast, if_pos h.ok, if_pos h.far]
theorem oh_yes {a : Nat} (h : Ob l a) : ohE l a = 0 ∧ ohK l a = wK (wd l a) ∧ ohF l a = wF (wd l a) ∧ ohR l a = wR (wd l a) ∧ ohM l a = wM (wd l a) ∧ ohC l a = wC (wd l a) := by
  have h0 := oh_zero h
  unfold ohK ohF ohR ohM ohC
  rw [if_pos h0, if_pos h0, if_pos h0, if_pos h0, if_pos h0, Int.toNat_natCast]
  exact ⟨h0, rfl, rfl, rfl, rfl, rfl⟩
theorem ob_of (h : ohE l a = 0) : ∃ n : Nat, a = n ∧ Ob l n := by
  unfold ohE at h
  split at h
  case isTrue h1 =>
    split at h
    case isTrue h2 =>
      split at h
      case isTrue h3 => exact ⟨a.toNat, by omega, ⟨by omega, h2, by omega⟩⟩
      case isFalse => cases h
    case isFalse => cases h
  case isFalse => cases h
/-- The header's numbers are small, and its object ends in the row. -/
theorem oh_bounds (h : ohE l a = 0) : 0 ≤ ohF l a ∧ 0 ≤ ohR l a ∧ 0 ≤ a ∧ a + 1 + ohF l a + ohR l a ≤ (l.length : Int) ∧ ohF l a ≤ 4096 ∧ ohR l a ≤ 4096 ∧ hmay (ohK l a) (ohF l a) (ohR l a) (ohC l a) = true := by
  obtain ⟨n, rfl, ho⟩ := ob_of h
  obtain ⟨-, h1, h2, h3, -, h4⟩ := oh_yes ho
  rw [h1, h2, h3, h4]
  have := wOk_bounds ho.ok
  have := ho.far
  exact ⟨by omega, by omega, by omega, by omega, by omega, by omega, wOk_may ho.ok⟩
end

/-- How many there are of a kind of words, and where the first stands. -/
def many (raw : Bool) (l : List Nat) (a : Int) : Int := if raw then ohR l a else ohF l a
def first (raw : Bool) (l : List Nat) (a : Int) : Int := if raw then a + 1 + ohF l a else a + 1
/-- The error of a place, and the place. -/
def plE (raw : Bool) (l : List Nat) (a i : Int) : Int := if ohE l a = 0 then (if 0 ≤ i ∧ i < many raw l a then 0 else 1) else ohE l a
def plP (raw : Bool) (l : List Nat) (a i : Int) : Int := if plE raw l a i = 0 then first raw l a + i else 0
section
variable {raw : Bool} {l : List Nat} {a i : Int}
theorem pl_head (h : ohE l a ≠ 0) : plE raw l a i = ohE l a ∧ plP raw l a i = 0 := by
  have : plE raw l a i = ohE l a := by unfold plE; rw [if_neg h]
  exact ⟨this, by unfold plP; rw [if_neg (by rw [this]; exact h)]⟩
theorem pl_no (h : ohE l a = 0) (k : ¬ (0 ≤ i ∧ i < many raw l a)) : plE raw l a i = 1 ∧ plP raw l a i = 0 := by
  have : plE raw l a i = 1 := by unfold plE; rw [if_pos h, if_neg k]
  exact ⟨this, by unfold plP; rw [this]; rfl⟩
theorem pl_yes (h : ohE l a = 0) (k : 0 ≤ i ∧ i < many raw l a) : plE raw l a i = 0 ∧ plP raw l a i = first raw l a + i := by
  have : plE raw l a i = 0 := by unfold plE; rw [if_pos h, if_pos k]
  exact ⟨this, by unfold plP; rw [this]; rfl⟩
theorem pl_in (h : plE raw l a i = 0) : ∃ p : Nat, plP raw l a i = p ∧ p < l.length ∧ ohE l a = 0 ∧ 0 ≤ i ∧ i < many raw l a ∧ a < p := by
  have h0 : ohE l a = 0 := by
    by_cases h0 : ohE l a = 0
    · exact h0
    · rw [(pl_head h0).1] at h; exact h
  have hi : 0 ≤ i ∧ i < many raw l a := by
    by_cases hi : 0 ≤ i ∧ i < many raw l a
    · exact hi
    · rw [(pl_no h0 hi).1] at h; cases h
  have hb := oh_bounds h0
  have hp := (pl_yes h0 hi).2
  have : 0 ≤ first raw l a + i ∧ first raw l a + i < l.length ∧ a < first raw l a + i := by
    cases raw <;> simp only [first, many] at hi ⊢ <;> simp at hi ⊢ <;> omega
  exact ⟨(plP raw l a i).toNat, by rw [hp]; omega, by rw [hp]; omega, h0, hi.1, hi.2, by rw [hp]; omega⟩
end
/-- What is read. -/
def rdW (raw : Bool) (l : List Nat) (a i : Int) : Nat := if plE raw l a i = 0 then wd l (plP raw l a i).toNat else 0
/-- The error of a word that is set, and the words behind. -/
def stE (raw : Bool) (l : List Nat) (a i : Int) (x : Nat) : Int := if plE raw l a i = 0 then (if raw then 0 else dE x) else plE raw l a i
def stL (raw : Bool) (l : List Nat) (a i : Int) (x : Nat) : List Nat := if stE raw l a i x = 0 then l.set (plP raw l a i).toNat x else l
/-- The error of a header that is set, and the words behind. -/
def shE (l : List Nat) (a k f r c : Int) : Int := if ohE l a = 0 then (if hmay k f r c = true ∧ f + r = ohF l a + ohR l a then 0 else 1) else ohE l a
def shL (l : List Nat) (a k f r : Int) (m : Bool) (c : Int) : List Nat := if shE l a k f r c = 0 then l.set a.toNat (hW k f r m c).toNat else l
/-- The error of an object that is put, and the words behind. -/
def ptE (l : List Nat) (a k f r c : Int) : Int := if hmay k f r c = true then (if 0 ≤ a ∧ 1 + f + r ≤ (l.length : Int) - a then 0 else 2) else 1
def ptL (l : List Nat) (a k f r : Int) (m : Bool) (c : Int) : List Nat := if ptE l a k f r c = 0 then (filled l a.toNat (1 + f + r).toNat 0).set a.toNat (hW k f r m c).toNat else l
end Go.Proofs.YtciidodmhigpdaaGreatDoor

/- Contracts of package object: Head, and where a field or a raw word stands. -/
namespace Go.Proofs.YtciidodmhigpdaaGreatDoor
open Go.RowKit

set_option maxRecDepth 100000 in
set_option maxHeartbeats 1000000 in
theorem oHead_out (b g : Nat) (l : List Nat) (a : Int) (w : World) (h : Ar w b g l) (ha : a ≤ 9223372036854775807) (hn : ¬ (0 ≤ a ∧ a < (l.length : Int))) :
    Calls Tryz.prog 28 #[.pointer (some ⟨b, 0, none⟩), .int .i64 a] w fun e w' => e = .returned (.tuple #[.agg #[.int .i64 0, .int .i64 0, .int .i64 0, .bool false, .int .i64 0], .int .i64 2]) ∧ Only nob w w' := by
  obtain ⟨W, hW0, HB⟩ := zero_head w
  have HWE := Lib.hid hW0
  have HA := Lib.hid (h.keep HB.out.1 id id)
  have HR := Lib.hid (read_ar_no b g l a W HA.out ha hn)
  clear hW0 h hn ha
  go_enter Tryz.func28, Tryz.ntmps28
  go_wp2_with fail
  rw [HWE.out]
  go_at_call 63
  refine HR.out.mono ?_
  rintro e w1 ⟨rfl, rfl⟩
  obtain ⟨s0, s1, s2, s3, s4⟩ := cells5 HB.out.2
  obtain ⟨r0, r1, r2, r3, r4⟩ := frees5 HB.out.2
  go_wp2
  clear s0 s1 s2 s3 s4 r0 r1 r2 r3 r4
  obtain ⟨W6, hW6, O6, B6⟩ := puts5 HB.out.1 (Nat.le_refl _) HB.out.2 (.int .i64 0) (.int .i64 0) (.int .i64 0) (.bool false) (.int .i64 0)
  with_reducible rw [hW6]
  obtain ⟨h0, h1, h2, h3, h4⟩ := cells5 B6
  exact bodyPost_ret (v := .tuple #[.agg #[.int .i64 0, .int .i64 0, .int .i64 0, .bool false, .int .i64 0], .int .i64 2]) (by simp [results, Tryz.results28, go_sem, h0, h1, h2, h3, h4]) rfl ⟨rfl, O6⟩

set_option maxRecDepth 100000 in
set_option maxHeartbeats 1000000 in
theorem oHead_tag (b g : Nat) (l : List Nat) (a : Nat) (w : World) (h : Ar w b g l) (hp : Par w) (ha : a < l.length) (hn : wOk (wd l a) = false) :
    Calls Tryz.prog 28 #[.pointer (some ⟨b, 0, none⟩), .int .i64 a] w fun e w' => e = .returned (.tuple #[.agg #[.int .i64 0, .int .i64 0, .int .i64 0, .bool false, .int .i64 0], .int .i64 3]) ∧ Only nob w w' := by
  obtain ⟨W, hW0, HB⟩ := zero_head w
  have HWE := Lib.hid hW0
  have HA := Lib.hid (h.keep HB.out.1 id id)
  have HR := Lib.hid (read_ar b g l a W HA.out ha)
  have HD := Lib.hid (hDec_no (h.words.wd a) hn W (hp.old HB.out.1))
  clear hW0 h hn ha hp
  go_enter Tryz.func28, Tryz.ntmps28
  go_wp2_with fail
  rw [HWE.out]
  go_at_call 63
  refine HR.out.mono ?_
  rintro e w1 ⟨rfl, rfl⟩
  go_wp2_with fail
  go_at_call 61
  refine HD.out.mono ?_
  rintro e w2 ⟨rfl, o⟩
  have O2 := Lib.hid (HB.out.1.trans o)
  have B2 := Lib.hid (HB.out.2.keep o id)
  obtain ⟨W3, hW3, HB3⟩ := zero_head w2
  have HW3 := Lib.hid hW3
  clear hW3 o
  go_upto_region 5 with fail
  rw [HW3.out]
  have O3 := Lib.hid (O2.out.trans HB3.out.1)
  have B3 := Lib.hid (B2.out.keep HB3.out.1 id)
  obtain ⟨s0, s1, s2, s3, s4⟩ := cells5 B3.out
  obtain ⟨r0, r1, r2, r3, r4⟩ := frees5 B3.out
  go_wp2
  clear s0 s1 s2 s3 s4 r0 r1 r2 r3 r4
  obtain ⟨W6, hW6, O6, B6⟩ := puts5 O3.out (Nat.le_refl _) B3.out (.int .i64 0) (.int .i64 0) (.int .i64 0) (.bool false) (.int .i64 0)
  with_reducible rw [hW6]
  obtain ⟨h0, h1, h2, h3, h4⟩ := cells5 B6
  exact bodyPost_ret (v := .tuple #[.agg #[.int .i64 0, .int .i64 0, .int .i64 0, .bool false, .int .i64 0], .int .i64 3]) (by simp [results, Tryz.results28, go_sem, h0, h1, h2, h3, h4]) rfl ⟨rfl, O6⟩

/-- What Head says of a place where a header's word stands. -/
def HeadOk (s t : Int) (n : Nat) (w : World) (e : Ending) (w' : World) : Prop :=
  (s ≤ t → e = .returned (.tuple #[.agg #[.int .i64 (wK n), .int .i64 (wF n), .int .i64 (wR n), .bool (wM n), .int .i64 (wC n)], .int .i64 0])) ∧
  (¬ s ≤ t → e = .returned (.tuple #[.agg #[.int .i64 0, .int .i64 0, .int .i64 0, .bool false, .int .i64 0], .int .i64 2])) ∧ Only nob w w'

set_option maxRecDepth 100000 in
set_option maxHeartbeats 1000000 in
theorem oHead_ok (b g : Nat) (l : List Nat) (a : Nat) (w : World) (h : Ar w b g l) (hp : Par w) (ha : a < l.length) (hk : wOk (wd l a) = true) :
    Calls Tryz.prog 28 #[.pointer (some ⟨b, 0, none⟩), .int .i64 a] w (HeadOk (1 + wF (wd l a) + wR (wd l a)) ((l.length : Int) - a) (wd l a) w) := by
  obtain ⟨W, hW0, HB⟩ := zero_head w
  have HWE := Lib.hid hW0
  have HP := Lib.hid hp
  have HA := Lib.hid (h.keep HB.out.1 id id)
  have HR := Lib.hid (read_ar b g l a W HA.out ha)
  have HD := Lib.hid (hDec_yes (h.words.wd a) hk W (hp.old HB.out.1))
  have hl := h.few
  have hbd := wOk_bounds hk
  have hz := hSz_yes (wOk_may hk)
  obtain ⟨n, hn⟩ : ∃ n, n = wd l a := ⟨_, rfl⟩
  rw [← hn] at HR HD hbd hz ⊢
  obtain ⟨s, hs⟩ : ∃ s : Int, s = 1 + wF n + wR n := ⟨_, rfl⟩
  have HS := Lib.hid (hz.trans hs.symm)
  have hs2 : 1 ≤ s ∧ s ≤ 8193 := by omega
  rw [← hs]
  clear hW0 h hk hp hz hs hbd hn
  go_enter Tryz.func28, Tryz.ntmps28
  go_wp2_with fail
  rw [HWE.out]
  go_at_call 63
  refine HR.out.mono ?_
  rintro e w1 ⟨rfl, rfl⟩
  go_wp2_with fail
  go_at_call 61
  refine HD.out.mono ?_
  rintro e w2 ⟨rfl, o⟩
  have O2 := Lib.hid (HB.out.1.trans o)
  have B2 := Lib.hid (HB.out.2.keep o id)
  obtain ⟨W3, hW3, HB3⟩ := box_head w2 (wK n) (wF n) (wR n) (wM n) (wC n)
  have HW3 := Lib.hid hW3
  have A3 := Lib.hid (HA.out.keep (o.trans HB3.out.1) id id)
  clear hW3 o
  go_upto_region 5 with fail
  rw [HW3.out]
  have O3 := Lib.hid (O2.out.trans HB3.out.1)
  have B3 := Lib.hid (B2.out.keep HB3.out.1 id)
  obtain ⟨c0, c1, c2, c3, c4⟩ := cells5 HB3.out.2
  go_wp2_with fail
  go_at_call 62
  refine (hSize_any _ _ _ _ _ _ (HP.out.old O3.out)).mono ?_
  rw [HS.out]
  rintro e w4 ⟨rfl, o⟩
  have O4 := Lib.hid (O3.out.trans o)
  have B4 := Lib.hid (B3.out.keep o id)
  have C4 := Lib.hid (HB3.out.2.keep o id)
  have A4 := Lib.hid (A3.out.keep o id id)
  clear o c0 c1 c2 c3 c4
  go_wp2_with fail
  go_at_call 64
  refine (len_ar b g l _ A4.out).mono ?_
  rintro e w5 ⟨rfl, rfl⟩
  obtain ⟨s0, s1, s2, s3, s4⟩ := cells5 B4.out
  obtain ⟨r0, r1, r2, r3, r4⟩ := frees5 B4.out
  obtain ⟨c0, c1, c2, c3, c4⟩ := cells5 C4.out
  by_cases hf : (l.length : Int) - a < s
  · go_wp2
    clear s0 s1 s2 s3 s4 r0 r1 r2 r3 r4
    obtain ⟨W6, hW6, O6, B6⟩ := puts5 O4.out (Nat.le_refl _) B4.out (.int .i64 0) (.int .i64 0) (.int .i64 0) (.bool false) (.int .i64 0)
    with_reducible rw [hW6]
    obtain ⟨h0, h1, h2, h3, h4⟩ := cells5 B6
    exact bodyPost_ret (v := .tuple #[.agg #[.int .i64 0, .int .i64 0, .int .i64 0, .bool false, .int .i64 0], .int .i64 2]) (by simp [results, Tryz.results28, go_sem, h0, h1, h2, h3, h4]) rfl (show HeadOk _ _ _ _ _ _ from ⟨fun hx => by omega, fun _ => rfl, O6⟩)
  · go_wp2
    clear s0 s1 s2 s3 s4 r0 r1 r2 r3 r4
    obtain ⟨W6, hW6, O6, B6⟩ := puts5 O4.out (Nat.le_refl _) B4.out (.int .i64 (wK n)) (.int .i64 (wF n)) (.int .i64 (wR n)) (.bool (wM n)) (.int .i64 (wC n))
    with_reducible rw [hW6]
    obtain ⟨h0, h1, h2, h3, h4⟩ := cells5 B6
    exact bodyPost_ret (v := .tuple #[.agg #[.int .i64 (wK n), .int .i64 (wF n), .int .i64 (wR n), .bool (wM n), .int .i64 (wC n)], .int .i64 0]) (by simp [results, Tryz.results28, go_sem, h0, h1, h2, h3, h4]) rfl (show HeadOk _ _ _ _ _ _ from ⟨fun _ => rfl, fun hx => absurd (show s ≤ (l.length : Int) - a by omega) hx, O6⟩)

/-- Head, of any place of an arena. -/
theorem oHead_any (b g : Nat) (l : List Nat) (a : Int) (w : World) (h : Ar w b g l) (hp : Par w) (ha : a ≤ 9223372036854775807) :
    Calls Tryz.prog 28 #[.pointer (some ⟨b, 0, none⟩), .int .i64 a] w fun e w' => e = .returned (.tuple #[.agg #[.int .i64 (ohK l a), .int .i64 (ohF l a), .int .i64 (ohR l a), .bool (ohM l a), .int .i64 (ohC l a)], .int .i64 (ohE l a)]) ∧ Only nob w w' := by
  by_cases hi : 0 ≤ a ∧ a < (l.length : Int)
  · obtain ⟨n, rfl⟩ : ∃ n : Nat, a = n := ⟨a.toNat, by omega⟩
    have hn : n < l.length := by omega
    rcases hk : wOk (wd l n) with _ | _
    · have h0 := oh_tag hi (by rw [Int.toNat_natCast]; exact hk)
      obtain ⟨h1, h2, h3, h4, h5⟩ := oh_none (show ohE l n ≠ 0 by rw [h0]; decide)
      rw [h0, h1, h2, h3, h4, h5]
      exact oHead_tag b g l n w h hp hn hk
    · refine (oHead_ok b g l n w h hp hn hk).mono ?_
      rintro e w' ⟨h1, h2, ho⟩
      by_cases hf : 1 + wF (wd l n) + wR (wd l n) ≤ (l.length : Int) - n
      · obtain ⟨k0, k1, k2, k3, k4, k5⟩ := oh_yes ⟨hn, hk, hf⟩
        rw [k0, k1, k2, k3, k4, k5]
        exact ⟨h1 hf, ho⟩
      · have h0 := oh_far hi (by rw [Int.toNat_natCast]; exact hk) (by rw [Int.toNat_natCast]; exact hf)
        obtain ⟨k1, k2, k3, k4, k5⟩ := oh_none (show ohE l n ≠ 0 by rw [h0]; decide)
        rw [h0, k1, k2, k3, k4, k5]
        exact ⟨h2 hf, ho⟩
  · have h0 := oh_out hi
    obtain ⟨h1, h2, h3, h4, h5⟩ := oh_none (show ohE l a ≠ 0 by rw [h0]; decide)
    rw [h0, h1, h2, h3, h4, h5]
    exact oHead_out b g l a w h ha hi

end Go.Proofs.YtciidodmhigpdaaGreatDoor

/- Contracts of package object: fields and raw words. -/
namespace Go.Proofs.YtciidodmhigpdaaGreatDoor
open Go.RowKit

theorem st_place {raw : Bool} {l : List Nat} {a i : Int} {x : Nat} (h : plE raw l a i ≠ 0) : stE raw l a i x = plE raw l a i ∧ stL raw l a i x = l := by
  have : stE raw l a i x = plE raw l a i := by unfold stE; rw [if_neg h]
  exact ⟨this, by unfold stL; rw [if_neg (by rw [this]; exact h)]⟩
theorem st_raw {l : List Nat} {a i : Int} {x : Nat} (h : plE true l a i = 0) : stE true l a i x = 0 ∧ stL true l a i x = l.set (plP true l a i).toNat x := by
  have : stE true l a i x = 0 := by unfold stE; rw [if_pos h]; rfl
  exact ⟨this, by unfold stL; rw [if_pos this]⟩
theorem st_val {l : List Nat} {a i : Int} {x : Nat} (h : plE false l a i = 0) (k : dE x = 0) : stE false l a i x = 0 ∧ stL false l a i x = l.set (plP false l a i).toNat x := by
  have : stE false l a i x = 0 := by unfold stE; rw [if_pos h]; exact k
  exact ⟨this, by unfold stL; rw [if_pos this]⟩
theorem st_no {l : List Nat} {a i : Int} {x : Nat} (h : plE false l a i = 0) (k : dE x ≠ 0) : stE false l a i x = dE x ∧ stL false l a i x = l := by
  have : stE false l a i x = dE x := by unfold stE; rw [if_pos h]; rfl
  exact ⟨this, by unfold stL; rw [if_neg (by rw [this]; exact k)]⟩

end Go.Proofs.YtciidodmhigpdaaGreatDoor

/- Contracts of package object: Put and SetHead. -/
namespace Go.Proofs.YtciidodmhigpdaaGreatDoor
open Go.RowKit

theorem pt_may {l : List Nat} {a k f r c : Int} (m : Bool) (h : hmay k f r c = false) : ptE l a k f r c = 1 ∧ ptL l a k f r m c = l := by
  have : ptE l a k f r c = 1 := by unfold ptE; rw [if_neg (by rw [h]; decide)]
  exact ⟨this, by unfold ptL; rw [if_neg (by rw [this]; decide)]⟩
theorem pt_far {l : List Nat} {a k f r c : Int} (m : Bool) (h : hmay k f r c = true) (hf : ¬ (0 ≤ a ∧ 1 + f + r ≤ (l.length : Int) - a)) : ptE l a k f r c = 2 ∧ ptL l a k f r m c = l := by
  have : ptE l a k f r c = 2 := by unfold ptE; rw [if_pos h, if_neg hf]
  exact ⟨this, by unfold ptL; rw [if_neg (by rw [this]; decide)]⟩
theorem pt_yes {l : List Nat} {a k f r c : Int} (m : Bool) (h : hmay k f r c = true) (hf : 0 ≤ a ∧ 1 + f + r ≤ (l.length : Int) - a) : ptE l a k f r c = 0 ∧ ptL l a k f r m c = (filled l a.toNat (1 + f + r).toNat 0).set a.toNat (hW k f r m c).toNat := by
  have : ptE l a k f r c = 0 := by unfold ptE; rw [if_pos h, if_pos hf]
  exact ⟨this, by unfold ptL; rw [if_pos this]⟩
theorem sh_head {l : List Nat} {a k f r c : Int} (m : Bool) (h : ohE l a ≠ 0) : shE l a k f r c = ohE l a ∧ shL l a k f r m c = l := by
  have : shE l a k f r c = ohE l a := by unfold shE; rw [if_neg h]
  exact ⟨this, by unfold shL; rw [if_neg (by rw [this]; exact h)]⟩
theorem sh_no {l : List Nat} {a k f r c : Int} (m : Bool) (h : ohE l a = 0) (hk : ¬ (hmay k f r c = true ∧ f + r = ohF l a + ohR l a)) : shE l a k f r c = 1 ∧ shL l a k f r m c = l := by
  have : shE l a k f r c = 1 := by unfold shE; rw [if_pos h, if_neg hk]
  exact ⟨this, by unfold shL; rw [if_neg (by rw [this]; decide)]⟩
theorem sh_yes {l : List Nat} {a k f r c : Int} (m : Bool) (h : ohE l a = 0) (hk : hmay k f r c = true ∧ f + r = ohF l a + ohR l a) : shE l a k f r c = 0 ∧ shL l a k f r m c = l.set a.toNat (hW k f r m c).toNat := by
  have : shE l a k f r c = 0 := by unfold shE; rw [if_pos h, if_pos hk]
  exact ⟨this, by unfold shL; rw [if_pos this]⟩

end Go.Proofs.YtciidodmhigpdaaGreatDoor

/- Contracts of package object: there is none in nobody's arena. -/
namespace Go.Proofs.YtciidodmhigpdaaGreatDoor
open Go.RowKit

theorem NoAr.keep {w w' : World} {v : Value} (h : NoAr w v) (o : Only nob w w') : NoAr w' v := by
  rcases h with h | ⟨b, h1, h2⟩
  · exact .inl h
  · exact .inr ⟨b, h1, h2.keep o id⟩

set_option maxRecDepth 100000 in
set_option maxHeartbeats 1000000 in
theorem oHead_none (v : Value) (a : Int) (w : World) (h : NoAr w v) :
    Calls Tryz.prog 28 #[v, .int .i64 a] w fun e w' => e = .returned (.tuple #[.agg #[.int .i64 0, .int .i64 0, .int .i64 0, .bool false, .int .i64 0], .int .i64 10]) ∧ Only nob w w' := by
  obtain ⟨W, hW0, HB⟩ := zero_head w
  have HWE := Lib.hid hW0
  have HR := Lib.hid (read_none v a W (h.keep HB.out.1))
  clear hW0 h
  go_enter Tryz.func28, Tryz.ntmps28
  go_wp2_with fail
  rw [HWE.out]
  go_at_call 63
  refine HR.out.mono ?_
  rintro e w1 ⟨rfl, rfl⟩
  obtain ⟨s0, s1, s2, s3, s4⟩ := cells5 HB.out.2
  obtain ⟨r0, r1, r2, r3, r4⟩ := frees5 HB.out.2
  go_wp2
  clear s0 s1 s2 s3 s4 r0 r1 r2 r3 r4
  obtain ⟨W6, hW6, O6, B6⟩ := puts5 HB.out.1 (Nat.le_refl _) HB.out.2 (.int .i64 0) (.int .i64 0) (.int .i64 0) (.bool false) (.int .i64 0)
  with_reducible rw [hW6]
  obtain ⟨h0, h1, h2, h3, h4⟩ := cells5 B6
  exact bodyPost_ret (v := .tuple #[.agg #[.int .i64 0, .int .i64 0, .int .i64 0, .bool false, .int .i64 0], .int .i64 10]) (by simp [results, Tryz.results28, go_sem, h0, h1, h2, h3, h4]) rfl ⟨rfl, O6⟩

/-- Put's error in nobody's arena. -/
def pnE (k f r c : Int) : Int := if hmay k f r c = true then 10 else 1
end Go.Proofs.YtciidodmhigpdaaGreatDoor

/- The document's own layer 8: Head, Place, Read in a list of words. -/
namespace Go.Proofs.YtciidodmhigpdaaGreatDoor
open Go.RowKit

set_option maxRecDepth 100000 in
set_option maxHeartbeats 1000000 in
theorem rHead_out (A : Option Addr) (n ca : Nat) (a : Int) (w : World) (hn : ¬ (0 ≤ a ∧ a < (n : Int))) :
    Calls Tryz.prog 12 #[.slice A n ca, .int .i64 a] w fun e w' => e = .returned (.tuple #[.agg #[.int .i64 0, .int .i64 0, .int .i64 0, .bool false, .int .i64 0], .int .i64 2]) ∧ Only nob w w' := by
  obtain ⟨W, hW0, HB⟩ := zero_head w
  have HWE := Lib.hid hW0
  clear hW0
  obtain ⟨s0, s1, s2, s3, s4⟩ := cells5 HB.out.2
  obtain ⟨r0, r1, r2, r3, r4⟩ := frees5 HB.out.2
  by_cases hlo : a < 0
  · clear hn
    go_enter Tryz.func12, Tryz.ntmps12
    go_upto_region 1 with fail
    rw [HWE.out]
    go_wp2
    clear s0 s1 s2 s3 s4 r0 r1 r2 r3 r4
    obtain ⟨W6, hW6, O6, B6⟩ := puts5 HB.out.1 (Nat.le_refl _) HB.out.2 (.int .i64 0) (.int .i64 0) (.int .i64 0) (.bool false) (.int .i64 0)
    with_reducible rw [hW6]
    obtain ⟨h0, h1, h2, h3, h4⟩ := cells5 B6
    exact bodyPost_ret (v := .tuple #[.agg #[.int .i64 0, .int .i64 0, .int .i64 0, .bool false, .int .i64 0], .int .i64 2]) (by simp [results, Tryz.results12, go_sem, h0, h1, h2, h3, h4]) rfl ⟨rfl, O6⟩
  · have hhi : (n : Int) ≤ a := by omega
    clear hn
    go_enter Tryz.func12, Tryz.ntmps12
    go_upto_region 1 with fail
    rw [HWE.out]
    go_wp2
    clear s0 s1 s2 s3 s4 r0 r1 r2 r3 r4
    obtain ⟨W6, hW6, O6, B6⟩ := puts5 HB.out.1 (Nat.le_refl _) HB.out.2 (.int .i64 0) (.int .i64 0) (.int .i64 0) (.bool false) (.int .i64 0)
    with_reducible rw [hW6]
    obtain ⟨h0, h1, h2, h3, h4⟩ := cells5 B6
    exact bodyPost_ret (v := .tuple #[.agg #[.int .i64 0, .int .i64 0, .int .i64 0, .bool false, .int .i64 0], .int .i64 2]) (by simp [results, Tryz.results12, go_sem, h0, h1, h2, h3, h4]) rfl ⟨rfl, O6⟩

theorem Sl.word {w : World} {B : Nat} {v : Value} {l : List Nat} (h : Sl w B 1 v l.length (u64s l)) (p : Nat) (hp : p < l.length) :
    ∃ b o c, v = .slice (some ⟨b, o, none⟩) l.length c ∧ l.length ≤ c ∧ c ≤ maxLen ∧ w.cell? ⟨b, o + p, none⟩ = some (.int .u64 (wd l p : Nat)) := by
  obtain ⟨b, o, c, e, h1, h2, -, h4⟩ := h.at_ (by omega)
  exact ⟨b, o, c, e, h1, h2, h4 p _ (u64s_wd l p hp)⟩

set_option maxRecDepth 100000 in
set_option maxHeartbeats 1000000 in
theorem rHead_tag (v : Value) (B : Nat) (l : List Nat) (a : Nat) (w : World) (h : Sl w B 1 v l.length (u64s l)) (hB : B ≤ w.heap.size) (hw : Words l) (ha : a < l.length) (hk : wOk (wd l a) = false) :
    Calls Tryz.prog 12 #[v, .int .i64 a] w fun e w' => e = .returned (.tuple #[.agg #[.int .i64 0, .int .i64 0, .int .i64 0, .bool false, .int .i64 0], .int .i64 3]) ∧ Only nob w w' := by
  obtain ⟨W, hW0, HB⟩ := zero_head w
  have HWE := Lib.hid hW0
  have HD := Lib.hid (fun w => refDec07_any (hw.wd a) w)
  obtain ⟨k1, k2, k3, k4, k5, k6⟩ := o_no hk
  rw [k1, k2, k3, k4, k5, k6] at HD
  obtain ⟨q, o, c, rfl, hc1, hc2, hc⟩ := (h.only HB.out.1 hB (fun _ h => h.elim)).word a ha
  clear hW0 h hw hk k1 k2 k3 k4 k5 k6
  generalize wd l a = x at *
  unfold maxLen at hc2
  go_enter Tryz.func12, Tryz.ntmps12
  go_upto_region 1 with fail
  rw [HWE.out]
  go_wp2_with fail
  go_at_call 29
  refine (HD.out _).mono ?_
  rintro e w2 ⟨rfl, o⟩
  have O2 := Lib.hid (HB.out.1.trans o)
  have B2 := Lib.hid (HB.out.2.keep o id)
  obtain ⟨W3, hW3, HB3⟩ := zero_head w2
  have HW3 := Lib.hid hW3
  clear hW3 o hc
  go_upto_region 4 with fail
  rw [HW3.out]
  have O3 := Lib.hid (O2.out.trans HB3.out.1)
  have B3 := Lib.hid (B2.out.keep HB3.out.1 id)
  obtain ⟨s0, s1, s2, s3, s4⟩ := cells5 B3.out
  obtain ⟨r0, r1, r2, r3, r4⟩ := frees5 B3.out
  go_wp2
  clear s0 s1 s2 s3 s4 r0 r1 r2 r3 r4
  obtain ⟨W6, hW6, O6, B6⟩ := puts5 O3.out (Nat.le_refl _) B3.out (.int .i64 0) (.int .i64 0) (.int .i64 0) (.bool false) (.int .i64 0)
  with_reducible rw [hW6]
  obtain ⟨h0, h1, h2, h3, h4⟩ := cells5 B6
  exact bodyPost_ret (v := .tuple #[.agg #[.int .i64 0, .int .i64 0, .int .i64 0, .bool false, .int .i64 0], .int .i64 3]) (by simp [results, Tryz.results12, go_sem, h0, h1, h2, h3, h4]) rfl ⟨rfl, O6⟩

/-- What Head says of a place where a header's word stands. -/
def RHeadOk (s t : Int) (n : Nat) (w : World) (e : Ending) (w' : World) : Prop :=
  (s ≤ t → e = .returned (.tuple #[.agg #[.int .i64 (wK n), .int .i64 (wF n), .int .i64 (wR n), .bool (wM n), .int .i64 (wC n)], .int .i64 0])) ∧
  (¬ s ≤ t → e = .returned (.tuple #[.agg #[.int .i64 0, .int .i64 0, .int .i64 0, .bool false, .int .i64 0], .int .i64 2])) ∧ Only nob w w'

set_option maxRecDepth 100000 in
set_option maxHeartbeats 1000000 in
theorem rHead_ok (v : Value) (B : Nat) (l : List Nat) (a : Nat) (w : World) (h : Sl w B 1 v l.length (u64s l)) (hB : B ≤ w.heap.size) (hw : Words l) (hl : l.length ≤ 98304) (ha : a < l.length) (hk : wOk (wd l a) = true) :
    Calls Tryz.prog 12 #[v, .int .i64 a] w (RHeadOk (1 + wF (wd l a) + wR (wd l a)) ((l.length : Int) - a) (wd l a) w) := by
  obtain ⟨W, hW0, HB⟩ := zero_head w
  have HWE := Lib.hid hW0
  have HD := Lib.hid (fun w => refDec07_any (hw.wd a) w)
  obtain ⟨k1, k2, k3, k4, k5, k6⟩ := o_yes hk
  rw [k1, k2, k3, k4, k5, k6] at HD
  obtain ⟨q, o, c, rfl, hc1, hc2, hc⟩ := (h.only HB.out.1 hB (fun _ h => h.elim)).word a ha
  have hbd := wOk_bounds hk
  have hz := hSz_yes (wOk_may hk)
  clear k1 k2 k3 k4 k5 k6
  obtain ⟨n, hn⟩ : ∃ n, n = wd l a := ⟨_, rfl⟩
  rw [← hn] at HD hbd hz hc ⊢
  obtain ⟨s, hs⟩ : ∃ s : Int, s = 1 + wF n + wR n := ⟨_, rfl⟩
  have HS := Lib.hid (hz.trans hs.symm)
  have hs2 : 1 ≤ s ∧ s ≤ 8193 := by omega
  rw [← hs]
  clear hW0 h hw hk hz hs hbd hn
  unfold maxLen at hc2
  go_enter Tryz.func12, Tryz.ntmps12
  go_upto_region 1 with fail
  rw [HWE.out]
  go_wp2_with fail
  go_at_call 29
  refine (HD.out _).mono ?_
  rintro e w2 ⟨rfl, o⟩
  have O2 := Lib.hid (HB.out.1.trans o)
  have B2 := Lib.hid (HB.out.2.keep o id)
  obtain ⟨W3, hW3, HB3⟩ := box_head w2 (wK n) (wF n) (wR n) (wM n) (wC n)
  have HW3 := Lib.hid hW3
  clear hW3 o hc
  go_upto_region 4 with fail
  rw [HW3.out]
  have O3 := Lib.hid (O2.out.trans HB3.out.1)
  have B3 := Lib.hid (B2.out.keep HB3.out.1 id)
  obtain ⟨c0, c1, c2, c3, c4⟩ := cells5 HB3.out.2
  go_wp2_with fail
  go_at_call 30
  refine (refSize07_any _ _ _ _ _ _).mono ?_
  rw [HS.out]
  rintro e w4 ⟨rfl, o⟩
  have O4 := Lib.hid (O3.out.trans o)
  have B4 := Lib.hid (B3.out.keep o id)
  have C4 := Lib.hid (HB3.out.2.keep o id)
  clear o c0 c1 c2 c3 c4
  obtain ⟨s0, s1, s2, s3, s4⟩ := cells5 B4.out
  obtain ⟨r0, r1, r2, r3, r4⟩ := frees5 B4.out
  obtain ⟨c0, c1, c2, c3, c4⟩ := cells5 C4.out
  by_cases hf : (l.length : Int) < a + s
  · go_wp2
    clear s0 s1 s2 s3 s4 r0 r1 r2 r3 r4
    obtain ⟨W6, hW6, O6, B6⟩ := puts5 O4.out (Nat.le_refl _) B4.out (.int .i64 0) (.int .i64 0) (.int .i64 0) (.bool false) (.int .i64 0)
    with_reducible rw [hW6]
    obtain ⟨h0, h1, h2, h3, h4⟩ := cells5 B6
    exact bodyPost_ret (v := .tuple #[.agg #[.int .i64 0, .int .i64 0, .int .i64 0, .bool false, .int .i64 0], .int .i64 2]) (by simp [results, Tryz.results12, go_sem, h0, h1, h2, h3, h4]) rfl (show RHeadOk _ _ _ _ _ _ from ⟨fun hx => by omega, fun _ => rfl, O6⟩)
  · go_wp2
    clear s0 s1 s2 s3 s4 r0 r1 r2 r3 r4
    obtain ⟨W6, hW6, O6, B6⟩ := puts5 O4.out (Nat.le_refl _) B4.out (.int .i64 (wK n)) (.int .i64 (wF n)) (.int .i64 (wR n)) (.bool (wM n)) (.int .i64 (wC n))
    with_reducible rw [hW6]
    obtain ⟨h0, h1, h2, h3, h4⟩ := cells5 B6
    exact bodyPost_ret (v := .tuple #[.agg #[.int .i64 (wK n), .int .i64 (wF n), .int .i64 (wR n), .bool (wM n), .int .i64 (wC n)], .int .i64 0]) (by simp [results, Tryz.results12, go_sem, h0, h1, h2, h3, h4]) rfl (show RHeadOk _ _ _ _ _ _ from ⟨fun _ => rfl, fun hx => absurd (show s ≤ (l.length : Int) - a by omega) hx, O6⟩)

/-- Head, of any place of a list. -/
theorem rHead_any (v : Value) (B : Nat) (l : List Nat) (a : Int) (w : World) (h : Sl w B 1 v l.length (u64s l)) (hB : B ≤ w.heap.size) (hw : Words l) (hl : l.length ≤ 98304) :
    Calls Tryz.prog 12 #[v, .int .i64 a] w fun e w' => e = .returned (.tuple #[.agg #[.int .i64 (ohK l a), .int .i64 (ohF l a), .int .i64 (ohR l a), .bool (ohM l a), .int .i64 (ohC l a)], .int .i64 (ohE l a)]) ∧ Only nob w w' := by
  by_cases hi : 0 ≤ a ∧ a < (l.length : Int)
  · obtain ⟨n, rfl⟩ : ∃ n : Nat, a = n := ⟨a.toNat, by omega⟩
    have hn : n < l.length := by omega
    rcases hk : wOk (wd l n) with _ | _
    · have h0 := oh_tag hi (by rw [Int.toNat_natCast]; exact hk)
      obtain ⟨h1, h2, h3, h4, h5⟩ := oh_none (show ohE l n ≠ 0 by rw [h0]; decide)
      rw [h0, h1, h2, h3, h4, h5]
      exact rHead_tag v B l n w h hB hw hn hk
    · refine (rHead_ok v B l n w h hB hw hl hn hk).mono ?_
      rintro e w' ⟨h1, h2, ho⟩
      by_cases hf : 1 + wF (wd l n) + wR (wd l n) ≤ (l.length : Int) - n
      · obtain ⟨k0, k1, k2, k3, k4, k5⟩ := oh_yes ⟨hn, hk, hf⟩
        rw [k0, k1, k2, k3, k4, k5]
        exact ⟨h1 hf, ho⟩
      · have h0 := oh_far hi (by rw [Int.toNat_natCast]; exact hk) (by rw [Int.toNat_natCast]; exact hf)
        obtain ⟨k1, k2, k3, k4, k5⟩ := oh_none (show ohE l n ≠ 0 by rw [h0]; decide)
        rw [h0, k1, k2, k3, k4, k5]
        exact ⟨h2 hf, ho⟩
  · have h0 := oh_out hi
    obtain ⟨h1, h2, h3, h4, h5⟩ := oh_none (show ohE l a ≠ 0 by rw [h0]; decide)
    rw [h0, h1, h2, h3, h4, h5]
    obtain ⟨A, ca, rfl, -⟩ := h
    exact rHead_out A l.length ca a w hi

end Go.Proofs.YtciidodmhigpdaaGreatDoor
