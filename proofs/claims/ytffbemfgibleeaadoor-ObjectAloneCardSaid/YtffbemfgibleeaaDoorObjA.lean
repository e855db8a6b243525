/- Contracts of package object: Head, and where a field or a raw word stands. -/
import Derived.Test.YtffbemfgibleeaaDoorObjMath
import Derived.Test.YtffbemfgibleeaaDoorQuiet
import Derived.Test.YtffbemfgibleeaaDoorCells
import Derived.Deep.Cut
namespace Go.Proofs.YtffbemfgibleeaaDoor
open Go.RowKit

set_option maxRecDepth 100000 in
set_option maxHeartbeats 1000000 in
theorem oHead_out (b g : Nat) (l : List Nat) (a : Int) (w : World) (h : Ar w b g l) (ha : a ≤ 9223372036854775807) (hn : ¬ (0 ≤ a ∧ a < (l.length : Int))) :
    Calls Tryd.prog 12 #[.pointer (some ⟨b, 0, none⟩), .int .i64 a] w fun e w' => e = .returned (.tuple #[.agg #[.int .i64 0, .int .i64 0, .int .i64 0, .bool false, .int .i64 0], .int .i64 2]) ∧ Only nob w w' := by
  obtain ⟨W, hW0, HB⟩ := zero_head w
  have HWE := Lib.hid hW0
  have HA := Lib.hid (h.keep HB.out.1 id id)
  have HR := Lib.hid (read_ar_no b g l a W HA.out ha hn)
  clear hW0 h hn ha
  go_enter Tryd.func12, Tryd.ntmps12
  go_wp2_with fail
  rw [HWE.out]
  go_at_call 22
  refine HR.out.mono ?_
  rintro e w1 ⟨rfl, rfl⟩
  obtain ⟨s0, s1, s2, s3, s4⟩ := cells5 HB.out.2
  obtain ⟨r0, r1, r2, r3, r4⟩ := frees5 HB.out.2
  go_wp2
  clear s0 s1 s2 s3 s4 r0 r1 r2 r3 r4
  obtain ⟨W6, hW6, O6, B6⟩ := puts5 HB.out.1 (Nat.le_refl _) HB.out.2 (.int .i64 0) (.int .i64 0) (.int .i64 0) (.bool false) (.int .i64 0)
  with_reducible rw [hW6]
  obtain ⟨h0, h1, h2, h3, h4⟩ := cells5 B6
  exact bodyPost_ret (v := .tuple #[.agg #[.int .i64 0, .int .i64 0, .int .i64 0, .bool false, .int .i64 0], .int .i64 2]) (by simp [results, Tryd.results12, go_sem, h0, h1, h2, h3, h4]) rfl ⟨rfl, O6⟩

set_option maxRecDepth 100000 in
set_option maxHeartbeats 1000000 in
theorem oHead_tag (b g : Nat) (l : List Nat) (a : Nat) (w : World) (h : Ar w b g l) (hp : Par w) (ha : a < l.length) (hn : wOk (wd l a) = false) :
    Calls Tryd.prog 12 #[.pointer (some ⟨b, 0, none⟩), .int .i64 a] w fun e w' => e = .returned (.tuple #[.agg #[.int .i64 0, .int .i64 0, .int .i64 0, .bool false, .int .i64 0], .int .i64 3]) ∧ Only nob w w' := by
  obtain ⟨W, hW0, HB⟩ := zero_head w
  have HWE := Lib.hid hW0
  have HA := Lib.hid (h.keep HB.out.1 id id)
  have HR := Lib.hid (read_ar b g l a W HA.out ha)
  have HD := Lib.hid (hDec_no (h.words.wd a) hn W (hp.old HB.out.1))
  clear hW0 h hn ha hp
  go_enter Tryd.func12, Tryd.ntmps12
  go_wp2_with fail
  rw [HWE.out]
  go_at_call 22
  refine HR.out.mono ?_
  rintro e w1 ⟨rfl, rfl⟩
  go_wp2_with fail
  go_at_call 29
  refine HD.out.mono ?_
  rintro e w2 ⟨rfl, o⟩
  have O2 := Lib.hid (HB.out.1.trans o)
  have B2 := Lib.hid (HB.out.2.keep o id)
  obtain ⟨W3, hW3, HB3⟩ := zero_head w2
  have HW3 := Lib.hid hW3
  clear hW3 o
  go_upto_region 5 with fail
  rw [HW3.out]
  have O3 := Lib.hid (O2.out.trans HB3.out.1)
  have B3 := Lib.hid (B2.out.keep HB3.out.1 id)
  obtain ⟨s0, s1, s2, s3, s4⟩ := cells5 B3.out
  obtain ⟨r0, r1, r2, r3, r4⟩ := frees5 B3.out
  go_wp2
  clear s0 s1 s2 s3 s4 r0 r1 r2 r3 r4
  obtain ⟨W6, hW6, O6, B6⟩ := puts5 O3.out (Nat.le_refl _) B3.out (.int .i64 0) (.int .i64 0) (.int .i64 0) (.bool false) (.int .i64 0)
  with_reducible rw [hW6]
  obtain ⟨h0, h1, h2, h3, h4⟩ := cells5 B6
  exact bodyPost_ret (v := .tuple #[.agg #[.int .i64 0, .int .i64 0, .int .i64 0, .bool false, .int .i64 0], .int .i64 3]) (by simp [results, Tryd.results12, go_sem, h0, h1, h2, h3, h4]) rfl ⟨rfl, O6⟩

/-- What Head says of a place where a header's word stands. -/
def HeadOk (s t : Int) (n : Nat) (w : World) (e : Ending) (w' : World) : Prop :=
  (s ≤ t → e = .returned (.tuple #[.agg #[.int .i64 (wK n), .int .i64 (wF n), .int .i64 (wR n), .bool (wM n), .int .i64 (wC n)], .int .i64 0])) ∧
  (¬ s ≤ t → e = .returned (.tuple #[.agg #[.int .i64 0, .int .i64 0, .int .i64 0, .bool false, .int .i64 0], .int .i64 2])) ∧ Only nob w w'

set_option maxRecDepth 100000 in
set_option maxHeartbeats 1000000 in
theorem oHead_ok (b g : Nat) (l : List Nat) (a : Nat) (w : World) (h : Ar w b g l) (hp : Par w) (ha : a < l.length) (hk : wOk (wd l a) = true) :
    Calls Tryd.prog 12 #[.pointer (some ⟨b, 0, none⟩), .int .i64 a] w (HeadOk (1 + wF (wd l a) + wR (wd l a)) ((l.length : Int) - a) (wd l a) w) := by
  obtain ⟨W, hW0, HB⟩ := zero_head w
  have HWE := Lib.hid hW0
  have HP := Lib.hid hp
  have HA := Lib.hid (h.keep HB.out.1 id id)
  have HR := Lib.hid (read_ar b g l a W HA.out ha)
  have HD := Lib.hid (hDec_yes (h.words.wd a) hk W (hp.old HB.out.1))
  have hl := h.few
  have hbd := wOk_bounds hk
  have hz := hSz_yes (wOk_may hk)
  obtain ⟨n, hn⟩ : ∃ n, n = wd l a := ⟨_, rfl⟩
  rw [← hn] at HR HD hbd hz ⊢
  obtain ⟨s, hs⟩ : ∃ s : Int, s = 1 + wF n + wR n := ⟨_, rfl⟩
  have HS := Lib.hid (hz.trans hs.symm)
  have hs2 : 1 ≤ s ∧ s ≤ 8193 := by omega
  rw [← hs]
  clear hW0 h hk hp hz hs hbd hn
  go_enter Tryd.func12, Tryd.ntmps12
  go_wp2_with fail
  rw [HWE.out]
  go_at_call 22
  refine HR.out.mono ?_
  rintro e w1 ⟨rfl, rfl⟩
  go_wp2_with fail
  go_at_call 29
  refine HD.out.mono ?_
  rintro e w2 ⟨rfl, o⟩
  have O2 := Lib.hid (HB.out.1.trans o)
  have B2 := Lib.hid (HB.out.2.keep o id)
  obtain ⟨W3, hW3, HB3⟩ := box_head w2 (wK n) (wF n) (wR n) (wM n) (wC n)
  have HW3 := Lib.hid hW3
  have A3 := Lib.hid (HA.out.keep (o.trans HB3.out.1) id id)
  clear hW3 o
  go_upto_region 5 with fail
  rw [HW3.out]
  have O3 := Lib.hid (O2.out.trans HB3.out.1)
  have B3 := Lib.hid (B2.out.keep HB3.out.1 id)
  obtain ⟨c0, c1, c2, c3, c4⟩ := cells5 HB3.out.2
  go_wp2_with fail
  go_at_call 30
  refine (hSize_any _ _ _ _ _ _ (HP.out.old O3.out)).mono ?_
  rw [HS.out]
  rintro e w4 ⟨rfl, o⟩
  have O4 := Lib.hid (O3.out.trans o)
  have B4 := Lib.hid (B3.out.keep o id)
  have C4 := Lib.hid (HB3.out.2.keep o id)
  have A4 := Lib.hid (A3.out.keep o id id)
  clear o c0 c1 c2 c3 c4
  go_wp2_with fail
  go_at_call 31
  refine (len_ar b g l _ A4.out).mono ?_
  rintro e w5 ⟨rfl, rfl⟩
  obtain ⟨s0, s1, s2, s3, s4⟩ := cells5 B4.out
  obtain ⟨r0, r1, r2, r3, r4⟩ := frees5 B4.out
  obtain ⟨c0, c1, c2, c3, c4⟩ := cells5 C4.out
  by_cases hf : (l.length : Int) - a < s
  · go_wp2
    clear s0 s1 s2 s3 s4 r0 r1 r2 r3 r4
    obtain ⟨W6, hW6, O6, B6⟩ := puts5 O4.out (Nat.le_refl _) B4.out (.int .i64 0) (.int .i64 0) (.int .i64 0) (.bool false) (.int .i64 0)
    with_reducible rw [hW6]
    obtain ⟨h0, h1, h2, h3, h4⟩ := cells5 B6
    exact bodyPost_ret (v := .tuple #[.agg #[.int .i64 0, .int .i64 0, .int .i64 0, .bool false, .int .i64 0], .int .i64 2]) (by simp [results, Tryd.results12, go_sem, h0, h1, h2, h3, h4]) rfl (show HeadOk _ _ _ _ _ _ from ⟨fun hx => by omega, fun _ => rfl, O6⟩)
  · go_wp2
    clear s0 s1 s2 s3 s4 r0 r1 r2 r3 r4
    obtain ⟨W6, hW6, O6, B6⟩ := puts5 O4.out (Nat.le_refl _) B4.out (.int .i64 (wK n)) (.int .i64 (wF n)) (.int .i64 (wR n)) (.bool (wM n)) (.int .i64 (wC n))
    with_reducible rw [hW6]
    obtain ⟨h0, h1, h2, h3, h4⟩ := cells5 B6
    exact bodyPost_ret (v := .tuple #[.agg #[.int .i64 (wK n), .int .i64 (wF n), .int .i64 (wR n), .bool (wM n), .int .i64 (wC n)], .int .i64 0]) (by simp [results, Tryd.results12, go_sem, h0, h1, h2, h3, h4]) rfl (show HeadOk _ _ _ _ _ _ from ⟨fun _ => rfl, fun hx => absurd (show s ≤ (l.length : Int) - a by omega) hx, O6⟩)

/-- Head, of any place of an arena. -/
theorem oHead_any (b g : Nat) (l : List Nat) (a : Int) (w : World) (h : Ar w b g l) (hp : Par w) (ha : a ≤ 9223372036854775807) :
    Calls Tryd.prog 12 #[.pointer (some ⟨b, 0, none⟩), .int .i64 a] w fun e w' => e = .returned (.tuple #[.agg #[.int .i64 (ohK l a), .int .i64 (ohF l a), .int .i64 (ohR l a), .bool (ohM l a), .int .i64 (ohC l a)], .int .i64 (ohE l a)]) ∧ Only nob w w' := by
  by_cases hi : 0 ≤ a ∧ a < (l.length : Int)
  · obtain ⟨n, rfl⟩ : ∃ n : Nat, a = n := ⟨a.toNat, by omega⟩
    have hn : n < l.length := by omega
    rcases hk : wOk (wd l n) with _ | _
    · have h0 := oh_tag hi (by rw [Int.toNat_natCast]; exact hk)
      obtain ⟨h1, h2, h3, h4, h5⟩ := oh_none (show ohE l n ≠ 0 by rw [h0]; decide)
      rw [h0, h1, h2, h3, h4, h5]
      exact oHead_tag b g l n w h hp hn hk
    · refine (oHead_ok b g l n w h hp hn hk).mono ?_
      rintro e w' ⟨h1, h2, ho⟩
      by_cases hf : 1 + wF (wd l n) + wR (wd l n) ≤ (l.length : Int) - n
      · obtain ⟨k0, k1, k2, k3, k4, k5⟩ := oh_yes ⟨hn, hk, hf⟩
        rw [k0, k1, k2, k3, k4, k5]
        exact ⟨h1 hf, ho⟩
      · have h0 := oh_far hi (by rw [Int.toNat_natCast]; exact hk) (by rw [Int.toNat_natCast]; exact hf)
        obtain ⟨k1, k2, k3, k4, k5⟩ := oh_none (show ohE l n ≠ 0 by rw [h0]; decide)
        rw [h0, k1, k2, k3, k4, k5]
        exact ⟨h2 hf, ho⟩
  · have h0 := oh_out hi
    obtain ⟨h1, h2, h3, h4, h5⟩ := oh_none (show ohE l a ≠ 0 by rw [h0]; decide)
    rw [h0, h1, h2, h3, h4, h5]
    exact oHead_out b g l a w h ha hi

theorem nth_yes (f n i : Int) (w : World) (h : 0 ≤ i ∧ i < n) (hf : -9223372036854775808 ≤ f + i ∧ f + i ≤ 9223372036854775807) :
    Calls Tryd.prog 49 #[.int .i64 f, .int .i64 n, .int .i64 i] w fun e w' => e = .returned (.tuple #[.int .i64 (f + i), .int .i64 0]) ∧ w = w' := by
  have h1 := h.1
  have h2 := h.2
  clear h
  go_enter Tryd.func49, Tryd.ntmps49
  go_wp2
  go_ret2
  exact ⟨rfl, rfl⟩
theorem nth_no (f n i : Int) (w : World) (h : ¬ (0 ≤ i ∧ i < n)) :
    Calls Tryd.prog 49 #[.int .i64 f, .int .i64 n, .int .i64 i] w fun e w' => e = .returned (.tuple #[.int .i64 0, .int .i64 1]) ∧ w = w' := by
  by_cases h1 : i < 0
  · clear h
    go_enter Tryd.func49, Tryd.ntmps49
    go_wp2
    go_ret2
    exact ⟨rfl, rfl⟩
  · have h2 : ¬ i < n := by omega
    clear h
    go_enter Tryd.func49, Tryd.ntmps49
    go_wp2
    go_ret2
    exact ⟨rfl, rfl⟩
end Go.Proofs.YtffbemfgibleeaaDoor
