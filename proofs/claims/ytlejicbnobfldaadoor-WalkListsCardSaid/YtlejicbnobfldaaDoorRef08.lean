/- The document's own layer 8: Head, Place, Read in a list of words. -/
import Derived.Test.YtlejicbnobfldaaDoorObj
import Derived.Test.YtlejicbnobfldaaDoorRef07
import Derived.Test.YtlejicbnobfldaaDoorQuiets
import Derived.Deep.Cut
namespace Go.Proofs.YtlejicbnobfldaaDoor
open Go.RowKit

set_option maxRecDepth 100000 in
set_option maxHeartbeats 1000000 in
theorem rHead_out (A : Option Addr) (n ca : Nat) (a : Int) (w : World) (hn : ¬ (0 ≤ a ∧ a < (n : Int))) :
    Calls Tryd.prog 24 #[.slice A n ca, .int .i64 a] w fun e w' => e = .returned (.tuple #[.agg #[.int .i64 0, .int .i64 0, .int .i64 0, .bool false, .int .i64 0], .int .i64 2]) ∧ Only nob w w' := by
  obtain ⟨W, hW0, HB⟩ := zero_head w
  have HWE := Lib.hid hW0
  clear hW0
  obtain ⟨s0, s1, s2, s3, s4⟩ := cells5 HB.out.2
  obtain ⟨r0, r1, r2, r3, r4⟩ := frees5 HB.out.2
  by_cases hlo : a < 0
  · clear hn
    go_enter Tryd.func24, Tryd.ntmps24
    go_upto_region 1 with fail
    rw [HWE.out]
    go_wp2
    clear s0 s1 s2 s3 s4 r0 r1 r2 r3 r4
    obtain ⟨W6, hW6, O6, B6⟩ := puts5 HB.out.1 (Nat.le_refl _) HB.out.2 (.int .i64 0) (.int .i64 0) (.int .i64 0) (.bool false) (.int .i64 0)
    with_reducible rw [hW6]
    obtain ⟨h0, h1, h2, h3, h4⟩ := cells5 B6
    exact bodyPost_ret (v := .tuple #[.agg #[.int .i64 0, .int .i64 0, .int .i64 0, .bool false, .int .i64 0], .int .i64 2]) (by simp [results, Tryd.results24, go_sem, h0, h1, h2, h3, h4]) rfl ⟨rfl, O6⟩
  · have hhi : (n : Int) ≤ a := by omega
    clear hn
    go_enter Tryd.func24, Tryd.ntmps24
    go_upto_region 1 with fail
    rw [HWE.out]
    go_wp2
    clear s0 s1 s2 s3 s4 r0 r1 r2 r3 r4
    obtain ⟨W6, hW6, O6, B6⟩ := puts5 HB.out.1 (Nat.le_refl _) HB.out.2 (.int .i64 0) (.int .i64 0) (.int .i64 0) (.bool false) (.int .i64 0)
    with_reducible rw [hW6]
    obtain ⟨h0, h1, h2, h3, h4⟩ := cells5 B6
    exact bodyPost_ret (v := .tuple #[.agg #[.int .i64 0, .int .i64 0, .int .i64 0, .bool false, .int .i64 0], .int .i64 2]) (by simp [results, Tryd.results24, go_sem, h0, h1, h2, h3, h4]) rfl ⟨rfl, O6⟩

theorem Sl.word {w : World} {B : Nat} {v : Value} {l : List Nat} (h : Sl w B 1 v l.length (u64s l)) (p : Nat) (hp : p < l.length) :
    ∃ b o c, v = .slice (some ⟨b, o, none⟩) l.length c ∧ l.length ≤ c ∧ c ≤ maxLen ∧ w.cell? ⟨b, o + p, none⟩ = some (.int .u64 (wd l p : Nat)) := by
  obtain ⟨b, o, c, e, h1, h2, -, h4⟩ := h.at_ (by omega)
  exact ⟨b, o, c, e, h1, h2, h4 p _ (u64s_wd l p hp)⟩

set_option maxRecDepth 100000 in
set_option maxHeartbeats 1000000 in
theorem rHead_tag (v : Value) (B : Nat) (l : List Nat) (a : Nat) (w : World) (h : Sl w B 1 v l.length (u64s l)) (hB : B ≤ w.heap.size) (hw : Words l) (ha : a < l.length) (hk : wOk (wd l a) = false) :
    Calls Tryd.prog 24 #[v, .int .i64 a] w fun e w' => e = .returned (.tuple #[.agg #[.int .i64 0, .int .i64 0, .int .i64 0, .bool false, .int .i64 0], .int .i64 3]) ∧ Only nob w w' := by
  obtain ⟨W, hW0, HB⟩ := zero_head w
  have HWE := Lib.hid hW0
  have HD := Lib.hid (fun w => refDec07_any (hw.wd a) w)
  obtain ⟨k1, k2, k3, k4, k5, k6⟩ := o_no hk
  rw [k1, k2, k3, k4, k5, k6] at HD
  obtain ⟨q, o, c, rfl, hc1, hc2, hc⟩ := (h.only HB.out.1 hB (fun _ h => h.elim)).word a ha
  clear hW0 h hw hk k1 k2 k3 k4 k5 k6
  generalize wd l a = x at *
  unfold maxLen at hc2
  go_enter Tryd.func24, Tryd.ntmps24
  go_upto_region 1 with fail
  rw [HWE.out]
  go_wp2_with fail
  go_at_call 38
  refine (HD.out _).mono ?_
  rintro e w2 ⟨rfl, o⟩
  have O2 := Lib.hid (HB.out.1.trans o)
  have B2 := Lib.hid (HB.out.2.keep o id)
  obtain ⟨W3, hW3, HB3⟩ := zero_head w2
  have HW3 := Lib.hid hW3
  clear hW3 o hc
  go_upto_region 4 with fail
  rw [HW3.out]
  have O3 := Lib.hid (O2.out.trans HB3.out.1)
  have B3 := Lib.hid (B2.out.keep HB3.out.1 id)
  obtain ⟨s0, s1, s2, s3, s4⟩ := cells5 B3.out
  obtain ⟨r0, r1, r2, r3, r4⟩ := frees5 B3.out
  go_wp2
  clear s0 s1 s2 s3 s4 r0 r1 r2 r3 r4
  obtain ⟨W6, hW6, O6, B6⟩ := puts5 O3.out (Nat.le_refl _) B3.out (.int .i64 0) (.int .i64 0) (.int .i64 0) (.bool false) (.int .i64 0)
  with_reducible rw [hW6]
  obtain ⟨h0, h1, h2, h3, h4⟩ := cells5 B6
  exact bodyPost_ret (v := .tuple #[.agg #[.int .i64 0, .int .i64 0, .int .i64 0, .bool false, .int .i64 0], .int .i64 3]) (by simp [results, Tryd.results24, go_sem, h0, h1, h2, h3, h4]) rfl ⟨rfl, O6⟩

/-- What Head says of a place where a header's word stands. -/
def RHeadOk (s t : Int) (n : Nat) (w : World) (e : Ending) (w' : World) : Prop :=
  (s ≤ t → e = .returned (.tuple #[.agg #[.int .i64 (wK n), .int .i64 (wF n), .int .i64 (wR n), .bool (wM n), .int .i64 (wC n)], .int .i64 0])) ∧
  (¬ s ≤ t → e = .returned (.tuple #[.agg #[.int .i64 0, .int .i64 0, .int .i64 0, .bool false, .int .i64 0], .int .i64 2])) ∧ Only nob w w'

set_option maxRecDepth 100000 in
set_option maxHeartbeats 1000000 in
theorem rHead_ok (v : Value) (B : Nat) (l : List Nat) (a : Nat) (w : World) (h : Sl w B 1 v l.length (u64s l)) (hB : B ≤ w.heap.size) (hw : Words l) (hl : l.length ≤ 98304) (ha : a < l.length) (hk : wOk (wd l a) = true) :
    Calls Tryd.prog 24 #[v, .int .i64 a] w (RHeadOk (1 + wF (wd l a) + wR (wd l a)) ((l.length : Int) - a) (wd l a) w) := by
  obtain ⟨W, hW0, HB⟩ := zero_head w
  have HWE := Lib.hid hW0
  have HD := Lib.hid (fun w => refDec07_any (hw.wd a) w)
  obtain ⟨k1, k2, k3, k4, k5, k6⟩ := o_yes hk
  rw [k1, k2, k3, k4, k5, k6] at HD
  obtain ⟨q, o, c, rfl, hc1, hc2, hc⟩ := (h.only HB.out.1 hB (fun _ h => h.elim)).word a ha
  have hbd := wOk_bounds hk
  have hz := hSz_yes (wOk_may hk)
  clear k1 k2 k3 k4 k5 k6
  obtain ⟨n, hn⟩ : ∃ n, n = wd l a := ⟨_, rfl⟩
  rw [← hn] at HD hbd hz hc ⊢
  obtain ⟨s, hs⟩ : ∃ s : Int, s = 1 + wF n + wR n := ⟨_, rfl⟩
  have HS := Lib.hid (hz.trans hs.symm)
  have hs2 : 1 ≤ s ∧ s ≤ 8193 := by omega
  rw [← hs]
  clear hW0 h hw hk hz hs hbd hn
  unfold maxLen at hc2
  go_enter Tryd.func24, Tryd.ntmps24
  go_upto_region 1 with fail
  rw [HWE.out]
  go_wp2_with fail
  go_at_call 38
  refine (HD.out _).mono ?_
  rintro e w2 ⟨rfl, o⟩
  have O2 := Lib.hid (HB.out.1.trans o)
  have B2 := Lib.hid (HB.out.2.keep o id)
  obtain ⟨W3, hW3, HB3⟩ := box_head w2 (wK n) (wF n) (wR n) (wM n) (wC n)
  have HW3 := Lib.hid hW3
  clear hW3 o hc
  go_upto_region 4 with fail
  rw [HW3.out]
  have O3 := Lib.hid (O2.out.trans HB3.out.1)
  have B3 := Lib.hid (B2.out.keep HB3.out.1 id)
  obtain ⟨c0, c1, c2, c3, c4⟩ := cells5 HB3.out.2
  go_wp2_with fail
  go_at_call 25
  refine (refSize07_any _ _ _ _ _ _).mono ?_
  rw [HS.out]
  rintro e w4 ⟨rfl, o⟩
  have O4 := Lib.hid (O3.out.trans o)
  have B4 := Lib.hid (B3.out.keep o id)
  have C4 := Lib.hid (HB3.out.2.keep o id)
  clear o c0 c1 c2 c3 c4
  obtain ⟨s0, s1, s2, s3, s4⟩ := cells5 B4.out
  obtain ⟨r0, r1, r2, r3, r4⟩ := frees5 B4.out
  obtain ⟨c0, c1, c2, c3, c4⟩ := cells5 C4.out
  by_cases hf : (l.length : Int) < a + s
  · go_wp2
    clear s0 s1 s2 s3 s4 r0 r1 r2 r3 r4
    obtain ⟨W6, hW6, O6, B6⟩ := puts5 O4.out (Nat.le_refl _) B4.out (.int .i64 0) (.int .i64 0) (.int .i64 0) (.bool false) (.int .i64 0)
    with_reducible rw [hW6]
    obtain ⟨h0, h1, h2, h3, h4⟩ := cells5 B6
    exact bodyPost_ret (v := .tuple #[.agg #[.int .i64 0, .int .i64 0, .int .i64 0, .bool false, .int .i64 0], .int .i64 2]) (by simp [results, Tryd.results24, go_sem, h0, h1, h2, h3, h4]) rfl (show RHeadOk _ _ _ _ _ _ from ⟨fun hx => by omega, fun _ => rfl, O6⟩)
  · go_wp2
    clear s0 s1 s2 s3 s4 r0 r1 r2 r3 r4
    obtain ⟨W6, hW6, O6, B6⟩ := puts5 O4.out (Nat.le_refl _) B4.out (.int .i64 (wK n)) (.int .i64 (wF n)) (.int .i64 (wR n)) (.bool (wM n)) (.int .i64 (wC n))
    with_reducible rw [hW6]
    obtain ⟨h0, h1, h2, h3, h4⟩ := cells5 B6
    exact bodyPost_ret (v := .tuple #[.agg #[.int .i64 (wK n), .int .i64 (wF n), .int .i64 (wR n), .bool (wM n), .int .i64 (wC n)], .int .i64 0]) (by simp [results, Tryd.results24, go_sem, h0, h1, h2, h3, h4]) rfl (show RHeadOk _ _ _ _ _ _ from ⟨fun _ => rfl, fun hx => absurd (show s ≤ (l.length : Int) - a by omega) hx, O6⟩)

/-- Head, of any place of a list. -/
theorem rHead_any (v : Value) (B : Nat) (l : List Nat) (a : Int) (w : World) (h : Sl w B 1 v l.length (u64s l)) (hB : B ≤ w.heap.size) (hw : Words l) (hl : l.length ≤ 98304) :
    Calls Tryd.prog 24 #[v, .int .i64 a] w fun e w' => e = .returned (.tuple #[.agg #[.int .i64 (ohK l a), .int .i64 (ohF l a), .int .i64 (ohR l a), .bool (ohM l a), .int .i64 (ohC l a)], .int .i64 (ohE l a)]) ∧ Only nob w w' := by
  by_cases hi : 0 ≤ a ∧ a < (l.length : Int)
  · obtain ⟨n, rfl⟩ : ∃ n : Nat, a = n := ⟨a.toNat, by omega⟩
    have hn : n < l.length := by omega
    rcases hk : wOk (wd l n) with _ | _
    · have h0 := oh_tag hi (by rw [Int.toNat_natCast]; exact hk)
      obtain ⟨h1, h2, h3, h4, h5⟩ := oh_none (show ohE l n ≠ 0 by rw [h0]; decide)
      rw [h0, h1, h2, h3, h4, h5]
      exact rHead_tag v B l n w h hB hw hn hk
    · refine (rHead_ok v B l n w h hB hw hl hn hk).mono ?_
      rintro e w' ⟨h1, h2, ho⟩
      by_cases hf : 1 + wF (wd l n) + wR (wd l n) ≤ (l.length : Int) - n
      · obtain ⟨k0, k1, k2, k3, k4, k5⟩ := oh_yes ⟨hn, hk, hf⟩
        rw [k0, k1, k2, k3, k4, k5]
        exact ⟨h1 hf, ho⟩
      · have h0 := oh_far hi (by rw [Int.toNat_natCast]; exact hk) (by rw [Int.toNat_natCast]; exact hf)
        obtain ⟨k1, k2, k3, k4, k5⟩ := oh_none (show ohE l n ≠ 0 by rw [h0]; decide)
        rw [h0, k1, k2, k3, k4, k5]
        exact ⟨h2 hf, ho⟩
  · have h0 := oh_out hi
    obtain ⟨h1, h2, h3, h4, h5⟩ := oh_none (show ohE l a ≠ 0 by rw [h0]; decide)
    rw [h0, h1, h2, h3, h4, h5]
    obtain ⟨A, ca, rfl, -⟩ := h
    exact rHead_out A l.length ca a w hi

end Go.Proofs.YtlejicbnobfldaaDoor
