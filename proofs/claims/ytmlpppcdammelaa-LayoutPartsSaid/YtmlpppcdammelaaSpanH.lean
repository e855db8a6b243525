/- Contract: the library's stable sort, over a row of spans. -/
import Derived.Test.YtmlpppcdammelaaSpanG
namespace Go.Proofs.Ytmlpppcdammelaa
open Go.RowKit Go.Sort

theorem two_mul_run {s B a b : Nat} (ha : a = s * (2 * B)) (hb : b = a + 2 * B) : b = (s + 1) * (2 * B) := by rw [Nat.add_mul, Nat.one_mul, ← ha]; exact hb

set_option maxRecDepth 100000 in
set_option maxHeartbeats 8000000 in
theorem stable_any (g o cap N : Nat) (d : Array Sp) (hN : d.size = N) (w : World) (hH : HoldsK enc 2 w g o d) (hg : g < w.heap.size) (hsz : N < 1099511627776) :
    Calls Try.prog 37 #[.slice (some ⟨g, o, none⟩) N cap, .int .i64 N, ordV] w fun e w' => e = .returned (.tuple #[]) ∧ ∃ d', Sw w g o d' w' ∧ PermIn 0 N d d' ∧ SortedIn ltO 0 N d' := by
  have HN := Lib.hid hN
  have HH := Lib.hid hH
  have S0 := Lib.hid (show Sw w g o d w from SWK.start hH)
  have P0 := Lib.hid (permIn_refl d 0 N)
  have D0 := Lib.hid (Done.zero (lt := ltO) d 20)
  clear hH hN
  go_enter Try.func37, Try.ntmps37
  go_wp2
  go_loopw [7, 8] (fun va vb wr => ∃ (s a b : Nat) (e : Array Sp), va = .int .i64 a ∧ vb = .int .i64 b ∧ Hid (b = a + 20) ∧ Hid (a = s * 20) ∧ a ≤ N ∧ Hid (Sw w g o e wr) ∧ Hid (PermIn 0 N d e) ∧ Hid (Done ltO e 20 s)) (fun va _ _ => N - (intOf va).toNat)
  case atStart => exact ⟨0, 0, 20, d, by go_num, by go_num, by simp [Hid], by simp [Hid], by omega, S0, P0, D0⟩
  case round =>
    clear S0 P0 D0
    obtain ⟨s, a, b, e, rfl, rfl, HB, HA, haN, S1, P1, D1⟩ := hrel
    have ES := Lib.hid (show e.size = N from P1.out.1.trans HN.out)
    by_cases hlt : b ≤ N
    · have hab : a < b := by have := HB.out; omega
      go_wp2_with fail
      go_at_call 40
      refine (insertion_any g o cap a b N e ES.out _ (S1.out.holds hg HH.out P1.out.1) (S1.out.lt hg) (by rw [ES.out]; exact hsz) (by omega) (by rw [ES.out]; exact hlt)).mono ?_
      rintro e1 w1 ⟨rfl, f, S2, pf, sf⟩
      have S3 := Lib.hid (sw_trans S1.out hg S2 pf.1)
      have P3 := Lib.hid (permTr P1.out (permIn_mono e f a b 0 N (by omega) hlt (by rw [ES.out]; exact Nat.le_refl _) pf))
      have D3 := Lib.hid (D1.out.next HA.out HB.out (fun q hq => pf.2.1 q (.inl hq)) sf)
      clear S2 pf sf
      go_wp2
      go_roundw
      case rel => exact ⟨s + 1, b, b + 20, f, rfl, by go_num, rfl, by have := HA.out; have := HB.out; show _ = _; omega, hlt, S3, P3, D3⟩
      case measure => simp [intOf]; omega
    · obtain ⟨wo, rfl⟩ : ∃ wo : World, wo = wr := ⟨_, rfl⟩
      go_wp2_with fail
      go_at_call 40
      refine (insertion_any g o cap a N N e ES.out _ (S1.out.holds hg HH.out P1.out.1) (S1.out.lt hg) (by rw [ES.out]; exact hsz) haN (by rw [ES.out]; exact Nat.le_refl _)).mono ?_
      rintro e1 w1 ⟨rfl, f, S2, pf, sf⟩
      have S3 := Lib.hid (sw_trans S1.out hg S2 pf.1)
      have P3 := Lib.hid (permTr P1.out (permIn_mono e f a N 0 N (by omega) (Nat.le_refl _) (by rw [ES.out]; exact Nat.le_refl _) pf))
      have R3 := Lib.hid (Done.runs (lt := ltO) (d := f) (n := N) (B := 20) (s := s) (a := a) (fun t ht => sortedSame (D1.out t ht) fun q _ hq => pf.2.1 q (.inl (by have h1 : (t + 1) * 20 ≤ s * 20 := Nat.mul_le_mul_right _ ht; have := HA.out; omega))) HA.out sf)
      clear S2 pf sf D1 P1 S1 ES HA HB haN hlt
      obtain ⟨w2, rfl⟩ : ∃ w2 : World, w2 = w1 := ⟨_, rfl⟩
      go_wp2
      go_loopw [6] (fun vB wr => ∃ (B : Nat) (e : Array Sp), vB = .int .i64 B ∧ 20 ≤ B ∧ B ≤ 2 * N + 20 ∧ Hid (Sw w g o e wr) ∧ Hid (PermIn 0 N d e) ∧ Hid (Runs ltO e N B 0)) (fun vB _ => N - (intOf vB).toNat)
      case atStart => exact ⟨20, f, by go_num, by omega, by omega, S3, P3, R3⟩
      case round =>
        clear S3 P3 R3
        obtain ⟨B, e, rfl, B1, B2, S1, P1, R1⟩ := hrel
        by_cases hlt : B < N
        · have D0 := Lib.hid (Done.zero (lt := ltO) e (2 * B))
          obtain ⟨w3, rfl⟩ : ∃ w3 : World, w3 = wr := ⟨_, rfl⟩
          go_wp2
          go_loopw [7, 8] (fun va vb wr => ∃ (s a b : Nat) (e : Array Sp), va = .int .i64 a ∧ vb = .int .i64 b ∧ Hid (b = a + 2 * B) ∧ Hid (a = s * (2 * B)) ∧ a ≤ N ∧ Hid (Sw w g o e wr) ∧ Hid (PermIn 0 N d e) ∧ Hid (Done ltO e (2 * B) s) ∧ Hid (Runs ltO e N B a)) (fun va _ _ => N - (intOf va).toNat)
          case atStart => exact ⟨0, 0, 2 * B, e, by go_num, by first | rfl | go_num | simp, by simp [Hid], by simp [Hid], by omega, S1, P1, D0, R1⟩
          case round =>
            clear S1 P1 D0 R1
            obtain ⟨s, a, b, e, rfl, rfl, HB, HA, haN, S1, P1, D1, R1⟩ := hrel
            have ES := Lib.hid (show e.size = N from P1.out.1.trans HN.out)
            by_cases hbn : b ≤ N
            · have hab : a + B < b := by have := HB.out; omega
              have HM := Lib.hid (show Mrg ltO e a (a + B) b from ⟨by omega, hab, by rw [ES.out]; exact hbn, R1.out.first (by omega), by
                have h2 := R1.out.second
                rw [Nat.min_eq_left (by have := HB.out; omega), show a + B + B = b by have := HB.out; omega] at h2
                exact h2⟩)
              go_wp2_with fail
              rw [show (a : Int) + (B : Int) = ((a + B : Nat) : Int) by omega]
              go_at_call 41
              refine (symMerge_any g o cap N hsz (b - a) a (a + B) b e _ (Nat.le_refl _) ES.out (S1.out.holds hg HH.out P1.out.1) (S1.out.lt hg) HM.out).mono ?_
              rintro e1 w1 ⟨rfl, k, S2, pf, sf⟩
              have S3 := Lib.hid (sw_trans S1.out hg S2 pf.1)
              have P3 := Lib.hid (permTr P1.out (permIn_mono e k a b 0 N (by omega) hbn (by rw [ES.out]; exact Nat.le_refl _) pf))
              have D3 := Lib.hid (D1.out.next HA.out HB.out (fun q hq => pf.2.1 q (.inl hq)) sf)
              have R3 := Lib.hid (Runs.skip (e := k) (b := b) R1.out 2 HB.out (fun q hq => pf.2.1 q (.inr hq)))
              clear S2 pf sf
              go_wp2
              go_roundw
              case rel => exact ⟨s + 1, b, b + 2 * B, k, rfl, by first | rfl | go_num | simp, rfl, two_mul_run HA.out HB.out, hbn, S3, P3, D3, R3⟩
              case measure => simp [intOf]; omega
            · by_cases hm : a + B < N
              · have HM := Lib.hid (show Mrg ltO e a (a + B) N from ⟨by omega, hm, by rw [ES.out]; exact Nat.le_refl _, R1.out.first (by omega), by
                  have h2 := R1.out.second
                  rw [Nat.min_eq_right (by have := HB.out; omega)] at h2
                  exact h2⟩)
                have hmz2 : (a : Int) + (B : Int) < (N : Int) := by omega
                go_wp2_with fail
                rw [show (a : Int) + (B : Int) = ((a + B : Nat) : Int) by omega]
                go_at_call 41
                refine (symMerge_any g o cap N hsz (N - a) a (a + B) N e _ (Nat.le_refl _) ES.out (S1.out.holds hg HH.out P1.out.1) (S1.out.lt hg) HM.out).mono ?_
                rintro e1 w1 ⟨rfl, k, S2, pf, sf⟩
                have S3 := Lib.hid (sw_trans S1.out hg S2 pf.1)
                have P3 := Lib.hid (permTr P1.out (permIn_mono e k a N 0 N (by omega) (Nat.le_refl _) (by rw [ES.out]; exact Nat.le_refl _) pf))
                have R3 := Lib.hid (Done.runs (lt := ltO) (d := k) (n := N) (B := 2 * B) (s := s) (a := a) (fun t ht => sortedSame (D1.out t ht) fun q _ hq => pf.2.1 q (.inl (by
                  have h1 : (t + 1) * (2 * B) ≤ s * (2 * B) := Nat.mul_le_mul_right _ ht
                  rw [Nat.add_mul, Nat.one_mul] at h1
                  have := HA.out; omega))) HA.out sf)
                clear S2 pf sf hmz2
                go_wp2
                go_roundw
                case rel => exact ⟨2 * B, k, by first | rfl | go_num | (rw [Int.mul_comm]; go_num) | simp [Int.mul_comm], by omega, by omega, S3, P3, R3⟩
                case measure => simp [intOf]; omega
              · have R3 := Lib.hid (Done.runs (lt := ltO) (d := e) (n := N) (B := 2 * B) (s := s) (a := a) D1.out HA.out (R1.out.last (by omega)))
                have hmz2 : ¬ (a : Int) + (B : Int) < (N : Int) := by omega
                go_wp2
                go_roundw
                case rel => exact ⟨2 * B, e, by first | rfl | go_num | (rw [Int.mul_comm]; go_num) | simp [Int.mul_comm], by omega, by omega, S1, P1, R3⟩
                case measure => simp [intOf]; omega
        · have HS := Lib.hid (R1.out.all (by omega))
          go_wp2
          go_end0
          exact ⟨rfl, e, S1.out, P1.out, HS.out⟩

theorem sortStable_any (g o cap N : Nat) (d : Array Sp) (hN : d.size = N) (w : World) (hH : HoldsK enc 2 w g o d) (hg : g < w.heap.size) (hsz : N < 1099511627776) :
    Calls Try.prog 35 #[.slice (some ⟨g, o, none⟩) N cap, ordV] w fun e w' => e = .returned (.tuple #[]) ∧ ∃ d', Sw w g o d' w' ∧ PermIn 0 N d d' ∧ SortedIn ltO 0 N d' := by
  have HN := Lib.hid hN
  have HH := Lib.hid hH
  clear hN hH
  go_enter Try.func35, Try.ntmps35
  go_wp2_with fail
  go_at_call 37
  refine (stable_any g o cap N d HN.out w HH.out hg hsz).mono ?_
  rintro e1 w1 ⟨rfl, f, S2, pf, sf⟩
  have R := Lib.hid (And.intro S2 (And.intro pf sf))
  clear S2 pf sf
  go_wp2
  go_end0
  exact ⟨rfl, f, R.out.1, R.out.2.1, R.out.2.2⟩
end Go.Proofs.Ytmlpppcdammelaa
