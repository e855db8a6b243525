/- Contracts: the library's swaps of ranges and rotations, over a row of spans. -/
import Derived.Test.YtmlpppcdammelaaSpanC
import Derived.Shelf.SlSortCmp.KitK
import Derived.Shelf.RegionOpenPlain
import Derived.BigRegion
namespace Go.Proofs.Ytmlpppcdammelaa
open Go.RowKit Go.Sort

def enc (x : Sp) : List Value := [.int .i64 x.1, .int .i64 x.2]
theorem enc_len (x : Sp) : (enc x).length = 2 := rfl
theorem enc_one (x : Sp) : ∀ v ∈ enc x, v.oneCell' = true := by
  intro v hv
  unfold enc at hv
  rcases List.mem_cons.1 hv with rfl | hv
  · rfl
  · rcases List.mem_cons.1 hv with rfl | hv
    · rfl
    · cases hv
/-- The row d lies in block g from o on, in world W, which has come from w: only that row has turned. -/
abbrev Sw (w : World) (g o : Nat) (d : Array Sp) (W : World) : Prop := SWK enc 2 w g o d W
/-- Element i of the row. -/
structure Cell2 (W : World) (g o i : Nat) (x : Sp) : Prop where
  c0 : W.cell? ⟨g, o + i * 2, none⟩ = some (.int .i64 x.1)
  c1 : W.cell? ⟨g, o + i * 2 + 1, none⟩ = some (.int .i64 x.2)
  f0 : W.frozen? ⟨g, o + i * 2, none⟩ = false
  f1 : W.frozen? ⟨g, o + i * 2 + 1, none⟩ = false
theorem cell2 {W : World} {g o i : Nat} {d : Array Sp} (h : HoldsK enc 2 W g o d) (hi : i < d.size) : Cell2 W g o i d[i]! := by
  have h0 := HoldsK.cell h (i := i) (c := 0) hi (by omega)
  have h1 := HoldsK.cell h (i := i) (c := 1) hi (by omega)
  exact ⟨h0.1, h1.1, h0.2, h1.2⟩

theorem sw_trans {w W W' : World} {g o : Nat} {d e : Array Sp} (h : Sw w g o d W) (hg : g < w.heap.size) (k : Sw W g o e W') (hs : e.size = d.size) : Sw w g o e W' := by
  obtain ⟨n, os, rfl⟩ := k
  exact SWK.on h hg n e os hs
theorem swapped2 {w W : World} {g o i j : Nat} {d : Array Sp} {x y : Sp} (h : Sw w g o d (World.drew ((W.setCells g (o + i * 2) (enc y)).setCells g (o + j * 2) (enc x)))) :
    Sw w g o d (World.drew ((((W.setCell ⟨g, o + i * 2, none⟩ (.int .i64 y.1)).setCell ⟨g, o + i * 2 + 1, none⟩ (.int .i64 y.2)).setCell ⟨g, o + j * 2, none⟩ (.int .i64 x.1)).setCell ⟨g, o + j * 2 + 1, none⟩ (.int .i64 x.2))) := h

set_option maxHeartbeats 4000000 in
theorem swapRange_any (F : Value) (g o cap lo hi a b n N : Nat) (d : Array Sp) (hN : d.size = N) (w : World) (hH : HoldsK enc 2 w g o d) (hg : g < w.heap.size) (hsz : d.size < 1099511627776) (h1 : lo ≤ a) (h2 : a + n ≤ b) (h3 : b + n ≤ hi) (h4 : hi ≤ d.size) :
    Calls Try.prog 44 #[.slice (some ⟨g, o, none⟩) N cap, .int .i64 a, .int .i64 b, .int .i64 n, F] w fun e w' => e = .returned (.tuple #[]) ∧ ∃ d', Sw w g o d' w' ∧ Swr d d' lo hi a b n := by
  subst hN
  have HH := Lib.hid hH
  have S0 := Lib.hid (show Sw w g o d w from SWK.start hH)
  have HZ := Lib.hid (Swr.start d lo hi a b)
  clear hH
  go_enter Try.func44, Try.ntmps44
  go_wp2
  go_loopw [10] (fun i wr => ∃ (k : Nat) (e : Array Sp), k ≤ n ∧ i = .int .i64 k ∧ Hid (Sw w g o e wr) ∧ Hid (Swr d e lo hi a b k)) (fun i _ => n - (intOf i).toNat)
  case atStart => exact ⟨0, d, by omega, by go_num, S0, HZ⟩
  case round =>
    clear S0 HZ
    obtain ⟨k, e, hk, rfl, S1, R1⟩ := hrel
    by_cases hlt : k < n
    · have hlz : (k : Int) < (n : Int) := by omega
      have es : e.size = d.size := R1.out.perm.1
      have HW := S1.out.holds hg HH.out es
      obtain ⟨x0, x1, fx0, fx1⟩ := cell2 HW (i := a + k) (by omega)
      obtain ⟨y0, y1, fy0, fy1⟩ := cell2 HW (i := b + k) (by omega)
      have S2 := (S1.out.swap enc_len hg (a + k) (b + k) (by omega) (by omega)).drew
      have R2 := Lib.hid (R1.out.next (by omega) (by omega) (by omega) (by omega))
      obtain ⟨x, hx⟩ : ∃ x, x = e[a + k]! := ⟨_, rfl⟩
      obtain ⟨y, hy⟩ : ∃ y, y = e[b + k]! := ⟨_, rfl⟩
      rw [← hx] at x0 x1 S2
      rw [← hy] at y0 y1 S2
      have S2 := Lib.hid (swapped2 S2)
      clear hx hy HW
      have wa : IntKind.i64.wrap ((a : Int) + k) = (a : Int) + k := by rw [IntKind.wrap_i64]; omega
      have wb : IntKind.i64.wrap ((b : Int) + k) = (b : Int) + k := by rw [IntKind.wrap_i64]; omega
      have ta : ((a : Int) + k).toNat = a + k := by omega
      have tb : ((b : Int) + k).toNat = b + k := by omega
      have pa : (0 : Int) ≤ (a : Int) + k := by omega
      have pb : (0 : Int) ≤ (b : Int) + k := by omega
      have la : (a : Int) + k < (d.size : Int) := by omega
      have lb : (b : Int) + k < (d.size : Int) := by omega
      have mixed := mixed_
      go_wp2_with fail
      go_big_region_o
      go_wp2
      go_roundw
      case rel => exact ⟨k + 1, _, by omega, by go_num, S2, R2⟩
      case measure => simp [intOf]; omega
    · obtain rfl : k = n := by omega
      go_wp2
      go_end0
      exact ⟨rfl, e, S1.out, R1.out⟩

set_option maxHeartbeats 4000000 in
theorem rotate_any (F : Value) (g o cap a m b N : Nat) (d : Array Sp) (hN : d.size = N) (w : World) (hH : HoldsK enc 2 w g o d) (hg : g < w.heap.size) (hsz : d.size < 1099511627776) (h1 : a < m) (h2 : m < b) (h3 : b ≤ d.size) :
    Calls Try.prog 43 #[.slice (some ⟨g, o, none⟩) N cap, .int .i64 a, .int .i64 m, .int .i64 b, F] w fun e w' => e = .returned (.tuple #[]) ∧ ∃ d', Sw w g o d' w' ∧ Rotd d d' a m b := by
  subst hN
  have HH := Lib.hid hH
  have S0 := Lib.hid (show Sw w g o d w from SWK.start hH)
  have HZ := Lib.hid (Rot.start d a m b (by omega) (by omega))
  have e1 : ((m : Int) - a) = ((m - a : Nat) : Int) := by omega
  have e2 : ((b : Int) - m) = ((b - m : Nat) : Int) := by omega
  have E1 := Lib.hid e1
  have E2 := Lib.hid e2
  clear hH e1 e2
  go_enter Try.func43, Try.ntmps43
  go_wp2
  go_loopw [10, 11] (fun i j wr => ∃ (p q : Nat) (e : Array Sp), i = .int .i64 p ∧ j = .int .i64 q ∧ 1 ≤ p ∧ 1 ≤ q ∧ p ≤ m ∧ m + q ≤ b ∧ a ≤ m - p ∧ p + q ≤ b - a ∧ Hid (Sw w g o e wr) ∧ Hid (Rot d e a m b p q)) (fun i j _ => (intOf i).toNat + (intOf j).toNat)
  case atStart => exact ⟨m - a, b - m, d, by rw [E1.out], by rw [E2.out], by omega, by omega, by omega, by omega, by omega, by omega, S0, HZ⟩
  case round =>
    clear S0 HZ E1 E2
    obtain ⟨p, q, e, rfl, rfl, p1, q1, b1, b2, b3, b4, S1, R1⟩ := hrel
    have ES := Lib.hid (show e.size = d.size from R1.out.perm.1)
    have HW := Lib.hid (S1.out.holds hg HH.out ES.out)
    have hgr : g < wr.heap.size := S1.out.lt hg
    have hse : e.size < 1099511627776 := by rw [ES.out]; exact hsz
    have hbe : b ≤ e.size := by rw [ES.out]; exact h3
    have ways : p = q ∨ q < p ∨ p < q := by omega
    rcases ways with rfl | hlt | hlt
    · go_wp2_with fail
      rw [show (m : Int) - (p : Int) = ((m - p : Nat) : Int) by omega]
      go_at_call 44
      refine (swapRange_any F g o cap a b (m - p) m p _ e ES.out _ HW.out hgr hse (by omega) (by omega) (by omega) hbe).mono ?_
      rintro e1 w1 ⟨rfl, f, S2, R2⟩
      have S3 := Lib.hid (sw_trans S1.out hg S2 (R2.perm.1.trans rfl))
      have R3 := Lib.hid (R1.out.last b1 R2)
      clear S2 R2
      go_wp2
      go_end0
      exact ⟨rfl, f, S3.out, R3.out⟩
    · have hltz : (q : Int) < (p : Int) := by omega
      have hne : ¬ p = q := by omega
      go_wp2_with fail
      rw [show (m : Int) - (p : Int) = ((m - p : Nat) : Int) by omega]
      go_at_call 44
      refine (swapRange_any F g o cap a b (m - p) m q _ e ES.out _ HW.out hgr hse (by omega) (by omega) (by omega) hbe).mono ?_
      rintro e1 w1 ⟨rfl, f, S2, R2⟩
      have S3 := Lib.hid (sw_trans S1.out hg S2 (R2.perm.1.trans rfl))
      have R3 := Lib.hid (R1.out.left hlt b1 R2)
      have E3 := Lib.hid (show (p : Int) - (q : Int) = ((p - q : Nat) : Int) by omega)
      clear S2 R2
      go_wp2
      go_roundw
      case rel => exact ⟨p - q, q, f, by rw [E3.out], rfl, by omega, by omega, by omega, by omega, by omega, by omega, S3, R3⟩
      case measure => simp [intOf]; omega
    · have hltz : (p : Int) < (q : Int) := by omega
      have hne : ¬ p = q := by omega
      have hng : ¬ (q : Int) < (p : Int) := by omega
      go_wp2_with fail
      rw [show (m : Int) - (p : Int) = ((m - p : Nat) : Int) by omega, show (m : Int) + (q : Int) - (p : Int) = ((m + q - p : Nat) : Int) by omega]
      go_at_call 44
      refine (swapRange_any F g o cap a b (m - p) (m + q - p) p _ e ES.out _ HW.out hgr hse (by omega) (by omega) (by omega) hbe).mono ?_
      rintro e1 w1 ⟨rfl, f, S2, R2⟩
      have S3 := Lib.hid (sw_trans S1.out hg S2 (R2.perm.1.trans rfl))
      have R3 := Lib.hid (R1.out.right hlt b1 R2)
      have E3 := Lib.hid (show (q : Int) - (p : Int) = ((q - p : Nat) : Int) by omega)
      clear S2 R2
      go_wp2
      go_roundw
      case rel => exact ⟨p, q - p, f, rfl, by rw [E3.out], by omega, by omega, by omega, by omega, by omega, by omega, S3, R3⟩
      case measure => simp [intOf]; omega
end Go.Proofs.Ytmlpppcdammelaa
