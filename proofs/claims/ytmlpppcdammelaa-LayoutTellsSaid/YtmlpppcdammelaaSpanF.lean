/- Contract: the library's merge in place, over a row of spans: where one side is a single element. -/
import Derived.Test.YtmlpppcdammelaaSpanE
namespace Go.Proofs.Ytmlpppcdammelaa
open Go.RowKit Go.Sort

set_option maxRecDepth 100000 in
set_option maxHeartbeats 8000000 in
theorem symOne_any (g o cap a m b N : Nat) (d : Array Sp) (hN : d.size = N) (w : World) (hH : HoldsK enc 2 w g o d) (hg : g < w.heap.size) (hsz : d.size < 1099511627776) (M : Mrg ltO d a m b) (h1 : m = a + 1) :
    Calls Try.prog 41 #[.slice (some ⟨g, o, none⟩) N cap, .int .i64 a, .int .i64 m, .int .i64 b, ordV] w fun e w' => e = .returned (.tuple #[]) ∧ ∃ d', Sw w g o d' w' ∧ PermIn a b d d' ∧ SortedIn ltO a b d' := by
  subst hN
  have HH := Lib.hid hH
  have S0 := Lib.hid (show Sw w g o d w from SWK.start hH)
  have hmb := M.mb
  have hbs := M.bs
  have e1 : (m : Int) - (a : Int) = 1 := by omega
  have HM := Lib.hid M
  have HMA := Lib.hid h1
  clear hH M h1
  go_enter Try.func41, Try.ntmps41
  go_wp2
  clear e1
  go_loopw [10, 11] (fun vi vj wr => ∃ (p q : Nat), vi = .int .i64 p ∧ vj = .int .i64 q ∧ m ≤ p ∧ p ≤ q ∧ q ≤ b ∧ Hid (Sw w g o d wr) ∧ Hid (∀ t, m ≤ t → t < p → ltO d[t]! d[a]! = true) ∧ Hid (∀ t, q ≤ t → t < b → ltO d[t]! d[a]! = false)) (fun vi vj _ => (intOf vj).toNat - (intOf vi).toNat)
  case atStart => exact ⟨m, b, rfl, rfl, by omega, by omega, by omega, S0, (fun t _ _ => by omega), (fun t _ _ => by omega)⟩
  case round =>
    clear S0
    obtain ⟨p, q, rfl, rfl, b1, b2, b3, S1, LO, HI⟩ := hrel
    by_cases hlt : p < q
    · have hltz : (p : Int) < (q : Int) := by omega
      have HW := S1.out.holds hg HH.out rfl
      obtain ⟨c, hc⟩ : ∃ c, c = (p + q) / 2 := ⟨_, rfl⟩
      have c1 : p ≤ c := by omega
      have c2 : c < q := by omega
      have hcz : ((p : Int) + (q : Int)) / 2 = (c : Int) := by omega
      have HMA' := HMA.out
      have xall := (cell2 HW (i := c) (by omega)).all
      have yall := (cell2 HW (i := a) (by omega)).all
      have hcs : (c : Int) < (d.size : Int) := by omega
      have has : (a : Int) < (d.size : Int) := by omega
      have HL := fun (hl : ltO d[c]! d[a]! = true) (t : Nat) (h1 : m ≤ t) (h2 : t < c + 1) => (show ltO d[t]! d[a]! = true from by
        rcases Bool.eq_false_or_eq_true (ltO d[t]! d[a]!) with hh | hh
        · exact hh
        · have := le_tr swo hh (sortedLe swo HM.out.right h1 (by omega : t ≤ c) (by omega))
          rw [this] at hl; cases hl)
      have HR := fun (hl : ltO d[c]! d[a]! = false) (t : Nat) (h1 : c ≤ t) (h2 : t < b) => (show ltO d[t]! d[a]! = false from le_tr swo hl (sortedLe swo HM.out.right (by omega) h1 h2))
      have HL := Lib.hid HL
      have HR := Lib.hid HR
      obtain ⟨x, hx⟩ : ∃ x, x = d[c]! := ⟨_, rfl⟩
      obtain ⟨y, hy⟩ : ∃ y, y = d[a]! := ⟨_, rfl⟩
      rw [← hx] at xall
      rw [← hy] at yall
      have HX := Lib.hid hx
      have HY := Lib.hid hy
      obtain ⟨x0, x1⟩ := xall
      obtain ⟨y0, y1⟩ := yall
      have mixed := mixed_
      clear HW HMA' hx hy hc
      by_cases hlv : ordI x y < 0
      case' pos => have H2 := Lib.hid (HL.out (by rw [← HX.out, ← HY.out]; exact decide_eq_true hlv))
      case' neg => have H2 := Lib.hid (HR.out (by rw [← HX.out, ← HY.out]; exact decide_eq_false hlv))
      all_goals
        go_wp2_with fail
        go_quiet_grown (first | (go_at_call 36; with_reducible refine grw_of (order_any _ _ _)))
        obtain ⟨W3, hW3, HG⟩ := grown_name wr nq osq
        rw [hW3]
        clear hW3 x0 x1 y0 y1 hcz
        have S3 := Lib.hid (sw_grw S1.out HG.out)
        go_wp2
        go_roundw
        case rel => first | exact ⟨c + 1, q, by go_num, rfl, by omega, by omega, by omega, S3, H2, HI⟩ | exact ⟨p, c, rfl, rfl, by omega, by omega, by omega, S3, LO, H2⟩
        case measure => simp [intOf]; omega
    · obtain rfl : p = q := by omega
      obtain ⟨i, rfl⟩ : ∃ i, p = i + 1 := ⟨p - 1, by have := HMA.out; omega⟩
      have hai : a ≤ i := by have := HMA.out; omega
      have HU := Lib.hid (Up.start d a b)
      obtain ⟨wo, rfl⟩ : ∃ wo : World, wo = wr := ⟨_, rfl⟩
      go_wp2
      go_loopw [13] (fun vk wr => ∃ (k : Nat) (e : Array Sp), vk = .int .i64 k ∧ a ≤ k ∧ k ≤ i ∧ Hid (Sw w g o e wr) ∧ Hid (Up d e a b k)) (fun vk _ => i - (intOf vk).toNat)
      case atStart => exact ⟨a, d, rfl, by omega, by omega, S1, HU⟩
      case round =>
        clear S1 HU
        obtain ⟨k, e, rfl, k1, k2, S2, U2⟩ := hrel
        by_cases hki : k < i
        · have hkz : (k : Int) < (i : Int) := by omega
          have es := U2.out.perm.1
          have HW := S2.out.holds hg HH.out es
          have xc := cell2 HW (i := k) (by omega)
          have yc := cell2 HW (i := k + 1) (by omega)
          have S4 := (S2.out.swap enc_len hg k (k + 1) (by omega) (by omega)).drew
          have U4 := Lib.hid (U2.out.next k1 (by omega) hbs)
          obtain ⟨x, hx⟩ : ∃ x, x = e[k]! := ⟨_, rfl⟩
          obtain ⟨y, hy⟩ : ∃ y, y = e[k + 1]! := ⟨_, rfl⟩
          rw [← hx] at xc S4
          rw [← hy] at yc S4
          have S5 := Lib.hid (swapped2 S4)
          obtain ⟨x0, x1, fx0, fx1⟩ := xc
          obtain ⟨y0, y1, fy0, fy1⟩ := yc
          have hcs : (k : Int) < (d.size : Int) := by omega
          have hcs1 : (k : Int) + 1 < (d.size : Int) := by omega
          have p0 : (0 : Int) ≤ (k : Int) + 1 := by omega
          have e0 : ((k : Int) + 1).toNat = k + 1 := by omega
          have hwp : IntKind.i64.wrap ((k : Int) + 1) = (k : Int) + 1 := by rw [IntKind.wrap_i64]; omega
          have mixed := mixed_
          clear HW S4 hx hy es
          go_wp2_with fail
          go_big_region_o
          go_wp2
          go_roundw
          case rel => exact ⟨k + 1, _, by go_num, by omega, by omega, S5, U4⟩
          case measure => simp [intOf]; omega
        · obtain rfl : k = i := by omega
          have hkz : ¬ (k : Int) < (k : Int) := by omega
          have hs : SortedIn ltO a b e := Up.sorted swo (i := k + 1) U2.out (by have := HM.out.right; rw [HMA.out] at this; exact this) (by omega) b3 (by have := LO.out; rw [HMA.out] at this; exact this) HI.out
          have HS := Lib.hid hs
          clear hs
          go_wp2
          refine bodyPost_ret (results_none rfl _ _ _) rfl ?_
          exact ⟨rfl, e, S2.out, U2.out.perm, HS.out⟩

set_option maxRecDepth 100000 in
set_option maxHeartbeats 8000000 in
theorem symLast_any (g o cap a m b N : Nat) (d : Array Sp) (hN : d.size = N) (w : World) (hH : HoldsK enc 2 w g o d) (hg : g < w.heap.size) (hsz : d.size < 1099511627776) (M : Mrg ltO d a m b) (h0 : m ≠ a + 1) (h1 : b = m + 1) :
    Calls Try.prog 41 #[.slice (some ⟨g, o, none⟩) N cap, .int .i64 a, .int .i64 m, .int .i64 b, ordV] w fun e w' => e = .returned (.tuple #[]) ∧ ∃ d', Sw w g o d' w' ∧ PermIn a b d d' ∧ SortedIn ltO a b d' := by
  subst hN
  have HH := Lib.hid hH
  have S0 := Lib.hid (show Sw w g o d w from SWK.start hH)
  have ham := M.am
  have hbs := M.bs
  have e0 : ((m : Int) - (a : Int) == 1) = false := by rw [beq_eq_false_iff_ne]; omega
  have e1 : (b : Int) - (m : Int) = 1 := by omega
  have HM := Lib.hid M
  have HB := Lib.hid h1
  clear hH M h1 h0
  go_enter Try.func41, Try.ntmps41
  go_wp2
  clear e1 e0
  go_loopw [14, 15] (fun vi vj wr => ∃ (p q : Nat), vi = .int .i64 p ∧ vj = .int .i64 q ∧ a ≤ p ∧ p ≤ q ∧ q ≤ m ∧ Hid (Sw w g o d wr) ∧ Hid (∀ t, a ≤ t → t < p → ltO d[m]! d[t]! = false) ∧ Hid (∀ t, q ≤ t → t < m → ltO d[m]! d[t]! = true)) (fun vi vj _ => (intOf vj).toNat - (intOf vi).toNat)
  case atStart => exact ⟨a, m, rfl, rfl, by omega, by omega, by omega, S0, (fun t _ _ => by omega), (fun t _ _ => by omega)⟩
  case round =>
    clear S0
    obtain ⟨p, q, rfl, rfl, b1, b2, b3, S1, LO, HI⟩ := hrel
    by_cases hlt : p < q
    · have hltz : (p : Int) < (q : Int) := by omega
      have HW := S1.out.holds hg HH.out rfl
      obtain ⟨c, hc⟩ : ∃ c, c = (p + q) / 2 := ⟨_, rfl⟩
      have c1 : p ≤ c := by omega
      have c2 : c < q := by omega
      have hcz : ((p : Int) + (q : Int)) / 2 = (c : Int) := by omega
      have HB' := HB.out
      have xall := (cell2 HW (i := m) (by omega)).all
      have yall := (cell2 HW (i := c) (by omega)).all
      have hcs : (c : Int) < (d.size : Int) := by omega
      have has : (m : Int) < (d.size : Int) := by omega
      have HL := fun (hl : ltO d[m]! d[c]! = false) (t : Nat) (h1 : a ≤ t) (h2 : t < c + 1) => (show ltO d[m]! d[t]! = false from le_tr swo (sortedLe swo HM.out.left h1 (by omega : t ≤ c) (by omega)) hl)
      have HR := fun (hl : ltO d[m]! d[c]! = true) (t : Nat) (h1 : c ≤ t) (h2 : t < m) => (show ltO d[m]! d[t]! = true from by
        rcases Bool.eq_false_or_eq_true (ltO d[m]! d[t]!) with hh | hh
        · exact hh
        · have := le_tr swo (sortedLe swo HM.out.left (by omega) h1 h2) hh
          rw [this] at hl; cases hl)
      have HL := Lib.hid HL
      have HR := Lib.hid HR
      obtain ⟨x, hx⟩ : ∃ x, x = d[m]! := ⟨_, rfl⟩
      obtain ⟨y, hy⟩ : ∃ y, y = d[c]! := ⟨_, rfl⟩
      rw [← hx] at xall
      rw [← hy] at yall
      have HX := Lib.hid hx
      have HY := Lib.hid hy
      obtain ⟨x0, x1⟩ := xall
      obtain ⟨y0, y1⟩ := yall
      have mixed := mixed_
      clear HW HB' hx hy hc
      by_cases hlv : ordI x y < 0
      case' pos =>
        have H2 := Lib.hid (HR.out (by rw [← HX.out, ← HY.out]; exact decide_eq_true hlv))
        have hlw : decide (ordI x y < 0) = true := decide_eq_true (by omega)
      case' neg =>
        have H2 := Lib.hid (HL.out (by rw [← HX.out, ← HY.out]; exact decide_eq_false hlv))
        have hlw : decide (ordI x y < 0) = false := decide_eq_false (by omega)
      all_goals
        go_wp2_with fail
        go_quiet_grown (first | (go_at_call 36; with_reducible refine grw_of (order_any _ _ _)))
        obtain ⟨W3, hW3, HG⟩ := grown_name wr nq osq
        rw [hW3]
        clear hW3 x0 x1 y0 y1 hcz
        have S3 := Lib.hid (sw_grw S1.out HG.out)
        go_wp2
        go_roundw
        case rel => first | exact ⟨c + 1, q, by go_num, rfl, by omega, by omega, by omega, S3, H2, HI⟩ | exact ⟨p, c, rfl, rfl, by omega, by omega, by omega, S3, LO, H2⟩
        case measure => simp [intOf]; omega
    · obtain rfl : p = q := by omega
      have HU := Lib.hid (Dn.start d a b m)
      obtain ⟨wo, rfl⟩ : ∃ wo : World, wo = wr := ⟨_, rfl⟩
      go_wp2
      go_loopw [17] (fun vk wr => ∃ (k : Nat) (e : Array Sp), vk = .int .i64 k ∧ p ≤ k ∧ k ≤ m ∧ Hid (Sw w g o e wr) ∧ Hid (Dn d e a b m k)) (fun vk _ => (intOf vk).toNat)
      case atStart => exact ⟨m, d, rfl, by omega, by omega, S1, HU⟩
      case round =>
        clear S1 HU
        obtain ⟨k, e, rfl, k1, k2, S2, U2⟩ := hrel
        by_cases hki : p < k
        · obtain ⟨j, rfl⟩ : ∃ j, k = j + 1 := ⟨k - 1, by omega⟩
          have hkz : (p : Int) < (j : Int) + 1 := by omega
          have es := U2.out.perm.1
          have HW := S2.out.holds hg HH.out es
          have HB' := HB.out
          have xc := cell2 HW (i := j + 1) (by omega)
          have yc := cell2 HW (i := j) (by omega)
          have S4 := (S2.out.swap enc_len hg (j + 1) j (by omega) (by omega)).drew
          have U4 := Lib.hid (U2.out.next (by omega) k2 (by omega) hbs)
          obtain ⟨x, hx⟩ : ∃ x, x = e[j + 1]! := ⟨_, rfl⟩
          obtain ⟨y, hy⟩ : ∃ y, y = e[j]! := ⟨_, rfl⟩
          rw [← hx] at xc S4
          rw [← hy] at yc S4
          have S5 := Lib.hid (swapped2 S4)
          obtain ⟨x0, x1, fx0, fx1⟩ := xc
          obtain ⟨y0, y1, fy0, fy1⟩ := yc
          have hcs : (j : Int) < (d.size : Int) := by omega
          have hcs1 : (j : Int) + 1 < (d.size : Int) := by omega
          have p0 : (0 : Int) ≤ (j : Int) + 1 := by omega
          have e0 : ((j : Int) + 1).toNat = j + 1 := by omega
          have hwp : IntKind.i64.wrap (j : Int) = (j : Int) := by rw [IntKind.wrap_i64]; omega
          have mixed := mixed_
          clear HW S4 hx hy es HB'
          go_wp2_with fail
          go_big_region_o
          go_wp2
          go_roundw
          case rel => exact ⟨j, _, by first | rfl | go_num, by omega, by omega, S5, U4⟩
          case measure => simp [intOf]
        · obtain rfl : p = k := by omega
          have hkz : ¬ (p : Int) < (p : Int) := by omega
          have hs : SortedIn ltO a b e := Dn.sorted swo U2.out HB.out HM.out.left b1 b3 LO.out HI.out
          have HS := Lib.hid hs
          clear hs
          go_wp2
          refine bodyPost_ret (results_none rfl _ _ _) rfl ?_
          exact ⟨rfl, e, S2.out, U2.out.perm, HS.out⟩
end Go.Proofs.Ytmlpppcdammelaa
