/- Contract: the library's merge in place, over a row of spans: where one side is a single element. -/
import Derived.Test.YtoeccbbjncgmlaaDoorSpanCE
namespace Go.Proofs.YtoeccbbjncgmlaaDoor
open Go.RowKit Go.Sort

set_option maxRecDepth 100000 in
set_option maxHeartbeats 8000000 in
theorem symOne_any (g o cap a m b N : Nat) (d : Array Sp) (hN : d.size = N) (w : World) (hH : HoldsK enc 2 w g o d) (hg : g < w.heap.size) (hsz : d.size < 1099511627776) (M : Mrg ltO d a m b) (h1 : m = a + 1) :
    Calls Tryd.prog 89 #[.slice (some ⟨g, o, none⟩) N cap, .int .i64 a, .int .i64 m, .int .i64 b, ordV] w fun e w' => e = .returned (.tuple #[]) ∧ ∃ d', Sw w g o d' w' ∧ PermIn a b d d' ∧ SortedIn ltO a b d' := by
  subst hN
  have HH := Lib.hid hH
  have S0 := Lib.hid (show Sw w g o d w from SWK.start hH)
  have hmb := M.mb
  have hbs := M.bs
  have e1 : (m : Int) - (a : Int) = 1 := by omega
  have HM := Lib.hid M
  have HMA := Lib.hid h1
  clear hH M h1
  go_enter Tryd.func89, Tryd.ntmps89
  go_wp2
  clear e1
  go_loopw [10, 11] (fun vi vj wr => ∃ (p q : Nat), vi = .int .i64 p ∧ vj = .int .i64 q ∧ m ≤ p ∧ p ≤ q ∧ q ≤ b ∧ Hid (Sw w g o d wr) ∧ Hid (∀ t, m ≤ t → t < p → ltO d[t]! d[a]! = true) ∧ Hid (∀ t, q ≤ t → t < b → ltO d[t]! d[a]! = false)) (fun vi vj _ => (intOf vj).toNat - (intOf vi).toNat)
  case atStart => exact ⟨m, b, rfl, rfl, by omega, by omega, by omega, S0, (fun t _ _ => by omega), (fun t _ _ => by omega)⟩
  case round =>
    clear S0
    obtain ⟨p, q, rfl, rfl, b1, b2, b3, S1, LO, HI⟩ := hrel
    by_cases hlt : p < q
    · have hltz : (p : Int) < (q : Int) := by omega
      have HW := S1.out.holds hg HH.out rfl
      obtain ⟨c, hc⟩ : ∃ c, c = (p + q) / 2 := ⟨_, rfl⟩
      have c1 : p ≤ c := by omega
      have c2 : c < q := by omega
      have hcz : ((p : Int) + (q : Int)) / 2 = (c : Int) := by omega
      have HMA' := HMA.out
      have xall := (cell2 HW (i := c) (by omega)).all
      have yall := (cell2 HW (i := a) (by omega)).all
      have hcs : (c : Int) < (d.size : Int) := by omega
      have has : (a : Int) < (d.size : Int) := by omega
      have HL := fun (hl : ltO d[c]! d[a]! = true) (t : Nat) (h1 : m ≤ t) (h2 : t < c + 1) => (show ltO d[t]! d[a]! = true from by
        rcases Bool.eq_false_or_eq_true (ltO d[t]! d[a]!) with hh | hh
        · exact hh
        · have := le_tr swo hh (sortedLe swo HM.out.right h1 (by omega : t ≤ c) (by omega))
          rw [this] at hl; cases hl)
      have HR := fun (hl : ltO d[c]! d[a]! = false) (t : Nat) (h1 : c ≤ t) (h2 : t < b) => (show ltO d[t]! d[a]! = false from le_tr swo hl (sortedLe swo HM.out.right (by omega) h1 h2))
      have HL := Lib.hid HL
      have HR := Lib.hid HR
      obtain ⟨x, hx⟩ : ∃ x, x = d[c]! := ⟨_, rfl⟩
      obtain ⟨y, hy⟩ : ∃ y, y = d[a]! := ⟨_, rfl⟩
      rw [← hx] at xall
      rw [← hy] at yall
      have HX := Lib.hid hx
      have HY := Lib.hid hy
      obtain ⟨x0, x1⟩ := xall
      obtain ⟨y0, y1⟩ := yall
      have mixed := mixed_
      clear HW HMA' hx hy hc
      by_cases hlv : ordI x y < 0
      case' pos => have H2 := Lib.hid (HL.out (by rw [← HX.out, ← HY.out]; exact decide_eq_true hlv))
      case' neg => have H2 := Lib.hid (HR.out (by rw [← HX.out, ← HY.out]; exact decide_eq_false hlv))
      all_goals
        go_wp2_with fail
        go_quiet_grown (first | (go_at_call 80; with_reducible refine grw_of (order_any _ _ _)))
        obtain ⟨W3, hW3, HG⟩ := grown_name wr nq osq
        rw [hW3]
        clear hW3 x0 x1 y0 y1 hcz
        have S3 := Lib.hid (sw_grw S1.out HG.out)
        go_wp2
        go_roundw
        case rel => first | exact ⟨c + 1, q, by go_num, rfl, by omega, by omega, by omega, S3, H2, HI⟩ | exact ⟨p, c, rfl, rfl, by omega, by omega, by omega, S3, LO, H2⟩
        case measure => simp [intOf]; omega
    · obtain rfl : p = q := by omega
      obtain ⟨i, rfl⟩ : ∃ i, p = i + 1 := ⟨p - 1, by have := HMA.out; omega⟩
      have hai : a ≤ i := by have := HMA.out; omega
      have HU := Lib.hid (Up.start d a b)
      obtain ⟨wo, rfl⟩ : ∃ wo : World, wo = wr := ⟨_, rfl⟩
      go_wp2
      go_loopw [13] (fun vk wr => ∃ (k : Nat) (e : Array Sp), vk = .int .i64 k ∧ a ≤ k ∧ k ≤ i ∧ Hid (Sw w g o e wr) ∧ Hid (Up d e a b k)) (fun vk _ => i - (intOf vk).toNat)
      case atStart => exact ⟨a, d, rfl, by omega, by omega, S1, HU⟩
      case round =>
        clear S1 HU
        obtain ⟨k, e, rfl, k1, k2, S2, U2⟩ := hrel
        by_cases hki : k < i
        · have hkz : (k : Int) < (i : Int) := by omega
          have es := U2.out.perm.1
          have HW := S2.out.holds hg HH.out es
          have xc := cell2 HW (i := k) (by omega)
          have yc := cell2 HW (i := k + 1) (by omega)
          have S4 := (S2.out.swap enc_len hg k (k + 1) (by omega) (by omega)).drew
          have U4 := Lib.hid (U2.out.next k1 (by omega) hbs)
          obtain ⟨x, hx⟩ : ∃ x, x = e[k]! := ⟨_, rfl⟩
          obtain ⟨y, hy⟩ : ∃ y, y = e[k + 1]! := ⟨_, rfl⟩
          rw [← hx] at xc S4
          rw [← hy] at yc S4
          have S5 := Lib.hid (swapped2 S4)
          obtain ⟨x0, x1, fx0, fx1⟩ := xc
          obtain ⟨y0, y1, fy0, fy1⟩ := yc
          have hcs : (k : Int) < (d.size : Int) := by omega
          have hcs1 : (k : Int) + 1 < (d.size : Int) := by omega
          have p0 : (0 : Int) ≤ (k : Int) + 1 := by omega
          have e0 : ((k : Int) + 1).toNat = k + 1 := by omega
          have hwp : IntKind.i64.wrap ((k : Int) + 1) = (k : Int) + 1 := by rw [IntKind.wrap_i64]; omega
          have mixed := mixed_
          clear HW S4 hx hy es
          go_wp2_with fail
          go_big_region_o
          go_wp2
          go_roundw
          case rel => exact ⟨k + 1, _, by go_num, by omega, by omega, S5, U4⟩
          case measure => simp [intOf]; omega
        · obtain rfl : k = i := by omega
          have hkz : ¬ (k : Int) < (k : Int) := by omega
          have hs : SortedIn ltO a b e := Up.sorted swo (i := k + 1) U2.out (by have := HM.out.right; rw [HMA.out] at this; exact this) (by omega) b3 (by have := LO.out; rw [HMA.out] at this; exact this) HI.out
          have HS := Lib.hid hs
          clear hs
          go_wp2
          refine bodyPost_ret (results_none rfl _ _ _) rfl ?_
          exact ⟨rfl, e, S2.out, U2.out.perm, HS.out⟩

set_option maxRecDepth 100000 in
set_option maxHeartbeats 8000000 in
theorem symLast_any (g o cap a m b N : Nat) (d : Array Sp) (hN : d.size = N) (w : World) (hH : HoldsK enc 2 w g o d) (hg : g < w.heap.size) (hsz : d.size < 1099511627776) (M : Mrg ltO d a m b) (h0 : m ≠ a + 1) (h1 : b = m + 1) :
    Calls Tryd.prog 89 #[.slice (some ⟨g, o, none⟩) N cap, .int .i64 a, .int .i64 m, .int .i64 b, ordV] w fun e w' => e = .returned (.tuple #[]) ∧ ∃ d', Sw w g o d' w' ∧ PermIn a b d d' ∧ SortedIn ltO a b d' := by
  subst hN
  have HH := Lib.hid hH
  have S0 := Lib.hid (show Sw w g o d w from SWK.start hH)
  have ham := M.am
  have hbs := M.bs
  have e0 : ((m : Int) - (a : Int) == 1) = false := by rw [beq_eq_false_iff_ne]; omega
  have e1 : (b : Int) - (m : Int) = 1 := by omega
  have HM := Lib.hid M
  have HB := Lib.hid h1
  clear hH M h1 h0
  go_enter Tryd.func89, Tryd.ntmps89
  go_wp2
  clear e1 e0
  go_loopw [14, 15] (fun vi vj wr => ∃ (p q : Nat), vi = .int .i64 p ∧ vj = .int .i64 q ∧ a ≤ p ∧ p ≤ q ∧ q ≤ m ∧ Hid (Sw w g o d wr) ∧ Hid (∀ t, a ≤ t → t < p → ltO d[m]! d[t]! = false) ∧ Hid (∀ t, q ≤ t → t < m → ltO d[m]! d[t]! = true)) (fun vi vj _ => (intOf vj).toNat - (intOf vi).toNat)
  case atStart => exact ⟨a, m, rfl, rfl, by omega, by omega, by omega, S0, (fun t _ _ => by omega), (fun t _ _ => by omega)⟩
  case round =>
    clear S0
    obtain ⟨p, q, rfl, rfl, b1, b2, b3, S1, LO, HI⟩ := hrel
    by_cases hlt : p < q
    · have hltz : (p : Int) < (q : Int) := by omega
      have HW := S1.out.holds hg HH.out rfl
      obtain ⟨c, hc⟩ : ∃ c, c = (p + q) / 2 := ⟨_, rfl⟩
      have c1 : p ≤ c := by omega
      have c2 : c < q := by omega
      have hcz : ((p : Int) + (q : Int)) / 2 = (c : Int) := by omega
      have HB' := HB.out
      have xall := (cell2 HW (i := m) (by omega)).all
      have yall := (cell2 HW (i := c) (by omega)).all
      have hcs : (c : Int) < (d.size : Int) := by omega
      have has : (m : Int) < (d.size : Int) := by omega
      have HL := fun (hl : ltO d[m]! d[c]! = false) (t : Nat) (h1 : a ≤ t) (h2 : t < c + 1) => (show ltO d[m]! d[t]! = false from le_tr swo (sortedLe swo HM.out.left h1 (by omega : t ≤ c) (by omega)) hl)
      have HR := fun (hl : ltO d[m]! d[c]! = true) (t : Nat) (h1 : c ≤ t) (h2 : t < m) => (show ltO d[m]! d[t]! = true from by
        rcases Bool.eq_false_or_eq_true (ltO d[m]! d[t]!) with hh | hh
        · exact hh
        · have := le_tr swo (sortedLe swo HM.out.left (by omega) h1 h2) hh
          rw [this] at hl; cases hl)
      have HL := Lib.hid HL
      have HR := Lib.hid HR
      obtain ⟨x, hx⟩ : ∃ x, x = d[m]! := ⟨_, rfl⟩
      obtain ⟨y, hy⟩ : ∃ y, y = d[c]! := ⟨_, rfl⟩
      rw [← hx] at xall
      rw [← hy] at yall
      have HX := Lib.hid hx
      have HY := Lib.hid hy
      obtain ⟨x0, x1⟩ := xall
      obtain ⟨y0, y1⟩ := yall
      have mixed := mixed_
      clear HW HB' hx hy hc
      by_cases hlv : ordI x y < 0
      case' pos =>
        have H2 := Lib.hid (HR.out (by rw [← HX.out, ← HY.out]; exact decide_eq_true hlv))
        have hlw : decide (ordI x y < 0) = true := decide_eq_true (by omega)
      case' neg =>
        have H2 := Lib.hid (HL.out (by rw [← HX.out, ← HY.out]; exact decide_eq_false hlv))
        have hlw : decide (ordI x y < 0) = false := decide_eq_false (by omega)
      all_goals
        go_wp2_with fail
        go_quiet_grown (first | (go_at_call 80; with_reducible refine grw_of (order_any _ _ _)))
        obtain ⟨W3, hW3, HG⟩ := grown_name wr nq osq
        rw [hW3]
        clear hW3 x0 x1 y0 y1 hcz
        have S3 := Lib.hid (sw_grw S1.out HG.out)
        go_wp2
        go_roundw
        case rel => first | exact ⟨c + 1, q, by go_num, rfl, by omega, by omega, by omega, S3, H2, HI⟩ | exact ⟨p, c, rfl, rfl, by omega, by omega, by omega, S3, LO, H2⟩
        case measure => simp [intOf]; omega
    · obtain rfl : p = q := by omega
      have HU := Lib.hid (Dn.start d a b m)
      obtain ⟨wo, rfl⟩ : ∃ wo : World, wo = wr := ⟨_, rfl⟩
      go_wp2
      go_loopw [17] (fun vk wr => ∃ (k : Nat) (e : Array Sp), vk = .int .i64 k ∧ p ≤ k ∧ k ≤ m ∧ Hid (Sw w g o e wr) ∧ Hid (Dn d e a b m k)) (fun vk _ => (intOf vk).toNat)
      case atStart => exact ⟨m, d, rfl, by omega, by omega, S1, HU⟩
      case round =>
        clear S1 HU
        obtain ⟨k, e, rfl, k1, k2, S2, U2⟩ := hrel
        by_cases hki : p < k
        · obtain ⟨j, rfl⟩ : ∃ j, k = j + 1 := ⟨k - 1, by omega⟩
          have hkz : (p : Int) < (j : Int) + 1 := by omega
          have es := U2.out.perm.1
          have HW := S2.out.holds hg HH.out es
          have HB' := HB.out
          have xc := cell2 HW (i := j + 1) (by omega)
          have yc := cell2 HW (i := j) (by omega)
          have S4 := (S2.out.swap enc_len hg (j + 1) j (by omega) (by omega)).drew
          have U4 := Lib.hid (U2.out.next (by omega) k2 (by omega) hbs)
          obtain ⟨x, hx⟩ : ∃ x, x = e[j + 1]! := ⟨_, rfl⟩
          obtain ⟨y, hy⟩ : ∃ y, y = e[j]! := ⟨_, rfl⟩
          rw [← hx] at xc S4
          rw [← hy] at yc S4
          have S5 := Lib.hid (swapped2 S4)
          obtain ⟨x0, x1, fx0, fx1⟩ := xc
          obtain ⟨y0, y1, fy0, fy1⟩ := yc
          have hcs : (j : Int) < (d.size : Int) := by omega
          have hcs1 : (j : Int) + 1 < (d.size : Int) := by omega
          have p0 : (0 : Int) ≤ (j : Int) + 1 := by omega
          have e0 : ((j : Int) + 1).toNat = j + 1 := by omega
          have hwp : IntKind.i64.wrap (j : Int) = (j : Int) := by rw [IntKind.wrap_i64]; omega
          have mixed := mixed_
          clear HW S4 hx hy es HB'
          go_wp2_with fail
          go_big_region_o
          go_wp2
          go_roundw
          case rel => exact ⟨j, _, by first | rfl | go_num, by omega, by omega, S5, U4⟩
          case measure => simp [intOf]
        · obtain rfl : p = k := by omega
          have hkz : ¬ (p : Int) < (p : Int) := by omega
          have hs : SortedIn ltO a b e := Dn.sorted swo U2.out HB.out HM.out.left b1 b3 LO.out HI.out
          have HS := Lib.hid hs
          clear hs
          go_wp2
          refine bodyPost_ret (results_none rfl _ _ _) rfl ?_
          exact ⟨rfl, e, S2.out, U2.out.perm, HS.out⟩
end Go.Proofs.YtoeccbbjncgmlaaDoor

/- Contract: the library's merge in place (symMerge), over a row of spans. -/
namespace Go.Proofs.YtoeccbbjncgmlaaDoor
open Go.RowKit Go.Sort

section
variable {α : Type} [Inhabited α] {lt : α → α → Bool}
theorem Halves.leftNo {d e : Array α} {a mid b s en : Nat} (H : Halves lt d e a mid b s en) (h : s ≤ a ∨ mid ≤ s) : SortedIn lt a mid e := by
  have h1 := H.as
  have h2 := H.sm
  rcases h with h | h
  · obtain rfl : s = a := by omega
    exact H.s2
  · obtain rfl : s = mid := by omega
    exact H.s1
theorem Halves.left {d e : Array α} {a mid b s en : Nat} (H : Halves lt d e a mid b s en) (h1 : a < s) (h2 : s < mid) (hb : mid ≤ e.size) : Mrg lt e a s mid := ⟨h1, h2, hb, H.s1, H.s2⟩
theorem Halves.rightNo {d e f : Array α} {a mid b s en : Nat} (H : Halves lt d e a mid b s en) (hf : PermIn a mid e f) (h : en ≤ mid ∨ b ≤ en) : SortedIn lt mid b f := by
  have h1 := H.me
  have h2 := H.eb
  have hx : ∀ q, mid ≤ q → f[q]! = e[q]! := fun q hq => hf.2.1 q (.inr hq)
  rcases h with h | h
  · obtain rfl : en = mid := by omega
    exact sortedSame H.s4 fun q hq _ => hx q hq
  · obtain rfl : en = b := by omega
    exact sortedSame H.s3 fun q hq _ => hx q hq
theorem Halves.right {d e f : Array α} {a mid b s en : Nat} (H : Halves lt d e a mid b s en) (hf : PermIn a mid e f) (h1 : mid < en) (h2 : en < b) (hb : b ≤ e.size) : Mrg lt f mid en b := by
  have hx : ∀ q, mid ≤ q → f[q]! = e[q]! := fun q hq => hf.2.1 q (.inr hq)
  exact ⟨h1, h2, by rw [hf.1]; exact hb, sortedSame H.s3 fun q hq _ => hx q hq, sortedSame H.s4 fun q hq _ => hx q (by omega)⟩
theorem Halves.done {d e f k : Array α} {a mid b s en : Nat} (H : Halves lt d e a mid b s en) (hb : b ≤ d.size) (pf : PermIn a mid e f) (sf : SortedIn lt a mid f) (pk : PermIn mid b f k) (sk : SortedIn lt mid b k) : PermIn a b d k ∧ SortedIn lt a b k := by
  have h1 := H.as
  have h2 := H.sm
  have h3 := H.me
  have h4 := H.eb
  obtain ⟨p, s⟩ := join_halves (lt := lt) (by omega) (by omega) (by rw [H.perm.1]; exact hb) H.cross pf sf pk sk
  exact ⟨permTr H.perm p, s⟩
end

def MrgC (g o cap N K : Nat) : Prop := ∀ (a m b : Nat) (d : Array Sp) (w : World), b - a ≤ K → d.size = N → HoldsK enc 2 w g o d → g < w.heap.size → Mrg ltO d a m b →
    Calls Tryd.prog 89 #[.slice (some ⟨g, o, none⟩) N cap, .int .i64 a, .int .i64 m, .int .i64 b, ordV] w fun e w' => e = .returned (.tuple #[]) ∧ ∃ d', Sw w g o d' w' ∧ PermIn a b d d' ∧ SortedIn ltO a b d'

set_option maxRecDepth 100000 in
set_option maxHeartbeats 16000000 in
theorem symMore_any (g o cap N K : Nat) (IH : MrgC g o cap N K) (a m b : Nat) (d : Array Sp) (w : World) (hK : b - a ≤ K + 1) (hN : d.size = N) (hH : HoldsK enc 2 w g o d) (hg : g < w.heap.size) (hsz : N < 1099511627776) (M : Mrg ltO d a m b) (h0 : m ≠ a + 1) (h1 : b ≠ m + 1) :
    Calls Tryd.prog 89 #[.slice (some ⟨g, o, none⟩) N cap, .int .i64 a, .int .i64 m, .int .i64 b, ordV] w fun e w' => e = .returned (.tuple #[]) ∧ ∃ d', Sw w g o d' w' ∧ PermIn a b d d' ∧ SortedIn ltO a b d' := by
  have HN := Lib.hid hN
  have HH := Lib.hid hH
  have S0 := Lib.hid (show Sw w g o d w from SWK.start hH)
  have ham := M.am
  have hmb := M.mb
  have hbs : b ≤ N := by rw [← hN]; exact M.bs
  have e0 : ((m : Int) - (a : Int) == 1) = false := by rw [beq_eq_false_iff_ne]; omega
  have e1 : ((b : Int) - (m : Int) == 1) = false := by rw [beq_eq_false_iff_ne]; omega
  obtain ⟨mid, hmid⟩ : ∃ mid, mid = midI a b := ⟨_, rfl⟩
  have hz := st0_le ham hmb
  have hm1 : a < mid ∧ mid < b ∧ mid ≤ 1099511627776 := by rw [hmid]; unfold midI; omega
  have hmz : ((a : Int) + (b : Int)) / 2 = (mid : Int) := by rw [hmid]; unfold midI; omega
  have HMID := Lib.hid hmid
  have HM := Lib.hid M
  have hsr : (mid < m ∧ st0I a m b = mid + m - b ∧ r0I a m b = mid) ∨ (¬ mid < m ∧ st0I a m b = a ∧ r0I a m b = m) := by
    rw [hmid]
    unfold st0I r0I
    split
    · exact .inl ⟨by assumption, rfl, rfl⟩
    · exact .inr ⟨by assumption, rfl, rfl⟩
  obtain ⟨st0, hst0⟩ : ∃ z, z = st0I a m b := ⟨_, rfl⟩
  obtain ⟨r0, hr0⟩ : ∃ z, z = r0I a m b := ⟨_, rfl⟩
  have hq := Srch.start (lt := ltO) d (p := midI a b + m - 1) hz.1
  rw [← hst0, ← hr0, ← hmid] at hq hz
  rw [← hst0, ← hr0] at hsr
  have HQ := Lib.hid hq
  have HZ5 := Lib.hid hz.2.2.2.2
  have hz1 := hz.1
  have hz2 := hz.2.1
  have hz3 := hz.2.2.1
  have hz4 := hz.2.2.2.1
  have HST := Lib.hid (And.intro hst0 hr0)
  clear hH M h0 h1 hmid hq hz hst0 hr0 hN
  obtain ⟨st1, r1, HV, HQ1⟩ : ∃ st1 r1 : Nat, Hid ((mid < m ∧ (mid : Int) + (m : Int) - (b : Int) = (st1 : Int) ∧ r1 = mid) ∨ (¬ mid < m ∧ st1 = a ∧ r1 = m)) ∧ Hid (Srch ltO d st0 r0 (mid + m - 1) st1 r1) := by
    rcases hsr with ⟨hlm, hs0, hr⟩ | ⟨hlm, hs0, hr⟩
    · exact ⟨st0, r0, .inl ⟨hlm, by omega, hr⟩, HQ⟩
    · exact ⟨st0, r0, .inr ⟨hlm, hs0, hr⟩, HQ⟩
  clear hsr HQ
  by_cases hlm : mid < m
  case' pos =>
    have hst : (mid : Int) + (m : Int) - (b : Int) = (st1 : Int) := by rcases HV.out with ⟨_, h, _⟩ | ⟨h, _, _⟩; exact h; omega
    have HR1 := Lib.hid (show r1 = mid by rcases HV.out with ⟨_, _, h⟩ | ⟨h, _, _⟩; exact h; omega)
  case' neg =>
    have HS1 := Lib.hid (show st1 = a by rcases HV.out with ⟨h, _, _⟩ | ⟨_, h, _⟩; omega; exact h)
    have HR1 := Lib.hid (show r1 = m by rcases HV.out with ⟨h, _, _⟩ | ⟨_, _, h⟩; omega; exact h)
  all_goals
    clear HV
    go_enter Tryd.func89, Tryd.ntmps89
    go_wp2
    clear e0 e1 hmz hlm
    try clear hst
    go_loopw [20, 21] (fun vi vj wr => ∃ (st r : Nat), vi = .int .i64 st ∧ vj = .int .i64 r ∧ st0 ≤ st ∧ st ≤ r ∧ r ≤ r0 ∧ Hid (Sw w g o d wr) ∧ Hid (Srch ltO d st0 r0 (mid + m - 1) st r)) (fun vi vj _ => (intOf vj).toNat - (intOf vi).toNat)
    case atStart => first | exact ⟨st1, mid, rfl, rfl, HQ1.out.st_ge, by have := HQ1.out.st_le; have := HR1.out; omega, by have := HQ1.out.r_le; have := HR1.out; omega, S0, by have := HQ1; rw [HR1.out] at this; exact this⟩ | exact ⟨a, m, rfl, rfl, by have := HQ1.out.st_ge; have := HS1.out; omega, by have := HQ1.out.st_le; have := HS1.out; have := HR1.out; omega, by have := HQ1.out.r_le; have := HR1.out; omega, S0, by have := HQ1; rw [HR1.out, HS1.out] at this; exact this⟩
    case round =>
      clear S0 HR1 HQ1
      try clear HS1
      obtain ⟨st, r, rfl, rfl, b0, b1, b2, S1, Q1⟩ := hrel
      by_cases hlt : st < r
      · have hltz : (st : Int) < (r : Int) := by omega
        have HW := S1.out.holds hg HH.out rfl
        have hds := HN.out
        obtain ⟨c, hc⟩ : ∃ c, c = (st + r) / 2 := ⟨_, rfl⟩
        have c1 : st ≤ c := by omega
        have c2 : c < r := by omega
        have hcz : ((st : Int) + (r : Int)) / 2 = (c : Int) := by omega
        obtain ⟨pc, hpc⟩ : ∃ pc, pc = mid + m - 1 - c := ⟨_, rfl⟩
        have hp1 : m ≤ pc := by rw [hpc]; exact HZ5.out c (by omega)
        have hp2 : pc < b := by omega
        have hpz : (mid : Int) + (m : Int) - 1 - (c : Int) = (pc : Int) := by omega
        have hwp : IntKind.i64.wrap ((mid : Int) + (m : Int) - 1 - (c : Int)) = (pc : Int) := by rw [IntKind.wrap_i64]; omega
        have hwc : IntKind.i64.wrap (pc : Int) = (pc : Int) := by rw [IntKind.wrap_i64]; omega
        have xall := (cell2 HW (i := pc) (by omega)).all
        have yall := (cell2 HW (i := c) (by omega)).all
        have hcs : (c : Int) < (N : Int) := by omega
        have has : (pc : Int) < (N : Int) := by omega
        have HL := Lib.hid fun (hl : ltO d[pc]! d[c]! = false) => (show Srch ltO d st0 r0 (mid + m - 1) (c + 1) r by
          have q := Q1.out
          rw [HST.out.1, HST.out.2, HMID.out] at q ⊢
          exact Srch.up swo HM.out q c1 c2 (by rw [← HMID.out, ← hpc]; exact hl))
        have HR := Lib.hid fun (hl : ltO d[pc]! d[c]! = true) => (show Srch ltO d st0 r0 (mid + m - 1) st c by
          have q := Q1.out
          rw [HST.out.1, HST.out.2, HMID.out] at q ⊢
          exact Srch.down swo HM.out q c1 c2 (by rw [← HMID.out, ← hpc]; exact hl))
        obtain ⟨x, hx⟩ : ∃ x, x = d[pc]! := ⟨_, rfl⟩
        obtain ⟨y, hy⟩ : ∃ y, y = d[c]! := ⟨_, rfl⟩
        rw [← hx] at xall
        rw [← hy] at yall
        have HX := Lib.hid hx
        have HY := Lib.hid hy
        obtain ⟨x0, x1⟩ := xall
        obtain ⟨y0, y1⟩ := yall
        have mixed := mixed_
        clear HW hx hy hc hpc hds
        by_cases hlv : ordI x y < 0
        case' pos =>
          have H2 := Lib.hid (HR.out (by rw [← HX.out, ← HY.out]; exact decide_eq_true hlv))
          have hlw : decide (ordI x y < 0) = true := decide_eq_true (by omega)
        case' neg =>
          have H2 := Lib.hid (HL.out (by rw [← HX.out, ← HY.out]; exact decide_eq_false hlv))
          have hlw : decide (ordI x y < 0) = false := decide_eq_false (by omega)
        all_goals
          go_wp2_with fail
          go_quiet_grown (first | (go_at_call 80; with_reducible refine grw_of (order_any _ _ _)))
          obtain ⟨W3, hW3, HG⟩ := grown_name wr nq osq
          rw [hW3]
          clear hW3 x0 x1 y0 y1 hcz hpz hwp hwc
          have S3 := Lib.hid (sw_grw S1.out HG.out)
          go_wp2
          go_roundw
          case rel => first | exact ⟨c + 1, r, by go_num, rfl, by omega, by omega, by omega, S3, H2⟩ | exact ⟨st, c, rfl, rfl, by omega, by omega, by omega, S3, H2⟩
          case measure => simp [intOf]; omega
      · obtain rfl : st = r := by omega
        have hP : Parts ltO d a m b mid st (mid + m - st) := by
          have q := Q1.out
          rw [HST.out.1, HST.out.2, HMID.out] at q
          rw [HMID.out]
          exact Srch.parts swo HM.out q
        obtain ⟨en, hen⟩ : ∃ en, en = mid + m - st := ⟨_, rfl⟩
        rw [← hen] at hP
        have henz : (mid : Int) + (m : Int) - (st : Int) = (en : Int) := by omega
        have HEN := Lib.hid hen
        have q1 := hP.a_le
        have q2 := hP.s_le
        have q3 := hP.m_le
        have q4 := hP.e_le
        have q5 := hP.sum
        have HP := Lib.hid hP
        have HALF : Hid (∀ e : Array Sp, Rotd d e st m en → Halves ltO d e a mid b st en) := fun e R => by
          have hpm := permIn_mono d e st en a b q1 q4 (by rw [HN.out]; exact hbs) R.perm
          rw [HMID.out] at hP ⊢
          exact halves HM.out hP R hpm
        have ways : (¬ st < m ∧ st < mid) ∨ (¬ st < m ∧ ¬ st < mid) ∨ (st < m ∧ ¬ m < en) ∨ (st < m ∧ m < en ∧ a < st ∧ en < b) ∨ (st < m ∧ m < en ∧ a < st ∧ ¬ en < b) ∨ (st < m ∧ m < en ∧ ¬ a < st ∧ en < b) ∨ (st < m ∧ m < en ∧ ¬ a < st ∧ ¬ en < b) := by omega
        clear hP hen
        rcases ways with h | h | h | h | h | h | h
        · have t0 : ¬ st < m := by omega
          have u0 : decide (st < m) = false := decide_eq_false t0
          have t2 : a < st := by omega
          have t3 : st < mid := by omega
          have t4 : ¬ mid < en := by omega
          have u4 : decide (mid < en) = false := decide_eq_false t4
          have HV := Lib.hid (HALF.out d (Rotd.none (by omega) (by omega) (by omega)))
          have ES := Lib.hid (show d.size = N from HV.out.perm.1.trans HN.out)
          go_wp2_with fail
          go_at_call 89
          refine (IH a st mid d _ (by omega) ES.out (S1.out.holds hg HH.out HV.out.perm.1) (S1.out.lt hg) (HV.out.left (by omega) (by omega) (by rw [ES.out]; omega))).mono ?_
          rintro e2 w2 ⟨rfl, f, S4, pf, sf⟩
          have PF := Lib.hid (And.intro pf sf)
          have S5 := Lib.hid (sw_trans S1.out hg S4 pf.1)
          clear S4 pf sf
          have PK := Lib.hid (And.intro (permIn_refl f mid b) (HV.out.rightNo PF.out.1 (by omega)))
          have FIN := Lib.hid (HV.out.done (by rw [HN.out]; exact hbs) PF.out.1 PF.out.2 PK.out.1 PK.out.2)
          go_wp2
          go_end0
          exact ⟨rfl, f, S5.out, FIN.out.1, FIN.out.2⟩
        · have t0 : ¬ st < m := by omega
          have u0 : decide (st < m) = false := decide_eq_false t0
          have t2 : a < st := by omega
          have t3 : ¬ st < mid := by omega
          have u3 : decide (st < mid) = false := decide_eq_false t3
          have t4 : ¬ mid < en := by omega
          have u4 : decide (mid < en) = false := decide_eq_false t4
          have HV := Lib.hid (HALF.out d (Rotd.none (by omega) (by omega) (by omega)))
          have ES := Lib.hid (show d.size = N from HV.out.perm.1.trans HN.out)
          have PF := Lib.hid (And.intro (permIn_refl d a mid) (HV.out.leftNo (by omega)))
          have PK := Lib.hid (And.intro (permIn_refl d mid b) (HV.out.rightNo PF.out.1 (by omega)))
          have FIN := Lib.hid (HV.out.done (by rw [HN.out]; exact hbs) PF.out.1 PF.out.2 PK.out.1 PK.out.2)
          go_wp2
          go_end0
          exact ⟨rfl, d, S1.out, FIN.out.1, FIN.out.2⟩
        · have t0 : st < m := by omega
          have t1 : ¬ m < en := by omega
          have u1 : decide (m < en) = false := decide_eq_false t1
          have t2 : a < st := by omega
          have t3 : ¬ st < mid := by omega
          have u3 : decide (st < mid) = false := decide_eq_false t3
          have t4 : mid < en := by omega
          have t5 : en < b := by omega
          have HV := Lib.hid (HALF.out d (Rotd.none (by omega) (by omega) (by omega)))
          have ES := Lib.hid (show d.size = N from HV.out.perm.1.trans HN.out)
          have PF := Lib.hid (And.intro (permIn_refl d a mid) (HV.out.leftNo (by omega)))
          go_wp2_with fail
          go_at_call 89
          refine (IH mid en b d _ (by omega) (PF.out.1.1.trans ES.out) (S1.out.holds hg HH.out (PF.out.1.1.trans HV.out.perm.1)) (S1.out.lt hg) (HV.out.right PF.out.1 (by omega) (by omega) (by rw [ES.out]; omega))).mono ?_
          rintro e3 w3 ⟨rfl, k, S6, pk, sk⟩
          have PK := Lib.hid (And.intro pk sk)
          have S7 := Lib.hid (sw_trans S1.out hg S6 pk.1)
          clear S6 pk sk
          have FIN := Lib.hid (HV.out.done (by rw [HN.out]; exact hbs) PF.out.1 PF.out.2 PK.out.1 PK.out.2)
          go_wp2
          go_end0
          exact ⟨rfl, k, S7.out, FIN.out.1, FIN.out.2⟩
        · have t0 : st < m := by omega
          have t1 : m < en := by omega
          have t2 : a < st := by omega
          have t3 : st < mid := by omega
          have t4 : mid < en := by omega
          have t5 : en < b := by omega
          go_wp2_with fail
          go_at_call 90
          refine (rotate_any ordV g o cap st m en N d HN.out _ (S1.out.holds hg HH.out rfl) (S1.out.lt hg) (by rw [HN.out]; exact hsz) (by omega) (by omega) (by rw [HN.out]; omega)).mono ?_
          rintro e1 w1 ⟨rfl, e, S2, R2⟩
          have HV := Lib.hid (HALF.out _ R2)
          have S3 := Lib.hid (sw_trans S1.out hg S2 R2.perm.1)
          clear S2 R2
          have ES := Lib.hid (show e.size = N from HV.out.perm.1.trans HN.out)
          go_wp2_with fail
          go_at_call 89
          refine (IH a st mid e _ (by omega) ES.out (S3.out.holds hg HH.out HV.out.perm.1) (S3.out.lt hg) (HV.out.left (by omega) (by omega) (by rw [ES.out]; omega))).mono ?_
          rintro e2 w2 ⟨rfl, f, S4, pf, sf⟩
          have PF := Lib.hid (And.intro pf sf)
          have S5 := Lib.hid (sw_trans S3.out hg S4 pf.1)
          clear S4 pf sf
          go_wp2_with fail
          go_at_call 89
          refine (IH mid en b f _ (by omega) (PF.out.1.1.trans ES.out) (S5.out.holds hg HH.out (PF.out.1.1.trans HV.out.perm.1)) (S5.out.lt hg) (HV.out.right PF.out.1 (by omega) (by omega) (by rw [ES.out]; omega))).mono ?_
          rintro e3 w3 ⟨rfl, k, S6, pk, sk⟩
          have PK := Lib.hid (And.intro pk sk)
          have S7 := Lib.hid (sw_trans S5.out hg S6 pk.1)
          clear S6 pk sk
          have FIN := Lib.hid (HV.out.done (by rw [HN.out]; exact hbs) PF.out.1 PF.out.2 PK.out.1 PK.out.2)
          go_wp2
          go_end0
          exact ⟨rfl, k, S7.out, FIN.out.1, FIN.out.2⟩
        · have t0 : st < m := by omega
          have t1 : m < en := by omega
          have t2 : a < st := by omega
          have t3 : st < mid := by omega
          have t4 : mid < en := by omega
          have t5 : ¬ en < b := by omega
          have u5 : decide (en < b) = false := decide_eq_false t5
          go_wp2_with fail
          go_at_call 90
          refine (rotate_any ordV g o cap st m en N d HN.out _ (S1.out.holds hg HH.out rfl) (S1.out.lt hg) (by rw [HN.out]; exact hsz) (by omega) (by omega) (by rw [HN.out]; omega)).mono ?_
          rintro e1 w1 ⟨rfl, e, S2, R2⟩
          have HV := Lib.hid (HALF.out _ R2)
          have S3 := Lib.hid (sw_trans S1.out hg S2 R2.perm.1)
          clear S2 R2
          have ES := Lib.hid (show e.size = N from HV.out.perm.1.trans HN.out)
          go_wp2_with fail
          go_at_call 89
          refine (IH a st mid e _ (by omega) ES.out (S3.out.holds hg HH.out HV.out.perm.1) (S3.out.lt hg) (HV.out.left (by omega) (by omega) (by rw [ES.out]; omega))).mono ?_
          rintro e2 w2 ⟨rfl, f, S4, pf, sf⟩
          have PF := Lib.hid (And.intro pf sf)
          have S5 := Lib.hid (sw_trans S3.out hg S4 pf.1)
          clear S4 pf sf
          have PK := Lib.hid (And.intro (permIn_refl f mid b) (HV.out.rightNo PF.out.1 (by omega)))
          have FIN := Lib.hid (HV.out.done (by rw [HN.out]; exact hbs) PF.out.1 PF.out.2 PK.out.1 PK.out.2)
          go_wp2
          go_end0
          exact ⟨rfl, f, S5.out, FIN.out.1, FIN.out.2⟩
        · have t0 : st < m := by omega
          have t1 : m < en := by omega
          have t2 : ¬ a < st := by omega
          have u2 : decide (a < st) = false := decide_eq_false t2
          have t3 : st < mid := by omega
          have t4 : mid < en := by omega
          have t5 : en < b := by omega
          go_wp2_with fail
          go_at_call 90
          refine (rotate_any ordV g o cap st m en N d HN.out _ (S1.out.holds hg HH.out rfl) (S1.out.lt hg) (by rw [HN.out]; exact hsz) (by omega) (by omega) (by rw [HN.out]; omega)).mono ?_
          rintro e1 w1 ⟨rfl, e, S2, R2⟩
          have HV := Lib.hid (HALF.out _ R2)
          have S3 := Lib.hid (sw_trans S1.out hg S2 R2.perm.1)
          clear S2 R2
          have ES := Lib.hid (show e.size = N from HV.out.perm.1.trans HN.out)
          have PF := Lib.hid (And.intro (permIn_refl e a mid) (HV.out.leftNo (by omega)))
          go_wp2_with fail
          go_at_call 89
          refine (IH mid en b e _ (by omega) (PF.out.1.1.trans ES.out) (S3.out.holds hg HH.out (PF.out.1.1.trans HV.out.perm.1)) (S3.out.lt hg) (HV.out.right PF.out.1 (by omega) (by omega) (by rw [ES.out]; omega))).mono ?_
          rintro e3 w3 ⟨rfl, k, S6, pk, sk⟩
          have PK := Lib.hid (And.intro pk sk)
          have S7 := Lib.hid (sw_trans S3.out hg S6 pk.1)
          clear S6 pk sk
          have FIN := Lib.hid (HV.out.done (by rw [HN.out]; exact hbs) PF.out.1 PF.out.2 PK.out.1 PK.out.2)
          go_wp2
          go_end0
          exact ⟨rfl, k, S7.out, FIN.out.1, FIN.out.2⟩
        · have t0 : st < m := by omega
          have t1 : m < en := by omega
          have t2 : ¬ a < st := by omega
          have u2 : decide (a < st) = false := decide_eq_false t2
          have t3 : st < mid := by omega
          have t4 : mid < en := by omega
          have t5 : ¬ en < b := by omega
          have u5 : decide (en < b) = false := decide_eq_false t5
          go_wp2_with fail
          go_at_call 90
          refine (rotate_any ordV g o cap st m en N d HN.out _ (S1.out.holds hg HH.out rfl) (S1.out.lt hg) (by rw [HN.out]; exact hsz) (by omega) (by omega) (by rw [HN.out]; omega)).mono ?_
          rintro e1 w1 ⟨rfl, e, S2, R2⟩
          have HV := Lib.hid (HALF.out _ R2)
          have S3 := Lib.hid (sw_trans S1.out hg S2 R2.perm.1)
          clear S2 R2
          have ES := Lib.hid (show e.size = N from HV.out.perm.1.trans HN.out)
          have PF := Lib.hid (And.intro (permIn_refl e a mid) (HV.out.leftNo (by omega)))
          have PK := Lib.hid (And.intro (permIn_refl e mid b) (HV.out.rightNo PF.out.1 (by omega)))
          have FIN := Lib.hid (HV.out.done (by rw [HN.out]; exact hbs) PF.out.1 PF.out.2 PK.out.1 PK.out.2)
          go_wp2
          go_end0
          exact ⟨rfl, e, S3.out, FIN.out.1, FIN.out.2⟩

theorem symMerge_any (g o cap N : Nat) (hsz : N < 1099511627776) : ∀ K : Nat, MrgC g o cap N K := by
  intro K
  induction K with
  | zero => intro a m b d w hK _ _ _ M; have := M.am; have := M.mb; omega
  | succ K IH =>
    intro a m b d w hK hN hH hg M
    by_cases h0 : m = a + 1
    · exact symOne_any g o cap a m b N d hN w hH hg (by rw [hN]; exact hsz) M h0
    · by_cases h1 : b = m + 1
      · exact symLast_any g o cap a m b N d hN w hH hg (by rw [hN]; exact hsz) M h0 h1
      · exact symMore_any g o cap N K IH a m b d w hK hN hH hg hsz M h0 h1
end Go.Proofs.YtoeccbbjncgmlaaDoor

/- Contract: the library's stable sort, over a row of spans. -/
namespace Go.Proofs.YtoeccbbjncgmlaaDoor
open Go.RowKit Go.Sort

theorem two_mul_run {s B a b : Nat} (ha : a = s * (2 * B)) (hb : b = a + 2 * B) : b = (s + 1) * (2 * B) := by rw [Nat.add_mul, Nat.one_mul, ← ha]; exact hb

set_option maxRecDepth 100000 in
set_option maxHeartbeats 8000000 in
theorem stable_any (g o cap N : Nat) (d : Array Sp) (hN : d.size = N) (w : World) (hH : HoldsK enc 2 w g o d) (hg : g < w.heap.size) (hsz : N < 1099511627776) :
    Calls Tryd.prog 85 #[.slice (some ⟨g, o, none⟩) N cap, .int .i64 N, ordV] w fun e w' => e = .returned (.tuple #[]) ∧ ∃ d', Sw w g o d' w' ∧ PermIn 0 N d d' ∧ SortedIn ltO 0 N d' := by
  have HN := Lib.hid hN
  have HH := Lib.hid hH
  have S0 := Lib.hid (show Sw w g o d w from SWK.start hH)
  have P0 := Lib.hid (permIn_refl d 0 N)
  have D0 := Lib.hid (Done.zero (lt := ltO) d 20)
  clear hH hN
  go_enter Tryd.func85, Tryd.ntmps85
  go_wp2
  go_loopw [7, 8] (fun va vb wr => ∃ (s a b : Nat) (e : Array Sp), va = .int .i64 a ∧ vb = .int .i64 b ∧ Hid (b = a + 20) ∧ Hid (a = s * 20) ∧ a ≤ N ∧ Hid (Sw w g o e wr) ∧ Hid (PermIn 0 N d e) ∧ Hid (Done ltO e 20 s)) (fun va _ _ => N - (intOf va).toNat)
  case atStart => exact ⟨0, 0, 20, d, by go_num, by go_num, by simp [Hid], by simp [Hid], by omega, S0, P0, D0⟩
  case round =>
    clear S0 P0 D0
    obtain ⟨s, a, b, e, rfl, rfl, HB, HA, haN, S1, P1, D1⟩ := hrel
    have ES := Lib.hid (show e.size = N from P1.out.1.trans HN.out)
    by_cases hlt : b ≤ N
    · have hab : a < b := by have := HB.out; omega
      go_wp2_with fail
      go_at_call 88
      refine (insertion_any g o cap a b N e ES.out _ (S1.out.holds hg HH.out P1.out.1) (S1.out.lt hg) (by rw [ES.out]; exact hsz) (by omega) (by rw [ES.out]; exact hlt)).mono ?_
      rintro e1 w1 ⟨rfl, f, S2, pf, sf⟩
      have S3 := Lib.hid (sw_trans S1.out hg S2 pf.1)
      have P3 := Lib.hid (permTr P1.out (permIn_mono e f a b 0 N (by omega) hlt (by rw [ES.out]; exact Nat.le_refl _) pf))
      have D3 := Lib.hid (D1.out.next HA.out HB.out (fun q hq => pf.2.1 q (.inl hq)) sf)
      clear S2 pf sf
      go_wp2
      go_roundw
      case rel => exact ⟨s + 1, b, b + 20, f, rfl, by go_num, rfl, by have := HA.out; have := HB.out; show _ = _; omega, hlt, S3, P3, D3⟩
      case measure => simp [intOf]; omega
    · obtain ⟨wo, rfl⟩ : ∃ wo : World, wo = wr := ⟨_, rfl⟩
      go_wp2_with fail
      go_at_call 88
      refine (insertion_any g o cap a N N e ES.out _ (S1.out.holds hg HH.out P1.out.1) (S1.out.lt hg) (by rw [ES.out]; exact hsz) haN (by rw [ES.out]; exact Nat.le_refl _)).mono ?_
      rintro e1 w1 ⟨rfl, f, S2, pf, sf⟩
      have S3 := Lib.hid (sw_trans S1.out hg S2 pf.1)
      have P3 := Lib.hid (permTr P1.out (permIn_mono e f a N 0 N (by omega) (Nat.le_refl _) (by rw [ES.out]; exact Nat.le_refl _) pf))
      have R3 := Lib.hid (Done.runs (lt := ltO) (d := f) (n := N) (B := 20) (s := s) (a := a) (fun t ht => sortedSame (D1.out t ht) fun q _ hq => pf.2.1 q (.inl (by have h1 : (t + 1) * 20 ≤ s * 20 := Nat.mul_le_mul_right _ ht; have := HA.out; omega))) HA.out sf)
      clear S2 pf sf D1 P1 S1 ES HA HB haN hlt
      obtain ⟨w2, rfl⟩ : ∃ w2 : World, w2 = w1 := ⟨_, rfl⟩
      go_wp2
      go_loopw [6] (fun vB wr => ∃ (B : Nat) (e : Array Sp), vB = .int .i64 B ∧ 20 ≤ B ∧ B ≤ 2 * N + 20 ∧ Hid (Sw w g o e wr) ∧ Hid (PermIn 0 N d e) ∧ Hid (Runs ltO e N B 0)) (fun vB _ => N - (intOf vB).toNat)
      case atStart => exact ⟨20, f, by go_num, by omega, by omega, S3, P3, R3⟩
      case round =>
        clear S3 P3 R3
        obtain ⟨B, e, rfl, B1, B2, S1, P1, R1⟩ := hrel
        by_cases hlt : B < N
        · have D0 := Lib.hid (Done.zero (lt := ltO) e (2 * B))
          obtain ⟨w3, rfl⟩ : ∃ w3 : World, w3 = wr := ⟨_, rfl⟩
          go_wp2
          go_loopw [7, 8] (fun va vb wr => ∃ (s a b : Nat) (e : Array Sp), va = .int .i64 a ∧ vb = .int .i64 b ∧ Hid (b = a + 2 * B) ∧ Hid (a = s * (2 * B)) ∧ a ≤ N ∧ Hid (Sw w g o e wr) ∧ Hid (PermIn 0 N d e) ∧ Hid (Done ltO e (2 * B) s) ∧ Hid (Runs ltO e N B a)) (fun va _ _ => N - (intOf va).toNat)
          case atStart => exact ⟨0, 0, 2 * B, e, by go_num, by first | rfl | go_num | simp, by simp [Hid], by simp [Hid], by omega, S1, P1, D0, R1⟩
          case round =>
            clear S1 P1 D0 R1
            obtain ⟨s, a, b, e, rfl, rfl, HB, HA, haN, S1, P1, D1, R1⟩ := hrel
            have ES := Lib.hid (show e.size = N from P1.out.1.trans HN.out)
            by_cases hbn : b ≤ N
            · have hab : a + B < b := by have := HB.out; omega
              have HM := Lib.hid (show Mrg ltO e a (a + B) b from ⟨by omega, hab, by rw [ES.out]; exact hbn, R1.out.first (by omega), by
                have h2 := R1.out.second
                rw [Nat.min_eq_left (by have := HB.out; omega), show a + B + B = b by have := HB.out; omega] at h2
                exact h2⟩)
              go_wp2_with fail
              rw [show (a : Int) + (B : Int) = ((a + B : Nat) : Int) by omega]
              go_at_call 89
              refine (symMerge_any g o cap N hsz (b - a) a (a + B) b e _ (Nat.le_refl _) ES.out (S1.out.holds hg HH.out P1.out.1) (S1.out.lt hg) HM.out).mono ?_
              rintro e1 w1 ⟨rfl, k, S2, pf, sf⟩
              have S3 := Lib.hid (sw_trans S1.out hg S2 pf.1)
              have P3 := Lib.hid (permTr P1.out (permIn_mono e k a b 0 N (by omega) hbn (by rw [ES.out]; exact Nat.le_refl _) pf))
              have D3 := Lib.hid (D1.out.next HA.out HB.out (fun q hq => pf.2.1 q (.inl hq)) sf)
              have R3 := Lib.hid (Runs.skip (e := k) (b := b) R1.out 2 HB.out (fun q hq => pf.2.1 q (.inr hq)))
              clear S2 pf sf
              go_wp2
              go_roundw
              case rel => exact ⟨s + 1, b, b + 2 * B, k, rfl, by first | rfl | go_num | simp, rfl, two_mul_run HA.out HB.out, hbn, S3, P3, D3, R3⟩
              case measure => simp [intOf]; omega
            · by_cases hm : a + B < N
              · have HM := Lib.hid (show Mrg ltO e a (a + B) N from ⟨by omega, hm, by rw [ES.out]; exact Nat.le_refl _, R1.out.first (by omega), by
                  have h2 := R1.out.second
                  rw [Nat.min_eq_right (by have := HB.out; omega)] at h2
                  exact h2⟩)
                have hmz2 : (a : Int) + (B : Int) < (N : Int) := by omega
                go_wp2_with fail
                rw [show (a : Int) + (B : Int) = ((a + B : Nat) : Int) by omega]
                go_at_call 89
                refine (symMerge_any g o cap N hsz (N - a) a (a + B) N e _ (Nat.le_refl _) ES.out (S1.out.holds hg HH.out P1.out.1) (S1.out.lt hg) HM.out).mono ?_
                rintro e1 w1 ⟨rfl, k, S2, pf, sf⟩
                have S3 := Lib.hid (sw_trans S1.out hg S2 pf.1)
                have P3 := Lib.hid (permTr P1.out (permIn_mono e k a N 0 N (by omega) (Nat.le_refl _) (by rw [ES.out]; exact Nat.le_refl _) pf))
                have R3 := Lib.hid (Done.runs (lt := ltO) (d := k) (n := N) (B := 2 * B) (s := s) (a := a) (fun t ht => sortedSame (D1.out t ht) fun q _ hq => pf.2.1 q (.inl (by
                  have h1 : (t + 1) * (2 * B) ≤ s * (2 * B) := Nat.mul_le_mul_right _ ht
                  rw [Nat.add_mul, Nat.one_mul] at h1
                  have := HA.out; omega))) HA.out sf)
                clear S2 pf sf hmz2
                go_wp2
                go_roundw
                case rel => exact ⟨2 * B, k, by first | rfl | go_num | (rw [Int.mul_comm]; go_num) | simp [Int.mul_comm], by omega, by omega, S3, P3, R3⟩
                case measure => simp [intOf]; omega
              · have R3 := Lib.hid (Done.runs (lt := ltO) (d := e) (n := N) (B := 2 * B) (s := s) (a := a) D1.out HA.out (R1.out.last (by omega)))
                have hmz2 : ¬ (a : Int) + (B : Int) < (N : Int) := by omega
                go_wp2
                go_roundw
                case rel => exact ⟨2 * B, e, by first | rfl | go_num | (rw [Int.mul_comm]; go_num) | simp [Int.mul_comm], by omega, by omega, S1, P1, R3⟩
                case measure => simp [intOf]; omega
        · have HS := Lib.hid (R1.out.all (by omega))
          go_wp2
          go_end0
          exact ⟨rfl, e, S1.out, P1.out, HS.out⟩

theorem sortStable_any (g o cap N : Nat) (d : Array Sp) (hN : d.size = N) (w : World) (hH : HoldsK enc 2 w g o d) (hg : g < w.heap.size) (hsz : N < 1099511627776) :
    Calls Tryd.prog 79 #[.slice (some ⟨g, o, none⟩) N cap, ordV] w fun e w' => e = .returned (.tuple #[]) ∧ ∃ d', Sw w g o d' w' ∧ PermIn 0 N d d' ∧ SortedIn ltO 0 N d' := by
  have HN := Lib.hid hN
  have HH := Lib.hid hH
  clear hN hH
  go_enter Tryd.func79, Tryd.ntmps79
  go_wp2_with fail
  go_at_call 85
  refine (stable_any g o cap N d HN.out w HH.out hg hsz).mono ?_
  rintro e1 w1 ⟨rfl, f, S2, pf, sf⟩
  have R := Lib.hid (And.intro S2 (And.intro pf sf))
  clear S2 pf sf
  go_wp2
  go_end0
  exact ⟨rfl, f, R.out.1, R.out.2.1, R.out.2.2⟩
end Go.Proofs.YtoeccbbjncgmlaaDoor
