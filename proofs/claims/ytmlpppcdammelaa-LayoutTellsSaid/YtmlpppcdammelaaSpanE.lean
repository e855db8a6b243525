/- Contract: the library's insertion sort, over a row of spans. -/
import Derived.Test.YtmlpppcdammelaaSpanD
namespace Go.Proofs.Ytmlpppcdammelaa
open Go.RowKit Go.Sort

def ltO (x y : Sp) : Bool := ltOf ordI x y
theorem ltO_iff {x y : Sp} : ltO x y = true ↔ Sp.lt x y := by unfold ltO ltOf; rw [decide_eq_true_iff, ordI_lt]
theorem ltO_not {x y : Sp} : ltO x y = false ↔ Sp.le y x := by
  rw [← Sp.not_lt, ← ltO_iff]
  cases ltO x y <;> simp
theorem swo : SWO ltO where
  irrefl x := ltO_not.2 (by unfold Sp.le; omega)
  trans x y z h1 h2 := ltO_iff.2 (by have := ltO_iff.1 h1; have := ltO_iff.1 h2; unfold Sp.lt at *; omega)
  ntrans x y z h1 h2 := ltO_not.2 (by have := ltO_not.1 h1; have := ltO_not.1 h2; unfold Sp.le at *; omega)
/-- order, as a value. -/
abbrev ordV : Value := .func (.func 36) #[] #[]

theorem sw_grw {w W W' : World} {g o : Nat} {d : Array Sp} (h : Sw w g o d W) (k : Grw W W') : Sw w g o d W' := by
  obtain ⟨n, os, rfl⟩ := k
  exact SWK.grown h n os
theorem Cell2.all {W : World} {g o i : Nat} {x : Sp} (h : Cell2 W g o i x) :
    (∀ n os, (grow (W.drewN n) os).cell? ⟨g, o + i * 2, none⟩ = some (.int .i64 x.1)) ∧ (∀ n os, (grow (W.drewN n) os).cell? ⟨g, o + i * 2 + 1, none⟩ = some (.int .i64 x.2)) :=
  ⟨fun n os => (grw_grow n os).only.keeps h.c0, fun n os => (grw_grow n os).only.keeps h.c1⟩

set_option maxHeartbeats 8000000 in
theorem insertion_any (g o cap a b N : Nat) (d : Array Sp) (hN : d.size = N) (w : World) (hH : HoldsK enc 2 w g o d) (hg : g < w.heap.size) (hsz : d.size < 1099511627776) (hab : a ≤ b) (hb : b ≤ d.size) :
    Calls Try.prog 40 #[.slice (some ⟨g, o, none⟩) N cap, .int .i64 a, .int .i64 b, ordV] w fun e w' => e = .returned (.tuple #[]) ∧ ∃ d', Sw w g o d' w' ∧ PermIn a b d d' ∧ SortedIn ltO a b d' := by
  subst hN
  have HH := Lib.hid hH
  have S0 := Lib.hid (show Sw w g o d w from SWK.start hH)
  have HEND := Lib.hid (insertionSort_holds (lt := ltO) swo d a b hab hb)
  clear hH
  go_enter Try.func40, Try.ntmps40
  go_wp2
  go_loopw [8] (fun vi wr => ∃ (i : Nat) (dk : Array Sp), vi = .int .i64 i ∧ a < i ∧ i ≤ b + 1 ∧ Hid (dk.size = d.size) ∧ Hid (Sw w g o dk wr) ∧ Hid (insOuter ltO a b i dk = insOuter ltO a b (a + 1) d)) (fun vi _ => b + 1 - (intOf vi).toNat)
  case atStart => exact ⟨a + 1, d, by go_num, by omega, by omega, rfl, S0, rfl⟩
  case round =>
    clear S0
    obtain ⟨i, dk, rfl, hai, hib, hsk, S1, HO⟩ := hrel
    by_cases hlt : i < b
    · have hltz : (i : Int) < (b : Int) := by omega
      obtain ⟨wo, rfl⟩ : ∃ wo : World, wo = wr := ⟨_, rfl⟩
      go_wp2
      go_loopw [9] (fun vj wr2 => ∃ (j : Nat) (dj : Array Sp), vj = .int .i64 j ∧ a ≤ j ∧ j ≤ i ∧ Hid (dj.size = d.size) ∧ Hid (Sw w g o dj wr2) ∧ Hid (insInner ltO a j dj = insInner ltO a i dk)) (fun vj _ => (intOf vj).toNat)
      case atStart => exact ⟨i, dk, rfl, by omega, Nat.le_refl _, hsk, S1, rfl⟩
      case round =>
        clear S1
        obtain ⟨j, dj, rfl, haj, hji, hsj, S2, HI⟩ := hrel
        have out : (j ≤ a ∨ ltO dj[j]! dj[j - 1]! = false) → Hid (insOuter ltO a b (i + 1) dj = insOuter ltO a b (a + 1) d) := fun hs => by
          show _ = _
          rw [← HO.out, Go.Proofs.insOuter_go _ _ _ _ _ hlt, ← HI.out, Go.Proofs.insInner_stop _ _ _ _ hs]
        have OUT : Aside _ := out
        clear out
        by_cases hja : a < j
        · have hjaz : (a : Int) < (j : Int) := by omega
          obtain ⟨jp, rfl⟩ : ∃ jp, j = jp + 1 := ⟨j - 1, by omega⟩
          have HW := S2.out.holds hg HH.out hsj.out
          have hszj := hsj.out
          have xall := (cell2 HW (i := jp + 1) (by omega)).all
          have yall := (cell2 HW (i := jp) (by omega)).all
          clear HW
          obtain ⟨x, hx⟩ : ∃ x, x = dj[jp + 1]! := ⟨_, rfl⟩
          obtain ⟨y, hy⟩ : ∃ y, y = dj[jp]! := ⟨_, rfl⟩
          rw [← hx] at xall
          rw [← hy] at yall
          have HX := Lib.hid hx
          have HY := Lib.hid hy
          obtain ⟨x0, x1⟩ := xall
          obtain ⟨y0, y1⟩ := yall
          have jz : (jp : Int) + 1 < (d.size : Int) := by omega
          have jz1 : (jp : Int) < (d.size : Int) := by omega
          have hjaz' : (a : Int) < (jp : Int) + 1 := by omega
          have p0 : (0 : Int) ≤ (jp : Int) + 1 := by omega
          have e0 : ((jp : Int) + 1).toNat = jp + 1 := by omega
          have hwp : IntKind.i64.wrap (jp : Int) = (jp : Int) := by rw [IntKind.wrap_i64]; omega
          have mixed := mixed_
          clear hx hy hszj
          by_cases hlv : ordI x y < 0
          · go_wp2_with fail
            go_quiet_grown (first | (go_at_call 36; with_reducible refine grw_of (order_any _ _ _)))
            obtain ⟨W3, hW3, HG⟩ := grown_name wr nq osq
            rw [hW3]
            clear hW3 x0 x1 y0 y1
            have S3 := Lib.hid (sw_grw S2.out HG.out)
            have HW := S3.out.holds hg HH.out hsj.out
            have hszj := hsj.out
            have xc := cell2 HW (i := jp + 1) (by omega)
            have yc := cell2 HW (i := jp) (by omega)
            have S4 := (S3.out.swap enc_len hg (jp + 1) jp (by omega) (by omega)).drew
            rw [← HX.out] at xc S4
            rw [← HY.out] at yc S4
            have S5 := Lib.hid (swapped2 S4)
            obtain ⟨x0, x1, fx0, fx1⟩ := xc
            obtain ⟨y0, y1, fy0, fy1⟩ := yc
            clear S4 HW hszj
            have hwp2 : IntKind.i64.wrap (jp : Int) = (jp : Int) := by rw [IntKind.wrap_i64]; omega
            have LT := Lib.hid (show ltO dj[jp + 1]! dj[jp]! = true by rw [← HX.out, ← HY.out]; exact decide_eq_true hlv)
            clear hlv
            go_wp2_with fail
            go_big_region_o
            go_wp2
            go_roundw
            case rel =>
              refine ⟨jp, swp dj (jp + 1) jp, by first | rfl | go_num, by omega, by omega, by rw [size_swp]; exact hsj, S5, ?_⟩
              show _ = _
              have := Go.Proofs.insInner_go (lt := ltO) a (jp + 1) dj hja (by simp only [Nat.add_sub_cancel]; exact LT.out)
              simp only [Nat.add_sub_cancel] at this
              rw [← HI.out, this]
            case measure => simp [intOf]
          · have O2 := OUT.out (Or.inr (by simp only [Nat.add_sub_cancel]; rw [← HX.out, ← HY.out]; exact decide_eq_false hlv))
            go_wp2_with fail
            go_quiet_grown (first | (go_at_call 36; with_reducible refine grw_of (order_any _ _ _)))
            obtain ⟨W3, hW3, HG⟩ := grown_name wr nq osq
            rw [hW3]
            clear hW3 x0 x1 y0 y1
            have S3 := Lib.hid (sw_grw S2.out HG.out)
            go_wp2
            go_roundw
            case rel => exact ⟨i + 1, dj, by go_num, by omega, by omega, hsj, S3, O2⟩
            case measure => simp [intOf]; omega
        · obtain rfl : j = a := by omega
          have hjaz : decide ((j : Int) > (j : Int)) = false := decide_eq_false (by omega)
          have hjaz' : ¬ (j : Int) < (j : Int) := by omega
          have O2 := OUT.out (Or.inl (by omega))
          have S3 := Lib.hid (S2.out.drew)
          have mixed := mixed_
          go_wp2_with fail
          go_big_region_o
          go_wp2
          go_roundw
          case rel => exact ⟨i + 1, dj, by go_num, by omega, by omega, hsj, S3, O2⟩
          case measure => simp [intOf]; omega
    · have hltz : ¬ (i : Int) < (b : Int) := by omega
      have hfin := HEND.out
      unfold insertionSort at hfin
      rw [← HO.out, Go.Proofs.insOuter_stop _ _ _ _ _ hlt] at hfin
      have HFIN := Lib.hid hfin
      clear hfin
      go_wp2
      go_end0
      exact ⟨rfl, dk, S1.out, HFIN.out⟩
end Go.Proofs.Ytmlpppcdammelaa
