/- The document's own plans: a value whose node was met ahead, or that has none. -/
import Derived.Test.YtkjdnccnfnhkoaaRef17C
namespace Go.Proofs.Ytkjdnccnfnhkoaa
open Go.RowKit Go.Lib
set_option maxRecDepth 100000
set_option linter.unusedSimpArgs false
set_option linter.unusedVariables false

theorem not_new17 {v : Sp} {s : PSt} (h : newS v s = false) : v.1 ≠ 2 ∨ v.1 = 2 ∧ v.2 ∈ s.small ∨ v.1 = 2 ∧ v.2 ∉ s.small ∧ v.2 ∈ s.large := by
  unfold newS at h
  by_cases h2 : v.1 = 2
  · by_cases hs : v.2 ∈ s.small
    · exact .inr (.inl ⟨h2, hs⟩)
    · by_cases hl : v.2 ∈ s.large
      · exact .inr (.inr ⟨h2, hs, hl⟩)
      · simp [h2, hs, hl] at h
  · exact .inl h2
theorem meet_old17 {g : Gr} {lim : Int} {v : Sp} {s : PSt} (h : newS v s = false) : meetS g lim v s = s ∧ meetB g lim v s = false := by
  unfold meetS meetB
  rw [h]
  exact ⟨if_neg (by simp), rfl⟩
set_option maxHeartbeats 4000000 in
theorem rMeetOld17 (W : World) (b base : Nat) (vn vr : Value) (lim blk : Int) (v : PV) (s : PSt) (x : Sp) (h : Pm W b base vn vr lim blk v s) (hn : newS x s = false) :
    Calls Try.prog 57 #[.pointer (some ⟨b, 0, none⟩), .agg #[.int .i64 x.1, .int .i64 x.2]] W fun e w' => e = .returned (.bool false) ∧ Only nob W w' := by
  obtain ⟨vs, vb, vl, vg, vp⟩ := v
  obtain ⟨A1, k1, e1, hc1, hm1, -⟩ := Pm.sl h.sm
  obtain ⟨A4, k4, e4, hc4, hm4, -⟩ := Pm.sl h.lg
  simp only at e1 e4
  subst e1 e4
  obtain ⟨x1, x2⟩ := x
  obtain ⟨W1, hW1, HB1⟩ := box_val16 W x1 x2
  have HW1 := Lib.hid hW1
  have BX := Lib.hid (h.box.keep HB1.out.1 id)
  have HI1 := Lib.hid (fun (W' : World) (o : Only nob W W') => rIn17 (.slice A1 s.small.length k1) s.small x2 W.heap.size W' ((Pm.sl h.sm).below (o.below (Nat.le_refl _) fun _ h => h.elim)))
  have HI4 := Lib.hid (fun (W' : World) (o : Only nob W W') => rIn17 (.slice A4 s.large.length k4) s.large x2 W.heap.size W' ((Pm.sl h.lg).below (o.below (Nat.le_refl _) fun _ h => h.elim)))
  have d0 : W1.cell? ⟨W.heap.size, 0, none⟩ = some (.int .i64 x1) := HB1.out.2.cell 0
  have d1 : W1.cell? ⟨W.heap.size, 1, none⟩ = some (.int .i64 x2) := HB1.out.2.cell 1
  have c4 : W1.cell? ⟨b, 4, none⟩ = some (.slice A1 s.small.length k1) := BX.out.cell 4
  have c7 : W1.cell? ⟨b, 7, none⟩ = some (.slice A4 s.large.length k4) := BX.out.cell 7
  have O1 := Lib.hid HB1.out.1
  have hcs := not_new17 hn
  simp only at hcs
  clear hW1 h hn
  rcases hcs with h2 | ⟨rfl, hm⟩ | ⟨rfl, hm, hl⟩
  · have hbq : (x1 != 2) = true := by simpa using h2
    clear h2
    go_enter Try.func57, Try.ntmps57
    go_upto_region 1 with fail
    rw [HW1.out]
    go_wp2
    go_ret
    exact ⟨rfl, O1.out⟩
  · have H1 := Lib.hid (HI1.out W1 O1.out)
    rw [decide_eq_true hm] at H1
    clear hm
    go_enter Try.func57, Try.ntmps57
    go_upto_region 1 with fail
    rw [HW1.out]
    go_wp2_with fail
    go_at_call 28
    refine H1.out.mono ?_
    rintro e w3 ⟨rfl, o⟩
    have O3 := Lib.hid (O1.out.trans o)
    clear o d0 d1 c4 c7
    go_wp2
    go_ret
    exact ⟨rfl, O3.out⟩
  · have H1 := Lib.hid (HI1.out W1 O1.out)
    rw [decide_eq_false hm] at H1
    have H4 := Lib.hid (fun (W' : World) (o : Only nob W W') => HI4.out W' o)
    rw [decide_eq_true hl] at H4
    clear hm hl
    go_enter Try.func57, Try.ntmps57
    go_upto_region 1 with fail
    rw [HW1.out]
    go_wp2_with fail
    go_at_call 28
    refine H1.out.mono ?_
    rintro e w3 ⟨rfl, o⟩
    have O3 := Lib.hid (O1.out.trans o)
    have e7 := o.keeps c7
    clear o d0 d1 c4 c7
    go_wp2_with fail
    go_at_call 28
    refine (H4.out w3 O3.out).mono ?_
    rintro e w5 ⟨rfl, o⟩
    have O5 := Lib.hid (O3.out.trans o)
    clear o e7
    go_wp2
    go_ret
    exact ⟨rfl, O5.out⟩
end Go.Proofs.Ytkjdnccnfnhkoaa
