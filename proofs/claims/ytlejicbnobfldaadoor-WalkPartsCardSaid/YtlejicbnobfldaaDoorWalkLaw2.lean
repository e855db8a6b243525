/- The walks of WalkNobody and WalkLists. -/
import Derived.Test.YtlejicbnobfldaaDoorWalkLaw1
import Derived.Test.YtlejicbnobfldaaDoorRef09
namespace Go.Proofs.YtlejicbnobfldaaDoor
open Go.RowKit
set_option maxRecDepth 100000

theorem box_span (w : World) (x : Sp) : ∃ W, w.alloc (.cells #[.int .i64 x.1, .int .i64 x.2] 24) = W ∧ Hid (Only nob w W ∧ Blk W w.heap.size 24 #[.int .i64 x.1, .int .i64 x.2]) := ⟨_, rfl, Lib.hid ⟨(Only.refl nob w).alloc _, Blk.new _ _ _⟩⟩
theorem cells2 {w : World} {b : Nat} {t : TypeId} {x0 x1 : Value} (h : Blk w b t #[x0, x1]) : w.cell? ⟨b, 0, none⟩ = some x0 ∧ w.cell? ⟨b, 1, none⟩ = some x1 := ⟨h.cell 0, h.cell 1⟩
theorem hNo_e (a : Int) : (hNo a).e ≠ 0 := fun h => absurd (show (10 : Int) = 0 from h) (by decide)
theorem nobody_len (x : Sp) (top : Int) : (walkL hNo x top).length ≤ 1000000 := by
  unfold walkL
  split
  · by_cases h : x.1 < top
    · rw [tr_err h (by rw [sw_head (hNo_e _)]; exact hNo_e _)]; simp
    · rw [tr_end h]; simp
  · simp
theorem nobody_bad {x : Sp} {top : Int} (h : ¬ may9 x top) : wkL (walkL hNo x top) = [] ∧ wkE (walkL hNo x top) = 1 ∧ wkP (walkL hNo x top) top = 0 := by
  rw [show walkL hNo x top = [badIt] from if_neg h]
  exact ⟨rfl, rfl, rfl⟩
theorem nobody_end {x : Sp} {top : Int} (h : may9 x top) (h1 : ¬ x.1 < top) : wkL (walkL hNo x top) = [] ∧ wkE (walkL hNo x top) = 0 ∧ wkP (walkL hNo x top) top = top := by
  rw [show walkL hNo x top = [] from (if_pos h).trans (tr_end h1)]
  exact ⟨rfl, rfl, rfl⟩
theorem nobody_some {x : Sp} {top : Int} (h : may9 x top) (h1 : x.1 < top) : wkL (walkL hNo x top) = [] ∧ wkE (walkL hNo x top) = 10 ∧ wkP (walkL hNo x top) top = x.1 := by
  rw [show walkL hNo x top = [item hNo top x.1] from (if_pos h).trans (tr_err h1 (by rw [sw_head (hNo_e _)]; exact hNo_e _))]
  have hs : swE hNo top x.1 = 10 := sw_head (hNo_e _)
  rw [item_no (by rw [hs]; decide), hs]
  exact ⟨rfl, rfl, rfl⟩

/-- How WalkNobody begins: what List and Stop tell. -/
def NobodyTells (x : Sp) (top e p : Int) : Prop := wkL (walkL hNo x top) = [] ∧ wkE (walkL hNo x top) = e ∧ wkP (walkL hNo x top) top = p

set_option maxHeartbeats 4000000 in
theorem walkNobody_walk (x : Sp) (hx : Fit x) (top : Int) (w : World) (ht : Par w) :
    Calls Tryd.prog 5 #[.agg #[.int .i64 x.1, .int .i64 x.2], .int .i64 top] w fun e w' => e = .returned (.bool true) ∧ Below w.heap.size w w' := by
  obtain ⟨W, hW, HB⟩ := box_span w x
  have HWE := Lib.hid hW
  have HX := Lib.hid hx
  have HTab := Lib.hid ht
  have HPT := Lib.hid ht.lt
  have HLN := Lib.hid (nobody_len x top)
  clear hW hx ht
  have cases : (∃ e p, Hid (NobodyTells x top e p) ∧ ((e = 1 ∧ p = 0 ∧ ((decide x.ok = false) ∨ (decide x.ok = true ∧ top < x.1) ∨ (decide x.ok = true ∧ x.1 ≤ top ∧ x.1 + x.2 < top))) ∨ (e = 0 ∧ p = x.1 ∧ decide x.ok = true ∧ top = x.1) ∨ (e = 10 ∧ p = x.1 ∧ decide x.ok = true ∧ x.1 < top ∧ top ≤ x.1 + x.2))) := by
    by_cases h1 : x.ok
    · have hd : decide x.ok = true := decide_eq_true h1
      by_cases h2 : top < x.1
      · exact ⟨1, 0, nobody_bad (fun h => by have := h.2.1; omega), .inl ⟨rfl, rfl, .inr (.inl ⟨hd, h2⟩)⟩⟩
      · by_cases h3 : x.1 + x.2 < top
        · exact ⟨1, 0, nobody_bad (fun h => by have := h.2.2; omega), .inl ⟨rfl, rfl, .inr (.inr ⟨hd, by omega, h3⟩)⟩⟩
        · by_cases h4 : x.1 < top
          · exact ⟨10, x.1, nobody_some ⟨h1, by omega, by omega⟩ h4, .inr (.inr ⟨rfl, rfl, hd, h4, by omega⟩)⟩
          · have h5 : top = x.1 := by omega
            exact ⟨0, x.1, by have := nobody_end (top := top) ⟨h1, by omega, by omega⟩ h4; rw [h5] at this ⊢; exact this, .inr (.inl ⟨rfl, rfl, hd, h5⟩)⟩
    · exact ⟨1, 0, nobody_bad (fun h => h1 h.1), .inl ⟨rfl, rfl, .inl (decide_eq_false h1)⟩⟩
  obtain ⟨e0, p0, HN, hc⟩ := cases
  have HXO := Lib.hid (show decide x.ok = true → 0 ≤ x.1 ∧ 1 ≤ x.2 ∧ x.1 ≤ 1099511627776 ∧ x.2 ≤ 1099511627776 - x.1 from fun h => of_decide_eq_true h)
  rcases hc with ⟨rfl, rfl, hd | ⟨hd, h2⟩ | ⟨hd, h2, h3⟩⟩ | ⟨rfl, rfl, hd, rfl⟩ | ⟨rfl, rfl, hd, h2, h3⟩
  all_goals
    have HD := Lib.hid hd
    have hxo : decide x.ok = true → _ := HXO.out
    try (have hxo1 := HXO.out hd)
    clear hd hxo
    obtain ⟨c0, c1⟩ := cells2 HB.out.2
    go_enter Tryd.func5, Tryd.ntmps5
    go_wp2_with (first | (with_reducible rw [HWE.out]) | fail)
    go_at_call 8
    refine (wList none hNo x _ W (heads_no (HTab.out.old HB.out.1) (Nat.lt_of_lt_of_le HPT.out HB.out.1.size)) HX.out HLN.out).mono ?_
    rw [HN.out.1, HN.out.2.1]
    rintro e w1 ⟨v1, rfl, own1, o⟩
    obtain ⟨A1, k1, rfl, -, -⟩ := own_len own1
    have O1 := Lib.hid (HB.out.1.trans o)
    have B1 := Lib.hid (HB.out.2.keep o id)
    clear o own1 c0 c1
    obtain ⟨c0, c1⟩ := cells2 B1.out
    go_wp2_with fail
    go_at_call 9
    refine (wStop none hNo x _ w1 (heads_no (HTab.out.old O1.out) (Nat.lt_of_lt_of_le HPT.out O1.out.size)) HX.out).mono ?_
    rw [HN.out.2.1, HN.out.2.2]
    rintro e w2 ⟨rfl, o⟩
    have O2 := Lib.hid (O1.out.trans o)
    have B2 := Lib.hid (B1.out.keep o id)
    clear o c0 c1
    obtain ⟨c0, c1⟩ := cells2 B2.out
    go_wp2_with fail
    go_at_call 18
    refine (may_any x HX.out w2).mono ?_
    rw [HD.out]
    rintro e w3 ⟨rfl, o⟩
    have O3 := Lib.hid (O2.out.trans o.only)
    have B3 := Lib.hid (B2.out.keep o.only id)
    clear o c0 c1
    obtain ⟨c0, c1⟩ := cells2 B3.out
    go_wp2_with fail
    go_at_call 6
    refine (awake09_any _ (HTab.out.old O3.out)).mono ?_
    rintro e w4 ⟨rfl, o⟩
    have O4 := Lib.hid (O3.out.trans o)
    clear o c0 c1
    go_wp2
    go_ret
    exact ⟨rfl, O4.out.whole⟩
end Go.Proofs.YtlejicbnobfldaaDoor
