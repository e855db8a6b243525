/- A header's word leads back to it, and a word's header to the word; the walk of HeadBack. -/
import Derived.Test.YtlgljnimfpiahaaDoorHeadLaw2
import Derived.Deep.Cut
namespace Go.Proofs.YtlgljnimfpiahaaDoor
open Go.RowKit

/-- The word of a header that may be. -/
theorem hw_is {k f r : Int} (m : Bool) {c : Int} (h : hmay k f r c = true) : ∃ n : Nat, hW k f r m c = n ∧ n < full ∧ oK n = k ∧ oF n = f ∧ oR n = r ∧ oM n = m ∧ oC n = c ∧ oE n = 0 := by
  have h' := hmay_iff.1 h
  have hb := bi_in m
  refine ⟨(hW k f r m c).toNat, by unfold hW; omega, by unfold hW full; omega, ?_⟩
  obtain ⟨n, hn⟩ : ∃ n, (hW k f r m c).toNat = n := ⟨_, rfl⟩
  rw [hn]
  unfold hW at hn
  have e0 : n % 4 = 3 := by omega
  have e1 : wK n = k := by unfold wK; omega
  have e2 : wF n = f := by unfold wF; omega
  have e3 : wR n = r := by unfold wR; omega
  have e5 : wC n = c := by unfold wC; omega
  have e4 : wM n = m := by
    unfold wM
    cases m
    · rw [bi_f] at hn; rw [beq_eq_false_iff_ne]; omega
    · rw [bi_t] at hn; rw [beq_iff_eq]; omega
  have ho : wOk n = true := by unfold wOk; rw [e0, e1, e2, e3, e5, h]; rfl
  obtain ⟨a0, a1, a2, a3, a4, a5⟩ := o_yes ho
  exact ⟨a0.trans e1, a1.trans e2, a2.trans e3, a3.trans e4, a4.trans e5, a5⟩
/-- The header of a word. -/
theorem wh_is {n : Nat} (h : wOk n = true) : hmay (wK n) (wF n) (wR n) (wC n) = true ∧ hW (wK n) (wF n) (wR n) (wM n) (wC n) = n := by
  unfold wOk at h
  rw [Bool.and_eq_true, beq_iff_eq] at h
  refine ⟨h.2, ?_⟩
  have h1 := h.1
  have hb : bi (wM n) = (n / 4 % 2 : Nat) := by
    rcases hm : wM n with _ | _
    · unfold wM at hm; rw [beq_eq_false_iff_ne] at hm; rw [bi_f]; omega
    · unfold wM at hm; rw [beq_iff_eq] at hm; rw [bi_t]; omega
  unfold hW wK wF wR wC
  rw [hb]
  omega
theorem hw_inj {k f r : Int} {m : Bool} {c k' f' r' : Int} {m' : Bool} {c' : Int} (h : hmay k f r c = true) (h' : hmay k' f' r' c' = true) (e : hW k f r m c = hW k' f' r' m' c') : k = k' ∧ f = f' ∧ r = r' ∧ m = m' ∧ c = c' := by
  obtain ⟨n, e0, -, a1, a2, a3, a4, a5, -⟩ := hw_is m h
  obtain ⟨n', e0', -, b1, b2, b3, b4, b5, -⟩ := hw_is m' h'
  obtain rfl : n = n' := by omega
  exact ⟨a1.symm.trans b1, a2.symm.trans b2, a3.symm.trans b3, a4.symm.trans b4, a5.symm.trans b5⟩
theorem hsame_self (k f r : Int) (m : Bool) (c : Int) : hsame k f r m c k f r m c = true := decide_eq_true ⟨rfl, rfl, rfl, rfl, rfl⟩

theorem hEnc_is {k f r : Int} {m : Bool} {c u e : Int} (hu : hEW k f r m c = u) (he : hEE k f r c = e) (w : World) (hp : Par w) : Calls Tryd.prog 6 #[.agg #[.int .i64 k, .int .i64 f, .int .i64 r, .bool m, .int .i64 c]] w fun e' w' => e' = .returned (.tuple #[.int .u64 u, .int .i64 e]) ∧ Only nob w w' := by
  subst hu he; exact hEnc_any k f r m c w hp
/-- What Dec answers at a word that is a number's. -/
def DecAt (u : Int) (k f r : Int) (m : Bool) (c e : Int) : Prop := ∀ w, Par w → Calls Tryd.prog 8 #[.int .u64 u] w fun e' w' => e' = .returned (.tuple #[.agg #[.int .i64 k, .int .i64 f, .int .i64 r, .bool m, .int .i64 c], .int .i64 e]) ∧ Only nob w w'
theorem decAt_word {n : Nat} (hn : n < full) {u : Int} (hu : u = n) : DecAt u (oK n) (oF n) (oR n) (oM n) (oC n) (oE n) := by subst hu; exact fun w hp => hDec_any hn w hp
theorem decAt_head {k f r : Int} {m : Bool} {c u : Int} (h : hmay k f r c = true) (hu : hEW k f r m c = u) : DecAt u k f r m c 0 := by
  obtain ⟨n, e0, hn, a1, a2, a3, a4, a5, a6⟩ := hw_is m h
  rw [hEW_yes m h] at hu
  have := decAt_word hn (hu.symm.trans e0)
  rwa [a1, a2, a3, a4, a5, a6] at this

/-- Two headers of the call's own. -/
theorem box_heads (w : World) (k f r : Int) (m : Bool) (c k' f' r' : Int) (m' : Bool) (c' : Int) : ∃ W, (w.alloc (.cells #[.int .i64 k, .int .i64 f, .int .i64 r, .bool m, .int .i64 c] 23)).alloc (.cells #[.int .i64 k', .int .i64 f', .int .i64 r', .bool m', .int .i64 c'] 23) = W ∧
    Hid (Only nob w W ∧ Blk W w.heap.size 23 #[.int .i64 k, .int .i64 f, .int .i64 r, .bool m, .int .i64 c] ∧ Blk W (w.heap.size + 1) 23 #[.int .i64 k', .int .i64 f', .int .i64 r', .bool m', .int .i64 c']) :=
  ⟨_, rfl, Lib.hid ⟨((Only.refl nob w).alloc _).alloc _, (Blk.newAt _ _ _ _ rfl).alloc _, Blk.newAt _ _ _ _ (by simp)⟩⟩
/-- Both stand. -/
def Two7 (w : World) (b : Nat) (A B : Array Value) : Prop := Blk w b 23 A ∧ Blk w (b + 1) 23 B
theorem Two7.old {w w' : World} {b : Nat} {A B : Array Value} (h : Two7 w b A B) (o : Only nob w w') : Two7 w' b A B := ⟨h.1.keep o id, h.2.keep o id⟩

set_option maxRecDepth 100000 in
set_option maxHeartbeats 4000000 in
theorem hback_same1 (k f r : Int) (m : Bool) (c : Int) {n : Nat} (hn : n < full) (ha : hmay k f r c = true) (hd : wOk n = true) (w : World) (hp : Par w) : Calls Tryd.prog 4 #[.agg #[.int .i64 k, .int .i64 f, .int .i64 r, .bool m, .int .i64 c], .agg #[.int .i64 k, .int .i64 f, .int .i64 r, .bool m, .int .i64 c], .int .u64 n] w fun e w' => e = .returned (.bool true) ∧ Only nob w w' := by
  have HP := Lib.hid hp
  obtain ⟨u, hu⟩ : ∃ u, hEW k f r m c = u := ⟨_, rfl⟩
  have HU := Lib.hid hu
  have HUE := Lib.hid (hEE_yes ha)
  have HUD := Lib.hid (decAt_head ha hu)
  have ea : ∀ w : World, (Op.equalIn 10000 23 (.agg #[.int .i64 k, .int .i64 f, .int .i64 r, .bool m, .int .i64 c]) (.agg #[.int .i64 k, .int .i64 f, .int .i64 r, .bool m, .int .i64 c])).run Tryd.prog w = .ok true w := fun w => hsame_self k f r m c ▸ eqHead k f r m c k f r m c w
  obtain ⟨h1, h2, h3, h4, h5, h6⟩ := o_yes hd
  obtain ⟨g1, g2⟩ := wh_is hd
  have hD0 := decAt_word hn (u := n) rfl
  rw [h1, h2, h3, h4, h5, h6] at hD0
  have hZ0 := And.intro ((hEW_yes (wM n) g1).trans g2) (hEE_yes g1)
  obtain ⟨p1, q1⟩ : ∃ p1, wK n = p1 := ⟨_, rfl⟩
  obtain ⟨p2, q2⟩ : ∃ p2, wF n = p2 := ⟨_, rfl⟩
  obtain ⟨p3, q3⟩ : ∃ p3, wR n = p3 := ⟨_, rfl⟩
  obtain ⟨p4, q4⟩ : ∃ p4, wM n = p4 := ⟨_, rfl⟩
  obtain ⟨p5, q5⟩ : ∃ p5, wC n = p5 := ⟨_, rfl⟩
  rw [q1, q2, q3, q4, q5] at hD0 hZ0
  have HD := Lib.hid hD0
  have HZ := Lib.hid hZ0
  clear h1 h2 h3 h4 h5 h6 g1 g2 hD0 hZ0 q1 q2 q3 q4 q5
  obtain ⟨W, hW0, HB⟩ := box_heads w k f r m c k f r m c
  have HWE := Lib.hid hW0
  have T0 := Lib.hid (show Two7 W w.heap.size #[.int .i64 k, .int .i64 f, .int .i64 r, .bool m, .int .i64 c] #[.int .i64 k, .int .i64 f, .int .i64 r, .bool m, .int .i64 c] from HB.out.2)
  clear hp hn ha hd hu hW0
  obtain ⟨c0, c1, c2, c3, c4⟩ := cells5 T0.out.1
  go_enter Tryd.func4, Tryd.ntmps4
  go_wp2_with fail
  rw [HWE.out]
  go_at_call 6
  refine (hEnc_is HU.out HUE.out _ (HP.out.old HB.out.1)).mono ?_
  rintro e w1 ⟨rfl, o⟩
  have O1 := Lib.hid (HB.out.1.trans o)
  have T1 := Lib.hid (T0.out.old o)
  clear o c0 c1 c2 c3 c4
  obtain ⟨d0, d1, d2, d3, d4⟩ := cells5 T1.out.2
  go_wp2_with fail
  go_at_call 6
  refine (hEnc_is HU.out HUE.out _ (HP.out.old O1.out)).mono ?_
  rintro e w2 ⟨rfl, o⟩
  have O2 := Lib.hid (O1.out.trans o)
  have T2 := Lib.hid (T1.out.old o)
  clear o d0 d1 d2 d3 d4
  go_wp2_with fail
  go_at_call 8
  refine (HUD.out _ (HP.out.old O2.out)).mono ?_
  rintro e w3 ⟨rfl, o⟩
  have O3 := Lib.hid (O2.out.trans o)
  have T3 := Lib.hid (T2.out.old o)
  obtain ⟨W4, hW4, HB4⟩ := box_head w3 k f r m c
  have HW4 := Lib.hid hW4
  have O4 := Lib.hid (O3.out.trans HB4.out.1)
  have T4 := Lib.hid (T3.out.old HB4.out.1)
  clear o hW4
  go_upto_region 5 with fail
  rw [HW4.out]
  obtain ⟨c0, c1, c2, c3, c4⟩ := cells5 T4.out.1
  obtain ⟨d0, d1, d2, d3, d4⟩ := cells5 T4.out.2
  obtain ⟨f0, f1, f2, f3, f4⟩ := cells5 HB4.out.2
  go_wp2_with fail
  go_at_call 8
  refine (HD.out _ (HP.out.old O4.out)).mono ?_
  rintro e w5 ⟨rfl, o⟩
  have O5 := Lib.hid (O4.out.trans o)
  clear o c0 c1 c2 c3 c4 d0 d1 d2 d3 d4 f0 f1 f2 f3 f4
  obtain ⟨W6, hW6, HB6⟩ := box_head w5 p1 p2 p3 p4 p5
  have HW6 := Lib.hid hW6
  have O6 := Lib.hid (O5.out.trans HB6.out.1)
  clear hW6
  go_upto_region 10 with fail
  rw [HW6.out]
  obtain ⟨c0, c1, c2, c3, c4⟩ := cells5 HB6.out.2
  go_wp2_with fail
  go_at_call 6
  refine (hEnc_is HZ.out.1 HZ.out.2 _ (HP.out.old O6.out)).mono ?_
  rintro e w7 ⟨rfl, o⟩
  have O7 := Lib.hid (O6.out.trans o)
  clear o c0 c1 c2 c3 c4
  go_wp2_with fail
  go_at_call 16
  refine (awake07_any _ (HP.out.old O7.out)).mono ?_
  rintro e w9 ⟨rfl, o⟩
  have O9 := Lib.hid (O7.out.trans o)
  clear o
  go_wp2
  go_ret
  exact ⟨rfl, O9.out⟩

set_option maxRecDepth 100000 in
set_option maxHeartbeats 4000000 in
theorem hback_diff1 (k f r : Int) (m : Bool) (c : Int) (k' f' r' : Int) (m' : Bool) (c' : Int) {n : Nat} (hn : n < full) (ha : hmay k f r c = true) (hb : hmay k' f' r' c' = true) (hne : ¬ (k = k' ∧ f = f' ∧ r = r' ∧ m = m' ∧ c = c')) (hd : wOk n = true) (w : World) (hp : Par w) : Calls Tryd.prog 4 #[.agg #[.int .i64 k, .int .i64 f, .int .i64 r, .bool m, .int .i64 c], .agg #[.int .i64 k', .int .i64 f', .int .i64 r', .bool m', .int .i64 c'], .int .u64 n] w fun e w' => e = .returned (.bool true) ∧ Only nob w w' := by
  have HP := Lib.hid hp
  obtain ⟨u, hu⟩ : ∃ u, hEW k f r m c = u := ⟨_, rfl⟩
  have HU := Lib.hid hu
  have HUE := Lib.hid (hEE_yes ha)
  have HUD := Lib.hid (decAt_head ha hu)
  obtain ⟨v, hv⟩ : ∃ v, hEW k' f' r' m' c' = v := ⟨_, rfl⟩
  have HV := Lib.hid hv
  have HVE := Lib.hid (hEE_yes hb)
  have huv : u ≠ v := fun e => hne (hw_inj ha hb ((hEW_yes m ha).symm.trans (hu.trans (e.trans (hv.symm.trans (hEW_yes m' hb))))))
  have ea : ∀ w : World, (Op.equalIn 10000 23 (.agg #[.int .i64 k, .int .i64 f, .int .i64 r, .bool m, .int .i64 c]) (.agg #[.int .i64 k, .int .i64 f, .int .i64 r, .bool m, .int .i64 c])).run Tryd.prog w = .ok true w := fun w => hsame_self k f r m c ▸ eqHead k f r m c k f r m c w
  have eb : ∀ w : World, (Op.equalIn 10000 23 (.agg #[.int .i64 k, .int .i64 f, .int .i64 r, .bool m, .int .i64 c]) (.agg #[.int .i64 k', .int .i64 f', .int .i64 r', .bool m', .int .i64 c'])).run Tryd.prog w = .ok false w := fun w => (show hsame k f r m c k' f' r' m' c' = false from decide_eq_false hne) ▸ eqHead k f r m c k' f' r' m' c' w
  obtain ⟨h1, h2, h3, h4, h5, h6⟩ := o_yes hd
  obtain ⟨g1, g2⟩ := wh_is hd
  have hD0 := decAt_word hn (u := n) rfl
  rw [h1, h2, h3, h4, h5, h6] at hD0
  have hZ0 := And.intro ((hEW_yes (wM n) g1).trans g2) (hEE_yes g1)
  obtain ⟨p1, q1⟩ : ∃ p1, wK n = p1 := ⟨_, rfl⟩
  obtain ⟨p2, q2⟩ : ∃ p2, wF n = p2 := ⟨_, rfl⟩
  obtain ⟨p3, q3⟩ : ∃ p3, wR n = p3 := ⟨_, rfl⟩
  obtain ⟨p4, q4⟩ : ∃ p4, wM n = p4 := ⟨_, rfl⟩
  obtain ⟨p5, q5⟩ : ∃ p5, wC n = p5 := ⟨_, rfl⟩
  rw [q1, q2, q3, q4, q5] at hD0 hZ0
  have HD := Lib.hid hD0
  have HZ := Lib.hid hZ0
  clear h1 h2 h3 h4 h5 h6 g1 g2 hD0 hZ0 q1 q2 q3 q4 q5
  obtain ⟨W, hW0, HB⟩ := box_heads w k f r m c k' f' r' m' c'
  have HWE := Lib.hid hW0
  have T0 := Lib.hid (show Two7 W w.heap.size #[.int .i64 k, .int .i64 f, .int .i64 r, .bool m, .int .i64 c] #[.int .i64 k', .int .i64 f', .int .i64 r', .bool m', .int .i64 c'] from HB.out.2)
  clear hp hn ha hd hu hb hv hne hW0
  obtain ⟨c0, c1, c2, c3, c4⟩ := cells5 T0.out.1
  go_enter Tryd.func4, Tryd.ntmps4
  go_wp2_with fail
  rw [HWE.out]
  go_at_call 6
  refine (hEnc_is HU.out HUE.out _ (HP.out.old HB.out.1)).mono ?_
  rintro e w1 ⟨rfl, o⟩
  have O1 := Lib.hid (HB.out.1.trans o)
  have T1 := Lib.hid (T0.out.old o)
  clear o c0 c1 c2 c3 c4
  obtain ⟨d0, d1, d2, d3, d4⟩ := cells5 T1.out.2
  go_wp2_with fail
  go_at_call 6
  refine (hEnc_is HV.out HVE.out _ (HP.out.old O1.out)).mono ?_
  rintro e w2 ⟨rfl, o⟩
  have O2 := Lib.hid (O1.out.trans o)
  have T2 := Lib.hid (T1.out.old o)
  clear o d0 d1 d2 d3 d4
  go_wp2_with fail
  go_at_call 8
  refine (HUD.out _ (HP.out.old O2.out)).mono ?_
  rintro e w3 ⟨rfl, o⟩
  have O3 := Lib.hid (O2.out.trans o)
  have T3 := Lib.hid (T2.out.old o)
  obtain ⟨W4, hW4, HB4⟩ := box_head w3 k f r m c
  have HW4 := Lib.hid hW4
  have O4 := Lib.hid (O3.out.trans HB4.out.1)
  have T4 := Lib.hid (T3.out.old HB4.out.1)
  clear o hW4
  go_upto_region 5 with fail
  rw [HW4.out]
  obtain ⟨c0, c1, c2, c3, c4⟩ := cells5 T4.out.1
  obtain ⟨d0, d1, d2, d3, d4⟩ := cells5 T4.out.2
  obtain ⟨f0, f1, f2, f3, f4⟩ := cells5 HB4.out.2
  go_wp2_with fail
  go_at_call 8
  refine (HD.out _ (HP.out.old O4.out)).mono ?_
  rintro e w5 ⟨rfl, o⟩
  have O5 := Lib.hid (O4.out.trans o)
  clear o c0 c1 c2 c3 c4 d0 d1 d2 d3 d4 f0 f1 f2 f3 f4
  obtain ⟨W6, hW6, HB6⟩ := box_head w5 p1 p2 p3 p4 p5
  have HW6 := Lib.hid hW6
  have O6 := Lib.hid (O5.out.trans HB6.out.1)
  clear hW6
  go_upto_region 10 with fail
  rw [HW6.out]
  obtain ⟨c0, c1, c2, c3, c4⟩ := cells5 HB6.out.2
  go_wp2_with fail
  go_at_call 6
  refine (hEnc_is HZ.out.1 HZ.out.2 _ (HP.out.old O6.out)).mono ?_
  rintro e w7 ⟨rfl, o⟩
  have O7 := Lib.hid (O6.out.trans o)
  clear o c0 c1 c2 c3 c4
  go_wp2_with fail
  go_at_call 16
  refine (awake07_any _ (HP.out.old O7.out)).mono ?_
  rintro e w9 ⟨rfl, o⟩
  have O9 := Lib.hid (O7.out.trans o)
  clear o
  go_wp2
  go_ret
  exact ⟨rfl, O9.out⟩

set_option maxRecDepth 100000 in
set_option maxHeartbeats 4000000 in
theorem hback_a1 (k f r : Int) (m : Bool) (c : Int) (k' f' r' : Int) (m' : Bool) (c' : Int) {n : Nat} (hn : n < full) (ha : hmay k f r c = true) (hb : hmay k' f' r' c' = false) (hd : wOk n = true) (w : World) (hp : Par w) : Calls Tryd.prog 4 #[.agg #[.int .i64 k, .int .i64 f, .int .i64 r, .bool m, .int .i64 c], .agg #[.int .i64 k', .int .i64 f', .int .i64 r', .bool m', .int .i64 c'], .int .u64 n] w fun e w' => e = .returned (.bool true) ∧ Only nob w w' := by
  have HP := Lib.hid hp
  obtain ⟨u, hu⟩ : ∃ u, hEW k f r m c = u := ⟨_, rfl⟩
  have HU := Lib.hid hu
  have HUE := Lib.hid (hEE_yes ha)
  have HUD := Lib.hid (decAt_head ha hu)
  have ea : ∀ w : World, (Op.equalIn 10000 23 (.agg #[.int .i64 k, .int .i64 f, .int .i64 r, .bool m, .int .i64 c]) (.agg #[.int .i64 k, .int .i64 f, .int .i64 r, .bool m, .int .i64 c])).run Tryd.prog w = .ok true w := fun w => hsame_self k f r m c ▸ eqHead k f r m c k f r m c w
  have HV := Lib.hid (hEW_no m' hb)
  have HVE := Lib.hid (hEE_no hb)
  obtain ⟨h1, h2, h3, h4, h5, h6⟩ := o_yes hd
  obtain ⟨g1, g2⟩ := wh_is hd
  have hD0 := decAt_word hn (u := n) rfl
  rw [h1, h2, h3, h4, h5, h6] at hD0
  have hZ0 := And.intro ((hEW_yes (wM n) g1).trans g2) (hEE_yes g1)
  obtain ⟨p1, q1⟩ : ∃ p1, wK n = p1 := ⟨_, rfl⟩
  obtain ⟨p2, q2⟩ : ∃ p2, wF n = p2 := ⟨_, rfl⟩
  obtain ⟨p3, q3⟩ : ∃ p3, wR n = p3 := ⟨_, rfl⟩
  obtain ⟨p4, q4⟩ : ∃ p4, wM n = p4 := ⟨_, rfl⟩
  obtain ⟨p5, q5⟩ : ∃ p5, wC n = p5 := ⟨_, rfl⟩
  rw [q1, q2, q3, q4, q5] at hD0 hZ0
  have HD := Lib.hid hD0
  have HZ := Lib.hid hZ0
  clear h1 h2 h3 h4 h5 h6 g1 g2 hD0 hZ0 q1 q2 q3 q4 q5
  obtain ⟨W, hW0, HB⟩ := box_heads w k f r m c k' f' r' m' c'
  have HWE := Lib.hid hW0
  have T0 := Lib.hid (show Two7 W w.heap.size #[.int .i64 k, .int .i64 f, .int .i64 r, .bool m, .int .i64 c] #[.int .i64 k', .int .i64 f', .int .i64 r', .bool m', .int .i64 c'] from HB.out.2)
  clear hp hn ha hd hu hb hW0
  obtain ⟨c0, c1, c2, c3, c4⟩ := cells5 T0.out.1
  go_enter Tryd.func4, Tryd.ntmps4
  go_wp2_with fail
  rw [HWE.out]
  go_at_call 6
  refine (hEnc_is HU.out HUE.out _ (HP.out.old HB.out.1)).mono ?_
  rintro e w1 ⟨rfl, o⟩
  have O1 := Lib.hid (HB.out.1.trans o)
  have T1 := Lib.hid (T0.out.old o)
  clear o c0 c1 c2 c3 c4
  obtain ⟨d0, d1, d2, d3, d4⟩ := cells5 T1.out.2
  go_wp2_with fail
  go_at_call 6
  refine (hEnc_is HV.out HVE.out _ (HP.out.old O1.out)).mono ?_
  rintro e w2 ⟨rfl, o⟩
  have O2 := Lib.hid (O1.out.trans o)
  have T2 := Lib.hid (T1.out.old o)
  clear o d0 d1 d2 d3 d4
  go_wp2_with fail
  go_at_call 8
  refine (HUD.out _ (HP.out.old O2.out)).mono ?_
  rintro e w3 ⟨rfl, o⟩
  have O3 := Lib.hid (O2.out.trans o)
  have T3 := Lib.hid (T2.out.old o)
  obtain ⟨W4, hW4, HB4⟩ := box_head w3 k f r m c
  have HW4 := Lib.hid hW4
  have O4 := Lib.hid (O3.out.trans HB4.out.1)
  have T4 := Lib.hid (T3.out.old HB4.out.1)
  clear o hW4
  go_upto_region 5 with fail
  rw [HW4.out]
  obtain ⟨c0, c1, c2, c3, c4⟩ := cells5 T4.out.1
  obtain ⟨d0, d1, d2, d3, d4⟩ := cells5 T4.out.2
  obtain ⟨f0, f1, f2, f3, f4⟩ := cells5 HB4.out.2
  go_wp2_with fail
  go_at_call 8
  refine (HD.out _ (HP.out.old O4.out)).mono ?_
  rintro e w5 ⟨rfl, o⟩
  have O5 := Lib.hid (O4.out.trans o)
  clear o c0 c1 c2 c3 c4 d0 d1 d2 d3 d4 f0 f1 f2 f3 f4
  obtain ⟨W6, hW6, HB6⟩ := box_head w5 p1 p2 p3 p4 p5
  have HW6 := Lib.hid hW6
  have O6 := Lib.hid (O5.out.trans HB6.out.1)
  clear hW6
  go_upto_region 10 with fail
  rw [HW6.out]
  obtain ⟨c0, c1, c2, c3, c4⟩ := cells5 HB6.out.2
  go_wp2_with fail
  go_at_call 6
  refine (hEnc_is HZ.out.1 HZ.out.2 _ (HP.out.old O6.out)).mono ?_
  rintro e w7 ⟨rfl, o⟩
  have O7 := Lib.hid (O6.out.trans o)
  clear o c0 c1 c2 c3 c4
  go_wp2_with fail
  go_at_call 16
  refine (awake07_any _ (HP.out.old O7.out)).mono ?_
  rintro e w9 ⟨rfl, o⟩
  have O9 := Lib.hid (O7.out.trans o)
  clear o
  go_wp2
  go_ret
  exact ⟨rfl, O9.out⟩

set_option maxRecDepth 100000 in
set_option maxHeartbeats 4000000 in
theorem hback_b1 (k f r : Int) (m : Bool) (c : Int) (k' f' r' : Int) (m' : Bool) (c' : Int) {n : Nat} (hn : n < full) (ha : hmay k f r c = false) (hb : hmay k' f' r' c' = true) (hd : wOk n = true) (w : World) (hp : Par w) : Calls Tryd.prog 4 #[.agg #[.int .i64 k, .int .i64 f, .int .i64 r, .bool m, .int .i64 c], .agg #[.int .i64 k', .int .i64 f', .int .i64 r', .bool m', .int .i64 c'], .int .u64 n] w fun e w' => e = .returned (.bool true) ∧ Only nob w w' := by
  have HP := Lib.hid hp
  have HU := Lib.hid (hEW_no m ha)
  have HUE := Lib.hid (hEE_no ha)
  obtain ⟨v, hv⟩ : ∃ v, hEW k' f' r' m' c' = v := ⟨_, rfl⟩
  have HV := Lib.hid hv
  have HVE := Lib.hid (hEE_yes hb)
  obtain ⟨h1, h2, h3, h4, h5, h6⟩ := o_yes hd
  obtain ⟨g1, g2⟩ := wh_is hd
  have hD0 := decAt_word hn (u := n) rfl
  rw [h1, h2, h3, h4, h5, h6] at hD0
  have hZ0 := And.intro ((hEW_yes (wM n) g1).trans g2) (hEE_yes g1)
  obtain ⟨p1, q1⟩ : ∃ p1, wK n = p1 := ⟨_, rfl⟩
  obtain ⟨p2, q2⟩ : ∃ p2, wF n = p2 := ⟨_, rfl⟩
  obtain ⟨p3, q3⟩ : ∃ p3, wR n = p3 := ⟨_, rfl⟩
  obtain ⟨p4, q4⟩ : ∃ p4, wM n = p4 := ⟨_, rfl⟩
  obtain ⟨p5, q5⟩ : ∃ p5, wC n = p5 := ⟨_, rfl⟩
  rw [q1, q2, q3, q4, q5] at hD0 hZ0
  have HD := Lib.hid hD0
  have HZ := Lib.hid hZ0
  clear h1 h2 h3 h4 h5 h6 g1 g2 hD0 hZ0 q1 q2 q3 q4 q5
  obtain ⟨W, hW0, HB⟩ := box_heads w k f r m c k' f' r' m' c'
  have HWE := Lib.hid hW0
  have T0 := Lib.hid (show Two7 W w.heap.size #[.int .i64 k, .int .i64 f, .int .i64 r, .bool m, .int .i64 c] #[.int .i64 k', .int .i64 f', .int .i64 r', .bool m', .int .i64 c'] from HB.out.2)
  clear hp hn ha hd hb hv hW0
  obtain ⟨c0, c1, c2, c3, c4⟩ := cells5 T0.out.1
  go_enter Tryd.func4, Tryd.ntmps4
  go_wp2_with fail
  rw [HWE.out]
  go_at_call 6
  refine (hEnc_is HU.out HUE.out _ (HP.out.old HB.out.1)).mono ?_
  rintro e w1 ⟨rfl, o⟩
  have O1 := Lib.hid (HB.out.1.trans o)
  have T1 := Lib.hid (T0.out.old o)
  clear o c0 c1 c2 c3 c4
  obtain ⟨d0, d1, d2, d3, d4⟩ := cells5 T1.out.2
  go_wp2_with fail
  go_at_call 6
  refine (hEnc_is HV.out HVE.out _ (HP.out.old O1.out)).mono ?_
  rintro e w2 ⟨rfl, o⟩
  have O2 := Lib.hid (O1.out.trans o)
  have T2 := Lib.hid (T1.out.old o)
  clear o d0 d1 d2 d3 d4
  obtain ⟨c0, c1, c2, c3, c4⟩ := cells5 T2.out.1
  obtain ⟨d0, d1, d2, d3, d4⟩ := cells5 T2.out.2
  go_wp2_with fail
  go_at_call 8
  refine (HD.out _ (HP.out.old O2.out)).mono ?_
  rintro e w5 ⟨rfl, o⟩
  have O5 := Lib.hid (O2.out.trans o)
  clear o c0 c1 c2 c3 c4 d0 d1 d2 d3 d4
  obtain ⟨W6, hW6, HB6⟩ := box_head w5 p1 p2 p3 p4 p5
  have HW6 := Lib.hid hW6
  have O6 := Lib.hid (O5.out.trans HB6.out.1)
  clear hW6
  go_upto_region 10 with fail
  rw [HW6.out]
  obtain ⟨c0, c1, c2, c3, c4⟩ := cells5 HB6.out.2
  go_wp2_with fail
  go_at_call 6
  refine (hEnc_is HZ.out.1 HZ.out.2 _ (HP.out.old O6.out)).mono ?_
  rintro e w7 ⟨rfl, o⟩
  have O7 := Lib.hid (O6.out.trans o)
  clear o c0 c1 c2 c3 c4
  go_wp2_with fail
  go_at_call 16
  refine (awake07_any _ (HP.out.old O7.out)).mono ?_
  rintro e w9 ⟨rfl, o⟩
  have O9 := Lib.hid (O7.out.trans o)
  clear o
  go_wp2
  go_ret
  exact ⟨rfl, O9.out⟩

set_option maxRecDepth 100000 in
set_option maxHeartbeats 4000000 in
theorem hback_none1 (k f r : Int) (m : Bool) (c : Int) (k' f' r' : Int) (m' : Bool) (c' : Int) {n : Nat} (hn : n < full) (ha : hmay k f r c = false) (hb : hmay k' f' r' c' = false) (hd : wOk n = true) (w : World) (hp : Par w) : Calls Tryd.prog 4 #[.agg #[.int .i64 k, .int .i64 f, .int .i64 r, .bool m, .int .i64 c], .agg #[.int .i64 k', .int .i64 f', .int .i64 r', .bool m', .int .i64 c'], .int .u64 n] w fun e w' => e = .returned (.bool true) ∧ Only nob w w' := by
  have HP := Lib.hid hp
  have HU := Lib.hid (hEW_no m ha)
  have HUE := Lib.hid (hEE_no ha)
  have HV := Lib.hid (hEW_no m' hb)
  have HVE := Lib.hid (hEE_no hb)
  obtain ⟨h1, h2, h3, h4, h5, h6⟩ := o_yes hd
  obtain ⟨g1, g2⟩ := wh_is hd
  have hD0 := decAt_word hn (u := n) rfl
  rw [h1, h2, h3, h4, h5, h6] at hD0
  have hZ0 := And.intro ((hEW_yes (wM n) g1).trans g2) (hEE_yes g1)
  obtain ⟨p1, q1⟩ : ∃ p1, wK n = p1 := ⟨_, rfl⟩
  obtain ⟨p2, q2⟩ : ∃ p2, wF n = p2 := ⟨_, rfl⟩
  obtain ⟨p3, q3⟩ : ∃ p3, wR n = p3 := ⟨_, rfl⟩
  obtain ⟨p4, q4⟩ : ∃ p4, wM n = p4 := ⟨_, rfl⟩
  obtain ⟨p5, q5⟩ : ∃ p5, wC n = p5 := ⟨_, rfl⟩
  rw [q1, q2, q3, q4, q5] at hD0 hZ0
  have HD := Lib.hid hD0
  have HZ := Lib.hid hZ0
  clear h1 h2 h3 h4 h5 h6 g1 g2 hD0 hZ0 q1 q2 q3 q4 q5
  obtain ⟨W, hW0, HB⟩ := box_heads w k f r m c k' f' r' m' c'
  have HWE := Lib.hid hW0
  have T0 := Lib.hid (show Two7 W w.heap.size #[.int .i64 k, .int .i64 f, .int .i64 r, .bool m, .int .i64 c] #[.int .i64 k', .int .i64 f', .int .i64 r', .bool m', .int .i64 c'] from HB.out.2)
  clear hp hn ha hd hb hW0
  obtain ⟨c0, c1, c2, c3, c4⟩ := cells5 T0.out.1
  go_enter Tryd.func4, Tryd.ntmps4
  go_wp2_with fail
  rw [HWE.out]
  go_at_call 6
  refine (hEnc_is HU.out HUE.out _ (HP.out.old HB.out.1)).mono ?_
  rintro e w1 ⟨rfl, o⟩
  have O1 := Lib.hid (HB.out.1.trans o)
  have T1 := Lib.hid (T0.out.old o)
  clear o c0 c1 c2 c3 c4
  obtain ⟨d0, d1, d2, d3, d4⟩ := cells5 T1.out.2
  go_wp2_with fail
  go_at_call 6
  refine (hEnc_is HV.out HVE.out _ (HP.out.old O1.out)).mono ?_
  rintro e w2 ⟨rfl, o⟩
  have O2 := Lib.hid (O1.out.trans o)
  have T2 := Lib.hid (T1.out.old o)
  clear o d0 d1 d2 d3 d4
  obtain ⟨c0, c1, c2, c3, c4⟩ := cells5 T2.out.1
  obtain ⟨d0, d1, d2, d3, d4⟩ := cells5 T2.out.2
  go_wp2_with fail
  go_at_call 8
  refine (HD.out _ (HP.out.old O2.out)).mono ?_
  rintro e w5 ⟨rfl, o⟩
  have O5 := Lib.hid (O2.out.trans o)
  clear o c0 c1 c2 c3 c4 d0 d1 d2 d3 d4
  obtain ⟨W6, hW6, HB6⟩ := box_head w5 p1 p2 p3 p4 p5
  have HW6 := Lib.hid hW6
  have O6 := Lib.hid (O5.out.trans HB6.out.1)
  clear hW6
  go_upto_region 10 with fail
  rw [HW6.out]
  obtain ⟨c0, c1, c2, c3, c4⟩ := cells5 HB6.out.2
  go_wp2_with fail
  go_at_call 6
  refine (hEnc_is HZ.out.1 HZ.out.2 _ (HP.out.old O6.out)).mono ?_
  rintro e w7 ⟨rfl, o⟩
  have O7 := Lib.hid (O6.out.trans o)
  clear o c0 c1 c2 c3 c4
  go_wp2_with fail
  go_at_call 16
  refine (awake07_any _ (HP.out.old O7.out)).mono ?_
  rintro e w9 ⟨rfl, o⟩
  have O9 := Lib.hid (O7.out.trans o)
  clear o
  go_wp2
  go_ret
  exact ⟨rfl, O9.out⟩

set_option maxRecDepth 100000 in
set_option maxHeartbeats 4000000 in
theorem hback_same0 (k f r : Int) (m : Bool) (c : Int) {n : Nat} (hn : n < full) (ha : hmay k f r c = true) (hd : wOk n = false) (w : World) (hp : Par w) : Calls Tryd.prog 4 #[.agg #[.int .i64 k, .int .i64 f, .int .i64 r, .bool m, .int .i64 c], .agg #[.int .i64 k, .int .i64 f, .int .i64 r, .bool m, .int .i64 c], .int .u64 n] w fun e w' => e = .returned (.bool true) ∧ Only nob w w' := by
  have HP := Lib.hid hp
  obtain ⟨u, hu⟩ : ∃ u, hEW k f r m c = u := ⟨_, rfl⟩
  have HU := Lib.hid hu
  have HUE := Lib.hid (hEE_yes ha)
  have HUD := Lib.hid (decAt_head ha hu)
  have ea : ∀ w : World, (Op.equalIn 10000 23 (.agg #[.int .i64 k, .int .i64 f, .int .i64 r, .bool m, .int .i64 c]) (.agg #[.int .i64 k, .int .i64 f, .int .i64 r, .bool m, .int .i64 c])).run Tryd.prog w = .ok true w := fun w => hsame_self k f r m c ▸ eqHead k f r m c k f r m c w
  obtain ⟨h1, h2, h3, h4, h5, h6⟩ := o_no hd
  have hD0 := decAt_word hn (u := n) rfl
  rw [h1, h2, h3, h4, h5, h6] at hD0
  have HD := Lib.hid hD0
  have ez : ∀ w : World, (Op.equalIn 10000 23 (.agg #[.int .i64 0, .int .i64 0, .int .i64 0, .bool false, .int .i64 0]) (.agg #[.int .i64 0, .int .i64 0, .int .i64 0, .bool false, .int .i64 0])).run Tryd.prog w = .ok true w := fun w => hsame_self 0 0 0 false 0 ▸ eqHead 0 0 0 false 0 0 0 0 false 0 w
  clear h1 h2 h3 h4 h5 h6 hD0
  obtain ⟨W, hW0, HB⟩ := box_heads w k f r m c k f r m c
  have HWE := Lib.hid hW0
  have T0 := Lib.hid (show Two7 W w.heap.size #[.int .i64 k, .int .i64 f, .int .i64 r, .bool m, .int .i64 c] #[.int .i64 k, .int .i64 f, .int .i64 r, .bool m, .int .i64 c] from HB.out.2)
  clear hp hn ha hd hu hW0
  obtain ⟨c0, c1, c2, c3, c4⟩ := cells5 T0.out.1
  go_enter Tryd.func4, Tryd.ntmps4
  go_wp2_with fail
  rw [HWE.out]
  go_at_call 6
  refine (hEnc_is HU.out HUE.out _ (HP.out.old HB.out.1)).mono ?_
  rintro e w1 ⟨rfl, o⟩
  have O1 := Lib.hid (HB.out.1.trans o)
  have T1 := Lib.hid (T0.out.old o)
  clear o c0 c1 c2 c3 c4
  obtain ⟨d0, d1, d2, d3, d4⟩ := cells5 T1.out.2
  go_wp2_with fail
  go_at_call 6
  refine (hEnc_is HU.out HUE.out _ (HP.out.old O1.out)).mono ?_
  rintro e w2 ⟨rfl, o⟩
  have O2 := Lib.hid (O1.out.trans o)
  have T2 := Lib.hid (T1.out.old o)
  clear o d0 d1 d2 d3 d4
  go_wp2_with fail
  go_at_call 8
  refine (HUD.out _ (HP.out.old O2.out)).mono ?_
  rintro e w3 ⟨rfl, o⟩
  have O3 := Lib.hid (O2.out.trans o)
  have T3 := Lib.hid (T2.out.old o)
  obtain ⟨W4, hW4, HB4⟩ := box_head w3 k f r m c
  have HW4 := Lib.hid hW4
  have O4 := Lib.hid (O3.out.trans HB4.out.1)
  have T4 := Lib.hid (T3.out.old HB4.out.1)
  clear o hW4
  go_upto_region 5 with fail
  rw [HW4.out]
  obtain ⟨c0, c1, c2, c3, c4⟩ := cells5 T4.out.1
  obtain ⟨d0, d1, d2, d3, d4⟩ := cells5 T4.out.2
  obtain ⟨f0, f1, f2, f3, f4⟩ := cells5 HB4.out.2
  go_wp2_with fail
  go_at_call 8
  refine (HD.out _ (HP.out.old O4.out)).mono ?_
  rintro e w5 ⟨rfl, o⟩
  have O5 := Lib.hid (O4.out.trans o)
  clear o c0 c1 c2 c3 c4 d0 d1 d2 d3 d4 f0 f1 f2 f3 f4
  obtain ⟨W6, hW6, HB6⟩ := box_head w5 0 0 0 false 0
  have HW6 := Lib.hid hW6
  have O6 := Lib.hid (O5.out.trans HB6.out.1)
  clear hW6
  go_upto_region 10 with fail
  rw [HW6.out]
  obtain ⟨c0, c1, c2, c3, c4⟩ := cells5 HB6.out.2
  go_wp2_with fail
  go_at_call 16
  refine (awake07_any _ (HP.out.old O6.out)).mono ?_
  rintro e w9 ⟨rfl, o⟩
  have O9 := Lib.hid (O6.out.trans o)
  clear o
  go_wp2
  go_ret
  exact ⟨rfl, O9.out⟩

set_option maxRecDepth 100000 in
set_option maxHeartbeats 4000000 in
theorem hback_diff0 (k f r : Int) (m : Bool) (c : Int) (k' f' r' : Int) (m' : Bool) (c' : Int) {n : Nat} (hn : n < full) (ha : hmay k f r c = true) (hb : hmay k' f' r' c' = true) (hne : ¬ (k = k' ∧ f = f' ∧ r = r' ∧ m = m' ∧ c = c')) (hd : wOk n = false) (w : World) (hp : Par w) : Calls Tryd.prog 4 #[.agg #[.int .i64 k, .int .i64 f, .int .i64 r, .bool m, .int .i64 c], .agg #[.int .i64 k', .int .i64 f', .int .i64 r', .bool m', .int .i64 c'], .int .u64 n] w fun e w' => e = .returned (.bool true) ∧ Only nob w w' := by
  have HP := Lib.hid hp
  obtain ⟨u, hu⟩ : ∃ u, hEW k f r m c = u := ⟨_, rfl⟩
  have HU := Lib.hid hu
  have HUE := Lib.hid (hEE_yes ha)
  have HUD := Lib.hid (decAt_head ha hu)
  obtain ⟨v, hv⟩ : ∃ v, hEW k' f' r' m' c' = v := ⟨_, rfl⟩
  have HV := Lib.hid hv
  have HVE := Lib.hid (hEE_yes hb)
  have huv : u ≠ v := fun e => hne (hw_inj ha hb ((hEW_yes m ha).symm.trans (hu.trans (e.trans (hv.symm.trans (hEW_yes m' hb))))))
  have ea : ∀ w : World, (Op.equalIn 10000 23 (.agg #[.int .i64 k, .int .i64 f, .int .i64 r, .bool m, .int .i64 c]) (.agg #[.int .i64 k, .int .i64 f, .int .i64 r, .bool m, .int .i64 c])).run Tryd.prog w = .ok true w := fun w => hsame_self k f r m c ▸ eqHead k f r m c k f r m c w
  have eb : ∀ w : World, (Op.equalIn 10000 23 (.agg #[.int .i64 k, .int .i64 f, .int .i64 r, .bool m, .int .i64 c]) (.agg #[.int .i64 k', .int .i64 f', .int .i64 r', .bool m', .int .i64 c'])).run Tryd.prog w = .ok false w := fun w => (show hsame k f r m c k' f' r' m' c' = false from decide_eq_false hne) ▸ eqHead k f r m c k' f' r' m' c' w
  obtain ⟨h1, h2, h3, h4, h5, h6⟩ := o_no hd
  have hD0 := decAt_word hn (u := n) rfl
  rw [h1, h2, h3, h4, h5, h6] at hD0
  have HD := Lib.hid hD0
  have ez : ∀ w : World, (Op.equalIn 10000 23 (.agg #[.int .i64 0, .int .i64 0, .int .i64 0, .bool false, .int .i64 0]) (.agg #[.int .i64 0, .int .i64 0, .int .i64 0, .bool false, .int .i64 0])).run Tryd.prog w = .ok true w := fun w => hsame_self 0 0 0 false 0 ▸ eqHead 0 0 0 false 0 0 0 0 false 0 w
  clear h1 h2 h3 h4 h5 h6 hD0
  obtain ⟨W, hW0, HB⟩ := box_heads w k f r m c k' f' r' m' c'
  have HWE := Lib.hid hW0
  have T0 := Lib.hid (show Two7 W w.heap.size #[.int .i64 k, .int .i64 f, .int .i64 r, .bool m, .int .i64 c] #[.int .i64 k', .int .i64 f', .int .i64 r', .bool m', .int .i64 c'] from HB.out.2)
  clear hp hn ha hd hu hb hv hne hW0
  obtain ⟨c0, c1, c2, c3, c4⟩ := cells5 T0.out.1
  go_enter Tryd.func4, Tryd.ntmps4
  go_wp2_with fail
  rw [HWE.out]
  go_at_call 6
  refine (hEnc_is HU.out HUE.out _ (HP.out.old HB.out.1)).mono ?_
  rintro e w1 ⟨rfl, o⟩
  have O1 := Lib.hid (HB.out.1.trans o)
  have T1 := Lib.hid (T0.out.old o)
  clear o c0 c1 c2 c3 c4
  obtain ⟨d0, d1, d2, d3, d4⟩ := cells5 T1.out.2
  go_wp2_with fail
  go_at_call 6
  refine (hEnc_is HV.out HVE.out _ (HP.out.old O1.out)).mono ?_
  rintro e w2 ⟨rfl, o⟩
  have O2 := Lib.hid (O1.out.trans o)
  have T2 := Lib.hid (T1.out.old o)
  clear o d0 d1 d2 d3 d4
  go_wp2_with fail
  go_at_call 8
  refine (HUD.out _ (HP.out.old O2.out)).mono ?_
  rintro e w3 ⟨rfl, o⟩
  have O3 := Lib.hid (O2.out.trans o)
  have T3 := Lib.hid (T2.out.old o)
  obtain ⟨W4, hW4, HB4⟩ := box_head w3 k f r m c
  have HW4 := Lib.hid hW4
  have O4 := Lib.hid (O3.out.trans HB4.out.1)
  have T4 := Lib.hid (T3.out.old HB4.out.1)
  clear o hW4
  go_upto_region 5 with fail
  rw [HW4.out]
  obtain ⟨c0, c1, c2, c3, c4⟩ := cells5 T4.out.1
  obtain ⟨d0, d1, d2, d3, d4⟩ := cells5 T4.out.2
  obtain ⟨f0, f1, f2, f3, f4⟩ := cells5 HB4.out.2
  go_wp2_with fail
  go_at_call 8
  refine (HD.out _ (HP.out.old O4.out)).mono ?_
  rintro e w5 ⟨rfl, o⟩
  have O5 := Lib.hid (O4.out.trans o)
  clear o c0 c1 c2 c3 c4 d0 d1 d2 d3 d4 f0 f1 f2 f3 f4
  obtain ⟨W6, hW6, HB6⟩ := box_head w5 0 0 0 false 0
  have HW6 := Lib.hid hW6
  have O6 := Lib.hid (O5.out.trans HB6.out.1)
  clear hW6
  go_upto_region 10 with fail
  rw [HW6.out]
  obtain ⟨c0, c1, c2, c3, c4⟩ := cells5 HB6.out.2
  go_wp2_with fail
  go_at_call 16
  refine (awake07_any _ (HP.out.old O6.out)).mono ?_
  rintro e w9 ⟨rfl, o⟩
  have O9 := Lib.hid (O6.out.trans o)
  clear o
  go_wp2
  go_ret
  exact ⟨rfl, O9.out⟩

set_option maxRecDepth 100000 in
set_option maxHeartbeats 4000000 in
theorem hback_a0 (k f r : Int) (m : Bool) (c : Int) (k' f' r' : Int) (m' : Bool) (c' : Int) {n : Nat} (hn : n < full) (ha : hmay k f r c = true) (hb : hmay k' f' r' c' = false) (hd : wOk n = false) (w : World) (hp : Par w) : Calls Tryd.prog 4 #[.agg #[.int .i64 k, .int .i64 f, .int .i64 r, .bool m, .int .i64 c], .agg #[.int .i64 k', .int .i64 f', .int .i64 r', .bool m', .int .i64 c'], .int .u64 n] w fun e w' => e = .returned (.bool true) ∧ Only nob w w' := by
  have HP := Lib.hid hp
  obtain ⟨u, hu⟩ : ∃ u, hEW k f r m c = u := ⟨_, rfl⟩
  have HU := Lib.hid hu
  have HUE := Lib.hid (hEE_yes ha)
  have HUD := Lib.hid (decAt_head ha hu)
  have ea : ∀ w : World, (Op.equalIn 10000 23 (.agg #[.int .i64 k, .int .i64 f, .int .i64 r, .bool m, .int .i64 c]) (.agg #[.int .i64 k, .int .i64 f, .int .i64 r, .bool m, .int .i64 c])).run Tryd.prog w = .ok true w := fun w => hsame_self k f r m c ▸ eqHead k f r m c k f r m c w
  have HV := Lib.hid (hEW_no m' hb)
  have HVE := Lib.hid (hEE_no hb)
  obtain ⟨h1, h2, h3, h4, h5, h6⟩ := o_no hd
  have hD0 := decAt_word hn (u := n) rfl
  rw [h1, h2, h3, h4, h5, h6] at hD0
  have HD := Lib.hid hD0
  have ez : ∀ w : World, (Op.equalIn 10000 23 (.agg #[.int .i64 0, .int .i64 0, .int .i64 0, .bool false, .int .i64 0]) (.agg #[.int .i64 0, .int .i64 0, .int .i64 0, .bool false, .int .i64 0])).run Tryd.prog w = .ok true w := fun w => hsame_self 0 0 0 false 0 ▸ eqHead 0 0 0 false 0 0 0 0 false 0 w
  clear h1 h2 h3 h4 h5 h6 hD0
  obtain ⟨W, hW0, HB⟩ := box_heads w k f r m c k' f' r' m' c'
  have HWE := Lib.hid hW0
  have T0 := Lib.hid (show Two7 W w.heap.size #[.int .i64 k, .int .i64 f, .int .i64 r, .bool m, .int .i64 c] #[.int .i64 k', .int .i64 f', .int .i64 r', .bool m', .int .i64 c'] from HB.out.2)
  clear hp hn ha hd hu hb hW0
  obtain ⟨c0, c1, c2, c3, c4⟩ := cells5 T0.out.1
  go_enter Tryd.func4, Tryd.ntmps4
  go_wp2_with fail
  rw [HWE.out]
  go_at_call 6
  refine (hEnc_is HU.out HUE.out _ (HP.out.old HB.out.1)).mono ?_
  rintro e w1 ⟨rfl, o⟩
  have O1 := Lib.hid (HB.out.1.trans o)
  have T1 := Lib.hid (T0.out.old o)
  clear o c0 c1 c2 c3 c4
  obtain ⟨d0, d1, d2, d3, d4⟩ := cells5 T1.out.2
  go_wp2_with fail
  go_at_call 6
  refine (hEnc_is HV.out HVE.out _ (HP.out.old O1.out)).mono ?_
  rintro e w2 ⟨rfl, o⟩
  have O2 := Lib.hid (O1.out.trans o)
  have T2 := Lib.hid (T1.out.old o)
  clear o d0 d1 d2 d3 d4
  go_wp2_with fail
  go_at_call 8
  refine (HUD.out _ (HP.out.old O2.out)).mono ?_
  rintro e w3 ⟨rfl, o⟩
  have O3 := Lib.hid (O2.out.trans o)
  have T3 := Lib.hid (T2.out.old o)
  obtain ⟨W4, hW4, HB4⟩ := box_head w3 k f r m c
  have HW4 := Lib.hid hW4
  have O4 := Lib.hid (O3.out.trans HB4.out.1)
  have T4 := Lib.hid (T3.out.old HB4.out.1)
  clear o hW4
  go_upto_region 5 with fail
  rw [HW4.out]
  obtain ⟨c0, c1, c2, c3, c4⟩ := cells5 T4.out.1
  obtain ⟨d0, d1, d2, d3, d4⟩ := cells5 T4.out.2
  obtain ⟨f0, f1, f2, f3, f4⟩ := cells5 HB4.out.2
  go_wp2_with fail
  go_at_call 8
  refine (HD.out _ (HP.out.old O4.out)).mono ?_
  rintro e w5 ⟨rfl, o⟩
  have O5 := Lib.hid (O4.out.trans o)
  clear o c0 c1 c2 c3 c4 d0 d1 d2 d3 d4 f0 f1 f2 f3 f4
  obtain ⟨W6, hW6, HB6⟩ := box_head w5 0 0 0 false 0
  have HW6 := Lib.hid hW6
  have O6 := Lib.hid (O5.out.trans HB6.out.1)
  clear hW6
  go_upto_region 10 with fail
  rw [HW6.out]
  obtain ⟨c0, c1, c2, c3, c4⟩ := cells5 HB6.out.2
  go_wp2_with fail
  go_at_call 16
  refine (awake07_any _ (HP.out.old O6.out)).mono ?_
  rintro e w9 ⟨rfl, o⟩
  have O9 := Lib.hid (O6.out.trans o)
  clear o
  go_wp2
  go_ret
  exact ⟨rfl, O9.out⟩

set_option maxRecDepth 100000 in
set_option maxHeartbeats 4000000 in
theorem hback_b0 (k f r : Int) (m : Bool) (c : Int) (k' f' r' : Int) (m' : Bool) (c' : Int) {n : Nat} (hn : n < full) (ha : hmay k f r c = false) (hb : hmay k' f' r' c' = true) (hd : wOk n = false) (w : World) (hp : Par w) : Calls Tryd.prog 4 #[.agg #[.int .i64 k, .int .i64 f, .int .i64 r, .bool m, .int .i64 c], .agg #[.int .i64 k', .int .i64 f', .int .i64 r', .bool m', .int .i64 c'], .int .u64 n] w fun e w' => e = .returned (.bool true) ∧ Only nob w w' := by
  have HP := Lib.hid hp
  have HU := Lib.hid (hEW_no m ha)
  have HUE := Lib.hid (hEE_no ha)
  obtain ⟨v, hv⟩ : ∃ v, hEW k' f' r' m' c' = v := ⟨_, rfl⟩
  have HV := Lib.hid hv
  have HVE := Lib.hid (hEE_yes hb)
  obtain ⟨h1, h2, h3, h4, h5, h6⟩ := o_no hd
  have hD0 := decAt_word hn (u := n) rfl
  rw [h1, h2, h3, h4, h5, h6] at hD0
  have HD := Lib.hid hD0
  have ez : ∀ w : World, (Op.equalIn 10000 23 (.agg #[.int .i64 0, .int .i64 0, .int .i64 0, .bool false, .int .i64 0]) (.agg #[.int .i64 0, .int .i64 0, .int .i64 0, .bool false, .int .i64 0])).run Tryd.prog w = .ok true w := fun w => hsame_self 0 0 0 false 0 ▸ eqHead 0 0 0 false 0 0 0 0 false 0 w
  clear h1 h2 h3 h4 h5 h6 hD0
  obtain ⟨W, hW0, HB⟩ := box_heads w k f r m c k' f' r' m' c'
  have HWE := Lib.hid hW0
  have T0 := Lib.hid (show Two7 W w.heap.size #[.int .i64 k, .int .i64 f, .int .i64 r, .bool m, .int .i64 c] #[.int .i64 k', .int .i64 f', .int .i64 r', .bool m', .int .i64 c'] from HB.out.2)
  clear hp hn ha hd hb hv hW0
  obtain ⟨c0, c1, c2, c3, c4⟩ := cells5 T0.out.1
  go_enter Tryd.func4, Tryd.ntmps4
  go_wp2_with fail
  rw [HWE.out]
  go_at_call 6
  refine (hEnc_is HU.out HUE.out _ (HP.out.old HB.out.1)).mono ?_
  rintro e w1 ⟨rfl, o⟩
  have O1 := Lib.hid (HB.out.1.trans o)
  have T1 := Lib.hid (T0.out.old o)
  clear o c0 c1 c2 c3 c4
  obtain ⟨d0, d1, d2, d3, d4⟩ := cells5 T1.out.2
  go_wp2_with fail
  go_at_call 6
  refine (hEnc_is HV.out HVE.out _ (HP.out.old O1.out)).mono ?_
  rintro e w2 ⟨rfl, o⟩
  have O2 := Lib.hid (O1.out.trans o)
  have T2 := Lib.hid (T1.out.old o)
  clear o d0 d1 d2 d3 d4
  obtain ⟨c0, c1, c2, c3, c4⟩ := cells5 T2.out.1
  obtain ⟨d0, d1, d2, d3, d4⟩ := cells5 T2.out.2
  go_wp2_with fail
  go_at_call 8
  refine (HD.out _ (HP.out.old O2.out)).mono ?_
  rintro e w5 ⟨rfl, o⟩
  have O5 := Lib.hid (O2.out.trans o)
  clear o c0 c1 c2 c3 c4 d0 d1 d2 d3 d4
  obtain ⟨W6, hW6, HB6⟩ := box_head w5 0 0 0 false 0
  have HW6 := Lib.hid hW6
  have O6 := Lib.hid (O5.out.trans HB6.out.1)
  clear hW6
  go_upto_region 10 with fail
  rw [HW6.out]
  obtain ⟨c0, c1, c2, c3, c4⟩ := cells5 HB6.out.2
  go_wp2_with fail
  go_at_call 16
  refine (awake07_any _ (HP.out.old O6.out)).mono ?_
  rintro e w9 ⟨rfl, o⟩
  have O9 := Lib.hid (O6.out.trans o)
  clear o
  go_wp2
  go_ret
  exact ⟨rfl, O9.out⟩

set_option maxRecDepth 100000 in
set_option maxHeartbeats 4000000 in
theorem hback_none0 (k f r : Int) (m : Bool) (c : Int) (k' f' r' : Int) (m' : Bool) (c' : Int) {n : Nat} (hn : n < full) (ha : hmay k f r c = false) (hb : hmay k' f' r' c' = false) (hd : wOk n = false) (w : World) (hp : Par w) : Calls Tryd.prog 4 #[.agg #[.int .i64 k, .int .i64 f, .int .i64 r, .bool m, .int .i64 c], .agg #[.int .i64 k', .int .i64 f', .int .i64 r', .bool m', .int .i64 c'], .int .u64 n] w fun e w' => e = .returned (.bool true) ∧ Only nob w w' := by
  have HP := Lib.hid hp
  have HU := Lib.hid (hEW_no m ha)
  have HUE := Lib.hid (hEE_no ha)
  have HV := Lib.hid (hEW_no m' hb)
  have HVE := Lib.hid (hEE_no hb)
  obtain ⟨h1, h2, h3, h4, h5, h6⟩ := o_no hd
  have hD0 := decAt_word hn (u := n) rfl
  rw [h1, h2, h3, h4, h5, h6] at hD0
  have HD := Lib.hid hD0
  have ez : ∀ w : World, (Op.equalIn 10000 23 (.agg #[.int .i64 0, .int .i64 0, .int .i64 0, .bool false, .int .i64 0]) (.agg #[.int .i64 0, .int .i64 0, .int .i64 0, .bool false, .int .i64 0])).run Tryd.prog w = .ok true w := fun w => hsame_self 0 0 0 false 0 ▸ eqHead 0 0 0 false 0 0 0 0 false 0 w
  clear h1 h2 h3 h4 h5 h6 hD0
  obtain ⟨W, hW0, HB⟩ := box_heads w k f r m c k' f' r' m' c'
  have HWE := Lib.hid hW0
  have T0 := Lib.hid (show Two7 W w.heap.size #[.int .i64 k, .int .i64 f, .int .i64 r, .bool m, .int .i64 c] #[.int .i64 k', .int .i64 f', .int .i64 r', .bool m', .int .i64 c'] from HB.out.2)
  clear hp hn ha hd hb hW0
  obtain ⟨c0, c1, c2, c3, c4⟩ := cells5 T0.out.1
  go_enter Tryd.func4, Tryd.ntmps4
  go_wp2_with fail
  rw [HWE.out]
  go_at_call 6
  refine (hEnc_is HU.out HUE.out _ (HP.out.old HB.out.1)).mono ?_
  rintro e w1 ⟨rfl, o⟩
  have O1 := Lib.hid (HB.out.1.trans o)
  have T1 := Lib.hid (T0.out.old o)
  clear o c0 c1 c2 c3 c4
  obtain ⟨d0, d1, d2, d3, d4⟩ := cells5 T1.out.2
  go_wp2_with fail
  go_at_call 6
  refine (hEnc_is HV.out HVE.out _ (HP.out.old O1.out)).mono ?_
  rintro e w2 ⟨rfl, o⟩
  have O2 := Lib.hid (O1.out.trans o)
  have T2 := Lib.hid (T1.out.old o)
  clear o d0 d1 d2 d3 d4
  obtain ⟨c0, c1, c2, c3, c4⟩ := cells5 T2.out.1
  obtain ⟨d0, d1, d2, d3, d4⟩ := cells5 T2.out.2
  go_wp2_with fail
  go_at_call 8
  refine (HD.out _ (HP.out.old O2.out)).mono ?_
  rintro e w5 ⟨rfl, o⟩
  have O5 := Lib.hid (O2.out.trans o)
  clear o c0 c1 c2 c3 c4 d0 d1 d2 d3 d4
  obtain ⟨W6, hW6, HB6⟩ := box_head w5 0 0 0 false 0
  have HW6 := Lib.hid hW6
  have O6 := Lib.hid (O5.out.trans HB6.out.1)
  clear hW6
  go_upto_region 10 with fail
  rw [HW6.out]
  obtain ⟨c0, c1, c2, c3, c4⟩ := cells5 HB6.out.2
  go_wp2_with fail
  go_at_call 16
  refine (awake07_any _ (HP.out.old O6.out)).mono ?_
  rintro e w9 ⟨rfl, o⟩
  have O9 := Lib.hid (O6.out.trans o)
  clear o
  go_wp2
  go_ret
  exact ⟨rfl, O9.out⟩

theorem headBack_walk (k f r : Int) (m : Bool) (c k' f' r' : Int) (m' : Bool) (c' : Int) {n : Nat} (hn : n < full) (w : World) (hp : Par w) : Calls Tryd.prog 4 #[.agg #[.int .i64 k, .int .i64 f, .int .i64 r, .bool m, .int .i64 c], .agg #[.int .i64 k', .int .i64 f', .int .i64 r', .bool m', .int .i64 c'], .int .u64 n] w fun e w' => e = .returned (.bool true) ∧ Below w.heap.size w w' := by
  refine Calls.mono (R := fun e w' => e = .returned (.bool true) ∧ Only nob w w') ?_ fun e w' h => ⟨h.1, h.2.whole⟩
  rcases ha : hmay k f r c with _ | _ <;> rcases hb : hmay k' f' r' c' with _ | _ <;> rcases hd : wOk n with _ | _
  · exact hback_none0 k f r m c k' f' r' m' c' hn ha hb hd w hp
  · exact hback_none1 k f r m c k' f' r' m' c' hn ha hb hd w hp
  · exact hback_b0 k f r m c k' f' r' m' c' hn ha hb hd w hp
  · exact hback_b1 k f r m c k' f' r' m' c' hn ha hb hd w hp
  · exact hback_a0 k f r m c k' f' r' m' c' hn ha hb hd w hp
  · exact hback_a1 k f r m c k' f' r' m' c' hn ha hb hd w hp
  · by_cases hne : k = k' ∧ f = f' ∧ r = r' ∧ m = m' ∧ c = c'
    · obtain ⟨rfl, rfl, rfl, rfl, rfl⟩ := hne
      exact hback_same0 k f r m c hn ha hd w hp
    · exact hback_diff0 k f r m c k' f' r' m' c' hn ha hb hne hd w hp
  · by_cases hne : k = k' ∧ f = f' ∧ r = r' ∧ m = m' ∧ c = c'
    · obtain ⟨rfl, rfl, rfl, rfl, rfl⟩ := hne
      exact hback_same1 k f r m c hn ha hd w hp
    · exact hback_diff1 k f r m c k' f' r' m' c' hn ha hb hne hd w hp
end Go.Proofs.YtlgljnimfpiahaaDoor
