/- Headers as words: the document's own answers. -/
import Derived.Test.YtlejicbnobfldaaDoorHead
namespace Go.Proofs.YtlejicbnobfldaaDoor
open Go.RowKit

theorem ret_pair {a b : Int} {y : Value} (h : a = b) : Ending.returned (.tuple #[.int .u64 a, y]) = .returned (.tuple #[.int .u64 b, y]) := by rw [h]
theorem hmay_no {k f r c : Int} (h : ¬ ((0 ≤ k ∧ k ≤ 31) ∧ (0 ≤ f ∧ f ≤ 4096) ∧ (0 ≤ r ∧ r ≤ 4096) ∧ 0 ≤ c ∧ c ≤ 1048576)) : hmay k f r c = false := by
  rcases hb : hmay k f r c with _ | _
  · rfl
  · exact absurd (hmay_iff.1 hb) h
theorem refMay07_any (k f r : Int) (m : Bool) (c : Int) (w : World) : Calls Tryd.prog 39 #[.agg #[.int .i64 k, .int .i64 f, .int .i64 r, .bool m, .int .i64 c]] w fun e w' => e = .returned (.bool (hmay k f r c)) ∧ Only nob w w' := by
  by_cases h0 : 0 ≤ k
  case neg =>
    have HM := Lib.hid (show hmay k f r c = false from hmay_no (by omega))
    go_enter Tryd.func39, Tryd.ntmps39
    go_wp2
    go_ret
    exact ⟨ret_bool (by rw [HM.out]), (Only.refl _ _).alloc _⟩
  by_cases h1 : k ≤ 31
  case neg =>
    have HM := Lib.hid (show hmay k f r c = false from hmay_no (by omega))
    go_enter Tryd.func39, Tryd.ntmps39
    go_wp2
    go_ret
    exact ⟨ret_bool (by rw [HM.out]), (Only.refl _ _).alloc _⟩
  by_cases h2 : 0 ≤ f
  case neg =>
    have HM := Lib.hid (show hmay k f r c = false from hmay_no (by omega))
    go_enter Tryd.func39, Tryd.ntmps39
    go_wp2
    go_ret
    exact ⟨ret_bool (by rw [HM.out]), (Only.refl _ _).alloc _⟩
  by_cases h3 : f ≤ 4096
  case neg =>
    have HM := Lib.hid (show hmay k f r c = false from hmay_no (by omega))
    go_enter Tryd.func39, Tryd.ntmps39
    go_wp2
    go_ret
    exact ⟨ret_bool (by rw [HM.out]), (Only.refl _ _).alloc _⟩
  by_cases h4 : 0 ≤ r
  case neg =>
    have HM := Lib.hid (show hmay k f r c = false from hmay_no (by omega))
    go_enter Tryd.func39, Tryd.ntmps39
    go_wp2
    go_ret
    exact ⟨ret_bool (by rw [HM.out]), (Only.refl _ _).alloc _⟩
  by_cases h5 : r ≤ 4096
  case neg =>
    have HM := Lib.hid (show hmay k f r c = false from hmay_no (by omega))
    go_enter Tryd.func39, Tryd.ntmps39
    go_wp2
    go_ret
    exact ⟨ret_bool (by rw [HM.out]), (Only.refl _ _).alloc _⟩
  by_cases h6 : 0 ≤ c
  case neg =>
    have HM := Lib.hid (show hmay k f r c = false from hmay_no (by omega))
    go_enter Tryd.func39, Tryd.ntmps39
    go_wp2
    go_ret
    exact ⟨ret_bool (by rw [HM.out]), (Only.refl _ _).alloc _⟩
  by_cases h7 : c ≤ 1048576
  case neg =>
    have HM := Lib.hid (show hmay k f r c = false from hmay_no (by omega))
    go_enter Tryd.func39, Tryd.ntmps39
    go_wp2
    go_ret
    exact ⟨ret_bool (by rw [HM.out]), (Only.refl _ _).alloc _⟩
  have HM := Lib.hid (show hmay k f r c = true from hmay_iff.2 (by omega))
  go_enter Tryd.func39, Tryd.ntmps39
  go_wp2
  go_ret
  exact ⟨ret_bool (by rw [HM.out]), (Only.refl _ _).alloc _⟩

theorem refSize07_any (k f r : Int) (m : Bool) (c : Int) (w : World) : Calls Tryd.prog 25 #[.agg #[.int .i64 k, .int .i64 f, .int .i64 r, .bool m, .int .i64 c]] w fun e w' => e = .returned (.int .i64 (hSz k f r c)) ∧ Only nob w w' := by
  obtain ⟨W, hW0, HB⟩ := box_head w k f r m c
  have HWE := Lib.hid hW0
  obtain ⟨c0, c1, c2, c3, c4⟩ := cells5 HB.out.2
  clear hW0
  rcases hm : hmay k f r c with _ | _
  case' false => rw [hSz_no hm]
  case' true =>
    rw [hSz_yes hm]
    obtain ⟨-, ⟨b1, b2⟩, ⟨b3, b4⟩, -⟩ := hmay_iff.1 hm
  all_goals
    have HM := Lib.hid hm
    clear hm
    go_enter Tryd.func25, Tryd.ntmps25
    go_wp2_with fail
    rw [HWE.out]
    go_at_call 39
    refine (refMay07_any k f r m c _).mono ?_
    rw [HM.out]
    rintro e w1 ⟨rfl, o⟩
    have O1 := Lib.hid (HB.out.1.trans o)
    clear c0 c1 c2 c3 c4
    obtain ⟨c0, c1, c2, c3, c4⟩ := cells5 (HB.out.2.keep o id)
    clear o
    go_wp2
    go_ret
    exact ⟨rfl, O1.out⟩
/-- The numbers of a word, as the document's own answer computes them. -/
theorem u_div {n : Nat} (hn : n < full) (d : Nat) : IntKind.u64.wrap ((n : Int) / (d : Int)) = ((n / d : Nat) : Int) := by
  rw [← Int.natCast_ediv, wrap_id _ (Nat.lt_of_le_of_lt (Nat.div_le_self _ _) hn)]
theorem u_mod (a b : Nat) : ((a : Nat) : Int).tmod (b : Nat) = ((a % b : Nat) : Int) := by rw [Int.tmod_eq_emod_of_nonneg (by omega)]; rfl
theorem i_small {a : Nat} (h : a < 16777217) : wrap64 (a : Int) = (a : Int) := by unfold wrap64; omega
theorem ref_M {n : Nat} (hn : n < full) : ((IntKind.u64.wrap ((n : Int) / 4)).tmod 2 == 1) = wM n := by
  have e := u_div hn 4
  rw [show ((4 : Nat) : Int) = 4 from rfl] at e
  rw [e, show (2 : Int) = ((2 : Nat) : Int) from rfl, u_mod]
  unfold wM
  rw [Bool.eq_iff_iff]
  simp only [beq_iff_eq]
  omega
theorem ref_K {n : Nat} (hn : n < full) : wrap64 ((IntKind.u64.wrap ((n : Int) / 8)).tmod 32) = wK n := by
  have e := u_div hn 8
  rw [show ((8 : Nat) : Int) = 8 from rfl] at e
  rw [e, show (32 : Int) = ((32 : Nat) : Int) from rfl, u_mod, i_small (by omega)]
  rfl
theorem ref_F {n : Nat} (hn : n < full) : wrap64 ((IntKind.u64.wrap ((n : Int) / 256)).tmod 65536) = wF n := by
  have e := u_div hn 256
  rw [show ((256 : Nat) : Int) = 256 from rfl] at e
  rw [e, show (65536 : Int) = ((65536 : Nat) : Int) from rfl, u_mod, i_small (by omega)]
  rfl
theorem ref_R {n : Nat} (hn : n < full) : wrap64 ((IntKind.u64.wrap ((n : Int) / 16777216)).tmod 65536) = wR n := by
  have e := u_div hn 16777216
  rw [show ((16777216 : Nat) : Int) = 16777216 from rfl] at e
  rw [e, show (65536 : Int) = ((65536 : Nat) : Int) from rfl, u_mod, i_small (by omega)]
  rfl
theorem ref_C {n : Nat} (hn : n < full) : wrap64 (IntKind.u64.wrap ((n : Int) / 1099511627776)) = wC n := by
  have e := u_div hn 1099511627776
  rw [show ((1099511627776 : Nat) : Int) = 1099511627776 from rfl] at e
  rw [e, i_small (by unfold full at hn; omega)]
  rfl
theorem ref_t (n : Nat) : ((n : Int)).tmod 4 = ((n % 4 : Nat) : Int) := u_mod n 4
/-- The world in which the document's Dec has made its header. -/
theorem dec_world (w : World) (k f r : Int) (m : Bool) (c : Int) : ∃ W, ((w.alloc (.cells #[.int .i64 0, .int .i64 0, .int .i64 0, .bool false, .int .i64 0] 45)).alloc (.cells #[.int .i64 k, .int .i64 f, .int .i64 r, .bool m, .int .i64 c] 45)) = W ∧
    Hid (Only nob w W ∧ Blk W w.heap.size 45 #[.int .i64 0, .int .i64 0, .int .i64 0, .bool false, .int .i64 0] ∧ Blk W (w.heap.size + 1) 45 #[.int .i64 k, .int .i64 f, .int .i64 r, .bool m, .int .i64 c]) :=
  ⟨_, rfl, ((Only.refl nob w).alloc _).alloc _, (Blk.newAt _ _ _ _ rfl).alloc _, Blk.newAt _ _ _ _ (by simp)⟩

set_option maxRecDepth 100000 in
set_option maxHeartbeats 1000000 in
theorem refDec07_tag {n : Nat} (hn : n < full) (h : ¬ n % 4 = 3) (w : World) : Calls Tryd.prog 38 #[.int .u64 n] w fun e w' => e = .returned (.tuple #[.agg #[.int .i64 0, .int .i64 0, .int .i64 0, .bool false, .int .i64 0], .int .i64 3]) ∧ Only nob w w' := by
  have EM := Lib.hid (ref_M hn)
  have EK := Lib.hid (ref_K hn)
  have EF := Lib.hid (ref_F hn)
  have ER := Lib.hid (ref_R hn)
  have EC := Lib.hid (ref_C hn)
  have ht : ¬ ((n : Int) % 4 = 3) := by omega
  obtain ⟨W, hW0, HB⟩ := dec_world w (wK n) (wF n) (wR n) (wM n) (wC n)
  have HWE := Lib.hid hW0
  clear hW0 h hn
  go_enter Tryd.func38, Tryd.ntmps38
  go_upto_region 2 with fail
  rw [EM.out, EK.out, EF.out, ER.out, EC.out, HWE.out]
  obtain ⟨s0, s1, s2, s3, s4⟩ := cells5 HB.out.2.1
  obtain ⟨r0, r1, r2, r3, r4⟩ := frees5 HB.out.2.1
  go_wp2
  clear s0 s1 s2 s3 s4 r0 r1 r2 r3 r4
  obtain ⟨W6, hW6, O6, B6⟩ := puts5 HB.out.1 (Nat.le_refl _) HB.out.2.1 (.int .i64 0) (.int .i64 0) (.int .i64 0) (.bool false) (.int .i64 0)
  with_reducible rw [hW6]
  obtain ⟨h0, h1, h2, h3, h4⟩ := cells5 B6
  exact bodyPost_ret (v := .tuple #[.agg #[.int .i64 0, .int .i64 0, .int .i64 0, .bool false, .int .i64 0], .int .i64 3]) (by simp [results, Tryd.results38, go_sem, h0, h1, h2, h3, h4]) rfl ⟨rfl, O6⟩
set_option maxRecDepth 100000 in
set_option maxHeartbeats 1000000 in
theorem refDec07_no {n : Nat} (hn : n < full) (h : n % 4 = 3) (hm : hmay (wK n) (wF n) (wR n) (wC n) = false) (w : World) : Calls Tryd.prog 38 #[.int .u64 n] w fun e w' => e = .returned (.tuple #[.agg #[.int .i64 0, .int .i64 0, .int .i64 0, .bool false, .int .i64 0], .int .i64 3]) ∧ Only nob w w' := by
  have EM := Lib.hid (ref_M hn)
  have EK := Lib.hid (ref_K hn)
  have EF := Lib.hid (ref_F hn)
  have ER := Lib.hid (ref_R hn)
  have EC := Lib.hid (ref_C hn)
  have ht : (n : Int) % 4 = 3 := by omega
  have HM := Lib.hid hm
  clear hm
  obtain ⟨W, hW0, HB⟩ := dec_world w (wK n) (wF n) (wR n) (wM n) (wC n)
  have HWE := Lib.hid hW0
  clear hW0 h hn
  go_enter Tryd.func38, Tryd.ntmps38
  go_upto_region 2 with fail
  rw [EM.out, EK.out, EF.out, ER.out, EC.out, HWE.out]
  obtain ⟨c0, c1, c2, c3, c4⟩ := cells5 HB.out.2.2
  go_wp2_with fail
  go_at_call 39
  refine (refMay07_any _ _ _ _ _ _).mono ?_
  rw [HM.out]
  rintro e w1 ⟨rfl, o⟩
  have O1 := Lib.hid (HB.out.1.trans o)
  have B1 := Lib.hid (HB.out.2.1.keep o id)
  obtain ⟨s0, s1, s2, s3, s4⟩ := cells5 B1.out
  obtain ⟨r0, r1, r2, r3, r4⟩ := frees5 B1.out
  clear c0 c1 c2 c3 c4
  obtain ⟨c0, c1, c2, c3, c4⟩ := cells5 (HB.out.2.2.keep o id)
  clear o
  go_wp2
  clear s0 s1 s2 s3 s4 r0 r1 r2 r3 r4 c0 c1 c2 c3 c4
  obtain ⟨W6, hW6, O6, B6⟩ := puts5 O1.out (Nat.le_refl _) B1.out (.int .i64 0) (.int .i64 0) (.int .i64 0) (.bool false) (.int .i64 0)
  with_reducible rw [hW6]
  obtain ⟨h0, h1, h2, h3, h4⟩ := cells5 B6
  exact bodyPost_ret (v := .tuple #[.agg #[.int .i64 0, .int .i64 0, .int .i64 0, .bool false, .int .i64 0], .int .i64 3]) (by simp [results, Tryd.results38, go_sem, h0, h1, h2, h3, h4]) rfl ⟨rfl, O6⟩
set_option maxRecDepth 100000 in
set_option maxHeartbeats 1000000 in
theorem refDec07_yes {n : Nat} (hn : n < full) (h : n % 4 = 3) (hm : hmay (wK n) (wF n) (wR n) (wC n) = true) (w : World) : Calls Tryd.prog 38 #[.int .u64 n] w fun e w' => e = .returned (.tuple #[.agg #[.int .i64 (wK n), .int .i64 (wF n), .int .i64 (wR n), .bool (wM n), .int .i64 (wC n)], .int .i64 0]) ∧ Only nob w w' := by
  have EM := Lib.hid (ref_M hn)
  have EK := Lib.hid (ref_K hn)
  have EF := Lib.hid (ref_F hn)
  have ER := Lib.hid (ref_R hn)
  have EC := Lib.hid (ref_C hn)
  have ht : (n : Int) % 4 = 3 := by omega
  have HM := Lib.hid hm
  clear hm
  obtain ⟨W, hW0, HB⟩ := dec_world w (wK n) (wF n) (wR n) (wM n) (wC n)
  have HWE := Lib.hid hW0
  clear hW0 h hn
  go_enter Tryd.func38, Tryd.ntmps38
  go_upto_region 2 with fail
  rw [EM.out, EK.out, EF.out, ER.out, EC.out, HWE.out]
  obtain ⟨c0, c1, c2, c3, c4⟩ := cells5 HB.out.2.2
  go_wp2_with fail
  go_at_call 39
  refine (refMay07_any _ _ _ _ _ _).mono ?_
  rw [HM.out]
  rintro e w1 ⟨rfl, o⟩
  have O1 := Lib.hid (HB.out.1.trans o)
  have B1 := Lib.hid (HB.out.2.1.keep o id)
  obtain ⟨s0, s1, s2, s3, s4⟩ := cells5 B1.out
  obtain ⟨r0, r1, r2, r3, r4⟩ := frees5 B1.out
  clear c0 c1 c2 c3 c4
  obtain ⟨c0, c1, c2, c3, c4⟩ := cells5 (HB.out.2.2.keep o id)
  clear o
  go_wp2
  clear s0 s1 s2 s3 s4 r0 r1 r2 r3 r4 c0 c1 c2 c3 c4
  obtain ⟨W6, hW6, O6, B6⟩ := puts5 O1.out (Nat.le_refl _) B1.out (.int .i64 (wK n)) (.int .i64 (wF n)) (.int .i64 (wR n)) (.bool (wM n)) (.int .i64 (wC n))
  with_reducible rw [hW6]
  obtain ⟨h0, h1, h2, h3, h4⟩ := cells5 B6
  exact bodyPost_ret (v := .tuple #[.agg #[.int .i64 (wK n), .int .i64 (wF n), .int .i64 (wR n), .bool (wM n), .int .i64 (wC n)], .int .i64 0]) (by simp [results, Tryd.results38, go_sem, h0, h1, h2, h3, h4]) rfl ⟨rfl, O6⟩
theorem refDec07_any {n : Nat} (hn : n < full) (w : World) : Calls Tryd.prog 38 #[.int .u64 n] w fun e w' => e = .returned (.tuple #[.agg #[.int .i64 (oK n), .int .i64 (oF n), .int .i64 (oR n), .bool (oM n), .int .i64 (oC n)], .int .i64 (oE n)]) ∧ Only nob w w' := by
  by_cases h : n % 4 = 3
  · rcases hm : hmay (wK n) (wF n) (wR n) (wC n) with _ | _
    · obtain ⟨h1, h2, h3, h4, h5, h6⟩ := o_no (n := n) (by unfold wOk; rw [hm, Bool.and_false])
      rw [h1, h2, h3, h4, h5, h6]
      exact refDec07_no hn h hm w
    · obtain ⟨h1, h2, h3, h4, h5, h6⟩ := o_yes (n := n) (by unfold wOk; rw [hm, h]; rfl)
      rw [h1, h2, h3, h4, h5, h6]
      exact refDec07_yes hn h hm w
  · obtain ⟨h1, h2, h3, h4, h5, h6⟩ := o_no (n := n) (by unfold wOk; rw [beq_eq_false_iff_ne.2 h, Bool.false_and])
    rw [h1, h2, h3, h4, h5, h6]
    exact refDec07_tag hn h w
end Go.Proofs.YtlejicbnobfldaaDoor
