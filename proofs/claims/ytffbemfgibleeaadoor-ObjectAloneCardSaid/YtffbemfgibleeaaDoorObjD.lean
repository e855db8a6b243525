/- Contracts of package object: there is none in nobody's arena. -/
import Derived.Test.YtffbemfgibleeaaDoorObjC
import Derived.Test.YtffbemfgibleeaaDoorArenaC
namespace Go.Proofs.YtffbemfgibleeaaDoor
open Go.RowKit

theorem NoAr.keep {w w' : World} {v : Value} (h : NoAr w v) (o : Only nob w w') : NoAr w' v := by
  rcases h with h | ⟨b, h1, h2⟩
  · exact .inl h
  · exact .inr ⟨b, h1, h2.keep o id⟩

set_option maxRecDepth 100000 in
set_option maxHeartbeats 1000000 in
theorem oHead_none (v : Value) (a : Int) (w : World) (h : NoAr w v) :
    Calls Tryd.prog 12 #[v, .int .i64 a] w fun e w' => e = .returned (.tuple #[.agg #[.int .i64 0, .int .i64 0, .int .i64 0, .bool false, .int .i64 0], .int .i64 10]) ∧ Only nob w w' := by
  obtain ⟨W, hW0, HB⟩ := zero_head w
  have HWE := Lib.hid hW0
  have HR := Lib.hid (read_none v a W (h.keep HB.out.1))
  clear hW0 h
  go_enter Tryd.func12, Tryd.ntmps12
  go_wp2_with fail
  rw [HWE.out]
  go_at_call 22
  refine HR.out.mono ?_
  rintro e w1 ⟨rfl, rfl⟩
  obtain ⟨s0, s1, s2, s3, s4⟩ := cells5 HB.out.2
  obtain ⟨r0, r1, r2, r3, r4⟩ := frees5 HB.out.2
  go_wp2
  clear s0 s1 s2 s3 s4 r0 r1 r2 r3 r4
  obtain ⟨W6, hW6, O6, B6⟩ := puts5 HB.out.1 (Nat.le_refl _) HB.out.2 (.int .i64 0) (.int .i64 0) (.int .i64 0) (.bool false) (.int .i64 0)
  with_reducible rw [hW6]
  obtain ⟨h0, h1, h2, h3, h4⟩ := cells5 B6
  exact bodyPost_ret (v := .tuple #[.agg #[.int .i64 0, .int .i64 0, .int .i64 0, .bool false, .int .i64 0], .int .i64 10]) (by simp [results, Tryd.results12, go_sem, h0, h1, h2, h3, h4]) rfl ⟨rfl, O6⟩

set_option maxRecDepth 100000 in
set_option maxHeartbeats 1000000 in
theorem fieldPlace_none (v : Value) (a i : Int) (w : World) (h : NoAr w v) :
    Calls Tryd.prog 34 #[v, .int .i64 a, .int .i64 i] w fun e w' => e = .returned (.tuple #[.int .i64 0, .int .i64 10]) ∧ Only nob w w' := by
  have HH := Lib.hid (oHead_none v a w h)
  clear h
  go_enter Tryd.func34, Tryd.ntmps34
  go_wp2_with fail
  go_at_call 12
  refine HH.out.mono ?_
  rintro e w1 ⟨rfl, o⟩
  obtain ⟨W3, hW3, HB3⟩ := zero_head w1
  have HW3 := Lib.hid hW3
  have O3 := Lib.hid (o.trans HB3.out.1)
  clear hW3 o
  go_upto_region 2 with fail
  rw [HW3.out]
  go_wp2
  go_ret2
  exact ⟨rfl, O3.out⟩

set_option maxRecDepth 100000 in
set_option maxHeartbeats 1000000 in
theorem rawPlace_none (v : Value) (a i : Int) (w : World) (h : NoAr w v) :
    Calls Tryd.prog 36 #[v, .int .i64 a, .int .i64 i] w fun e w' => e = .returned (.tuple #[.int .i64 0, .int .i64 10]) ∧ Only nob w w' := by
  have HH := Lib.hid (oHead_none v a w h)
  clear h
  go_enter Tryd.func36, Tryd.ntmps36
  go_wp2_with fail
  go_at_call 12
  refine HH.out.mono ?_
  rintro e w1 ⟨rfl, o⟩
  obtain ⟨W3, hW3, HB3⟩ := zero_head w1
  have HW3 := Lib.hid hW3
  have O3 := Lib.hid (o.trans HB3.out.1)
  clear hW3 o
  go_upto_region 2 with fail
  rw [HW3.out]
  go_wp2
  go_ret2
  exact ⟨rfl, O3.out⟩

theorem oField_none (v : Value) (a i : Int) (w : World) (h : NoAr w v) :
    Calls Tryd.prog 14 #[v, .int .i64 a, .int .i64 i] w fun e w' => e = .returned (.tuple #[.int .u64 0, .int .i64 10]) ∧ Only nob w w' := by
  have HH := Lib.hid (fieldPlace_none v a i w h)
  clear h
  go_enter Tryd.func14, Tryd.ntmps14
  go_wp2_with fail
  go_at_call 34
  refine HH.out.mono ?_
  rintro e w1 ⟨rfl, o⟩
  have O3 := Lib.hid o
  clear o
  go_wp2
  go_ret2
  exact ⟨rfl, O3.out⟩

theorem oRaw_none (v : Value) (a i : Int) (w : World) (h : NoAr w v) :
    Calls Tryd.prog 16 #[v, .int .i64 a, .int .i64 i] w fun e w' => e = .returned (.tuple #[.int .u64 0, .int .i64 10]) ∧ Only nob w w' := by
  have HH := Lib.hid (rawPlace_none v a i w h)
  clear h
  go_enter Tryd.func16, Tryd.ntmps16
  go_wp2_with fail
  go_at_call 36
  refine HH.out.mono ?_
  rintro e w1 ⟨rfl, o⟩
  have O3 := Lib.hid o
  clear o
  go_wp2
  go_ret2
  exact ⟨rfl, O3.out⟩

theorem oSetField_none (v : Value) (a i x : Int) (w : World) (h : NoAr w v) :
    Calls Tryd.prog 17 #[v, .int .i64 a, .int .i64 i, .int .u64 x] w fun e w' => e = .returned (.int .i64 10) ∧ Only nob w w' := by
  have HH := Lib.hid (fieldPlace_none v a i w h)
  clear h
  go_enter Tryd.func17, Tryd.ntmps17
  go_wp2_with fail
  go_at_call 34
  refine HH.out.mono ?_
  rintro e w1 ⟨rfl, o⟩
  have O3 := Lib.hid o
  clear o
  go_wp2
  go_ret
  exact ⟨rfl, O3.out⟩

theorem oSetRaw_none (v : Value) (a i x : Int) (w : World) (h : NoAr w v) :
    Calls Tryd.prog 18 #[v, .int .i64 a, .int .i64 i, .int .u64 x] w fun e w' => e = .returned (.int .i64 10) ∧ Only nob w w' := by
  have HH := Lib.hid (rawPlace_none v a i w h)
  clear h
  go_enter Tryd.func18, Tryd.ntmps18
  go_wp2_with fail
  go_at_call 36
  refine HH.out.mono ?_
  rintro e w1 ⟨rfl, o⟩
  have O3 := Lib.hid o
  clear o
  go_wp2
  go_ret
  exact ⟨rfl, O3.out⟩

set_option maxRecDepth 100000 in
set_option maxHeartbeats 1000000 in
theorem oSetHead_none (v : Value) (a k f r : Int) (m : Bool) (c : Int) (w : World) (h : NoAr w v) :
    Calls Tryd.prog 20 #[v, .int .i64 a, .agg #[.int .i64 k, .int .i64 f, .int .i64 r, .bool m, .int .i64 c]] w fun e w' => e = .returned (.int .i64 10) ∧ Only nob w w' := by
  obtain ⟨W, hW0, HB⟩ := box_head w k f r m c
  have HWE := Lib.hid hW0
  have HH := Lib.hid (oHead_none v a W (h.keep HB.out.1))
  clear hW0 h
  go_enter Tryd.func20, Tryd.ntmps20
  go_wp2_with fail
  rw [HWE.out]
  go_at_call 12
  refine HH.out.mono ?_
  rintro e w1 ⟨rfl, o⟩
  obtain ⟨W3, hW3, HB3⟩ := zero_head w1
  have HW3 := Lib.hid hW3
  have O3 := Lib.hid (HB.out.1.trans (o.trans HB3.out.1))
  clear hW3 o
  go_upto_region 2 with fail
  rw [HW3.out]
  go_wp2
  go_ret
  exact ⟨rfl, O3.out⟩

/-- Put's error in nobody's arena. -/
def pnE (k f r c : Int) : Int := if hmay k f r c = true then 10 else 1
set_option maxRecDepth 100000 in
set_option maxHeartbeats 1000000 in
theorem oPut_none (v : Value) (a k f r : Int) (m : Bool) (c : Int) (w : World) (h : NoAr w v) (hp : Par w) :
    Calls Tryd.prog 19 #[v, .int .i64 a, .agg #[.int .i64 k, .int .i64 f, .int .i64 r, .bool m, .int .i64 c]] w fun e w' => e = .returned (.int .i64 (pnE k f r c)) ∧ Only nob w w' := by
  obtain ⟨W, hW0, HB⟩ := box_head w k f r m c
  have HWE := Lib.hid hW0
  have HP := Lib.hid (hp.old HB.out.1)
  have HA := Lib.hid (h.keep HB.out.1)
  have HEnc := Lib.hid (hEnc_any k f r m c W HP.out)
  obtain ⟨c0, c1, c2, c3, c4⟩ := cells5 HB.out.2
  clear hW0 h hp
  rcases hm : hmay k f r c with _ | _
  · rw [show pnE k f r c = 1 by unfold pnE; rw [hm]; rfl]
    rw [hEW_no m hm, hEE_no hm] at HEnc
    clear hm
    go_enter Tryd.func19, Tryd.ntmps19
    go_wp2_with fail
    rw [HWE.out]
    go_at_call 39
    refine HEnc.out.mono ?_
    rintro e w1 ⟨rfl, o⟩
    have O1 := Lib.hid (HB.out.1.trans o)
    clear o c0 c1 c2 c3 c4
    go_wp2
    go_ret
    exact ⟨rfl, O1.out⟩
  · rw [show pnE k f r c = 10 by unfold pnE; rw [hm]; rfl]
    rw [hEE_yes hm] at HEnc
    generalize hEW k f r m c = x at *
    clear hm
    go_enter Tryd.func19, Tryd.ntmps19
    go_wp2_with fail
    rw [HWE.out]
    go_at_call 39
    refine HEnc.out.mono ?_
    rintro e w1 ⟨rfl, o⟩
    have O1 := Lib.hid (HB.out.1.trans o)
    have A1 := Lib.hid (HA.out.keep o)
    have P1 := Lib.hid (HP.out.old o)
    have B1 := Lib.hid (HB.out.2.keep o id)
    clear o c0 c1 c2 c3 c4
    obtain ⟨c0, c1, c2, c3, c4⟩ := cells5 B1.out
    go_wp2_with fail
    go_at_call 30
    refine (hSize_any k f r m c _ P1.out).mono ?_
    rintro e w2 ⟨rfl, o⟩
    have O2 := Lib.hid (O1.out.trans o)
    have A2 := Lib.hid (A1.out.keep o)
    clear o c0 c1 c2 c3 c4
    go_wp2_with fail
    go_at_call 40
    refine (fill_none v a _ 0 _ A2.out).mono ?_
    rintro e w3 ⟨rfl, rfl⟩
    go_wp2
    go_ret
    exact ⟨rfl, O2.out⟩
end Go.Proofs.YtffbemfgibleeaaDoor
