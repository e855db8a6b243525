/- What the statements of layer 8 answer where sizes are too big, and ObjectNobody. -/
import Derived.Test.YtffbemfgibleeaaDoorObjD
namespace Go.Proofs.YtffbemfgibleeaaDoor
open Go.RowKit

def ex1 : List Nat := [0, 0, 16777739, 0, 0, 0, 0, 0]
def ex2 : List Nat := [0, 0, 16777739, 0, 22, 0, 0, 0]
def ex3 : List Nat := [0, 0, 16777739, 0, 22, 7, 0, 0]

set_option maxRecDepth 100000 in
set_option maxHeartbeats 2000000 in
theorem awake08_any (w : World) (ht : Par w) : Calls Tryd.prog 6 #[] w fun e w' => e = .returned (.bool true) ∧ Only nob w w' := by
  have HTab := Lib.hid ht
  clear ht
  go_enter Tryd.func6, Tryd.ntmps6
  go_wp2_with fail
  go_at_call 21
  refine (new_any 8 _ (by decide)).mono ?_
  rintro e w1 ⟨b, g, rfl, hb, hg, hA, o⟩
  have O1 := Lib.hid o
  have A1 := Lib.hid hA
  have HG := Lib.hid hg
  clear o hA hb hg
  go_wp2_with fail
  go_at_call 19
  refine (oPut_any b g _ 2 1 2 1 false 0 _ A1.out (HTab.out.old O1.out) (by decide)).mono ?_
  rw [show ptE (List.replicate 8 0) 2 1 2 1 0 = 0 by decide, show ptL (List.replicate 8 0) 2 1 2 1 false 0 = ex1 by decide]
  rintro e w2 ⟨rfl, hA, o⟩
  have O2 := Lib.hid (O1.out.andThen o fun i hi e => by have := HG.out; unfold isb at e; omega)
  have A2 := Lib.hid hA
  clear o hA
  go_wp2_with fail
  go_at_call 17
  refine (oSetField_any b g _ 2 1 22 _ A2.out (HTab.out.old O2.out) (by decide) (by decide)).mono ?_
  rw [show stE false ex1 2 1 22 = 0 by decide, show stL false ex1 2 1 22 = ex2 by decide]
  rintro e w3 ⟨rfl, hA, o⟩
  have O3 := Lib.hid (O2.out.andThen o fun i hi e => by have := HG.out; unfold isb at e; omega)
  have A3 := Lib.hid hA
  clear o hA
  go_wp2_with fail
  go_at_call 18
  refine (oSetRaw_any b g _ 2 0 7 _ A3.out (HTab.out.old O3.out) (by decide) (by decide)).mono ?_
  rw [show stE true ex2 2 0 7 = 0 by decide, show stL true ex2 2 0 7 = ex3 by decide]
  rintro e w4 ⟨rfl, hA, o⟩
  have O4 := Lib.hid (O3.out.andThen o fun i hi e => by have := HG.out; unfold isb at e; omega)
  have A4 := Lib.hid hA
  clear o hA
  go_wp2_with fail
  go_at_call 12
  refine (oHead_any b g _ 2 _ A4.out (HTab.out.old O4.out) (by decide)).mono ?_
  rw [show ohK ex3 2 = 1 by decide, show ohF ex3 2 = 2 by decide, show ohR ex3 2 = 1 by decide, show ohM ex3 2 = false by decide, show ohC ex3 2 = 0 by decide, show ohE ex3 2 = 0 by decide]
  rintro e w5 ⟨rfl, o⟩
  obtain ⟨W6, hW6, HB6⟩ := box_head w5 1 2 1 false 0
  have HW6 := Lib.hid hW6
  have O6 := Lib.hid (O4.out.trans (o.trans HB6.out.1))
  have A6 := Lib.hid (A4.out.keep (o.trans HB6.out.1) id id)
  clear hW6 o
  go_wp2_with fail
  rw [HW6.out]
  go_at_call 14
  refine (oField_any b g _ 2 1 _ A6.out (HTab.out.old O6.out) (by decide)).mono ?_
  rw [show rdW false ex3 2 1 = 22 by decide, show plE false ex3 2 1 = 0 by decide]
  rintro e w7 ⟨rfl, o⟩
  have O7 := Lib.hid (O6.out.trans o)
  have A7 := Lib.hid (A6.out.keep o id id)
  have B7 := Lib.hid (HB6.out.2.keep o id)
  clear o
  go_wp2_with fail
  go_at_call 22
  refine (read_ar b g _ 5 _ A7.out (by decide)).mono ?_
  rw [show wd ex3 5 = 7 by decide]
  rintro e w8 ⟨rfl, rfl⟩
  go_wp2_with fail
  go_at_call 16
  refine (oRaw_any b g _ 2 1 _ A7.out (HTab.out.old O7.out) (by decide)).mono ?_
  rw [show rdW true ex3 2 1 = 0 by decide, show plE true ex3 2 1 = 1 by decide]
  rintro e w9 ⟨rfl, o⟩
  have O9 := Lib.hid (O7.out.trans o)
  have A9 := Lib.hid (A7.out.keep o id id)
  have B9 := Lib.hid (B7.out.keep o id)
  clear o
  obtain ⟨c0, c1, c2, c3, c4⟩ := cells5 B9.out
  go_wp2_with fail
  go_at_call 19
  refine (oPut_any b g _ 5 1 2 1 false 0 _ A9.out (HTab.out.old O9.out) (by decide)).mono ?_
  rw [show ptE ex3 5 1 2 1 0 = 2 by decide, show ptL ex3 5 1 2 1 false 0 = ex3 by decide]
  rintro e w10 ⟨rfl, hA, o⟩
  have O10 := Lib.hid (O9.out.andThen o fun i hi e => by have := HG.out; unfold isb at e; omega)
  have A10 := Lib.hid hA
  have B10 := Lib.hid (B9.out.keep o fun e => A9.out.row.ne B9.out (by decide) e.symm)
  clear o hA c0 c1 c2 c3 c4
  obtain ⟨c0, c1, c2, c3, c4⟩ := cells5 B10.out
  go_wp2_with fail
  go_at_call 17
  refine (oSetField_any b g _ 2 0 3 _ A10.out (HTab.out.old O10.out) (by decide) (by decide)).mono ?_
  rw [show stE false ex3 2 0 3 = 3 by decide, show stL false ex3 2 0 3 = ex3 by decide]
  rintro e w11 ⟨rfl, hA, o⟩
  have O11 := Lib.hid (O10.out.andThen o fun i hi e => by have := HG.out; unfold isb at e; omega)
  have A11 := Lib.hid hA
  have B11 := Lib.hid (B10.out.keep o fun e => A10.out.row.ne B10.out (by decide) e.symm)
  clear o hA c0 c1 c2 c3 c4
  obtain ⟨c0, c1, c2, c3, c4⟩ := cells5 B11.out
  go_wp2_with fail
  go_at_call 20
  refine (oSetHead_any b g _ 2 0 3 0 false 0 _ A11.out (HTab.out.old O11.out) (by decide)).mono ?_
  rw [show shE ex3 2 0 3 0 0 = 0 by decide]
  rintro e w12 ⟨rfl, -, o⟩
  have O12 := Lib.hid (O11.out.andThen o fun i hi e => by have := HG.out; unfold isb at e; omega)
  have B12 := Lib.hid (B11.out.keep o fun e => A11.out.row.ne B11.out (by decide) e.symm)
  clear o c0 c1 c2 c3 c4
  obtain ⟨c0, c1, c2, c3, c4⟩ := cells5 B12.out
  go_wp2_with fail
  go_at_call 19
  refine (oPut_none _ 0 1 2 1 false 0 _ (.inl rfl) (HTab.out.old O12.out)).mono ?_
  rw [show pnE 1 2 1 0 = 10 by decide]
  rintro e w13 ⟨rfl, o⟩
  have O13 := Lib.hid (O12.out.trans o)
  clear o c0 c1 c2 c3 c4
  go_wp2
  go_ret
  exact ⟨rfl, O13.out⟩

set_option maxRecDepth 100000 in
set_option maxHeartbeats 2000000 in
theorem objectNobody_walk (a i k f r : Int) (m : Bool) (c x : Int) (w : World) (ht : Par w) :
    Calls Tryd.prog 5 #[.int .i64 a, .int .i64 i, .agg #[.int .i64 k, .int .i64 f, .int .i64 r, .bool m, .int .i64 c], .int .u64 x] w fun e w' => e = .returned (.bool true) ∧ Below w.heap.size w w' := by
  obtain ⟨W, hW0, HB⟩ := box_head w k f r m c
  have HWE := Lib.hid hW0
  obtain ⟨V, hV, HV⟩ : ∃ V, W.alloc (.cells #[.bool false, .slice none 0 0] 49) = V ∧ Hid (Only nob W V ∧ NoAr V (.pointer (some ⟨W.heap.size, 0, none⟩))) := ⟨_, rfl, (Only.refl nob W).alloc _, .inr ⟨_, rfl, Blk.new _ _ _⟩⟩
  have HVE := Lib.hid hV
  have O0 := Lib.hid (HB.out.1.trans HV.out.1)
  have HTab := Lib.hid (ht.old O0.out)
  have B0 := Lib.hid (HB.out.2.keep HV.out.1 id)
  have N0 := Lib.hid HV.out.2
  clear hW0 hV ht
  have hpn : pnE k f r c = 10 ∨ pnE k f r c = 1 := by unfold pnE; split <;> simp
  rcases hpn with hpn | hpn
  all_goals
    have HPN := Lib.hid hpn
    clear hpn
    go_enter Tryd.func5, Tryd.ntmps5
    go_upto_region 1 with fail
    rw [HWE.out]
    go_wp2_with fail
    rw [HVE.out]
    go_at_call 12
    refine (oHead_none _ a _ N0.out).mono ?_
    rintro e w1 ⟨rfl, o⟩
    obtain ⟨W2, hW2, HB2⟩ := zero_head w1
    have HW2 := Lib.hid hW2
    have O2 := Lib.hid (o.trans HB2.out.1)
    clear hW2 o
    go_wp2_with fail
    rw [HW2.out]
    go_at_call 14
    refine (oField_none _ a i _ (.inl rfl)).mono ?_
    rintro e w3 ⟨rfl, o⟩
    have O3 := Lib.hid (O2.out.trans o)
    clear o
    go_wp2_with fail
    go_at_call 16
    refine (oRaw_none _ a i _ (N0.out.keep O3.out)).mono ?_
    rintro e w4 ⟨rfl, o⟩
    have O4 := Lib.hid (O3.out.trans o)
    have B4 := Lib.hid (B0.out.keep O4.out id)
    clear o
    obtain ⟨c0, c1, c2, c3, c4⟩ := cells5 B4.out
    go_wp2_with fail
    go_at_call 19
    refine (oPut_none _ a k f r m c _ (N0.out.keep O4.out) (HTab.out.old O4.out)).mono ?_
    rw [HPN.out]
    rintro e w5 ⟨rfl, o⟩
    have O5 := Lib.hid (O4.out.trans o)
    have B5 := Lib.hid (B4.out.keep o id)
    clear o c0 c1 c2 c3 c4
    obtain ⟨c0, c1, c2, c3, c4⟩ := cells5 B5.out
    go_wp2_with fail
    go_at_call 17
    refine (oSetField_none _ a i x _ (N0.out.keep O5.out)).mono ?_
    rintro e w6 ⟨rfl, o⟩
    have O6 := Lib.hid (O5.out.trans o)
    clear o c0 c1 c2 c3 c4
    go_wp2_with fail
    go_at_call 18
    refine (oSetRaw_none _ a i x _ (.inl rfl)).mono ?_
    rintro e w7 ⟨rfl, o⟩
    have O7 := Lib.hid (O6.out.trans o)
    have B7 := Lib.hid (B0.out.keep O7.out id)
    clear o
    obtain ⟨c0, c1, c2, c3, c4⟩ := cells5 B7.out
    go_wp2_with fail
    go_at_call 20
    refine (oSetHead_none _ a k f r m c _ (N0.out.keep O7.out)).mono ?_
    rintro e w8 ⟨rfl, o⟩
    have O8 := Lib.hid (O7.out.trans o)
    clear o c0 c1 c2 c3 c4
    go_wp2_with fail
    go_at_call 6
    refine (awake08_any _ (HTab.out.old O8.out)).mono ?_
    rintro e w9 ⟨rfl, o⟩
    have O9 := Lib.hid (O0.out.trans (O8.out.trans o))
    clear o
    go_wp2
    go_ret
    exact ⟨rfl, O9.out.whole⟩
end Go.Proofs.YtffbemfgibleeaaDoor
