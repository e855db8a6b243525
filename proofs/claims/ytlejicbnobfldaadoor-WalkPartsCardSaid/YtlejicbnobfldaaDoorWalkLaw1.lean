/- What the statements of layer 9 answer where sizes are too big. -/
import Derived.Test.YtlejicbnobfldaaDoorWalkF
namespace Go.Proofs.YtlejicbnobfldaaDoor
open Go.RowKit
set_option maxRecDepth 100000

def ax0 : List Nat := List.replicate 12 0
def ax1 : List Nat := [0, 0, 0, 0, 515, 0, 0, 0, 0, 0, 0, 0]
def ax2 : List Nat := [0, 0, 0, 0, 515, 0, 0, 16777219, 0, 0, 0, 0]
def axS : Sp := (4, 8)
theorem ax_list : wkL (walkL (hAr ax2) axS 9) = [4, 7] := by decide +kernel
theorem ax_err : wkE (walkL (hAr ax2) axS 9) = 0 := by decide +kernel
theorem ax_suW : suW (hAr ax2) [4, 7] = 5 := by decide +kernel
theorem ax_suF : suF (hAr ax2) [4, 7] = 2 := by decide +kernel
theorem ax_p8 : wkP (walkL (hAr ax2) axS 8) 8 = 7 := by decide +kernel
theorem ax_e8 : wkE (walkL (hAr ax2) axS 8) = 2 := by decide +kernel
theorem ax_p10 : wkP (walkL (hAr ax2) axS 10) 10 = 9 := by decide +kernel
theorem ax_e10 : wkE (walkL (hAr ax2) axS 10) = 3 := by decide +kernel
theorem ax_few : (walkL (hAr ax2) axS 9).length ≤ 1000000 := by decide +kernel
theorem ax_fit : Fit axS := by unfold Fit; decide
theorem ax_put1 : ptE ax0 4 0 2 0 0 = 0 ∧ ptL ax0 4 0 2 0 false 0 = ax1 := by decide +kernel
theorem ax_put2 : ptE ax1 7 0 0 1 0 = 0 ∧ ptL ax1 7 0 0 1 false 0 = ax2 := by decide +kernel
theorem heads_of {b g : Nat} {l : List Nat} {w : World} (h : Ar w b g l) (hp : Par w) : Heads (.pointer (some ⟨b, 0, none⟩)) w.heap.size (hAr l) w := heads_ar h h.head.lt h.row.lt hp hp.lt

set_option maxHeartbeats 4000000 in
theorem awake09_any (w : World) (ht : Par w) : Calls Tryd.prog 6 #[] w fun e w' => e = .returned (.bool true) ∧ Only nob w w' := by
  have HTab := Lib.hid ht
  clear ht
  go_enter Tryd.func6, Tryd.ntmps6
  go_wp2_with fail
  go_at_call 19
  refine (new_any 12 _ (by decide)).mono ?_
  rintro e w1 ⟨b, g, rfl, hb, hg, hA, o⟩
  have O1 := Lib.hid o
  have A1 := Lib.hid (show Ar w1 b g ax0 from hA)
  have HG := Lib.hid hg
  clear o hA hb hg
  go_wp2_with fail
  go_at_call 20
  refine (oPut_any b g _ 4 0 2 0 false 0 _ A1.out (HTab.out.old O1.out) (by decide)).mono ?_
  rw [ax_put1.1, ax_put1.2]
  rintro e w2 ⟨rfl, hA, o⟩
  have O2 := Lib.hid (O1.out.andThen o fun i hi e => by have := HG.out; unfold isb at e; omega)
  have A2 := Lib.hid hA
  clear o hA
  go_wp2_with fail
  go_at_call 20
  refine (oPut_any b g _ 7 0 0 1 false 0 _ A2.out (HTab.out.old O2.out) (by decide)).mono ?_
  rw [ax_put2.1, ax_put2.2]
  rintro e w3 ⟨rfl, hA, o⟩
  have O3 := Lib.hid (O2.out.andThen o fun i hi e => by have := HG.out; unfold isb at e; omega)
  obtain ⟨W4, hW4, HB4⟩ : ∃ W4, w3.alloc (.cells #[.int .i64 4, .int .i64 8] 24) = W4 ∧ Hid (Only nob w3 W4 ∧ Blk W4 w3.heap.size 24 #[.int .i64 4, .int .i64 8]) := ⟨_, rfl, Lib.hid ⟨(Only.refl nob w3).alloc _, Blk.new _ _ _⟩⟩
  have HW4 := Lib.hid hW4
  have O4 := Lib.hid (O3.out.trans HB4.out.1)
  have A4 := Lib.hid (hA.keep HB4.out.1 id id)
  have B4 := HB4.out.2
  have c0 := B4.cell 0
  have c1 := B4.cell 1
  simp at c0 c1
  clear o hA hW4
  go_wp2_with (first | (with_reducible rw [HW4.out]) | fail)
  go_at_call 8
  refine (wList _ (hAr ax2) axS 9 W4 (heads_of A4.out (HTab.out.old O4.out)) ax_fit ax_few).mono ?_
  rw [ax_list, ax_err]
  rintro e w5 ⟨v5, rfl, own5', o⟩
  have own5 : w5.ownsRow W4.heap.size 3 1 v5 2 [.int .i64 4, .int .i64 7] := own5'
  clear own5'
  have O5 := Lib.hid (O4.out.trans o)
  have A5 := Lib.hid (A4.out.keep o id id)
  have B5 := B4.keep o id
  obtain ⟨g5, c5, rfl, hn5, hm5, -⟩ := own_form own5 (by decide)
  have R5 := Lib.hid own5
  clear o c0 c1 B4 own5
  have c0 := B5.cell 0
  have c1 := B5.cell 1
  simp at c0 c1
  go_wp2_with fail
  go_at_call 11
  refine (wSums _ (hAr ax2) axS 9 w5 (heads_of A5.out (HTab.out.old O5.out)) ax_fit ax_few).mono ?_
  rw [ax_list, ax_err, ax_suW, ax_suF]
  rintro e w6 ⟨rfl, o⟩
  have O6 := Lib.hid (O5.out.trans o)
  have A6 := Lib.hid (A5.out.keep o id id)
  have R6 := Lib.hid (own_only R5.out o fun _ _ h => h)
  have B6 := B5.keep o id
  clear o c0 c1 B5
  have c0 := B6.cell 0
  have c1 := B6.cell 1
  simp at c0 c1
  go_wp2_with fail
  go_at_call 9
  refine (wStop _ (hAr ax2) axS 8 w6 (heads_of A6.out (HTab.out.old O6.out)) ax_fit).mono ?_
  rw [ax_p8, ax_e8]
  rintro e w7 ⟨rfl, o⟩
  have O7 := Lib.hid (O6.out.trans o)
  have A7 := Lib.hid (A6.out.keep o id id)
  have R7 := Lib.hid (own_only R6.out o fun _ _ h => h)
  have B7 := B6.keep o id
  clear o c0 c1 B6
  have c0 := B7.cell 0
  have c1 := B7.cell 1
  simp at c0 c1
  go_wp2_with fail
  go_at_call 9
  refine (wStop _ (hAr ax2) axS 10 w7 (heads_of A7.out (HTab.out.old O7.out)) ax_fit).mono ?_
  rw [ax_p10, ax_e10]
  rintro e w8 ⟨rfl, o⟩
  have O8 := Lib.hid (O7.out.trans o)
  have R8 := Lib.hid (own_only R7.out o fun _ _ h => h)
  have S8 := Lib.hid (show Sl w8 w8.heap.size 1 (.slice (some ⟨g5, 0, none⟩) 2 c5) [4, 7].length (i64s [4, 7]) from Sl.of_own R8.out rfl)
  have d0 : w8.cell? ⟨g5, 0, none⟩ = some (.int .i64 4) := by rw [R8.out.cellAt 0 (by decide)]; rfl
  have d1 : w8.cell? ⟨g5, 1, none⟩ = some (.int .i64 7) := by rw [R8.out.cellAt 1 (by decide)]; rfl
  clear o c0 c1 B7
  go_upto_region 9 with fail
  simp only [List.append_eq, List.cons_append, List.nil_append]
  go_wp2_with (first
    | (go_at_call 14; with_reducible refine (wStarts _ [4, 7] 7 _ _ S8.out).mono ?_; rw [show isOne [4, 7] 7 = true by decide]; rintro e w' ⟨rfl, rfl⟩)
    | (go_at_call 14; with_reducible refine (wStarts _ [4, 7] 8 _ _ S8.out).mono ?_; rw [show isOne [4, 7] 8 = false by decide]; rintro e w' ⟨rfl, rfl⟩))
  go_ret
  exact ⟨rfl, O8.out⟩
end Go.Proofs.YtlejicbnobfldaaDoor
