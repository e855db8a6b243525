/- What the statement of layer 12 answers where sizes are too big. -/
import Derived.Test.YtfdihnfhofpjlaaDoorThrAllB
namespace Go.Proofs.YtfdihnfhofpjlaaDoor
open Go.RowKit

def t12 : List Sp := [(0, 2), (4, 3)]
def th1 : List Nat := [16777219, 0, 0, 0, 0, 0, 0, 0]
def th2 : List Nat := [16777219, 0, 0, 0, 33554435, 0, 0, 0]
def th3 : List Nat := [2199040032771, 0, 0, 0, 33554435, 0, 0, 0]
theorem ob12 {l : List Nat} {a : Nat} (h1 : a < l.length) (h2 : wOk (wd l a) = true) (h3 : 1 + wF (wd l a) + wR (wd l a) ≤ (l.length : Int) - a) : Ob l a := ⟨h1, h2, h3⟩
theorem t12_sl (w : World) (g : Nat) (h : Blk w g 33 #[.int .i64 0, .int .i64 2, .int .i64 4, .int .i64 3]) : Sl w w.heap.size 2 (.slice (some ⟨g, 0, none⟩) 2 2) t12.length (spc t12) :=
  Sl.of_blk (size := 2) (n := 2) (c := 2) h rfl (Nat.le_refl _) (by decide)
theorem chain12 : ChainL (hAr th3) t12 1 [0, 1] :=
  ⟨rfl, (0, 2), rfl, by decide, by decide, by decide, (4, 3), rfl, by decide, by decide, (by decide : (hAr th3 4).c = 0)⟩

set_option maxRecDepth 100000 in
set_option maxHeartbeats 4000000 in
theorem awake12_any (w : World) (ht : Par w) (hg0 : 0 < w.heap.size) : Calls Tryd.prog 4 #[] w fun e w' => e = .returned (.bool true) ∧ Only nob w w' := by
  have HTab := Lib.hid ht
  have HG0 := Lib.hid hg0
  clear ht hg0
  go_enter Tryd.func4, Tryd.ntmps4
  go_wp2_with fail
  go_at_call 5
  refine (new_any 8 _ (by decide)).mono ?_
  rintro e w1 ⟨b, g, rfl, hb, hg, hA, o⟩
  have O1 := Lib.hid o
  have HG := Lib.hid hg
  have HB := Lib.hid hb
  obtain ⟨Wt, hWt, HBt⟩ : ∃ Wt, w1.alloc (.cells #[.int .i64 0, .int .i64 2, .int .i64 4, .int .i64 3] 33) = Wt ∧ Hid (Only nob w Wt ∧ Blk Wt w1.heap.size 33 #[.int .i64 0, .int .i64 2, .int .i64 4, .int .i64 3] ∧ Ar Wt b g (List.replicate 8 0)) :=
    ⟨_, rfl, Lib.hid ⟨o.alloc _, Blk.new _ _ _, hA.keep ((Only.refl nob w1).alloc _) id id⟩⟩
  obtain ⟨q, hq⟩ : ∃ q, q = w1.heap.size := ⟨_, rfl⟩
  have HQ := Lib.hid (show ¬ isb g q from fun e => by have := hA.row.lt; unfold isb at e; omega)
  have HWt := Lib.hid hWt
  have Bt := Lib.hid (show Blk Wt q 33 #[.int .i64 0, .int .i64 2, .int .i64 4, .int .i64 3] from hq ▸ HBt.out.2.1)
  clear hWt o hA hb hg
  go_wp2_with fail
  rw [HWt.out, ← hq]
  clear hq
  go_at_call 6
  refine (oPut_any b g _ 0 0 0 1 false 0 _ HBt.out.2.2 (HTab.out.old HBt.out.1) (by decide)).mono ?_
  rw [show ptE (List.replicate 8 0) 0 0 0 1 0 = 0 by decide, show ptL (List.replicate 8 0) 0 0 0 1 false 0 = th1 by decide]
  rintro e w2 ⟨rfl, hA, o⟩
  have O2 := Lib.hid (HBt.out.1.andThen o fun i hi e => by have := HG.out; unfold isb at e; omega)
  have A2 := Lib.hid hA
  have B2 := Lib.hid (Bt.out.keep o HQ.out)
  clear o hA
  go_wp2_with fail
  go_at_call 6
  refine (oPut_any b g _ 4 0 0 2 false 0 _ A2.out (HTab.out.old O2.out) (by decide)).mono ?_
  rw [show ptE th1 4 0 0 2 0 = 0 by decide, show ptL th1 4 0 0 2 false 0 = th2 by decide]
  rintro e w3 ⟨rfl, hA, o⟩
  have O3 := Lib.hid (O2.out.andThen o fun i hi e => by have := HG.out; unfold isb at e; omega)
  have A3 := Lib.hid hA
  have B3 := Lib.hid (B2.out.keep o HQ.out)
  clear o hA
  go_wp2_with fail
  go_at_call 8
  refine (push_ok b g th2 _ t12 _ 0 1 4 (4, 3) _ A3.out (HTab.out.old O3.out) (t12_sl _ _ B3.out) rfl rfl (ob12 (by decide) (by decide) (by decide)) (by decide)).mono ?_
  rw [show curL th2 4 0 = th2 by decide]
  rintro e w4 ⟨rfl, hA, o⟩
  have O4 := Lib.hid (O3.out.andThen o fun i hi e => by have := HG.out; unfold isb at e; omega)
  have A4 := Lib.hid hA
  have B4 := Lib.hid (B3.out.keep o HQ.out)
  clear o hA
  go_wp2_with fail
  go_at_call 8
  refine (push_ok b g th2 _ t12 _ 2 0 0 (0, 2) _ A4.out (HTab.out.old O4.out) (t12_sl _ _ B4.out) rfl rfl (ob12 (by decide) (by decide) (by decide)) (by decide)).mono ?_
  rw [show curL th2 0 2 = th3 by decide]
  rintro e w5 ⟨rfl, hA, o⟩
  have O5 := Lib.hid (O4.out.andThen o fun i hi e => by have := HG.out; unfold isb at e; omega)
  have A5 := Lib.hid hA
  have B5 := Lib.hid (B4.out.keep o HQ.out)
  clear o hA
  go_wp2_with fail
  go_at_call 11
  refine (all_ok _ _ ⟨_, rfl⟩ (hAr th3) t12 1 [0, 1] _ (heads_ar A5.out A5.out.head.lt A5.out.row.lt (HTab.out.old O5.out) (Nat.lt_of_lt_of_le HG0.out O5.out.size)) (t12_sl _ _ B5.out) chain12 (by decide) (by decide)).mono ?_
  rintro e w6 ⟨v, rfl, hrow, o⟩
  obtain ⟨g6, c6, rfl, -, -, -⟩ := own_form hrow (by decide)
  have O6 := Lib.hid (O5.out.trans o)
  have A6 := Lib.hid (A5.out.keep o id id)
  have B6 := Lib.hid (B5.out.keep o id)
  have R6 := Lib.hid hrow
  clear o hrow
  go_wp2_with fail
  go_at_call 9
  refine (pop_ok b g th3 _ t12 _ 0 0 (0, 2) _ A6.out (HTab.out.old O6.out) (t12_sl _ _ B6.out) rfl rfl (ob12 (by decide) (by decide) (by decide))).mono ?_
  rw [show curL th3 0 0 = th2 by decide, show wC (wd th3 0) = 2 by decide]
  rintro e w7 ⟨rfl, -, o⟩
  have O7 := Lib.hid (O6.out.andThen o fun i hi e => by have := HG.out; unfold isb at e; omega)
  have R7 := Lib.hid (own_only R6.out o fun k hk e => by have h1 := (own_lt R6.out hk).1; have h2 := A5.out.row.lt; unfold isb at e; omega)
  have S7 := Lib.hid (Sl.of_own R7.out rfl)
  clear o
  go_wp2_with fail
  go_at_call 9
  refine (pop_none _ _ _ _ _).mono ?_
  rintro e w8 ⟨rfl, rfl⟩
  obtain ⟨b1, o1, e1, -, d0⟩ := sl_int (l := [0, 1]) (k := 0) (z := 0) S7.out (Below.refl _ _) rfl
  obtain ⟨b2, o2, e2, -, d1⟩ := sl_int (l := [0, 1]) (k := 1) (z := 1) S7.out (Below.refl _ _) rfl
  cases e1; cases e2
  go_wp2
  go_ret
  exact ⟨rfl, O7.out⟩
end Go.Proofs.YtfdihnfhofpjlaaDoor
