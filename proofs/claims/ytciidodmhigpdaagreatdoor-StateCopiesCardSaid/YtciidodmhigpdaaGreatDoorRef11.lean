/- Contracts of the document's own answers for tables: Add, Find, Of, Drop, Right; Same of any two lists. -/
import Derived.Test.YtciidodmhigpdaaGreatDoorRef03
import Derived.Test.YtciidodmhigpdaaGreatDoorLedA
import Derived.Test.YtciidodmhigpdaaGreatDoorExtA
import Derived.OwnWalk
import Derived.Deep.RegionLaw
import Derived.Shelf.RegionOpenPlain
namespace Go.Proofs.YtciidodmhigpdaaGreatDoor
set_option maxRecDepth 100000
open Go.RowKit Go.Lib

set_option maxHeartbeats 2000000 in
theorem refSame_any (va vb : Value) (l m : List Sp) (B B' : Nat) (w : World) (ha : Sl w B 2 va l.length (spc l)) (hb : Sl w B' 2 vb m.length (spc m)) :
    Calls Tryz.prog 50 #[va, vb] w fun e w' => e = .returned (.bool (decide (l = m))) ∧ Only nob w w' := by
  have HA := Lib.hid ha
  have HB := Lib.hid hb
  obtain ⟨A, ca, rfl, hac, ham, -⟩ := ha
  obtain ⟨A', cb, rfl, hbc, hbm, -⟩ := hb
  unfold maxLen at ham hbm
  by_cases hlen : l.length = m.length
  · have HL := Lib.hid hlen
    rw [← hlen] at hbc ⊢
    clear hlen
    go_enter Tryz.func50, Tryz.ntmps50
    go_wp2
    go_loopw [5] (fun i wr => ∃ k m' : Nat, k ≤ l.length ∧ i = .int .i64 k ∧ Hid (∀ (j : Nat) x, j < k → l[j]? = some x → m[j]? = some x) ∧ wr = w.drewN m') (fun i _ => l.length - (intOf i).toNat)
    case atStart => exact ⟨0, 0, Nat.zero_le _, rfl, fun j _ hj _ => absurd hj (Nat.not_lt_zero j), rfl⟩
    case round =>
      obtain ⟨k, m', hk, rfl, hno, rfl⟩ := hrel
      by_cases hlt : k < l.length
      · obtain ⟨x, hx⟩ : ∃ x, l[k]? = some x := ⟨_, List.getElem?_eq_getElem hlt⟩
        obtain ⟨y, hy⟩ : ∃ y, m[k]? = some y := ⟨_, List.getElem?_eq_getElem (by rw [← HL.out]; exact hlt)⟩
        obtain ⟨b1, o1, rfl, -, c0, c1⟩ := sl_span HA.out (Below.refl _ _) hx
        obtain ⟨b2, o2, rfl, -, d0, d1⟩ := sl_span HB.out (Below.refl _ _) hy
        have HX := Lib.hid hx
        have HY := Lib.hid hy
        clear hx hy
        by_cases h1 : x.1 = y.1
        · by_cases h2 : x.2 = y.2
          · obtain rfl : x = y := Prod.ext h1 h2
            clear h1 h2
            go_wp2
            go_quiet (fail)
            go_wp2
            go_roundw
            case rel =>
              refine ⟨k + 1, _, by omega, by go_num, fun j z hj hz => ?_, rfl⟩
              rcases Nat.lt_or_ge j k with h' | h'
              · exact hno.out j z h' hz
              · obtain rfl : j = k := by omega
                rw [HX.out] at hz
                rw [HY.out]; exact hz
            case measure => simp [intOf]; omega
          · have HN := Lib.hid (decide_eq_false (ne_at HX.out HY.out fun e => h2 (by rw [e])))
            rw [h1] at c0
            go_wp2
            go_quiet (fail)
            go_wp2
            go_ret
            exact ⟨ret_bool (by rw [HN.out]), ((Only.refl _ _).drewN _).drewN _⟩
        · have HN := Lib.hid (decide_eq_false (ne_at HX.out HY.out fun e => h1 (by rw [e])))
          go_wp2
          go_quiet (fail)
          go_wp2
          go_ret
          exact ⟨ret_bool (by rw [HN.out]), ((Only.refl _ _).drewN _).drewN _⟩
      · obtain rfl : k = l.length := by omega
        have HN := Lib.hid (decide_eq_true (eq_all HL.out hno.out))
        go_wp2
        go_ret
        exact ⟨ret_bool (by rw [HN.out]), (Only.refl _ _).drewN _⟩
  · have HN := Lib.hid (decide_eq_false (ne_len hlen))
    have hn1 : ¬ ((l.length : Int) = (m.length : Int)) := by omega
    go_enter Tryz.func50, Tryz.ntmps50
    go_wp2
    go_ret
    exact ⟨ret_bool (by rw [HN.out]), Only.refl _ _⟩

set_option maxHeartbeats 4000000 in
theorem rTable (all : Sp) (v u : Value) (l m : List Sp) (B : Nat) (w : World) (h : Sl w B 2 v l.length (spc l)) (k : Sl w B 2 u m.length (spc m)) (hB : B ≤ w.heap.size) (hl : l.length ≤ 10000) :
    Calls Tryz.prog 68 #[.agg #[.int .i64 all.1, .int .i64 all.2], v, u] w fun e w' => e = .returned (.bool (decide (TableP all l m))) ∧ Only nob w w' := by
  have HA := Lib.hid h
  have HU := Lib.hid k
  obtain ⟨A, ca, rfl, hac, ham, -⟩ := h
  obtain ⟨A', ca', rfl, -, -⟩ := k.form
  unfold maxLen at ham
  have HB := Lib.hid (Blk.new w 50 #[.int .i64 all.1, .int .i64 all.2])
  have HO0 := Lib.hid ((Only.refl nob w).alloc (.cells #[.int .i64 all.1, .int .i64 all.2] 50))
  clear k
  go_enter Tryz.func68, Tryz.ntmps68
  go_wp2_with fail
  go_loopw [7] (fun i wr => ∃ k : Nat, k ≤ l.length ∧ i = .int .i64 k ∧ Hid (UpToL all l k) ∧ Hid (Only nob (w.alloc (.cells #[.int .i64 all.1, .int .i64 all.2] 50)) wr)) (fun i _ => l.length - (intOf i).toNat)
  case atStart => exact ⟨0, Nat.zero_le _, rfl, fun j _ hj _ => absurd hj (Nat.not_lt_zero j), Only.refl _ _⟩
  case round =>
    obtain ⟨k, hk, rfl, hno, HX⟩ := hrel
    have HOW := Lib.hid (HO0.out.trans HX.out)
    have b0 := HX.out.keeps (HB.out.cell 0)
    have b1 := HX.out.keeps (HB.out.cell 1)
    simp at b0 b1
    by_cases hlt : k < l.length
    · obtain ⟨x, hx⟩ : ∃ x, l[k]? = some x := ⟨_, List.getElem?_eq_getElem hlt⟩
      obtain ⟨b, o, rfl, hb, c0, c1⟩ := sl_span HA.out (HOW.out.below hB fun _ h => h.elim) hx
      have HXX := Lib.hid hx
      clear hx
      by_cases hw : Sp.within x all
      · have HW := Lib.hid hw
        have HD := Lib.hid (decide_eq_true hw)
        clear hw
        go_wp2_with fail
        go_region_held3 (fun w' => w'.cell? ⟨b, o + k * 2, none⟩ = some (.int .i64 x.1) ∧ w'.cell? ⟨b, o + k * 2 + 1, none⟩ = some (.int .i64 x.2) ∧ w'.cell? ⟨w.heap.size, 0, none⟩ = some (.int .i64 all.1) ∧ w'.cell? ⟨w.heap.size, 1, none⟩ = some (.int .i64 all.2)) (first | go_keep | exact C1.out)
          ((go_at_call 94; refine (refWithin_any x all _).mono ?_; rw [HD.out]; rintro e w2 ⟨rfl, ho⟩; have O2 := Lib.hid ho.drewL; have C1 := Lib.hid (And.intro (ho.drewL.keeps c0) (And.intro (ho.drewL.keeps c1) (And.intro (ho.drewL.keeps b0) (ho.drewL.keeps b1)))); clear ho))
        have c0' := O2.out.keeps c0
        have c1' := O2.out.keeps c1
        have HX2 := Lib.hid (HX.out.trans O2.out)
        have HOW2 := Lib.hid (HOW.out.trans O2.out)
        clear c0 c1 b0 b1
        rcases Nat.eq_zero_or_pos k with rfl | hk0
        · have HU := Lib.hid (upToL_next hno.out HXX.out HW.out fun h => absurd h (Nat.lt_irrefl 0))
          go_wp2_with fail
          go_quiet (fail)
          go_wp2
          go_roundw
          case rel => exact ⟨1, by omega, by go_num, HU.out, HX2.out.drewN _⟩
          case measure => simp [intOf]; omega
        · obtain ⟨m', rfl⟩ : ∃ m, k = m + 1 := ⟨k - 1, by omega⟩
          obtain ⟨y, hy⟩ : ∃ y, l[m']? = some y := ⟨_, List.getElem?_eq_getElem (by omega)⟩
          obtain ⟨b3, o3, e3, -, d0, d1⟩ := sl_span HA.out (HOW2.out.below hB fun _ h => h.elim) hy
          obtain ⟨rfl, rfl⟩ : b3 = b ∧ o3 = o := by simpa using e3.symm
          have HY := Lib.hid hy
          clear hy e3
          by_cases hlt2 : y.1 < x.1
          · have HU := Lib.hid (upToL_next hno.out HXX.out HW.out fun _ z hz => by
              rw [Nat.add_sub_cancel, HY.out] at hz
              obtain rfl := Option.some.inj hz
              exact hlt2)
            go_wp2_with fail
            go_quiet (fail)
            go_wp2
            go_roundw
            case rel => exact ⟨m' + 1 + 1, by omega, by go_num, HU.out, HX2.out.drewN _⟩
            case measure => simp [intOf]; omega
          · have HN := Lib.hid (decide_eq_false (table_bad2 (all := all) (m := m) HY.out HXX.out hlt2))
            go_wp2_with fail
            go_quiet (fail)
            go_wp2
            go_ret
            exact ⟨ret_bool (by rw [HN.out]), HOW2.out.drewN _⟩
      · have HD := Lib.hid (decide_eq_false hw)
        have HN := Lib.hid (decide_eq_false (table_bad1 (m := m) HXX.out hw))
        clear hw
        go_wp2_with fail
        go_region_held3 (fun w' => w'.cell? ⟨b, o + k * 2, none⟩ = some (.int .i64 x.1) ∧ w'.cell? ⟨b, o + k * 2 + 1, none⟩ = some (.int .i64 x.2) ∧ w'.cell? ⟨w.heap.size, 0, none⟩ = some (.int .i64 all.1) ∧ w'.cell? ⟨w.heap.size, 1, none⟩ = some (.int .i64 all.2)) (first | go_keep | exact C1.out)
          ((go_at_call 94; refine (refWithin_any x all _).mono ?_; rw [HD.out]; rintro e w2 ⟨rfl, ho⟩; have O2 := Lib.hid ho.drewL; have C1 := Lib.hid (And.intro (ho.drewL.keeps c0) (And.intro (ho.drewL.keeps c1) (And.intro (ho.drewL.keeps b0) (ho.drewL.keeps b1)))); clear ho))
        have HOW2 := Lib.hid (HOW.out.trans O2.out)
        clear c0 c1 b0 b1
        go_wp2
        go_ret
        exact ⟨ret_bool (by rw [HN.out]), HOW2.out⟩
    · obtain rfl : k = l.length := by omega
      have HK := Lib.hid (upToL_all hno.out)
      by_cases h3 : ApartL l
      · have H3 := Lib.hid h3
        have HD3 := Lib.hid (decide_eq_true h3)
        clear h3 b0 b1
        go_wp2_with fail
        go_at_call 95
        refine (refApart_any _ l B _ (HA.out.below (HOW.out.below hB fun _ h => h.elim)) (Nat.le_trans hB HOW.out.size)).mono ?_
        rw [HD3.out]
        rintro e w3 ⟨rfl, o⟩
        have O3 := Lib.hid (HOW.out.trans o)
        have X3 := HX.out.trans o
        have b0 := X3.keeps (HB.out.cell 0)
        have b1 := X3.keeps (HB.out.cell 1)
        simp at b0 b1
        clear o X3
        go_wp2_with fail
        go_at_call 96
        refine (refGaps_any all _ l B _ (HA.out.below (O3.out.below hB fun _ h => h.elim)) (Nat.le_trans hB O3.out.size) (by omega)).mono ?_
        rintro e w4 ⟨v4, O, rfl, hj, hc, own, o⟩
        have HE := Lib.hid (table_iff (m := m) HK.out.1 HK.out.2 H3.out hj hc)
        have S4 := Lib.hid (Sl.of_own own own.1)
        have O4 := Lib.hid (O3.out.trans o)
        clear hj hc own o b0 b1
        go_wp2_with fail
        go_at_call 50
        refine (refSame_any _ _ O m _ _ w4 S4.out (HU.out.below (O4.out.below hB fun _ h => h.elim))).mono ?_
        rw [show decide (O = m) = decide (TableP all l m) by rw [HE.out, Bool.eq_iff_iff, decide_eq_true_iff, decide_eq_true_iff]; exact eq_comm]
        obtain ⟨j, hj⟩ : ∃ j, j = decide (TableP all l m) := ⟨_, rfl⟩
        rw [← hj]
        have HJ := Lib.hid hj
        clear hj
        rintro e w5 ⟨rfl, o⟩
        have O5 := Lib.hid (O4.out.trans o)
        clear o
        go_wp2
        go_ret
        exact ⟨ret_bool (by rw [HJ.out]), O5.out⟩
      · have HN := Lib.hid (show decide (TableP all l m) = false from decide_eq_false fun h => h3 h.2.2.1)
        have HD3 := Lib.hid (decide_eq_false h3)
        clear h3 b0 b1
        go_wp2_with fail
        go_at_call 95
        refine (refApart_any _ l B _ (HA.out.below (HOW.out.below hB fun _ h => h.elim)) (Nat.le_trans hB HOW.out.size)).mono ?_
        rw [HD3.out]
        rintro e w3 ⟨rfl, o⟩
        have O3 := Lib.hid (HOW.out.trans o)
        clear o
        go_wp2
        go_ret
        exact ⟨ret_bool (by rw [HN.out]), O3.out⟩
end Go.Proofs.YtciidodmhigpdaaGreatDoor

/- Contracts of the document's own answers for tables: Add, Drop. -/
namespace Go.Proofs.YtciidodmhigpdaaGreatDoor
set_option maxRecDepth 100000
open Go.RowKit Go.Lib

theorem not_any_meets {l : List Sp} {s : Sp} (h : ∀ (j : Nat) y, j < l.length → l[j]? = some y → decide (Sp.meets y s) = false) : l.any (fun x => decide (Sp.meets x s)) = false := by
  rw [List.any_eq_false]
  intro x hx
  obtain ⟨j, hj, rfl⟩ := List.getElem_of_mem hx
  have := h j _ hj (List.getElem?_eq_getElem hj)
  simpa using this
theorem yes_any_meets {l : List Sp} {s x : Sp} {k : Nat} (hx : l[k]? = some x) (h : Sp.meets x s) : l.any (fun x => decide (Sp.meets x s)) = true := List.any_eq_true.2 ⟨x, List.mem_of_getElem? hx, decide_eq_true h⟩
theorem sl_top {w w' : World} {B : Nat} {v : Value} {l : List Sp} (h : Sl w B 2 v l.length (spc l)) (o : Only nob w w') (hB : B ≤ w.heap.size) : Sl w' w'.heap.size 2 v l.length (spc l) :=
  (h.below (o.below hB fun _ h => h.elim)).more (Nat.le_trans hB o.size)

def RAddP (l : List Sp) (s : Sp) (w : World) (e : Ending) (w' : World) : Prop := ∃ v', e = .returned (.tuple #[v', .int .i64 (addT l s).2]) ∧ Sl w' w'.heap.size 2 v' (addT l s).1.length (spc (addT l s).1) ∧ Only nob w w'
def DropP (l : List Sp) (a : Int) (w : World) (e : Ending) (w' : World) : Prop := ∃ v', e = .returned (.tuple #[v', .agg #[.int .i64 (dropT l a).2.1.1, .int .i64 (dropT l a).2.1.2], .int .i64 (dropT l a).2.2]) ∧ Sl w' w'.heap.size 2 v' (dropT l a).1.length (spc (dropT l a).1) ∧ Only nob w w'
theorem two_set {w w' : World} {g : Nat} (h : Only nob w w') (hg : w.heap.size ≤ g) (x y : Value) : Only nob w ((w'.setCell ⟨g, 0, none⟩ x).setCell ⟨g, 1, none⟩ y) :=
  (h.setCell (p := ⟨g, 0, none⟩) (fun h => absurd h (Nat.not_lt_of_le hg)) x).setCell (p := ⟨g, 1, none⟩) (fun h => absurd h (Nat.not_lt_of_le hg)) y
theorem only_set2 (w : World) (g : Nat) (x y : Value) : Only (isb g) w ((w.setCell ⟨g, 0, none⟩ x).setCell ⟨g, 1, none⟩ y) := (only_set w g 0 x).trans (only_set _ g 1 y)
theorem size_set2 (w : World) (g : Nat) (x y : Value) : ((w.setCell ⟨g, 0, none⟩ x).setCell ⟨g, 1, none⟩ y).heap.size = w.heap.size := by simp [World.setCell]
end Go.Proofs.YtciidodmhigpdaaGreatDoor
