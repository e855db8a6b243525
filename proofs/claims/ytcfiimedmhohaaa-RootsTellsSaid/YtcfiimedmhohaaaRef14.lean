/- The document's own answers for tables of handles. -/
import Derived.Test.YtcfiimedmhohaaaSlot
import Derived.Deep.QuietTactic
import Derived.BigQuiet
import Derived.Laws.StructEq
import Derived.Deep.DeepCutAuto
import Derived.Deep.CutBlock
namespace Go.Proofs.Ytcfiimedmhohaaa
open Go.RowKit
set_option maxRecDepth 100000

theorem good_yes {s : Slt} (h1 : 0 ≤ s.2.1) (h2 : s.2.1 < 1099511627776) : s.good = true := decide_eq_true ⟨h1, h2⟩
theorem good_no {s : Slt} (h : ¬ (0 ≤ s.2.1 ∧ s.2.1 < 1099511627776)) : s.good = false := decide_eq_false h
set_option maxHeartbeats 400000 in
theorem rGood (s : Slt) (w : World) : Calls Try.prog 29 #[.agg #[.bool s.1, .int .i64 s.2.1, .int .u64 (s.2.2 : Nat)]] w fun e w' => e = .returned (.bool s.good) ∧ Only nob w w' := by
  obtain ⟨u, g, x⟩ := s
  obtain ⟨W, hW, HB⟩ : ∃ W, w.alloc (.cells #[.bool u, .int .i64 g, .int .u64 (x : Nat)] 42) = W ∧ Hid (Only nob w W ∧ Blk W w.heap.size 42 #[.bool u, .int .i64 g, .int .u64 (x : Nat)]) := ⟨_, rfl, Lib.hid ⟨(Only.refl nob w).alloc _, Blk.new _ _ _⟩⟩
  have HW := Lib.hid hW
  have c1 := HB.out.2.cell 1
  simp at c1
  clear hW
  by_cases h1 : 0 ≤ g
  · by_cases h2 : g < 1099511627776
    · rw [good_yes (s := (u, g, x)) h1 h2]
      go_enter Try.func29, Try.ntmps29
      go_upto_region 1 with fail
      rw [HW.out]
      go_wp2
      go_ret
      exact ⟨rfl, HB.out.1⟩
    · rw [good_no (s := (u, g, x)) (fun h => h2 h.2)]
      go_enter Try.func29, Try.ntmps29
      go_upto_region 1 with fail
      rw [HW.out]
      go_wp2
      go_ret
      exact ⟨rfl, HB.out.1⟩
  · rw [good_no (s := (u, g, x)) (fun h => h1 h.1)]
    go_enter Try.func29, Try.ntmps29
    go_upto_region 1 with fail
    rw [HW.out]
    go_wp2
    go_ret
    exact ⟨rfl, HB.out.1⟩

theorem isH_no1 {h : Int} {k : Nat} {s : Slt} (e : s.1 = false) : isH h k s = false := by unfold isH; rw [e]; simp
theorem isH_no2 {h : Int} {k : Nat} {s : Slt} (e : s.good = false) : isH h k s = false := by unfold isH; rw [e]; simp
theorem isH_no3 {h : Int} {k : Nat} {s : Slt} (e : h ≠ hOf k s) : isH h k s = false := by unfold isH; simp [e]
theorem isH_no4 {h : Int} {k : Nat} {s : Slt} (e : ¬ k < 1024) : isH h k s = false := by unfold isH; simp [e]
theorem isH_yes {h : Int} {k : Nat} {s : Slt} (e0 : k < 1024) (e1 : s.1 = true) (e2 : s.good = true) (e3 : h = hOf k s) : isH h k s = true := by unfold isH; simp [e0, e1, e2, e3]
theorem upTo_next14 {p : Nat → Slt → Bool} {l : List Slt} {k : Nat} {s : Slt} (h : ∀ (j : Nat) y, j < k → l[j]? = some y → p j y = false) (hx : l[k]? = some s) (hp : p k s = false) : ∀ (j : Nat) y, j < k + 1 → l[j]? = some y → p j y = false := fun j y hj hy => by
  rcases Nat.lt_or_ge j k with h' | h'
  · exact h j y h' hy
  · obtain rfl : j = k := by omega
    rw [hx] at hy
    obtain rfl := Option.some.inj hy
    exact hp

set_option maxHeartbeats 4000000 in
theorem rFind14 (v : Value) (l : List Slt) (h : Int) (B : Nat) (w : World) (hv : Sl w B 3 v l.length (slc l)) (hB : B ≤ w.heap.size) :
    Calls Try.prog 31 #[v, .int .i64 h] w fun e w' => e = .returned (.int .i64 (plH l h)) ∧ Only nob w w' := by
  have HA := Lib.hid hv
  obtain ⟨A, ca, rfl, hac, ham, -⟩ := hv
  unfold maxLen at ham
  go_enter Try.func31, Try.ntmps31
  go_wp2_with fail
  go_loopw [5] (fun i wr => ∃ k : Nat, k ≤ l.length ∧ i = .int .i64 k ∧ Hid (∀ (j : Nat) y, j < k → l[j]? = some y → isH h j y = false) ∧ Hid (Only nob w wr)) (fun i _ => l.length - (intOf i).toNat)
  case atStart => exact ⟨0, Nat.zero_le _, rfl, Lib.hid (fun j _ hj _ => absurd hj (Nat.not_lt_zero j)), Lib.hid (Only.refl _ _)⟩
  case round =>
    obtain ⟨k, hk, rfl, HNO, HO⟩ := hrel
    by_cases hlt : k < l.length
    · by_cases hk4 : k < 1024
      · obtain ⟨s, hx⟩ : ∃ s, l[k]? = some s := ⟨_, List.getElem?_eq_getElem hlt⟩
        obtain ⟨b, o, rfl, hb, c0, c1, c2⟩ := sl_slot HA.out (HO.out.below hB fun _ h => h.elim) hx
        have HX := Lib.hid hx
        obtain ⟨u, g, x⟩ := s
        have hbr : b < wr.heap.size := Nat.lt_of_lt_of_le hb (Nat.le_trans hB HO.out.size)
        clear hx
        rcases u with _ | _
        · have HN2 := Lib.hid (upTo_next14 HNO.out HX.out (isH_no1 rfl))
          go_wp2
          go_roundw
          case rel => exact ⟨k + 1, by omega, by go_num, HN2, HO⟩
          case measure => simp [intOf]; omega
        · go_wp2_with fail
          go_at_call 29
          refine (rGood (true, g, x) wr).mono ?_
          rcases hg : Slt.good (true, g, x) with _ | _
          · rintro e w1 ⟨rfl, o1⟩
            have O1 := Lib.hid (HO.out.trans o1)
            have HN2 := Lib.hid (upTo_next14 HNO.out HX.out (isH_no2 hg))
            clear o1 c0 c1 c2
            go_wp2
            go_roundw
            case rel => exact ⟨k + 1, by omega, by go_num, HN2, O1⟩
            case measure => simp [intOf]; omega
          · rintro e w1 ⟨rfl, o1⟩
            have O1 := Lib.hid (HO.out.trans o1)
            have d1 := o1.keeps c1
            obtain ⟨hg1, hg2⟩ := of_decide_eq_true hg
            simp only at hg1 hg2
            clear c0 c1 c2 o1
            by_cases he : h = (k : Int) + 1024 * g
            · have HF := Lib.hid (found HX.out (fstI_hit HX.out (isH_yes hk4 rfl hg he) HNO.out))
              subst he
              clear hg
              go_wp2
              go_ret
              exact ⟨ret_int (by rw [HF.out.1]), O1.out⟩
            · have HN2 := Lib.hid (upTo_next14 HNO.out HX.out (isH_no3 he))
              have hbq : (h == (k : Int) + 1024 * g) = false := by simpa using he
              clear hg he
              go_wp2
              go_roundw
              case rel => exact ⟨k + 1, by omega, by go_num, HN2, O1⟩
              case measure => simp [intOf]; omega
      · have HF := Lib.hid (not_found (l := l) (h := h) (fstI_none fun j y hy => by
          rcases Nat.lt_or_ge j k with h' | h'
          · exact HNO.out j y h' hy
          · exact isH_no4 (by omega)))
        go_wp2
        go_ret
        exact ⟨ret_int (by rw [HF.out.1]), HO.out⟩
    · have HF := Lib.hid (not_found (l := l) (h := h) (fstI_none fun j y hy => HNO.out j y (by have := (List.getElem?_eq_some_iff.1 hy).1; omega) hy))
      go_wp2
      go_ret
      exact ⟨ret_int (by rw [HF.out.1]), HO.out⟩

theorem plH_cases (l : List Slt) (h : Int) : (∃ (k : Nat) (s : Slt), l[k]? = some s ∧ s.1 = true ∧ s.good = true ∧ fstI (isH h) l = k ∧ k < 1024) ∨ fstI (isH h) l = l.length := by
  rcases Nat.lt_or_ge (fstI (isH h) l) l.length with hlt | hge
  · obtain ⟨s, h1, h2⟩ := fstI_lt hlt
    unfold isH at h2
    simp only [Bool.and_eq_true, decide_eq_true_eq] at h2
    exact .inl ⟨_, s, h1, h2.2.1, h2.2.2.1, rfl, h2.1⟩
  · exact .inr (Nat.le_antisymm fstI_le hge)
theorem free_cases (l : List Slt) : (∃ (k : Nat) (s : Slt), l[k]? = some s ∧ s.1 = false ∧ s.good = true ∧ fstI isFree l = k ∧ k < 1024) ∨ fstI isFree l = l.length := by
  rcases Nat.lt_or_ge (fstI isFree l) l.length with hlt | hge
  · obtain ⟨s, h1, h2⟩ := fstI_lt hlt
    unfold isFree at h2
    simp only [Bool.and_eq_true, decide_eq_true_eq, Bool.not_eq_true'] at h2
    exact .inl ⟨_, s, h1, h2.2.1, h2.2.2, rfl, h2.1⟩
  · exact .inr (Nat.le_antisymm fstI_le hge)

set_option maxHeartbeats 1000000 in
theorem rGet14 : GetC 10 := by
  intro v l h B w hv hB hl hok
  have HA := Lib.hid hv
  have HFD := Lib.hid (rFind14 v l h B w hv hB)
  obtain ⟨A, ca, rfl, hac, ham, -⟩ := hv
  unfold maxLen at ham
  rcases plH_cases l h with ⟨k, s, hx, -, -, hk, -⟩ | hk
  · obtain ⟨e1, e2, e3, -, -⟩ := found hx hk
    rw [e1] at HFD
    rw [e2, e3]
    have hlt : k < l.length := (List.getElem?_eq_some_iff.1 hx).1
    have HX := Lib.hid hx
    clear e1 e2 e3 hk hx hok
    go_enter Try.func10, Try.ntmps10
    go_wp2_with fail
    go_at_call 31
    refine HFD.out.mono ?_
    rintro e w1 ⟨rfl, o⟩
    obtain ⟨b, oo, rfl, hb, c0, c1, c2⟩ := sl_slot HA.out (o.below hB fun _ h => h.elim) HX.out
    have O1 := Lib.hid o
    clear o c0 c1
    go_wp2
    go_ret2
    exact ⟨rfl, O1.out⟩
  · obtain ⟨e1, e2, e3, -, -⟩ := not_found hk
    rw [e1] at HFD
    rw [e2, e3]
    clear e1 e2 e3 hk hok
    go_enter Try.func10, Try.ntmps10
    go_wp2_with fail
    go_at_call 31
    refine HFD.out.mono ?_
    rintro e w1 ⟨rfl, o⟩
    have O1 := Lib.hid o
    clear o
    go_wp2
    go_ret2
    exact ⟨rfl, O1.out⟩

set_option maxHeartbeats 2000000 in
theorem rSet14 : SetC 12 := by
  intro v l h x B w hv hB hl hok hx64
  obtain ⟨i0, hi0, hz0, hz1, hz2⟩ := info_parts info_slot
  have HA := Lib.hid hv
  have HFD := Lib.hid (rFind14 v l h B w hv hB)
  obtain ⟨A, ca, rfl, hac, ham, -⟩ := hv
  unfold maxLen at ham
  rcases plH_cases l h with ⟨k, s, hx, hu, -, hk, -⟩ | hk
  · obtain ⟨e1, e2, -, e3, -⟩ := found hx hk
    rw [e1] at HFD
    have hset := e3 x
    rw [e2]
    have HSET := Lib.hid (show setSL l h x = l.set k (s.1, s.2.1, x) by rw [hset, hu])
    have hlt : k < l.length := (List.getElem?_eq_some_iff.1 hx).1
    have HX := Lib.hid hx
    clear e1 e2 e3 hk hx hok hset hu
    go_enter Try.func12, Try.ntmps12
    go_wp2_with fail
    go_at_call 31
    refine HFD.out.mono ?_
    rintro e w1 ⟨rfl, o⟩
    have O1 := Lib.hid o
    clear o
    have hw1 : w.heap.size ≤ w1.heap.size := O1.out.size
    go_wp2_with (with_reducible refine wpList_append_sl (o := ⟨some 18, _, _, _, _, _⟩) _ rfl (.tmp 16) (.tmp 17) _ rfl w1.heap.size 42 i0 _ 3 24 Try.underlying22 hi0 hz0 hz1 hz2 rfl (by decide) (.slice (some ⟨w1.heap.size, 0, none⟩) 0 0) 0 [] rfl ?c1 B (.slice A l.length ca) l.length (slc l) rfl ?c6 (slc_oneCell l) ?c2 ?c3 ?c4 ?c5)
    case c1 => exact lit_own w1 _ _
    case c6 => exact HA.out.below ((O1.out.alloc _).below hB fun _ h => h.elim)
    case c2 => unfold maxLen; omega
    case c3 => omega
    case c4 => simp
    case c5 =>
      intro v1 w2 H1 o1 _
      have o2 := lit_only o1
      have HO := Lib.hid (show w2.ownsRow w1.heap.size 42 3 v1 l.length (slc l) by simpa using H1.out)
      have O2 := Lib.hid (O1.out.trans o2)
      obtain ⟨g, cap, cur, rfl, hg, hblk, hc1, hc2, hc4⟩ := own_slots HO.out hlt
      obtain ⟨d0, d1, d2⟩ := slots_cell hblk hc4 HX.out
      have f2 := hblk.free (k * 3 + 2)
      obtain ⟨W3, hW3, HB3⟩ := slots_word hblk hc1 hc2 hc4 HX.out x
      have HW3 := Lib.hid hW3
      have hcm : cap ≤ 9223372036854775807 := by unfold maxLen at hc2; omega
      have O3 := Lib.hid (O2.out.andThen HB3.out.1 fun i hi e => by unfold isb at e; omega)
      clear H1 o1 o2 hblk hc4 hW3 d0 d1
      go_upto_region 6 with fail
      rw [HW3.out]
      clear d2 f2
      go_wp2
      go_ret2
      exact ⟨_, rfl, by rw [HSET.out]; simpa using HB3.out.2, O3.out⟩
  · obtain ⟨e1, e2, -, e3, -⟩ := not_found hk
    rw [e1] at HFD
    rw [e2, e3 x]
    clear e1 e2 e3 hk hok
    go_enter Try.func12, Try.ntmps12
    go_wp2_with fail
    go_at_call 31
    refine HFD.out.mono ?_
    rintro e w1 ⟨rfl, o⟩
    have O1 := Lib.hid o
    have S1 := Lib.hid ((HA.out.below (o.below hB fun _ h => h.elim)).more (Nat.le_trans hB o.size))
    clear o
    go_wp2
    go_ret2
    exact ⟨_, rfl, S1.out, O1.out⟩

set_option maxHeartbeats 2000000 in
theorem rDrop14 : DropC 14 := by
  intro v l h B w hv hB hl hok
  obtain ⟨i0, hi0, hz0, hz1, hz2⟩ := info_parts info_slot
  have HA := Lib.hid hv
  have HFD := Lib.hid (rFind14 v l h B w hv hB)
  obtain ⟨A, ca, rfl, hac, ham, -⟩ := hv
  unfold maxLen at ham
  rcases plH_cases l h with ⟨k, s, hx, hu, hgd, hk, -⟩ | hk
  · obtain ⟨e1, e2, -, -, e3⟩ := found hx hk
    rw [e1] at HFD
    rw [e2]
    obtain ⟨u, gn, wd0⟩ := s
    have HSET := Lib.hid (show dropSL l h = l.set k (false, gn + 1, 0) from e3)
    have hlt : k < l.length := (List.getElem?_eq_some_iff.1 hx).1
    have HX := Lib.hid hx
    obtain ⟨hg1, hg2⟩ := of_decide_eq_true hgd
    simp only at hg1 hg2
    clear e1 e2 e3 hk hx hok hu hgd
    go_enter Try.func14, Try.ntmps14
    go_wp2_with fail
    go_at_call 31
    refine HFD.out.mono ?_
    rintro e w1 ⟨rfl, o⟩
    have O1 := Lib.hid o
    clear o
    have hw1 : w.heap.size ≤ w1.heap.size := O1.out.size
    go_wp2_with (with_reducible refine wpList_append_sl (o := ⟨some 16, _, _, _, _, _⟩) _ rfl (.tmp 14) (.tmp 15) _ rfl w1.heap.size 42 i0 _ 3 24 Try.underlying22 hi0 hz0 hz1 hz2 rfl (by decide) (.slice (some ⟨w1.heap.size, 0, none⟩) 0 0) 0 [] rfl ?c1 B (.slice A l.length ca) l.length (slc l) rfl ?c6 (slc_oneCell l) ?c2 ?c3 ?c4 ?c5)
    case c1 => exact lit_own w1 _ _
    case c6 => exact HA.out.below ((O1.out.alloc _).below hB fun _ h => h.elim)
    case c2 => unfold maxLen; omega
    case c3 => omega
    case c4 => simp
    case c5 =>
      intro v1 w2 H1 o1 _
      have o2 := lit_only o1
      have HO := Lib.hid (show w2.ownsRow w1.heap.size 42 3 v1 l.length (slc l) by simpa using H1.out)
      have O2 := Lib.hid (O1.out.trans o2)
      obtain ⟨g, cap, cur, rfl, hg, hblk, hc1, hc2, hc4⟩ := own_slots HO.out hlt
      obtain ⟨b, oo, rfl, hb, c0, c1, c2⟩ := sl_slot HA.out (O2.out.below hB fun _ h => h.elim) HX.out
      obtain ⟨d0, d1, d2⟩ := slots_cell hblk hc4 HX.out
      have f0 := hblk.free (k * 3)
      have f1 := hblk.free (k * 3 + 1)
      have f2 := hblk.free (k * 3 + 2)
      obtain ⟨W3, hW3, HB3⟩ := slots_put hblk hc1 hc2 hc4 hlt false (gn + 1) 0
      have HW3 := Lib.hid (show ((w2.setCell ⟨g, k * 3, none⟩ (.bool false)).setCell ⟨g, k * 3 + 1, none⟩ (.int .i64 (gn + 1))).setCell ⟨g, k * 3 + 2, none⟩ (.int .u64 0) = W3 from hW3)
      have hcm : cap ≤ 9223372036854775807 := by unfold maxLen at hc2; omega
      have O3 := Lib.hid (O2.out.andThen HB3.out.1 fun i hi e => by unfold isb at e; omega)
      clear H1 o1 o2 hblk hc4 hW3
      go_upto_region 6 with fail
      rw [HW3.out]
      clear c0 c1 c2 d0 d1 d2 f0 f1 f2
      go_wp2
      go_ret2
      exact ⟨_, rfl, by rw [HSET.out]; simpa using HB3.out.2, O3.out⟩
  · obtain ⟨e1, e2, -, -, e3⟩ := not_found hk
    rw [e1] at HFD
    rw [e2, e3]
    clear e1 e2 e3 hk hok
    go_enter Try.func14, Try.ntmps14
    go_wp2_with fail
    go_at_call 31
    refine HFD.out.mono ?_
    rintro e w1 ⟨rfl, o⟩
    have O1 := Lib.hid o
    have S1 := Lib.hid ((HA.out.below (o.below hB fun _ h => h.elim)).more (Nat.le_trans hB o.size))
    clear o
    go_wp2
    go_ret2
    exact ⟨_, rfl, S1.out, O1.out⟩

theorem isFree_no1 {k : Nat} {s : Slt} (e : s.1 = true) : isFree k s = false := by unfold isFree; rw [e]; simp
theorem isFree_no2 {k : Nat} {s : Slt} (e : s.good = false) : isFree k s = false := by unfold isFree; rw [e]; simp
theorem isFree_no4 {k : Nat} {s : Slt} (e : ¬ k < 1024) : isFree k s = false := by unfold isFree; simp [e]
theorem isFree_yes {k : Nat} {s : Slt} (e0 : k < 1024) (e1 : s.1 = false) (e2 : s.good = true) : isFree k s = true := by unfold isFree; simp [e0, e1, e2]

set_option maxHeartbeats 4000000 in
theorem rPut14 : PutC 8 := by
  intro v l x B w hv hB hl hok hx64
  obtain ⟨i0, hi0, hz0, hz1, hz2⟩ := info_parts info_slot
  have HA := Lib.hid hv
  obtain ⟨A, ca, rfl, hac, ham, -⟩ := hv
  unfold maxLen at ham
  clear hok
  go_enter Try.func8, Try.ntmps8
  go_wp2_with fail
  go_loopw [7] (fun i wr => ∃ k : Nat, k ≤ l.length ∧ i = .int .i64 k ∧ Hid (∀ (j : Nat) y, j < k → l[j]? = some y → isFree j y = false) ∧ Hid (Only nob w wr)) (fun i _ => l.length - (intOf i).toNat)
  case atStart => exact ⟨0, Nat.zero_le _, rfl, Lib.hid (fun j _ hj _ => absurd hj (Nat.not_lt_zero j)), Lib.hid (Only.refl _ _)⟩
  case round =>
    obtain ⟨k, hk, rfl, HNO, HO⟩ := hrel
    by_cases hlt : k < l.length
    · by_cases hk4 : k < 1024
      · obtain ⟨s, hx⟩ : ∃ s, l[k]? = some s := ⟨_, List.getElem?_eq_getElem hlt⟩
        obtain ⟨b, o, rfl, hb, c0, c1, c2⟩ := sl_slot HA.out (HO.out.below hB fun _ h => h.elim) hx
        have HX := Lib.hid hx
        obtain ⟨u, gn, wd0⟩ := s
        have hbr : b < wr.heap.size := Nat.lt_of_lt_of_le hb (Nat.le_trans hB HO.out.size)
        clear hx
        rcases u with _ | _
        · go_wp2_with fail
          go_at_call 29
          refine (rGood (false, gn, wd0) wr).mono ?_
          rcases hg : Slt.good (false, gn, wd0) with _ | _
          · rintro e w1 ⟨rfl, o1⟩
            have O1 := Lib.hid (HO.out.trans o1)
            have HN2 := Lib.hid (upTo_next14 HNO.out HX.out (isFree_no2 hg))
            clear o1 c0 c1 c2
            go_wp2
            go_roundw
            case rel => exact ⟨k + 1, by omega, by go_num, HN2, O1⟩
            case measure => simp [intOf]; omega
          · rintro e w1 ⟨rfl, o1⟩
            have O1 := Lib.hid (HO.out.trans o1)
            obtain ⟨hg1, hg2⟩ := of_decide_eq_true hg
            simp only at hg1 hg2
            have HF := Lib.hid (put_found HX.out (fstI_hit HX.out (isFree_yes hk4 rfl hg) HNO.out))
            have hw1 : w.heap.size ≤ w1.heap.size := O1.out.size
            clear c0 c1 c2 o1 hg
            go_wp2_with (with_reducible refine wpList_append_sl (o := ⟨some 34, _, _, _, _, _⟩) _ rfl (.tmp 32) (.tmp 33) _ rfl w1.heap.size 42 i0 _ 3 24 Try.underlying22 hi0 hz0 hz1 hz2 rfl (by decide) (.slice (some ⟨w1.heap.size, 0, none⟩) 0 0) 0 [] rfl ?c1 B (.slice (some ⟨b, o, none⟩) l.length ca) l.length (slc l) rfl ?c6 (slc_oneCell l) ?c2 ?c3 ?c4 ?c5)
            case c1 => exact lit_own w1 _ _
            case c6 => exact HA.out.below ((O1.out.alloc _).below hB fun _ h => h.elim)
            case c2 => unfold maxLen; omega
            case c3 => omega
            case c4 => simp
            case c5 =>
              intro v1 w2 H1 o1 _
              have o2 := lit_only o1
              have HO2 := Lib.hid (show w2.ownsRow w1.heap.size 42 3 v1 l.length (slc l) by simpa using H1.out)
              have O2 := Lib.hid (O1.out.trans o2)
              obtain ⟨g, cap, cur, rfl, hg, hblk, hc1, hc2, hc4⟩ := own_slots HO2.out hlt
              obtain ⟨b', o', e', hb', c0, c1, c2⟩ := sl_slot HA.out (O2.out.below hB fun _ h => h.elim) HX.out
              obtain ⟨rfl, rfl⟩ : b = b' ∧ o = o' := by simpa using e'
              obtain ⟨d0, d1, d2⟩ := slots_cell hblk hc4 HX.out
              have f0 := hblk.free (k * 3)
              have f1 := hblk.free (k * 3 + 1)
              have f2 := hblk.free (k * 3 + 2)
              obtain ⟨W3, hW3, HB3⟩ := slots_put hblk hc1 hc2 hc4 hlt true gn x
              have HW3 := Lib.hid hW3
              have hcm : cap ≤ 9223372036854775807 := by unfold maxLen at hc2; omega
              have O3 := Lib.hid (O2.out.andThen HB3.out.1 fun i hi e => by unfold isb at e; omega)
              clear H1 o1 o2 hblk hc4 hW3 e'
              go_upto_region 7 with fail
              rw [HW3.out]
              have g1 : W3.cell? ⟨b, o + k * 3 + 1, none⟩ = some (.int .i64 gn) := (HB3.out.1.cell (p := ⟨b, o + k * 3 + 1, none⟩) (Nat.lt_of_lt_of_le hb (Nat.le_trans hB O2.out.size)) (fun e => by unfold isb at e; have := O1.out.size; simp only at e; omega)).trans c1
              have m1 : IntKind.i64.wrap (1024 * gn) = 1024 * gn := by rw [IntKind.wrap_i64]; omega
              have m2 : IntKind.i64.wrap ((k : Int) + 1024 * gn) = (k : Int) + 1024 * gn := by rw [IntKind.wrap_i64]; omega
              clear c0 c1 c2 d0 d1 d2 f0 f1 f2
              go_quiet (fail)
              have O4 := Lib.hid (O3.out.drewN nq)
              have S4 := Lib.hid (show Sl (W3.drewN nq) (W3.drewN nq).heap.size 3 (.slice (some ⟨g, 0, none⟩) l.length cap) l.length (slc (l.set k (true, gn, x))) from HB3.out.2)
              go_wp2
              go_ret3
              exact ⟨_, by rw [HF.out.1, HF.out.2.1]; rfl, by rw [HF.out.2.2 x]; simpa using S4.out, O4.out⟩
        · have HN2 := Lib.hid (upTo_next14 HNO.out HX.out (isFree_no1 rfl))
          go_wp2
          go_roundw
          case rel => exact ⟨k + 1, by omega, by go_num, HN2, HO⟩
          case measure => simp [intOf]; omega
      · have HF := Lib.hid (put_none (l := l) (fstI_none fun j y hy => by
          rcases Nat.lt_or_ge j k with h' | h'
          · exact HNO.out j y h' hy
          · exact isFree_no4 (by omega)))
        have S1 := Lib.hid ((HA.out.below (HO.out.below hB fun _ h => h.elim)).more (Nat.le_trans hB HO.out.size))
        go_wp2
        go_ret3
        exact ⟨_, by rw [HF.out.1, HF.out.2.1]; rfl, by rw [HF.out.2.2 x]; exact S1.out, HO.out⟩
    · have HF := Lib.hid (put_none (l := l) (fstI_none fun j y hy => HNO.out j y (by have := (List.getElem?_eq_some_iff.1 hy).1; omega) hy))
      have S1 := Lib.hid ((HA.out.below (HO.out.below hB fun _ h => h.elim)).more (Nat.le_trans hB HO.out.size))
      go_wp2
      go_ret3
      exact ⟨_, by rw [HF.out.1, HF.out.2.1]; rfl, by rw [HF.out.2.2 x]; exact S1.out, HO.out⟩
end Go.Proofs.Ytcfiimedmhohaaa

/- The document's own answers for tables of handles: how many are used, all handles, whether two tables are the same, whether one may be. -/
namespace Go.Proofs.Ytcfiimedmhohaaa
open Go.RowKit
set_option maxRecDepth 100000

theorem usedS_next {l : List Slt} {k : Nat} {s : Slt} (hx : l[k]? = some s) : usedS (l.take (k + 1)) = usedS (l.take k) + if s.1 = true then 1 else 0 := by
  rw [List.take_add_one, hx]
  exact usedS_snoc _ s
set_option maxHeartbeats 1000000 in
theorem rUsed14 : UsedC 19 := by
  intro v l B w hv hB hl
  have HA := Lib.hid hv
  obtain ⟨A, ca, rfl, hac, ham, -⟩ := hv
  unfold maxLen at ham
  go_enter Try.func19, Try.ntmps19
  go_wp2_with fail
  go_loopw [3, 4] (fun n i wr => ∃ k : Nat, k ≤ l.length ∧ n = .int .i64 (usedS (l.take k) : Nat) ∧ i = .int .i64 k ∧ wr = w) (fun _ i _ => l.length - (intOf i).toNat)
  case atStart => exact ⟨0, Nat.zero_le _, rfl, rfl, rfl⟩
  case round =>
    obtain ⟨k, hk, rfl, rfl, rfl⟩ := hrel
    have hu : usedS (l.take k) ≤ 2000 := by have := usedS_le (l.take k); have := List.length_take_le k l; omega
    by_cases hlt : k < l.length
    · obtain ⟨s, hx⟩ : ∃ s, l[k]? = some s := ⟨_, List.getElem?_eq_getElem hlt⟩
      obtain ⟨b, o, rfl, hb, c0, c1, c2⟩ := sl_slot HA.out (Below.refl _ _) hx
      have hn := usedS_next hx
      obtain ⟨u, gn, x⟩ := s
      obtain ⟨n, hnn⟩ : ∃ n, n = usedS (l.take k) := ⟨_, rfl⟩
      rw [← hnn] at hn hu ⊢
      have HNN := Lib.hid hnn
      clear hnn hx
      rcases u with _ | _
      · have HN := Lib.hid (show usedS (l.take (k + 1)) = n by simpa using hn)
        clear hn
        go_wp2
        go_roundw
        case rel => exact ⟨k + 1, by omega, by rw [HN.out], by go_num, by first | rfl | trivial⟩
        case measure => simp [intOf]; omega
      · have HN := Lib.hid (show usedS (l.take (k + 1)) = n + 1 by simpa using hn)
        clear hn
        go_wp2
        go_roundw
        case rel => exact ⟨k + 1, by omega, by rw [HN.out]; first | rfl | go_num, by go_num, by first | rfl | trivial⟩
        case measure => simp [intOf]; omega
    · obtain rfl : k = l.length := by omega
      have HN := Lib.hid (show l.take l.length = l from List.take_length)
      go_wp2
      go_ret
      exact ⟨ret_int (by rw [HN.out]), Only.refl _ _⟩

theorem handlesS_cut {l : List Slt} {k : Nat} (h : 1024 ≤ k) : handlesS (l.take k) = handlesS l := by
  unfold handlesS
  conv => rhs; rw [← List.take_append_drop k l, List.zipIdx_append, List.filter_append, List.map_append]
  have : ((l.drop k).zipIdx (0 + (l.take k).length)).filter (fun x => decide (x.2 < 1024) && (x.1.1 && x.1.good)) = [] := by
    rw [List.filter_eq_nil_iff]
    rintro ⟨s, i⟩ hm
    have h1 := List.le_snd_of_mem_zipIdx hm
    rcases Nat.lt_or_ge k l.length with hk | hk
    · have hi : ¬ i < 1024 := by simp only [List.length_take, Nat.min_eq_left (Nat.le_of_lt hk)] at h1; omega
      simp [hi]
    · rw [List.drop_eq_nil_of_le hk] at hm
      simp at hm
  rw [this]
  simp
theorem isU_no1 {k : Nat} {s : Slt} (e : s.1 = false) : isU k s = false := by unfold isU; rw [e]; simp
theorem isU_no2 {k : Nat} {s : Slt} (e : s.good = false) : isU k s = false := by unfold isU; rw [e]; simp
theorem isU_yes {k : Nat} {s : Slt} (e0 : k < 1024) (e1 : s.1 = true) (e2 : s.good = true) : isU k s = true := by unfold isU; simp [e0, e1, e2]
theorem handlesS_len {l : List Slt} : (handlesS l).length ≤ l.length := by
  unfold handlesS
  rw [List.length_map]
  exact Nat.le_trans (List.length_filter_le _ _) (by simp)
theorem one_int14 (w : World) (x : Int) : Sl (w.alloc (.cells #[.int .i64 x] 3)) (w.heap.size + 1) 1 (.slice (some ⟨w.heap.size, 0, none⟩) 1 1) 1 (i64s [x]) := by
  have := Sl.of_blk (size := 1) (n := 1) (c := 1) (Blk.new w 3 #[.int .i64 x]) (by simp) (Nat.le_refl _) (by decide)
  simpa [i64s] using this

set_option maxHeartbeats 4000000 in
theorem rHandles14 : HandlesC 23 := by
  intro v l B w hv hB hl hok
  obtain ⟨j0, hj0, hy0, hy1, hy2⟩ := info_parts info_int
  have HA := Lib.hid hv
  obtain ⟨A, ca, rfl, hac, ham, -⟩ := hv
  unfold maxLen at ham
  clear hok
  go_enter Try.func23, Try.ntmps23
  go_wp2_with fail
  go_loopw [3, 4] (fun n i wr => ∃ k : Nat, k ≤ l.length ∧ i = .int .i64 k ∧ Hid (wr.ownsRow w.heap.size 3 1 n (handlesS (l.take k)).length (i64s (handlesS (l.take k)))) ∧ Hid (Only nob w wr)) (fun _ i _ => l.length - (intOf i).toNat)
  case atStart => exact ⟨0, Nat.zero_le _, rfl, Lib.hid (World.ownsRow_nil _ _ _ _), Lib.hid (Only.refl _ _)⟩
  case round =>
    obtain ⟨k, hk, rfl, HR, HO⟩ := hrel
    obtain ⟨Ar, cr, rfl, hcr, hmr⟩ := own_len HR.out
    unfold maxLen at hmr
    have hend : (l.length ≤ k ∨ 1024 ≤ k) → handlesS (l.take k) = handlesS l := fun h => by
      rcases h with h | h
      · rw [List.take_of_length_le h]
      · exact handlesS_cut h
    by_cases hlt : k < l.length
    · by_cases hk4 : k < 1024
      · obtain ⟨s, hx⟩ : ∃ s, l[k]? = some s := ⟨_, List.getElem?_eq_getElem hlt⟩
        obtain ⟨b, o, rfl, hb, c0, c1, c2⟩ := sl_slot HA.out (HO.out.below hB fun _ h => h.elim) hx
        have HX := Lib.hid hx
        obtain ⟨u, gn, wd0⟩ := s
        have hhl : (handlesS (l.take k)).length ≤ 2000 := by have := handlesS_len (l := l.take k); have := List.length_take_le k l; omega
        have hbr : b < wr.heap.size := Nat.lt_of_lt_of_le hb (Nat.le_trans hB HO.out.size)
        have hsn := handlesS_snoc hx
        clear hx hend
        rcases u with _ | _
        · rw [isU_no1 rfl, if_neg (by simp), List.append_nil] at hsn
          rw [← hsn] at HR
          rw [← hsn]
          clear hsn
          go_wp2
          go_roundw
          case rel => exact ⟨k + 1, by omega, by go_num, HR, HO⟩
          case measure => simp [intOf]; omega
        · go_wp2_with fail
          go_at_call 29
          refine (rGood (true, gn, wd0) wr).mono ?_
          rcases hg : Slt.good (true, gn, wd0) with _ | _
          · rintro e w1 ⟨rfl, o1⟩
            have O1 := Lib.hid (HO.out.trans o1)
            have HR1 := Lib.hid (own_only HR.out o1 fun _ _ => id)
            rw [isU_no2 hg, if_neg (by simp), List.append_nil] at hsn
            rw [← hsn] at HR1
            rw [← hsn]
            clear o1 c0 c1 c2 hsn
            go_wp2
            go_roundw
            case rel => exact ⟨k + 1, by omega, by go_num, HR1, O1⟩
            case measure => simp [intOf]; omega
          · rintro e w1 ⟨rfl, o1⟩
            have O1 := Lib.hid (HO.out.trans o1)
            have HR1 := Lib.hid (own_only HR.out o1 fun _ _ => id)
            have d1 := o1.keeps c1
            obtain ⟨hg1, hg2⟩ := of_decide_eq_true hg
            simp only at hg1 hg2
            rw [isU_yes hk4 rfl hg, if_pos rfl] at hsn
            have HSN := Lib.hid hsn
            obtain ⟨n, hn⟩ : ∃ n, n = (handlesS (l.take k)).length := ⟨_, rfl⟩
            have HN := Lib.hid hn
            rw [← hn] at hhl hcr HR1 ⊢
            obtain ⟨P, hP⟩ : ∃ P, P = handlesS (l.take k) := ⟨_, rfl⟩
            have HPP := Lib.hid hP
            rw [← hP] at HR1
            have hw1 : w.heap.size ≤ w1.heap.size := O1.out.size
            clear c0 c1 c2 o1 hg hsn hn hP
            go_wp2_with (with_reducible refine wpList_append_sl (o := ⟨some 37, _, _, _, _, _⟩) _ rfl (.tmp 27) (.tmp 36) _ rfl w.heap.size 3 j0 _ 1 8 Try.underlying39 hj0 hy0 hy1 hy2 rfl (by decide) (.slice Ar n cr) n (i64s P) rfl ?c1 (w1.heap.size + 1) (.slice (some ⟨w1.heap.size, 0, none⟩) 1 1) 1 (i64s [(k : Int) + 1024 * gn]) rfl ?c6 (i64s_one _) ?c2 ?c3 ?c4 ?c5)
            case c1 => exact own_only HR1.out ((Only.refl nob w1).alloc _) (fun _ _ h => h)
            case c6 => exact one_int14 w1 _
            case c2 => unfold maxLen; omega
            case c3 => omega
            case c4 => simp; omega
            case c5 =>
              intro v6 w6 H6 o6 _
              have HR6 := Lib.hid (show w6.ownsRow w.heap.size 3 1 v6 (handlesS (l.take (k + 1))).length (i64s (handlesS (l.take (k + 1)))) by
                rw [HSN.out, List.length_append, i64s_append, ← HN.out, ← HPP.out]
                exact H6.out)
              have O6 := Lib.hid (own_nob (O1.out.alloc (.cells #[.int .i64 ((k : Int) + 1024 * gn)] 3)) (own_only HR1.out ((Only.refl nob w1).alloc (.cells #[.int .i64 ((k : Int) + 1024 * gn)] 3)) (fun _ _ h => h)) o6 (Nat.le_refl _))
              clear H6 o6 d1
              go_wp2
              go_roundw
              case rel => exact ⟨k + 1, by omega, by go_num, HR6, O6⟩
              case measure => simp [intOf]; omega
      · have HE := Lib.hid (hend (.inr (by omega)))
        clear hend
        go_wp2
        go_ret
        exact ⟨_, rfl, by rw [← HE.out]; exact Sl.of_own HR.out HR.out.1, HO.out⟩
    · have HE := Lib.hid (hend (.inl (by omega)))
      clear hend
      go_wp2
      go_ret
      exact ⟨_, rfl, by rw [← HE.out]; exact Sl.of_own HR.out HR.out.1, HO.out⟩

theorem sne_len {l m : List Slt} (h : l.length ≠ m.length) : l ≠ m := fun e => h (by rw [e])
theorem sne_at {l m : List Slt} {k : Nat} {x y : Slt} (hx : l[k]? = some x) (hy : m[k]? = some y) (h : x ≠ y) : l ≠ m := fun e => h (by rw [e, hy] at hx; exact (Option.some.inj hx).symm)
theorem seq_all {l m : List Slt} (hl : l.length = m.length) (h : ∀ (j : Nat) x, j < l.length → l[j]? = some x → m[j]? = some x) : l = m := by
  refine List.ext_getElem? fun j => ?_
  rcases Nat.lt_or_ge j l.length with hj | hj
  · rw [h j _ hj (List.getElem?_eq_getElem hj)]
    exact List.getElem?_eq_getElem hj
  · rw [List.getElem?_eq_none hj, List.getElem?_eq_none (by omega)]
theorem eqSlot (a : Bool) (b : Int) (c : Nat) (a' : Bool) (b' : Int) (c' : Nat) (w : World) : (Op.equalIn 10000 42 (.agg #[.bool a, .int .i64 b, .int .u64 (c : Nat)]) (.agg #[.bool a', .int .i64 b', .int .u64 (c' : Nat)])).run Try.prog w = .ok (decide ((a, b, c) = (a', b', c'))) w := by
  have hS : Try.prog.underlying 42 = some (.struct (Try.prog.fieldsOf 42)) := by kernel_rfl
  rw [show (10000 : Nat) = 9999 + 1 from rfl, run_equalIn_agg w 9999 42 _ _ hS (by kernel_rfl)]
  simp only [Program.fieldsOf, Try.underlying42]
  go_simp
  have e3 : ((c : Int) = (c' : Int)) ↔ c = c' := by omega
  by_cases h1 : a = a' <;> by_cases h2 : b = b' <;> by_cases h3 : c = c' <;> simp [h1, h2, h3, e3]

set_option maxHeartbeats 2000000 in
theorem rSame14 (va vb : Value) (l m : List Slt) (B B' : Nat) (w : World) (ha : Sl w B 3 va l.length (slc l)) (hb : Sl w B' 3 vb m.length (slc m)) :
    Calls Try.prog 15 #[va, vb] w fun e w' => e = .returned (.bool (decide (l = m))) ∧ Only nob w w' := by
  have HA := Lib.hid ha
  have HB := Lib.hid hb
  obtain ⟨A, ca, rfl, hac, ham, -⟩ := ha
  obtain ⟨A', cb, rfl, hbc, hbm, -⟩ := hb
  unfold maxLen at ham hbm
  by_cases hlen : l.length = m.length
  · have HL := Lib.hid hlen
    rw [← hlen] at hbc ⊢
    clear hlen
    go_enter Try.func15, Try.ntmps15
    go_wp2
    go_loopw [5] (fun i wr => ∃ k m' : Nat, k ≤ l.length ∧ i = .int .i64 k ∧ Hid (∀ (j : Nat) x, j < k → l[j]? = some x → m[j]? = some x) ∧ wr = w.drewN m') (fun i _ => l.length - (intOf i).toNat)
    case atStart => exact ⟨0, 0, Nat.zero_le _, rfl, fun j _ hj _ => absurd hj (Nat.not_lt_zero j), rfl⟩
    case round =>
      obtain ⟨k, m', hk, rfl, hno, rfl⟩ := hrel
      by_cases hlt : k < l.length
      · obtain ⟨x, hx⟩ : ∃ x, l[k]? = some x := ⟨_, List.getElem?_eq_getElem hlt⟩
        obtain ⟨y, hy⟩ : ∃ y, m[k]? = some y := ⟨_, List.getElem?_eq_getElem (by rw [← HL.out]; exact hlt)⟩
        obtain ⟨b1, o1, rfl, -, c0, c1, c2⟩ := sl_slot HA.out (Below.refl _ _) hx
        obtain ⟨b2, o2, rfl, -, d0, d1, d2⟩ := sl_slot HB.out (Below.refl _ _) hy
        have HX := Lib.hid hx
        have HY := Lib.hid hy
        obtain ⟨xa, xb, xc⟩ := x
        obtain ⟨ya, yb, yc⟩ := y
        have heq := eqSlot xa xb xc ya yb yc
        clear hx hy
        by_cases h1 : (xa, xb, xc) = (ya, yb, yc)
        · rw [decide_eq_true h1] at heq
          have HE := Lib.hid h1
          clear h1
          go_wp2
          go_quiet (fail)
          go_wp2
          go_roundw
          case rel =>
            refine ⟨k + 1, _, by omega, by go_num, fun j z hj hz => ?_, rfl⟩
            rcases Nat.lt_or_ge j k with h' | h'
            · exact hno.out j z h' hz
            · obtain rfl : j = k := by omega
              rw [HX.out] at hz
              rw [HY.out, ← HE.out]; exact hz
          case measure => simp [intOf]; omega
        · rw [decide_eq_false h1] at heq
          have HN := Lib.hid (decide_eq_false (sne_at HX.out HY.out h1))
          clear h1
          go_wp2
          go_quiet (fail)
          go_wp2
          go_ret
          exact ⟨ret_bool (by rw [HN.out]), ((Only.refl _ _).drewN _).drewN _⟩
      · obtain rfl : k = l.length := by omega
        have HN := Lib.hid (decide_eq_true (seq_all HL.out hno.out))
        go_wp2
        go_ret
        exact ⟨ret_bool (by rw [HN.out]), (Only.refl _ _).drewN _⟩
  · have HN := Lib.hid (decide_eq_false (sne_len hlen))
    have hn1 : ¬ ((l.length : Int) = (m.length : Int)) := by omega
    go_enter Try.func15, Try.ntmps15
    go_wp2
    go_ret
    exact ⟨ret_bool (by rw [HN.out]), Only.refl _ _⟩
end Go.Proofs.Ytcfiimedmhohaaa

/- The document's own answer whether a table may be. -/
namespace Go.Proofs.Ytcfiimedmhohaaa
open Go.RowKit
set_option maxRecDepth 100000

theorem rightS_no {l : List Slt} {n : Int} (h : ¬ ((l.length : Int) = n ∧ 1 ≤ n ∧ n ≤ 1024)) : rightS dE l n = false := by unfold rightS; rw [decide_eq_false h]; rfl
theorem rightS_bad {l : List Slt} {n : Int} {k : Nat} {s : Slt} (hx : l[k]? = some s) (hs : rightSlot dE s = false) : rightS dE l n = false := by
  unfold rightS
  have : l.all (rightSlot dE) = false := by
    rw [List.all_eq_false]
    exact ⟨s, List.mem_of_getElem? hx, by rw [hs]; simp⟩
  rw [this, Bool.and_false]
theorem rightS_yes {l : List Slt} {n : Int} (h : (l.length : Int) = n ∧ 1 ≤ n ∧ n ≤ 1024) (ha : ∀ (j : Nat) y, j < l.length → l[j]? = some y → rightSlot dE y = true) : rightS dE l n = true := by
  unfold rightS
  rw [decide_eq_true h, Bool.true_and, List.all_eq_true]
  intro s hs
  obtain ⟨j, hj⟩ := List.getElem?_of_mem hs
  exact ha j s (List.getElem?_eq_some_iff.1 hj).1 hj
theorem dE_zero : dE 0 = 0 := by decide
theorem rslot_used_bad {gn : Int} {x : Nat} (h : Slt.good (true, gn, x) = false) : rightSlot dE (true, gn, x) = false := by unfold rightSlot; simp [h]
theorem rslot_used {gn : Int} {x : Nat} (h : Slt.good (true, gn, x) = true) : rightSlot dE (true, gn, x) = decide (dE (x : Nat) = 0) := by unfold rightSlot; simp [h]
theorem rslot_low {gn : Int} {x : Nat} (h : ¬ (0 ≤ gn ∧ gn ≤ 1099511627776)) : rightSlot dE (false, gn, x) = false := by unfold rightSlot; simp; intro a b; omega
theorem rslot_word {gn : Int} {x : Nat} (h : x ≠ 0) : rightSlot dE (false, gn, x) = false := by unfold rightSlot; simp [h]
theorem rslot_free {gn : Int} (h : 0 ≤ gn ∧ gn ≤ 1099511627776) : rightSlot dE (false, gn, 0) = true := by unfold rightSlot; simp [h, dE_zero]
theorem upTo_right {l : List Slt} {k : Nat} {s : Slt} (h : ∀ (j : Nat) y, j < k → l[j]? = some y → rightSlot dE y = true) (hx : l[k]? = some s) (hp : rightSlot dE s = true) : ∀ (j : Nat) y, j < k + 1 → l[j]? = some y → rightSlot dE y = true := fun j y hj hy => by
  rcases Nat.lt_or_ge j k with h' | h'
  · exact h j y h' hy
  · obtain rfl : j = k := by omega
    rw [hx] at hy
    obtain rfl := Option.some.inj hy
    exact hp

set_option maxHeartbeats 8000000 in
theorem rRight14 : RightC 20 := by
  intro v l n B w hv hB hl hok
  have HA := Lib.hid hv
  have HOK := Lib.hid hok
  obtain ⟨A, ca, rfl, hac, ham, -⟩ := hv
  unfold maxLen at ham
  clear hok
  by_cases hn : (l.length : Int) = n
  case neg =>
    have HR := Lib.hid (rightS_no (l := l) (n := n) (fun h => hn h.1))
    have hbq : ((l.length : Int) == n) = false := by simpa using hn
    go_enter Try.func20, Try.ntmps20
    go_wp2
    go_ret
    exact ⟨ret_bool (by rw [HR.out]), Only.refl _ _⟩
  case pos =>
    subst hn
    by_cases h1 : l.length < 1
    · have HR := Lib.hid (rightS_no (l := l) (n := l.length) (by omega))
      go_enter Try.func20, Try.ntmps20
      go_wp2
      go_ret
      exact ⟨ret_bool (by rw [HR.out]), Only.refl _ _⟩
    · by_cases h2 : 1024 < l.length
      · have HR := Lib.hid (rightS_no (l := l) (n := l.length) (by omega))
        go_enter Try.func20, Try.ntmps20
        go_wp2
        go_ret
        exact ⟨ret_bool (by rw [HR.out]), Only.refl _ _⟩
      · go_enter Try.func20, Try.ntmps20
        go_wp2_with fail
        go_loopw [5] (fun i wr => ∃ k : Nat, k ≤ l.length ∧ i = .int .i64 k ∧ Hid (∀ (j : Nat) y, j < k → l[j]? = some y → rightSlot dE y = true) ∧ Hid (Only nob w wr)) (fun i _ => l.length - (intOf i).toNat)
        case atStart => exact ⟨0, Nat.zero_le _, rfl, Lib.hid (fun j _ hj _ => absurd hj (Nat.not_lt_zero j)), Lib.hid (Only.refl _ _)⟩
        case round =>
          obtain ⟨k, hk, rfl, HNO, HO⟩ := hrel
          by_cases hlt : k < l.length
          · obtain ⟨s, hx⟩ : ∃ s, l[k]? = some s := ⟨_, List.getElem?_eq_getElem hlt⟩
            obtain ⟨b, o, rfl, hb, c0, c1, c2⟩ := sl_slot HA.out (HO.out.below hB fun _ h => h.elim) hx
            have HX := Lib.hid hx
            obtain ⟨-, -, hx64⟩ := HOK.out.get hx
            obtain ⟨u, gn, x⟩ := s
            have hbr : b < wr.heap.size := Nat.lt_of_lt_of_le hb (Nat.le_trans hB HO.out.size)
            have hx63 : 0 ≤ ((x : Nat) : Int) ∧ ((x : Nat) : Int) < 18446744073709551616 := by unfold full at hx64; simp only at hx64; omega
            clear hx hx64
            rcases u with _ | _
            · by_cases g1 : gn < 0
              · have HR := Lib.hid (rightS_bad (n := l.length) HX.out (rslot_low (by omega)))
                go_wp2
                go_ret
                exact ⟨ret_bool (by rw [HR.out]), HO.out⟩
              · by_cases g2 : 1099511627776 < gn
                · have HR := Lib.hid (rightS_bad (n := l.length) HX.out (rslot_low (by omega)))
                  go_wp2
                  go_ret
                  exact ⟨ret_bool (by rw [HR.out]), HO.out⟩
                · by_cases hx0 : x = 0
                  · subst hx0
                    have HN2 := Lib.hid (upTo_right HNO.out HX.out (rslot_free (by omega)))
                    clear hx63
                    go_wp2_with fail
                    go_at_call 39
                    refine (refDec_zero wr).mono ?_
                    rintro e w1 ⟨rfl, o1⟩
                    have O1 := Lib.hid (HO.out.trans o1)
                    clear o1 c0 c1 c2
                    go_wp2
                    go_roundw
                    case rel => exact ⟨k + 1, by omega, by go_num, HN2, Lib.hid (O1.out.alloc _)⟩
                    case measure => simp [intOf]; omega
                  · have HR := Lib.hid (rightS_bad (n := l.length) HX.out (rslot_word (gn := gn) hx0))
                    have hbq : (((x : Nat) : Int) == 0) = false := by simpa using hx0
                    go_wp2
                    go_ret
                    exact ⟨ret_bool (by rw [HR.out]), HO.out⟩
            · go_wp2_with fail
              go_at_call 29
              refine (rGood (true, gn, x) wr).mono ?_
              rcases hg : Slt.good (true, gn, x) with _ | _
              · have HR := Lib.hid (rightS_bad (n := l.length) HX.out (rslot_used_bad hg))
                rintro e w1 ⟨rfl, o1⟩
                have O1 := Lib.hid (HO.out.trans o1)
                clear o1 c0 c1 c2
                go_wp2
                go_ret
                exact ⟨ret_bool (by rw [HR.out]), O1.out⟩
              · rintro e w1 ⟨rfl, o1⟩
                have O1 := Lib.hid (HO.out.trans o1)
                have d0 := o1.keeps c0
                have d1 := o1.keeps c1
                have d2 := o1.keeps c2
                obtain ⟨hg1, hg2⟩ := of_decide_eq_true hg
                simp only at hg1 hg2
                have HSL := Lib.hid (rslot_used hg)
                have HDEC := Lib.hid (refDec_any hx63 w1)
                obtain ⟨de, hde⟩ : ∃ de, de = dE (x : Nat) := ⟨_, rfl⟩
                rw [← hde] at HDEC HSL
                clear o1 c0 c1 c2 hg hx63 hde
                go_wp2_with fail
                go_at_call 39
                refine HDEC.out.mono ?_
                rintro e w2 ⟨rfl, o2⟩
                have O2 := Lib.hid (O1.out.trans o2)
                clear o2 d0 d1 d2
                by_cases hd : de = 0
                · have HN2 := Lib.hid (upTo_right HNO.out HX.out (HSL.out.trans (decide_eq_true hd)))
                  subst hd
                  go_wp2
                  go_roundw
                  case rel => exact ⟨k + 1, by omega, by go_num, HN2, Lib.hid (O2.out.alloc _)⟩
                  case measure => simp [intOf]; omega
                · have HR := Lib.hid (rightS_bad (n := l.length) HX.out (HSL.out.trans (decide_eq_false hd)))
                  have hbq : (de == 0) = false := by simpa using hd
                  go_wp2
                  go_ret
                  exact ⟨ret_bool (by rw [HR.out]), O2.out.alloc _⟩
          · obtain rfl : k = l.length := by omega
            have HR := Lib.hid (rightS_yes (l := l) (n := l.length) (by omega) HNO.out)
            go_wp2
            go_ret
            exact ⟨ret_bool (by rw [HR.out]), HO.out⟩
end Go.Proofs.Ytcfiimedmhohaaa
