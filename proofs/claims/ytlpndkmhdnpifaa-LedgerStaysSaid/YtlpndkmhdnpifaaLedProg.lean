/- Contracts of package ledger: what is asked of spans one by one; IsSortedFunc; place, Find, Of. -/
import Derived.Test.YtlpndkmhdnpifaaLedSl
import Derived.Test.YtlpndkmhdnpifaaQuiets
namespace Go.Proofs.Ytlpndkmhdnpifaa
set_option maxRecDepth 100000
open Go.RowKit Go.Lib Go.Sort

theorem mixedLed : Try.prog.follows .mixedOrders = true := by kernel_rfl

set_option maxHeartbeats 1000000 in
theorem add1_any (s : Sp) (gp : Nat) (hs : Fit s) (x : Sp) (hx : Fit x) (w : World) (hb : Blk w gp 24 #[.int .i64 s.1, .int .i64 s.2]) :
    Calls Try.prog 22 #[.agg #[.int .i64 x.1, .int .i64 x.2], .pointer (some ⟨gp, 0, none⟩)] w fun e w' => e = .returned (.bool (decide (Sp.meets x s))) ∧ Only nob w w' := by
  have hb2 := hb.alloc (.cells #[.int .i64 x.1, .int .i64 x.2] 24)
  have hb0 := hb2.cell 0
  have hb1 := hb2.cell 1
  simp at hb0 hb1
  clear hb hb2
  obtain ⟨q, hq⟩ : ∃ q, q = decide (Sp.meets x s) := ⟨_, rfl⟩
  have HQ := Lib.hid hq
  rw [← hq]
  clear hq
  go_enter Try.func22, Try.ntmps22
  go_wp2_with fail
  go_at_call 23
  refine (spMeets x s hx hs _).mono ?_
  rw [← HQ.out]
  rintro e w1 ⟨rfl, o⟩
  have O := Lib.hid (((Only.refl nob w).alloc (.cells #[.int .i64 x.1, .int .i64 x.2] 24)).trans o)
  clear o
  go_wp2
  go_ret
  exact ⟨rfl, O.out⟩
theorem add1_pred {s : Sp} {gp : Nat} {w : World} (hs : Fit s) (hb : Blk w gp 24 #[.int .i64 s.1, .int .i64 s.2]) : Pred 22 #[.pointer (some ⟨gp, 0, none⟩)] (fun x => decide (Sp.meets x s)) w :=
  ⟨enters_of Try.func22 (by kernel_rfl) rfl, fun x hx W hW => add1_any s gp hs x hx W (hb.keep hW id)⟩

set_option maxHeartbeats 1000000 in
theorem rightL_any (all : Sp) (gp : Nat) (ha : Fit all) (x : Sp) (hx : Fit x) (w : World) (hb : Blk w gp 24 #[.int .i64 all.1, .int .i64 all.2]) :
    Calls Try.prog 35 #[.agg #[.int .i64 x.1, .int .i64 x.2], .pointer (some ⟨gp, 0, none⟩)] w fun e w' => e = .returned (.bool (!decide (Sp.within x all))) ∧ Only nob w w' := by
  have hb2 := hb.alloc (.cells #[.int .i64 x.1, .int .i64 x.2] 24)
  have hb0 := hb2.cell 0
  have hb1 := hb2.cell 1
  simp at hb0 hb1
  clear hb hb2
  obtain ⟨q, hq⟩ : ∃ q, q = decide (Sp.within x all) := ⟨_, rfl⟩
  have HQ := Lib.hid hq
  rw [← hq]
  clear hq
  go_enter Try.func35, Try.ntmps35
  go_wp2_with fail
  go_at_call 36
  refine (spWithin x all hx ha _).mono ?_
  rw [← HQ.out]
  rintro e w1 ⟨rfl, o⟩
  have O := Lib.hid (((Only.refl nob w).alloc (.cells #[.int .i64 x.1, .int .i64 x.2] 24)).trans o)
  clear o
  go_wp2
  go_ret
  exact ⟨rfl, O.out⟩
theorem rightL_pred {all : Sp} {gp : Nat} {w : World} (ha : Fit all) (hb : Blk w gp 24 #[.int .i64 all.1, .int .i64 all.2]) : Pred 35 #[.pointer (some ⟨gp, 0, none⟩)] (fun x => !decide (Sp.within x all)) w :=
  ⟨enters_of Try.func35 (by kernel_rfl) rfl, fun x hx W hW => rightL_any all gp ha x hx W (hb.keep hW id)⟩

set_option maxHeartbeats 1000000 in
theorem find1_any (a : Int) (gp : Nat) (x : Sp) (w : World) (hb : Blk w gp 3 #[.int .i64 a]) :
    Calls Try.prog 31 #[.agg #[.int .i64 x.1, .int .i64 x.2], .pointer (some ⟨gp, 0, none⟩)] w fun e w' => e = .returned (.bool (decide (x.1 = a))) ∧ Only nob w w' := by
  have hb0 := (hb.alloc (.cells #[.int .i64 x.1, .int .i64 x.2] 24)).cell 0
  simp at hb0
  have O := Lib.hid ((Only.refl nob w).alloc (.cells #[.int .i64 x.1, .int .i64 x.2] 24))
  clear hb
  go_enter Try.func31, Try.ntmps31
  go_wp2
  go_ret
  exact ⟨ret_bool (by rw [Bool.eq_iff_iff]; simp), O.out⟩
theorem find1_pred {a : Int} {gp : Nat} {w : World} (hb : Blk w gp 3 #[.int .i64 a]) : Pred 31 #[.pointer (some ⟨gp, 0, none⟩)] (fun x => decide (x.1 = a)) w :=
  ⟨enters_of Try.func31 (by kernel_rfl) rfl, fun x _ W hW => find1_any a gp x W (hb.keep hW id)⟩

set_option maxHeartbeats 1000000 in
theorem place1_any (a : Int) (gp : Nat) (x : Sp) (w : World) (hb : Blk w gp 3 #[.int .i64 a]) :
    Calls Try.prog 52 #[.agg #[.int .i64 x.1, .int .i64 x.2], .pointer (some ⟨gp, 0, none⟩)] w fun e w' => e = .returned (.bool (decide (a < x.1))) ∧ Only nob w w' := by
  have hb0 := (hb.alloc (.cells #[.int .i64 x.1, .int .i64 x.2] 24)).cell 0
  simp at hb0
  have O := Lib.hid ((Only.refl nob w).alloc (.cells #[.int .i64 x.1, .int .i64 x.2] 24))
  clear hb
  go_enter Try.func52, Try.ntmps52
  go_wp2
  go_ret
  exact ⟨rfl, O.out⟩
theorem place1_pred {a : Int} {gp : Nat} {w : World} (hb : Blk w gp 3 #[.int .i64 a]) : Pred 52 #[.pointer (some ⟨gp, 0, none⟩)] (fun x => decide (a < x.1)) w :=
  ⟨enters_of Try.func52 (by kernel_rfl) rfl, fun x _ W hW => place1_any a gp x W (hb.keep hW id)⟩

set_option maxHeartbeats 1000000 in
theorem of1_any (p : Int) (hp1 : -9223372036854775808 ≤ p) (hp2 : p ≤ 9223372036854775807) (gp : Nat) (x : Sp) (hx : Fit x) (w : World) (hb : Blk w gp 3 #[.int .i64 p]) :
    Calls Try.prog 32 #[.agg #[.int .i64 x.1, .int .i64 x.2], .pointer (some ⟨gp, 0, none⟩)] w fun e w' => e = .returned (.bool (decide (Sp.has x p))) ∧ Only nob w w' := by
  have hb0 := (hb.alloc (.cells #[.int .i64 x.1, .int .i64 x.2] 24)).cell 0
  simp at hb0
  obtain ⟨q, hq⟩ : ∃ q, q = decide (Sp.has x p) := ⟨_, rfl⟩
  have HQ := Lib.hid hq
  rw [← hq]
  clear hb hq
  go_enter Try.func32, Try.ntmps32
  go_wp2_with fail
  go_at_call 33
  refine (spHas x p _ hx hp1 hp2).mono ?_
  rw [← HQ.out]
  rintro e w1 ⟨rfl, o⟩
  have O := Lib.hid (((Only.refl nob w).alloc (.cells #[.int .i64 x.1, .int .i64 x.2] 24)).trans o)
  clear o
  go_wp2
  go_ret
  exact ⟨rfl, O.out⟩
theorem of1_pred {p : Int} (hp1 : -9223372036854775808 ≤ p) (hp2 : p ≤ 9223372036854775807) {gp : Nat} {w : World} (hb : Blk w gp 3 #[.int .i64 p]) : Pred 32 #[.pointer (some ⟨gp, 0, none⟩)] (fun x => decide (Sp.has x p)) w :=
  ⟨enters_of Try.func32 (by kernel_rfl) rfl, fun x hx W hW => of1_any p hp1 hp2 gp x hx W (hb.keep hW id)⟩

def SpFind : Prop := ∀ (v : Value) (l : List Sp) (a : Int) (B : Nat) (w : World), Sl w B 2 v l.length (spc l) → B ≤ w.heap.size → Fits l →
  Calls Try.prog 12 #[v, .int .i64 a] w fun e w' => e = .returned (.int .i64 (findT l a)) ∧ Only nob w w'
set_option maxHeartbeats 1000000 in
theorem spFind : SpFind := by
  intro v l a B w h hB hf
  have HA := Lib.hid h
  have HF := Lib.hid hf
  have HB := Lib.hid (Blk.new w 3 #[.int .i64 a])
  have O0 := Lib.hid ((Only.refl nob w).alloc (.cells #[.int .i64 a] 3))
  clear h hf
  go_enter Try.func12, Try.ntmps12
  go_wp2_with fail
  go_at_call 30
  refine (indexFunc_any _ _ _ v l B _ (find1_pred HB.out) (HA.out.below (O0.out.below hB fun _ h => h.elim)) (Nat.le_trans hB O0.out.size) HF.out).mono ?_
  rintro e w1 ⟨rfl, o⟩
  have O1 := Lib.hid (O0.out.trans o)
  obtain ⟨i, hi⟩ : ∃ i, i = idxI (fun x => decide (x.1 = a)) l := ⟨_, rfl⟩
  rw [← hi]
  have HI := Lib.hid (show i = findT l a from hi)
  clear o hi
  go_wp2
  go_ret
  exact ⟨ret_i64 HI.out, O1.out⟩

def SpOf : Prop := ∀ (v : Value) (l : List Sp) (p : Int) (B : Nat) (w : World), Sl w B 2 v l.length (spc l) → B ≤ w.heap.size → Fits l → -9223372036854775808 ≤ p → p ≤ 9223372036854775807 →
  Calls Try.prog 14 #[v, .int .i64 p] w fun e w' => e = .returned (.int .i64 (ofT l p)) ∧ Only nob w w'
set_option maxHeartbeats 1000000 in
theorem spOf : SpOf := by
  intro v l p B w h hB hf hp1 hp2
  have HA := Lib.hid h
  have HF := Lib.hid hf
  have HB := Lib.hid (Blk.new w 3 #[.int .i64 p])
  have O0 := Lib.hid ((Only.refl nob w).alloc (.cells #[.int .i64 p] 3))
  clear h hf
  go_enter Try.func14, Try.ntmps14
  go_wp2_with fail
  go_at_call 30
  refine (indexFunc_any _ _ _ v l B _ (of1_pred hp1 hp2 HB.out) (HA.out.below (O0.out.below hB fun _ h => h.elim)) (Nat.le_trans hB O0.out.size) HF.out).mono ?_
  rintro e w1 ⟨rfl, o⟩
  have O1 := Lib.hid (O0.out.trans o)
  obtain ⟨i, hi⟩ : ∃ i, i = idxI (fun x => decide (Sp.has x p)) l := ⟨_, rfl⟩
  rw [← hi]
  have HI := Lib.hid (show i = ofT l p from hi)
  clear o hi
  go_wp2
  go_ret
  exact ⟨ret_i64 HI.out, O1.out⟩

set_option maxHeartbeats 1000000 in
theorem place_any (v : Value) (l : List Sp) (a : Int) (B : Nat) (w : World) (h : Sl w B 2 v l.length (spc l)) (hB : B ≤ w.heap.size) (hf : Fits l) :
    Calls Try.prog 26 #[v, .int .i64 a] w fun e w' => e = .returned (.int .i64 (placeT l a : Nat)) ∧ Only nob w w' := by
  have HA := Lib.hid h
  have HF := Lib.hid hf
  obtain ⟨A, ca, rfl, -, -⟩ := h.form
  have HB := Lib.hid (Blk.new w 3 #[.int .i64 a])
  have O0 := Lib.hid ((Only.refl nob w).alloc (.cells #[.int .i64 a] 3))
  clear h hf
  obtain ⟨P1, P2⟩ := placeT_idx l a
  have H1 := Lib.hid P1
  have H2 := Lib.hid P2
  obtain ⟨i, hi⟩ : ∃ i, i = idxI (fun x => decide (a < x.1)) l := ⟨_, rfl⟩
  have HI := Lib.hid hi
  clear hi P1 P2
  by_cases hlt : i < 0
  · have HK := Lib.hid (H1.out (by rw [← HI.out]; exact hlt))
    go_enter Try.func26, Try.ntmps26
    go_wp2_with fail
    go_at_call 30
    refine (indexFunc_any _ _ _ _ l B _ (place1_pred HB.out) (HA.out.below (O0.out.below hB fun _ h => h.elim)) (Nat.le_trans hB O0.out.size) HF.out).mono ?_
    rw [← HI.out]
    rintro e w1 ⟨rfl, o⟩
    have O1 := Lib.hid (O0.out.trans o)
    clear o
    go_wp2
    go_ret
    exact ⟨ret_i64 (by rw [HK.out]), O1.out⟩
  · have HK := Lib.hid (show i = (placeT l a : Nat) by rw [HI.out]; exact H2.out (by rw [← HI.out]; exact hlt))
    go_enter Try.func26, Try.ntmps26
    go_wp2_with fail
    go_at_call 30
    refine (indexFunc_any _ _ _ _ l B _ (place1_pred HB.out) (HA.out.below (O0.out.below hB fun _ h => h.elim)) (Nat.le_trans hB O0.out.size) HF.out).mono ?_
    rw [← HI.out]
    rintro e w1 ⟨rfl, o⟩
    have O1 := Lib.hid (O0.out.trans o)
    clear o
    go_wp2
    go_ret
    exact ⟨ret_i64 HK.out, O1.out⟩

theorem byAt_any (x y : Sp) (w : World) : Calls Try.prog 38 #[.agg #[.int .i64 x.1, .int .i64 x.2], .agg #[.int .i64 y.1, .int .i64 y.2]] w fun e w' => e = .returned (.int .i64 (cmpI x.1 y.1)) ∧ Only nob w w' := by
  have O := Lib.hid (((Only.refl nob w).alloc (.cells #[.int .i64 x.1, .int .i64 x.2] 24)).alloc (.cells #[.int .i64 y.1, .int .i64 y.2] 24))
  go_enter Try.func38, Try.ntmps38
  go_wp2_with fail
  go_at_call 53
  refine (compare_any _ _ _).mono ?_
  rintro e w1 ⟨rfl, rfl⟩
  go_wp2
  go_ret
  exact ⟨rfl, O.out⟩
theorem cmpI_neg {a b : Int} : cmpI a b < 0 ↔ a < b := by
  unfold cmpI
  split
  · constructor <;> intro <;> omega
  · split <;> constructor <;> intro <;> omega

abbrev byAtV : Value := .func (.func 38) #[] #[]
set_option maxHeartbeats 2000000 in
theorem isSorted_any (v : Value) (l : List Sp) (B : Nat) (w : World) (h : Sl w B 2 v l.length (spc l)) (hB : B ≤ w.heap.size) :
    Calls Try.prog 37 #[v, byAtV] w fun e w' => e = .returned (.bool (decide (l.Pairwise fun x y => x.1 ≤ y.1))) ∧ Only nob w w' := by
  have HA := Lib.hid h
  obtain ⟨A, ca, rfl, hac, ham, -⟩ := h
  unfold maxLen at ham
  rcases Nat.eq_zero_or_pos l.length with h0 | h0
  · obtain rfl := List.eq_nil_of_length_eq_zero h0
    clear h0
    go_enter Try.func37, Try.ntmps37
    go_wp2
    go_loopw [5] (fun i wr => i = .int .i64 (-1) ∧ wr = w) (fun _ _ => 0)
    case atStart => exact ⟨rfl, rfl⟩
    case round =>
      obtain ⟨rfl, rfl⟩ := hrel
      go_wp2
      go_ret
      exact ⟨rfl, Only.refl _ _⟩
  · go_enter Try.func37, Try.ntmps37
    go_wp2
    go_loopw [5] (fun i wr => ∃ k : Nat, k < l.length ∧ i = .int .i64 k ∧ Hid (∀ (j : Nat) y x, k ≤ j → l[j]? = some y → l[j + 1]? = some x → y.1 ≤ x.1) ∧ Hid (Only nob w wr)) (fun i _ => (intOf i).toNat)
    case atStart =>
      refine ⟨l.length - 1, by omega, ?_, fun j y x hj _ hx => ?_, Only.refl _ _⟩
      · show Value.int .i64 _ = Value.int .i64 _
        congr 1
        omega
      · have := (List.getElem?_eq_some_iff.1 hx).1
        omega
    case round =>
      obtain ⟨k, hk, rfl, HS, HX⟩ := hrel
      rcases Nat.eq_zero_or_pos k with rfl | hk0
      · have HK := Lib.hid (decide_eq_true (rising_all fun j y x => HS.out j y x (Nat.zero_le _)))
        go_wp2
        go_ret
        exact ⟨ret_bool (by rw [HK.out]), HX.out⟩
      · obtain ⟨m, rfl⟩ : ∃ m, k = m + 1 := ⟨k - 1, by omega⟩
        obtain ⟨x, hx⟩ : ∃ x, l[m + 1]? = some x := ⟨_, List.getElem?_eq_getElem hk⟩
        obtain ⟨y, hy⟩ : ∃ y, l[m]? = some y := ⟨_, List.getElem?_eq_getElem (by omega)⟩
        obtain ⟨b, o, rfl, hb, c0, c1⟩ := sl_span HA.out (HX.out.below hB fun _ h => h.elim) hx
        obtain ⟨b3, o3, e3, -, d0, d1⟩ := sl_span HA.out (HX.out.below hB fun _ h => h.elim) hy
        obtain ⟨rfl, rfl⟩ : b3 = b ∧ o3 = o := by simpa using e3.symm
        have HXX := Lib.hid hx
        have HY := Lib.hid hy
        obtain ⟨c, hc⟩ : ∃ c, c = cmpI x.1 y.1 := ⟨_, rfl⟩
        have HC := Lib.hid hc
        have H1 := Lib.hid (show ∀ (n : Nat) (os : Array Obj), Calls Try.prog 38 #[.agg #[.int .i64 x.1, .int .i64 x.2], .agg #[.int .i64 y.1, .int .i64 y.2]] (wat wr n os) fun e w' => e = .returned (.int .i64 c) ∧ Only nob (wat wr n os) w' from fun n os => by
          rw [hc]; exact byAt_any x y _)
        have g0 := wat_cell c0
        have g1 := wat_cell c1
        have g2 := wat_cell d0
        have g3 := wat_cell d1
        clear hx hy hc e3 c0 c1 d0 d1
        have jz : (m : Int) + 1 < (l.length : Int) := by omega
        have jz1 : (m : Int) < (l.length : Int) := by omega
        have p0 : (0 : Int) ≤ (m : Int) + 1 := by omega
        have e0 : ((m : Int) + 1).toNat = m + 1 := by omega
        have hwp : IntKind.i64.wrap (m : Int) = (m : Int) := by rw [IntKind.wrap_i64]; omega
        by_cases hlt : c < 0
        · have HN := Lib.hid (decide_eq_false (rising_not HY.out HXX.out (cmpI_neg.1 (by rw [← HC.out]; exact hlt))))
          go_wp2_with fail
          refine wp_region_only mixedLed (by kernel_rfl) ?_
          repeat (quiet_step ((go_at_call 38; with_reducible refine wat_call (H1.out _ _))))
          refine wpQuiet_nil ?_
          rintro w' ⟨⟨nq, osq⟩, rfl⟩
          obtain ⟨W3, hW3, O4⟩ := wat_name wr nq osq
          rw [hW3]
          clear hW3 g0 g1 g2 g3
          have O5 := Lib.hid (HX.out.trans O4.out)
          go_wp2
          go_ret
          exact ⟨ret_bool (by rw [HN.out]), O5.out⟩
        · have HN := Lib.hid (show y.1 ≤ x.1 by
            have : ¬ x.1 < y.1 := fun e => hlt (by rw [HC.out]; exact cmpI_neg.2 e)
            omega)
          go_wp2_with fail
          refine wp_region_only mixedLed (by kernel_rfl) ?_
          repeat (quiet_step ((go_at_call 38; with_reducible refine wat_call (H1.out _ _))))
          refine wpQuiet_nil ?_
          rintro w' ⟨⟨nq, osq⟩, rfl⟩
          obtain ⟨W3, hW3, O4⟩ := wat_name wr nq osq
          rw [hW3]
          clear hW3 g0 g1 g2 g3
          have O5 := Lib.hid (HX.out.trans O4.out)
          go_wp2
          go_roundw
          case rel =>
            refine ⟨m, by omega, by go_num, fun j z u hj hz hu => ?_, O5.out⟩
            rcases Nat.lt_or_ge m j with h' | h'
            · exact HS.out j z u h' hz hu
            · obtain rfl : j = m := by omega
              rw [HY.out] at hz
              rw [HXX.out] at hu
              obtain rfl := Option.some.inj hz
              obtain rfl := Option.some.inj hu
              exact HN.out
          case measure => simp [intOf]
end Go.Proofs.Ytlpndkmhdnpifaa
