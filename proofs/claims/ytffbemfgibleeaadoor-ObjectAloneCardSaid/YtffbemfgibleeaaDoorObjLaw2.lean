/- One deed of ObjectPlays: with words, and with an arena. -/
import Derived.Test.YtffbemfgibleeaaDoorObjLaw1
import Derived.Test.YtffbemfgibleeaaDoorRef08B
import Derived.Test.YtffbemfgibleeaaDoorOpenElems
import Derived.Test.YtffbemfgibleeaaDoorHeadLaw1
namespace Go.Proofs.YtffbemfgibleeaaDoor
open Go.RowKit

/-- One deed's nine cells. -/
def Deed8 (xs : List Value) (q : Nat) (kd a i k f r : Int) (m : Bool) (c : Int) (x : Nat) : Prop :=
  ∀ j, j < 9 → xs[q * 9 + j]? = ([.int .i64 kd, .int .i64 a, .int .i64 i, .int .i64 k, .int .i64 f, .int .i64 r, .bool m, .int .i64 c, .int .u64 (x : Nat)] : List Value)[j]?
def Deeds8 (n : Nat) (xs : List Value) : Prop := ∀ q, q < n → ∃ kd a i k f r : Int, ∃ m : Bool, ∃ c : Int, ∃ x : Nat, Deed8 xs q kd a i k f r m c x ∧ a ≤ 9223372036854775807 ∧ x < full
theorem deeds8_of {H : Type} {enc : TypeId × Value → H} {w : World} {base n : Nat} {sp : Nat → Bool} {held : Bool} {xs : List Value}
    (h : ∀ i, i < n → ∃ (cs : List Value) (k : Nat) (y : DataW H × List MemPlace), cs.length = 9 ∧ (∀ j, j < 9 → xs[i * 9 + j]? = cs[j]?) ∧ DataW.trod enc Tryd.prog w base sp held k 33 cs = some y) : Deeds8 n xs := by
  have cI : Tryd.prog.cellsOf 3 = 1 := by kernel_rfl
  have cH : Tryd.prog.cellsOf 30 = 5 := by kernel_rfl
  have cU : Tryd.prog.cellsOf 31 = 1 := by kernel_rfl
  intro q hq
  obtain ⟨cs, k, y, hl, hx, hd⟩ := h q hq
  obtain ⟨ys, n', -, -, -, hyl, hg⟩ := DataW.trod_struct Tryd.underlying33 hd
  match cs, hl, ys, hyl with
  | [u0, u1, u2, u3, u4, u5, u6, u7, u8], _, [y0, y1, y2, y3, y4], _ =>
    have g0 : DataW.trod enc Tryd.prog w base sp held n' 3 (([u0, u1, u2, u3, u4, u5, u6, u7, u8].drop 0).take (Tryd.prog.cellsOf 3)) = some y0 := hg 0 _ rfl
    have g1 : DataW.trod enc Tryd.prog w base sp held n' 3 (([u0, u1, u2, u3, u4, u5, u6, u7, u8].drop 1).take (Tryd.prog.cellsOf 3)) = some y1 := hg 1 _ rfl
    have g2 : DataW.trod enc Tryd.prog w base sp held n' 3 (([u0, u1, u2, u3, u4, u5, u6, u7, u8].drop 2).take (Tryd.prog.cellsOf 3)) = some y2 := hg 2 _ rfl
    have g3 : DataW.trod enc Tryd.prog w base sp held n' 30 (([u0, u1, u2, u3, u4, u5, u6, u7, u8].drop 3).take (Tryd.prog.cellsOf 30)) = some y3 := hg 3 _ rfl
    have g4 : DataW.trod enc Tryd.prog w base sp held n' 31 (([u0, u1, u2, u3, u4, u5, u6, u7, u8].drop 8).take (Tryd.prog.cellsOf 31)) = some y4 := hg 4 _ rfl
    rw [cI] at g0 g1 g2
    rw [cH] at g3
    rw [cU] at g4
    simp only [List.drop, List.take] at g0 g1 g2 g3 g4
    obtain ⟨z0, i0, -, -⟩ := DataW.trod_int Tryd.underlying3 g0
    obtain ⟨z1, i1, -, b1⟩ := DataW.trod_int Tryd.underlying3 g1
    obtain ⟨z2, i2, -, -⟩ := DataW.trod_int Tryd.underlying3 g2
    obtain ⟨z8, i8, -, b8⟩ := DataW.trod_int Tryd.underlying31 g4
    obtain ⟨-, zs, k2, -, -, hh⟩ := cells_of_struct Tryd.underlying30 (by kernel_rfl) (by kernel_rfl) g3
    obtain ⟨_, _, e3, -, h3⟩ := hh 0 _ rfl
    obtain ⟨_, _, e4, -, h4⟩ := hh 1 _ rfl
    obtain ⟨_, _, e5, -, h5⟩ := hh 2 _ rfl
    obtain ⟨_, _, e6, -, h6⟩ := hh 3 _ rfl
    obtain ⟨_, _, e7, -, h7⟩ := hh 4 _ rfl
    obtain ⟨z3, i3, -, -⟩ := DataW.trod_int (k := .i64) (by kernel_rfl) h3
    obtain ⟨z4, i4, -, -⟩ := DataW.trod_int (k := .i64) (by kernel_rfl) h4
    obtain ⟨z5, i5, -, -⟩ := DataW.trod_int (k := .i64) (by kernel_rfl) h5
    obtain ⟨z6, i6, -⟩ := DataW.trod_bool (by kernel_rfl) h6
    obtain ⟨z7, i7, -, -⟩ := DataW.trod_int (k := .i64) (by kernel_rfl) h7
    simp at e3 e4 e5 e6 e7 i0 i1 i2 i3 i4 i5 i6 i7 i8
    have hz := nat_of_word b8
    refine ⟨z0, z1, z2, z3, z4, z5, z6, z7, z8.toNat, ?_, (bounds_i64 b1).2, hz.2⟩
    intro j hj
    rw [hx j hj, ← hz.1]
    simp [e3, e4, e5, e6, e7, i0, i1, i2, i3, i4, i5, i6, i7, i8]

/-- A deed's error, and the words behind it. -/
def dvE (l : List Nat) (kd a i k f r c : Int) (x : Nat) : Int :=
  if kd = 0 then ptE l a k f r c else if kd = 1 then shE l a k f r c else if kd = 2 then stE false l a i x else if kd = 3 then stE true l a i x else 0
def dvL (l : List Nat) (kd a i k f r : Int) (m : Bool) (c : Int) (x : Nat) : List Nat :=
  if kd = 0 then ptL l a k f r m c else if kd = 1 then shL l a k f r m c else if kd = 2 then stL false l a i x else if kd = 3 then stL true l a i x else l
theorem ptL_err {l : List Nat} {a k f r c : Int} (m : Bool) (h : ptE l a k f r c ≠ 0) : ptL l a k f r m c = l := by unfold ptL; rw [if_neg h]
theorem shL_err {l : List Nat} {a k f r c : Int} (m : Bool) (h : shE l a k f r c ≠ 0) : shL l a k f r m c = l := by unfold shL; rw [if_neg h]
theorem stL_err {raw : Bool} {l : List Nat} {a i : Int} {x : Nat} (h : stE raw l a i x ≠ 0) : stL raw l a i x = l := by unfold stL; rw [if_neg h]
theorem ptL_len (l : List Nat) (a k f r : Int) (m : Bool) (c : Int) : (ptL l a k f r m c).length = l.length := by
  unfold ptL
  split
  case isTrue h =>
    rw [List.length_set]
    unfold ptE at h
    split at h
    case isTrue hm =>
      split at h
      case isTrue hf =>
        have := hmay_iff.1 hm
        exact filled_len _ _ _ _ (by omega)
      case isFalse => cases h
    case isFalse => cases h
  case isFalse => rfl
theorem shL_len (l : List Nat) (a k f r : Int) (m : Bool) (c : Int) : (shL l a k f r m c).length = l.length := by
  unfold shL
  split <;> simp
theorem stL_len (raw : Bool) (l : List Nat) (a i : Int) (x : Nat) : (stL raw l a i x).length = l.length := by
  unfold stL
  split <;> simp
theorem dvL_len (l : List Nat) (kd a i k f r : Int) (m : Bool) (c : Int) (x : Nat) : (dvL l kd a i k f r m c x).length = l.length := by
  unfold dvL
  split
  · exact ptL_len _ _ _ _ _ _ _
  · split
    · exact shL_len _ _ _ _ _ _ _
    · split
      · exact stL_len _ _ _ _ _
      · split
        · exact stL_len _ _ _ _ _
        · rfl

/-- The list behind a deed: the old one, or one that is new. -/
def Lst (w w' : World) (v v' : Value) (l l' : List Nat) : Prop := (v' = v ∧ l' = l) ∨ w'.ownsRow w.heap.size 31 1 v' l'.length (u64s l')
theorem Lst.of {w W w' : World} {v v' : Value} {E : Int} {l l' : List Nat} (h : NewL W w' v v' E l') (o : Only nob w W) (hE : E ≠ 0 → l' = l) : Lst w w' v v' l l' := by
  by_cases h0 : E = 0
  · exact .inr (own_more (h.2 h0) fun k hk => Nat.le_trans o.size (own_lt (h.2 h0) hk).1)
  · exact .inl ⟨h.1 h0, hE h0⟩

theorem ret_two {v : Value} {p q : Int} (h : p = q) : Ending.returned (.tuple #[v, .int .i64 p]) = .returned (.tuple #[v, .int .i64 q]) := by rw [h]
theorem cells9 {w : World} {b : Nat} {t : TypeId} {x0 x1 x2 x3 x4 x5 x6 x7 x8 : Value} (h : Blk w b t #[x0, x1, x2, x3, x4, x5, x6, x7, x8]) :
    w.cell? ⟨b, 0, none⟩ = some x0 ∧ w.cell? ⟨b, 1, none⟩ = some x1 ∧ w.cell? ⟨b, 2, none⟩ = some x2 ∧ w.cell? ⟨b, 3, none⟩ = some x3 ∧ w.cell? ⟨b, 4, none⟩ = some x4 ∧ w.cell? ⟨b, 5, none⟩ = some x5 ∧ w.cell? ⟨b, 6, none⟩ = some x6 ∧ w.cell? ⟨b, 7, none⟩ = some x7 ∧ w.cell? ⟨b, 8, none⟩ = some x8 :=
  ⟨h.cell 0, h.cell 1, h.cell 2, h.cell 3, h.cell 4, h.cell 5, h.cell 6, h.cell 7, h.cell 8⟩
theorem box_deed (w : World) (kd a i k f r : Int) (m : Bool) (c : Int) (x : Nat) : ∃ W, w.alloc (.cells #[.int .i64 kd, .int .i64 a, .int .i64 i, .int .i64 k, .int .i64 f, .int .i64 r, .bool m, .int .i64 c, .int .u64 (x : Nat)] 33) = W ∧ Hid (Only nob w W ∧ Blk W w.heap.size 33 #[.int .i64 kd, .int .i64 a, .int .i64 i, .int .i64 k, .int .i64 f, .int .i64 r, .bool m, .int .i64 c, .int .u64 (x : Nat)]) :=
  ⟨_, rfl, (Only.refl nob w).alloc _, Blk.new _ _ _⟩

set_option maxRecDepth 100000 in
set_option maxHeartbeats 2000000 in
theorem doing_any (b g : Nat) (l : List Nat) (kd a i k f r : Int) (m : Bool) (c : Int) (x : Nat) (w : World) (h : Ar w b g l) (hp : Par w) (ha : a ≤ 9223372036854775807) (hx : x < full) :
    Calls Tryd.prog 9 #[.pointer (some ⟨b, 0, none⟩), .agg #[.int .i64 kd, .int .i64 a, .int .i64 i, .int .i64 k, .int .i64 f, .int .i64 r, .bool m, .int .i64 c, .int .u64 (x : Nat)]] w fun e w' => e = .returned (.int .i64 (dvE l kd a i k f r c x)) ∧ Ar w' b g (dvL l kd a i k f r m c x) ∧ Only (isb g) w w' := by
  obtain ⟨W, hW0, HB⟩ := box_deed w kd a i k f r m c x
  have HWE := Lib.hid hW0
  have HP := Lib.hid (hp.old HB.out.1)
  have HA := Lib.hid (h.keep HB.out.1 id id)
  obtain ⟨c0, c1, c2, c3, c4, c5, c6, c7, c8⟩ := cells9 HB.out.2
  clear hW0 h hp
  by_cases k0 : kd = 0
  · subst k0
    have HE := Lib.hid (show dvE l 0 a i k f r c x = ptE l a k f r c from rfl)
    have HL := Lib.hid (show dvL l 0 a i k f r m c x = ptL l a k f r m c from rfl)
    go_enter Tryd.func9, Tryd.ntmps9
    go_wp2_with fail
    rw [HWE.out]
    go_at_call 19
    refine (oPut_any b g l a k f r m c _ HA.out HP.out ha).mono ?_
    rintro e w1 ⟨rfl, hA1, o⟩
    have A1 := Lib.hid hA1
    have O1 := Lib.hid ((HB.out.1.mono (G := isb g) fun _ _ h => h.elim).trans o)
    clear hA1 o c0 c1 c2 c3 c4 c5 c6 c7 c8
    go_wp2
    go_ret
    exact ⟨ret_int HE.out.symm, HL.out ▸ A1.out, O1.out⟩
  · have k0' : (kd == 0) = false := by simpa using k0
    by_cases k1 : kd = 1
    · subst k1
      clear k0 k0'
      have HE := Lib.hid (show dvE l 1 a i k f r c x = shE l a k f r c from rfl)
      have HL := Lib.hid (show dvL l 1 a i k f r m c x = shL l a k f r m c from rfl)
      go_enter Tryd.func9, Tryd.ntmps9
      go_wp2_with fail
      rw [HWE.out]
      go_at_call 20
      refine (oSetHead_any b g l a k f r m c _ HA.out HP.out ha).mono ?_
      rintro e w1 ⟨rfl, hA1, o⟩
      have A1 := Lib.hid hA1
      have O1 := Lib.hid ((HB.out.1.mono (G := isb g) fun _ _ h => h.elim).trans o)
      clear hA1 o c0 c1 c2 c3 c4 c5 c6 c7 c8
      go_wp2
      go_ret
      exact ⟨ret_int HE.out.symm, HL.out ▸ A1.out, O1.out⟩
    · have k1' : (kd == 1) = false := by simpa using k1
      by_cases k2 : kd = 2
      · subst k2
        clear k0 k0' k1 k1'
        have HE := Lib.hid (show dvE l 2 a i k f r c x = stE false l a i x from rfl)
        have HL := Lib.hid (show dvL l 2 a i k f r m c x = stL false l a i x from rfl)
        go_enter Tryd.func9, Tryd.ntmps9
        go_wp2_with fail
        rw [HWE.out]
        go_at_call 17
        refine (oSetField_any b g l a i x _ HA.out HP.out ha hx).mono ?_
        rintro e w1 ⟨rfl, hA1, o⟩
        have A1 := Lib.hid hA1
        have O1 := Lib.hid ((HB.out.1.mono (G := isb g) fun _ _ h => h.elim).trans o)
        clear hA1 o c0 c1 c2 c3 c4 c5 c6 c7 c8
        go_wp2
        go_ret
        exact ⟨ret_int HE.out.symm, HL.out ▸ A1.out, O1.out⟩
      · have k2' : (kd == 2) = false := by simpa using k2
        by_cases k3 : kd = 3
        · subst k3
          clear k0 k0' k1 k1' k2 k2'
          have HE := Lib.hid (show dvE l 3 a i k f r c x = stE true l a i x from rfl)
          have HL := Lib.hid (show dvL l 3 a i k f r m c x = stL true l a i x from rfl)
          go_enter Tryd.func9, Tryd.ntmps9
          go_wp2_with fail
          rw [HWE.out]
          go_at_call 18
          refine (oSetRaw_any b g l a i x _ HA.out HP.out ha hx).mono ?_
          rintro e w1 ⟨rfl, hA1, o⟩
          have A1 := Lib.hid hA1
          have O1 := Lib.hid ((HB.out.1.mono (G := isb g) fun _ _ h => h.elim).trans o)
          clear hA1 o c0 c1 c2 c3 c4 c5 c6 c7 c8
          go_wp2
          go_ret
          exact ⟨ret_int HE.out.symm, HL.out ▸ A1.out, O1.out⟩
        · have k3' : (kd == 3) = false := by simpa using k3
          have HE := Lib.hid (show dvE l kd a i k f r c x = 0 by unfold dvE; rw [if_neg k0, if_neg k1, if_neg k2, if_neg k3])
          have HL := Lib.hid (show dvL l kd a i k f r m c x = l by unfold dvL; rw [if_neg k0, if_neg k1, if_neg k2, if_neg k3])
          go_enter Tryd.func9, Tryd.ntmps9
          go_upto_region 1 with fail
          rw [HWE.out]
          go_wp2
          go_ret
          exact ⟨ret_int HE.out.symm, HL.out.symm ▸ HA.out, HB.out.1.mono fun _ _ h => h.elim⟩

set_option maxRecDepth 100000 in
set_option maxHeartbeats 2000000 in
theorem do_any (v : Value) (B : Nat) (l : List Nat) (kd a i k f r : Int) (m : Bool) (c : Int) (x : Nat) (w : World) (h : Sl w B 1 v l.length (u64s l)) (hB : B ≤ w.heap.size) (hw : Words l) (hl : l.length ≤ 98304) (hx : x < full) :
    Calls Tryd.prog 8 #[v, .agg #[.int .i64 kd, .int .i64 a, .int .i64 i, .int .i64 k, .int .i64 f, .int .i64 r, .bool m, .int .i64 c, .int .u64 (x : Nat)]] w fun e w' => ∃ v', e = .returned (.tuple #[v', .int .i64 (dvE l kd a i k f r c x)]) ∧ Lst w w' v v' l (dvL l kd a i k f r m c x) ∧ Only nob w w' := by
  obtain ⟨W, hW0, HB⟩ := box_deed w kd a i k f r m c x
  have HWE := Lib.hid hW0
  have HSL := Lib.hid (h.only HB.out.1 hB (fun _ h => h.elim))
  have HB3 := Lib.hid (Nat.le_trans hB HB.out.1.size)
  obtain ⟨c0, c1, c2, c3, c4, c5, c6, c7, c8⟩ := cells9 HB.out.2
  clear hW0 h hB
  by_cases k0 : kd = 0
  · subst k0
    have HE := Lib.hid (show dvE l 0 a i k f r c x = ptE l a k f r c from rfl)
    have HL := Lib.hid (show dvL l 0 a i k f r m c x = ptL l a k f r m c from rfl)
    go_enter Tryd.func8, Tryd.ntmps8
    go_wp2_with fail
    rw [HWE.out]
    go_at_call 24
    refine (rPut_any v B l a k f r m c _ HSL.out HB3.out hl).mono ?_
    rintro e w1 ⟨v1, rfl, hn, o⟩
    have N1 := Lib.hid (Lst.of (l := l) hn HB.out.1 (ptL_err m))
    have O1 := Lib.hid (HB.out.1.trans o)
    clear hn o c0 c1 c2 c3 c4 c5 c6 c7 c8
    go_wp2
    go_ret2
    exact ⟨_, ret_two HE.out.symm, HL.out ▸ N1.out, O1.out⟩
  · have k0' : (kd == 0) = false := by simpa using k0
    by_cases k1 : kd = 1
    · subst k1
      clear k0 k0'
      have HE := Lib.hid (show dvE l 1 a i k f r c x = shE l a k f r c from rfl)
      have HL := Lib.hid (show dvL l 1 a i k f r m c x = shL l a k f r m c from rfl)
      go_enter Tryd.func8, Tryd.ntmps8
      go_wp2_with fail
      rw [HWE.out]
      go_at_call 25
      refine (rSetHead_any v B l a k f r m c _ HSL.out HB3.out hw hl).mono ?_
      rintro e w1 ⟨v1, rfl, hn, o⟩
      have N1 := Lib.hid (Lst.of (l := l) hn HB.out.1 (shL_err m))
      have O1 := Lib.hid (HB.out.1.trans o)
      clear hn o c0 c1 c2 c3 c4 c5 c6 c7 c8
      go_wp2
      go_ret2
      exact ⟨_, ret_two HE.out.symm, HL.out ▸ N1.out, O1.out⟩
    · have k1' : (kd == 1) = false := by simpa using k1
      by_cases k2 : kd = 2
      · subst k2
        clear k0 k0' k1 k1'
        have HE := Lib.hid (show dvE l 2 a i k f r c x = stE false l a i x from rfl)
        have HL := Lib.hid (show dvL l 2 a i k f r m c x = stL false l a i x from rfl)
        go_enter Tryd.func8, Tryd.ntmps8
        go_wp2_with fail
        rw [HWE.out]
        go_at_call 26
        refine (rSet_any v B l a i x false _ HSL.out HB3.out hw hl hx).mono ?_
        rintro e w1 ⟨v1, rfl, hn, o⟩
        have N1 := Lib.hid (Lst.of (l := l) hn HB.out.1 stL_err)
        have O1 := Lib.hid (HB.out.1.trans o)
        clear hn o c0 c1 c2 c3 c4 c5 c6 c7 c8
        go_wp2
        go_ret2
        exact ⟨_, ret_two HE.out.symm, HL.out ▸ N1.out, O1.out⟩
      · have k2' : (kd == 2) = false := by simpa using k2
        by_cases k3 : kd = 3
        · subst k3
          clear k0 k0' k1 k1' k2 k2'
          have HE := Lib.hid (show dvE l 3 a i k f r c x = stE true l a i x from rfl)
          have HL := Lib.hid (show dvL l 3 a i k f r m c x = stL true l a i x from rfl)
          go_enter Tryd.func8, Tryd.ntmps8
          go_wp2_with fail
          rw [HWE.out]
          go_at_call 26
          refine (rSet_any v B l a i x true _ HSL.out HB3.out hw hl hx).mono ?_
          rintro e w1 ⟨v1, rfl, hn, o⟩
          have N1 := Lib.hid (Lst.of (l := l) hn HB.out.1 stL_err)
          have O1 := Lib.hid (HB.out.1.trans o)
          clear hn o c0 c1 c2 c3 c4 c5 c6 c7 c8
          go_wp2
          go_ret2
          exact ⟨_, ret_two HE.out.symm, HL.out ▸ N1.out, O1.out⟩
        · have k3' : (kd == 3) = false := by simpa using k3
          have HE := Lib.hid (show dvE l kd a i k f r c x = 0 by unfold dvE; rw [if_neg k0, if_neg k1, if_neg k2, if_neg k3])
          have HL := Lib.hid (show dvL l kd a i k f r m c x = l by unfold dvL; rw [if_neg k0, if_neg k1, if_neg k2, if_neg k3])
          go_enter Tryd.func8, Tryd.ntmps8
          go_upto_region 1 with fail
          rw [HWE.out]
          go_wp2
          go_ret2
          exact ⟨_, ret_two HE.out.symm, .inl ⟨rfl, HL.out⟩, HB.out.1⟩
end Go.Proofs.YtffbemfgibleeaaDoor
