/- The reference of words; digits; the texts of values: of package value and of the document's own answer. -/
import Derived.Test.YtjnkcngicjghbaaDoorValC
import Derived.Test.YtjnkcngicjghbaaDoorLay173
import Derived.Lib.ItoaLen
namespace Go.Proofs.YtjnkcngicjghbaaDoor
open Go.RowKit

theorem ref_yes {n x : Int} (hd : ∀ w, Calls Tryd.prog 8 #[.int .u64 n] w fun e w' => e = .returned (.tuple #[.agg #[.int .i64 2, .int .i64 x], .int .i64 0]) ∧ Only nob w w') (w : World) : Calls Tryd.prog 10 #[.int .u64 n] w fun e w' => e = .returned (.tuple #[.int .i64 x, .bool true]) ∧ Only nob w w' := by
  have HD := Lib.hid hd
  clear hd
  go_enter Tryd.func10, Tryd.ntmps10
  go_wp2_with fail
  go_at_call 8
  refine (HD.out _).mono ?_
  rintro e w1 ⟨rfl, o⟩
  have O1 := Lib.hid o
  clear o
  obtain ⟨W2, hW2, HB2⟩ := box_val w1 2 x
  have HW2 := Lib.hid hW2
  clear hW2
  go_wp2
  go_ret2
  exact ⟨rfl, O1.out.alloc _⟩
theorem ref_err {n x k : Int} (hd : ∀ w, Calls Tryd.prog 8 #[.int .u64 n] w fun e w' => e = .returned (.tuple #[.agg #[.int .i64 k, .int .i64 x], .int .i64 3]) ∧ Only nob w w') (w : World) : Calls Tryd.prog 10 #[.int .u64 n] w fun e w' => e = .returned (.tuple #[.int .i64 0, .bool false]) ∧ Only nob w w' := by
  have HD := Lib.hid hd
  clear hd
  go_enter Tryd.func10, Tryd.ntmps10
  go_wp2_with fail
  go_at_call 8
  refine (HD.out _).mono ?_
  rintro e w1 ⟨rfl, o⟩
  have O1 := Lib.hid o
  clear o
  obtain ⟨W2, hW2, HB2⟩ := box_val w1 k x
  have HW2 := Lib.hid hW2
  clear hW2
  go_wp2
  go_ret2
  exact ⟨rfl, O1.out.alloc _⟩
theorem ref_ne {n x k : Int} (hd : ∀ w, Calls Tryd.prog 8 #[.int .u64 n] w fun e w' => e = .returned (.tuple #[.agg #[.int .i64 k, .int .i64 x], .int .i64 0]) ∧ Only nob w w') (hk : k ≠ 2) (w : World) : Calls Tryd.prog 10 #[.int .u64 n] w fun e w' => e = .returned (.tuple #[.int .i64 0, .bool false]) ∧ Only nob w w' := by
  have HD := Lib.hid hd
  clear hd
  go_enter Tryd.func10, Tryd.ntmps10
  go_wp2_with fail
  go_at_call 8
  refine (HD.out _).mono ?_
  rintro e w1 ⟨rfl, o⟩
  have O1 := Lib.hid o
  clear o
  obtain ⟨W2, hW2, HB2⟩ := box_val w1 k x
  have HW2 := Lib.hid hW2
  clear hW2
  go_wp2
  go_ret2
  exact ⟨rfl, O1.out.alloc _⟩
theorem refRef_yes {n x f : Int} (hd : ∀ w, Calls Tryd.prog 9 #[.int .u64 n] w fun e w' => e = .returned (.tuple #[.agg #[.int .i64 2, .int .i64 x], .int .i64 f]) ∧ Only nob w w') (w : World) : Calls Tryd.prog 11 #[.int .u64 n] w fun e w' => e = .returned (.tuple #[.int .i64 x, .bool true]) ∧ Only nob w w' := by
  have HD := Lib.hid hd
  clear hd
  go_enter Tryd.func11, Tryd.ntmps11
  go_wp2_with fail
  go_at_call 9
  refine (HD.out _).mono ?_
  rintro e w1 ⟨rfl, o⟩
  have O1 := Lib.hid o
  clear o
  obtain ⟨W2, hW2, HB2⟩ := box_val w1 2 x
  have HW2 := Lib.hid hW2
  clear hW2
  go_wp2
  go_ret2
  exact ⟨rfl, O1.out.alloc _⟩
theorem refRef_ne {n x k f : Int} (hd : ∀ w, Calls Tryd.prog 9 #[.int .u64 n] w fun e w' => e = .returned (.tuple #[.agg #[.int .i64 k, .int .i64 x], .int .i64 f]) ∧ Only nob w w') (hk : k ≠ 2) (w : World) : Calls Tryd.prog 11 #[.int .u64 n] w fun e w' => e = .returned (.tuple #[.int .i64 0, .bool false]) ∧ Only nob w w' := by
  have HD := Lib.hid hd
  clear hd
  go_enter Tryd.func11, Tryd.ntmps11
  go_wp2_with fail
  go_at_call 9
  refine (HD.out _).mono ?_
  rintro e w1 ⟨rfl, o⟩
  have O1 := Lib.hid o
  clear o
  obtain ⟨W2, hW2, HB2⟩ := box_val w1 k x
  have HW2 := Lib.hid hW2
  clear hW2
  go_wp2
  go_ret2
  exact ⟨rfl, O1.out.alloc _⟩

/-- Where a word leads, and whether it does. -/
def rX (n : Int) : Int := if dK n = 2 then dX n else 0
def rB (n : Int) : Bool := decide (dK n = 2)
theorem e_of_ref {n : Int} (h : dK n = 2) : dE n = 0 := by
  unfold dK at h; unfold dE
  split at h
  · cases h
  · split at h
    · rw [if_pos (.inr (.inr ‹_›))]
    · cases h
theorem e_two (n : Int) : dE n = 0 ∨ dE n = 3 := by unfold dE; split <;> simp
theorem ref_any {n : Int} (hn : 0 ≤ n ∧ n < 18446744073709551616) (w : World) : Calls Tryd.prog 10 #[.int .u64 n] w fun e w' => e = .returned (.tuple #[.int .i64 (rX n), .bool (rB n)]) ∧ Only nob w w' := by
  have hd := fun w => dec_any hn w
  unfold rX rB
  by_cases h : dK n = 2
  · rw [if_pos h, decide_eq_true h]
    rw [h, e_of_ref h] at hd
    exact ref_yes hd w
  · rw [if_neg h, decide_eq_false h]
    rcases e_two n with he | he
    · rw [he] at hd; exact ref_ne hd h w
    · rw [he] at hd; exact ref_err hd w
theorem refRef_any {n : Int} (hn : 0 ≤ n ∧ n < 18446744073709551616) (w : World) : Calls Tryd.prog 11 #[.int .u64 n] w fun e w' => e = .returned (.tuple #[.int .i64 (rX n), .bool (rB n)]) ∧ Only nob w w' := by
  have hd := fun w => refDec_any hn w
  unfold rX rB
  by_cases h : dK n = 2
  · rw [if_pos h, decide_eq_true h]
    rw [h] at hd
    exact refRef_yes hd w
  · rw [if_neg h, decide_eq_false h]
    exact refRef_ne hd h w

/-- The table of the powers of ten. -/
def Tab (w : World) : Prop := Lib.TabIs Tryd.prog w "internal/strconv.uint64pow10" .u64 Lib.pow10Tab
theorem Tab.old {w w' : World} (h : Tab w) (o : Only nob w w') : Tab w' := by
  unfold Tab Lib.TabIs World.var? at *
  cases hg : Tryd.prog.globalNamed "internal/strconv.uint64pow10" with
  | none => simp [hg] at h
  | some g =>
    simp only [hg, Option.bind_some] at h ⊢
    have hlt : g < w.heap.size := by
      rcases Nat.lt_or_ge g w.heap.size with h' | h'
      · exact h'
      · rw [Array.getElem?_eq_none h'] at h; simp at h
    rw [o.block g hlt id]
    exact h

/-- A list of bytes as a text. -/
def txt (l : List UInt8) : ByteArray := ⟨l.toArray⟩
theorem only_grow (w : World) (k : Nat) (os : Array Obj) : Only nob w (Sort.grow (w.drewN k) os) :=
  ⟨rfl, rfl, rfl, by simp [Sort.grow, World.drewN], fun i hi _ => by
    show (w.heap ++ os)[i]? = _
    exact Array.getElem?_append_left hi⟩
theorem digits_any (k x : Int) (hx : -9223372036854775808 ≤ x ∧ x ≤ 9223372036854775807) (w : World) (ht : Tab w) : Calls Tryd.prog 18 #[.agg #[.int .i64 k, .int .i64 x]] w fun e w' => e = .returned (.string (txt (Lib.itoa x))) ∧ Only nob w w' := by
  have HT := Lib.hid ht
  clear ht
  obtain ⟨W, hW, HB⟩ := box_val w k x
  have HWE := Lib.hid hW
  clear hW
  go_enter Tryd.func18, Tryd.ntmps18
  go_wp2_with fail
  rw [HWE.out]
  go_at_call 21
  refine (formatInt x hx.1 hx.2 _ (HT.out.old HB.out.1)).mono ?_
  rintro e w1 ⟨rfl, q, os, rfl⟩
  have O1 := Lib.hid (HB.out.1.trans (only_grow W q os))
  go_wp2
  go_ret
  exact ⟨rfl, O1.out⟩

/-- The digit at y. -/
theorem dig_piece (y : Int) (h : 0 ≤ y ∧ y < 10) : (ByteArray.mk #[48, 49, 50, 51, 52, 53, 54, 55, 56, 57]).extract y.toNat (y + 1).toNat = txt [UInt8.ofNat (48 + y.toNat)] := by
  obtain ⟨n, rfl⟩ : ∃ n : Nat, y = n := ⟨y.toNat, by omega⟩
  have hall : ∀ i : Fin 10, (ByteArray.mk #[48, 49, 50, 51, 52, 53, 54, 55, 56, 57]).extract i.val (i.val + 1) = txt [UInt8.ofNat (48 + i.val)] := by decide +kernel
  have := hall ⟨n, by omega⟩
  rw [show ((n : Int) + 1).toNat = n + 1 by omega, show (n : Int).toNat = n from rfl]
  exact this
theorem txt_app (a b : List UInt8) : txt a ++ txt b = txt (a ++ b) := by
  apply ByteArray.ext
  simp [txt, ByteArray.data_append]
theorem itoa_pos {x : Int} (h : 0 ≤ x) : Lib.itoa x = Lib.decDigits x.toNat := by unfold Lib.itoa; rw [if_neg (by omega)]
theorem itoa_neg {x : Int} (h : x < 0) : Lib.itoa x = 45 :: Lib.decDigits x.natAbs := by unfold Lib.itoa; rw [if_pos h]
theorem itoa_one {x : Int} (h : 0 ≤ x ∧ x < 10) : Lib.itoa x = [UInt8.ofNat (48 + x.toNat)] := by rw [itoa_pos h.1, Lib.decDigits_one (by omega)]
theorem itoa_more {x : Int} (h : 10 ≤ x) : Lib.itoa x = Lib.itoa (x / 10) ++ [UInt8.ofNat (48 + (x % 10).toNat)] := by
  rw [itoa_pos (by omega), itoa_pos (by omega), Lib.decDigits, dif_neg (by omega), show (x / 10).toNat = x.toNat / 10 by omega, show (x % 10).toNat = x.toNat % 10 by omega]
theorem itoa_below {x : Int} (h : -10 < x ∧ x < 0) : Lib.itoa x = [45] ++ Lib.itoa (-x) := by
  rw [itoa_neg h.2, itoa_pos (by omega), show (-x).toNat = x.natAbs by omega]; rfl
theorem itoa_down {x q r : Int} (h : x ≤ -10) (e : x = 10 * q + r) (hr : -10 < r ∧ r ≤ 0) : Lib.itoa x = Lib.itoa q ++ Lib.itoa (-r) := by
  rw [itoa_neg (by omega), itoa_neg (by omega), itoa_one (by omega), Lib.decDigits, dif_neg (by omega), show x.natAbs / 10 = q.natAbs by omega, show x.natAbs % 10 = (-r).toNat by omega]; rfl

/-- What the document's own digits are at x. -/
def Dgs (x : Int) : Prop := ∀ w, Calls Tryd.prog 19 #[.int .i64 x] w fun e w' => e = .returned (.string (txt (Lib.itoa x))) ∧ Only nob w w'
theorem refDigits_one (x : Int) (hx : 0 ≤ x ∧ x < 10) : Dgs x := fun w => by
  have HP := Lib.hid (show (ByteArray.mk #[48, 49, 50, 51, 52, 53, 54, 55, 56, 57]).extract (x % 10).toNat (x % 10 + 1).toNat = txt (Lib.itoa x) by rw [itoa_one hx, dig_piece _ (by omega), show (x % 10).toNat = x.toNat by omega])
  go_enter Tryd.func19, Tryd.ntmps19
  go_wp2
  go_ret
  exact ⟨by rw [← HP.out]; rfl, Only.refl _ _⟩
theorem txt_size (l : List UInt8) : (txt l).size = l.length := rfl
theorem itoa_short {x : Int} (h : -9223372036854775808 ≤ x ∧ x ≤ 9223372036854775807) : (txt (Lib.itoa x)).size ≤ 21 := by rw [txt_size]; exact Lib.itoa_length_le x h.1 h.2
theorem refDigits_more (x : Int) (hx : 10 ≤ x ∧ x ≤ 9223372036854775807) (ih : Dgs (x / 10)) : Dgs x := fun w => by
  have HP := Lib.hid (show txt (Lib.itoa (x / 10)) ++ (ByteArray.mk #[48, 49, 50, 51, 52, 53, 54, 55, 56, 57]).extract (x % 10).toNat (x % 10 + 1).toNat = txt (Lib.itoa x) by rw [itoa_more hx.1, dig_piece _ (by omega), txt_app])
  have hs := itoa_short (x := x / 10) (by omega)
  have HI := Lib.hid ih
  clear ih
  go_enter Tryd.func19, Tryd.ntmps19
  go_wp2_with fail
  go_at_call 19
  refine (HI.out _).mono ?_
  rintro e w1 ⟨rfl, o⟩
  have O1 := Lib.hid o
  clear o
  go_wp2
  go_ret
  exact ⟨by rw [← HP.out]; rfl, O1.out⟩
theorem refDigits_pos : ∀ (m : Nat) (x : Int), 0 ≤ x → x ≤ 9223372036854775807 → x < m → Dgs x
  | 0, x, h, _, hm => by omega
  | m + 1, x, h, h1, hm => by
    by_cases h2 : x < 10
    · exact refDigits_one x ⟨h, h2⟩
    · exact refDigits_more x (by omega) (refDigits_pos m (x / 10) (by omega) (by omega) (by omega))
theorem refDigits_below (x : Int) (hx : -10 < x ∧ x < 0) (ih : Dgs (-x)) : Dgs x := fun w => by
  have HP := Lib.hid (show txt [45] ++ txt (Lib.itoa (-x)) = txt (Lib.itoa x) by rw [itoa_below hx, txt_app])
  have hs := itoa_short (x := -x) (by omega)
  have HI := Lib.hid ih
  clear ih
  go_enter Tryd.func19, Tryd.ntmps19
  go_wp2_with fail
  go_at_call 19
  refine (HI.out _).mono ?_
  rintro e w1 ⟨rfl, o⟩
  have O1 := Lib.hid o
  clear o
  go_wp2
  go_ret
  exact ⟨by rw [← HP.out]; rfl, O1.out⟩
theorem tdiv_ten {x : Int} (h : x < 0) : x.tdiv 10 = -((-x) / 10) := by rw [show x.tdiv 10 = -((-x).tdiv 10) by rw [Int.neg_tdiv, Int.neg_neg], Int.tdiv_eq_ediv_of_nonneg (by omega)]
theorem refDigits_down (x q r : Int) (hx : -9223372036854775808 ≤ x ∧ x ≤ -10) (e : x = 10 * q + r) (hr : -10 < r ∧ r ≤ 0) (iq : Dgs q) (ir : Dgs (-r)) : Dgs x := fun w => by
  have HP := Lib.hid (show txt (Lib.itoa q) ++ txt (Lib.itoa (-r)) = txt (Lib.itoa x) by rw [itoa_down (by omega) e hr, txt_app])
  have hs := itoa_short (x := q) (by omega)
  have hs' := itoa_short (x := -r) (by omega)
  have hq : x.tdiv 10 = q := by have := tdiv_ten (x := x) (by omega); omega
  have hm : x.tmod 10 = r := by have := Int.mul_tdiv_add_tmod x 10; omega
  have HQ := Lib.hid iq
  have HR := Lib.hid ir
  have hb : -9223372036854775808 ≤ q ∧ q < 0 := by omega
  clear iq ir e
  go_enter Tryd.func19, Tryd.ntmps19
  go_wp2_with fail
  go_at_call 19
  refine (HQ.out _).mono ?_
  rintro e w1 ⟨rfl, o⟩
  have O1 := Lib.hid o
  clear o
  go_wp2_with fail
  go_at_call 19
  refine (HR.out _).mono ?_
  rintro e w2 ⟨rfl, o⟩
  have O2 := Lib.hid (O1.out.trans o)
  clear o
  go_wp2
  go_ret
  exact ⟨by rw [← HP.out]; rfl, O2.out⟩
theorem refDigits_neg : ∀ (m : Nat) (x : Int), x < 0 → -9223372036854775808 ≤ x → -x < m → Dgs x
  | 0, x, h, _, hm => by omega
  | m + 1, x, h, h1, hm => by
    by_cases h2 : -10 < x
    · exact refDigits_below x ⟨h2, h⟩ (refDigits_one (-x) (by omega))
    · have e := Int.mul_tdiv_add_tmod x 10
      have hr : -10 < x.tmod 10 ∧ x.tmod 10 ≤ 0 := by
        have hq := tdiv_ten (x := x) (by omega)
        omega
      exact refDigits_down x (x.tdiv 10) (x.tmod 10) (by omega) (by omega) hr (refDigits_neg m (x.tdiv 10) (by omega) (by omega) (by omega)) (refDigits_one _ (by omega))
theorem refDigits_any (x : Int) (hx : -9223372036854775808 ≤ x ∧ x ≤ 9223372036854775807) : Dgs x := by
  by_cases h : 0 ≤ x
  · exact refDigits_pos 9223372036854775808 x h hx.2 (by omega)
  · exact refDigits_neg 9223372036854775809 x (by omega) hx.1 (by omega)
end Go.Proofs.YtjnkcngicjghbaaDoor
