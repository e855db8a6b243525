/- The walks of RootsMoves and RootsTells, whole. -/
import Derived.Test.YtcfiimedmhohaaaRootLaw2
namespace Go.Proofs.Ytcfiimedmhohaaa
open Go.RowKit
set_option maxRecDepth 100000

set_option maxHeartbeats 1000000 in
theorem rInts14 (va vb : Value) (l : List Int) (B B' : Nat) (w : World) (ha : Sl w B 1 va l.length (i64s l)) (hb : Sl w B' 1 vb l.length (i64s l)) :
    Calls Try.prog 21 #[va, vb] w fun e w' => e = .returned (.bool true) ∧ Only nob w w' := by
  have HA := Lib.hid ha
  have HB := Lib.hid hb
  obtain ⟨A, ca, rfl, hac, ham, -⟩ := ha
  obtain ⟨A', cb, rfl, hbc, hbm, -⟩ := hb
  unfold maxLen at ham hbm
  go_enter Try.func21, Try.ntmps21
  go_wp2
  go_loopw [5] (fun i wr => ∃ k m : Nat, k ≤ l.length ∧ i = .int .i64 k ∧ wr = w.drewN m) (fun i _ => l.length - (intOf i).toNat)
  case atStart => exact ⟨0, 0, Nat.zero_le _, rfl, rfl⟩
  case round =>
    obtain ⟨k, m, hk, rfl, rfl⟩ := hrel
    by_cases hlt : k < l.length
    · obtain ⟨y, hy⟩ : ∃ y, l[k]? = some y := ⟨_, List.getElem?_eq_getElem hlt⟩
      obtain ⟨b1, o1, rfl, -, g1⟩ := sl_int HA.out (Below.refl _ _) hy
      obtain ⟨b2, o2, rfl, -, g2⟩ := sl_int HB.out (Below.refl _ _) hy
      clear hy
      go_wp2
      go_quiet (fail)
      go_wp2
      go_roundw
      case rel => exact ⟨k + 1, _, by omega, by go_num, rfl⟩
      case measure => simp [intOf]; omega
    · obtain rfl : k = l.length := by omega
      go_wp2
      go_ret
      exact ⟨rfl, (Only.refl _ _).drewN _⟩
theorem right_new {m : Nat} (h : 1 ≤ m ∧ m ≤ 1024) : rightS dE (List.replicate m ((false, 0, 0) : Slt)) m = true := by
  refine rightS_yes (by rw [List.length_replicate]; omega) fun j y _ hy => ?_
  rw [List.eq_of_mem_replicate (List.mem_of_getElem? hy)]
  decide
theorem used_new (m : Nat) : usedS (List.replicate m ((false, 0, 0) : Slt)) = 0 := by
  unfold usedS
  rw [List.length_eq_zero_iff, List.filter_eq_nil_iff]
  intro s hs
  rw [List.eq_of_mem_replicate hs]
  decide
theorem ok_new (m : Nat) : SlOk (List.replicate m ((false, 0, 0) : Slt)) := fun s hs => by
  rw [List.eq_of_mem_replicate hs]
  exact ⟨by decide, by decide, full_pos⟩

set_option maxHeartbeats 4000000 in
/-- The second half: the table that was handed in, told twice. -/
theorem rootsTells_half (C : RootsC) (v : Value) (l : List Slt) (n : Int) (W0 : World) (hv : Sl W0 W0.heap.size 3 v l.length (slc l)) (hok : SlOk l) (hl : l.length ≤ 2000) :
    (∀ w, Only nob W0 w → Calls Try.prog 18 #[v] w fun e w' => e = .returned (.int .i64 (usedS l : Nat)) ∧ Only nob w w') ∧
    (∀ w, Only nob W0 w → Calls Try.prog 19 #[v] w fun e w' => e = .returned (.int .i64 (usedS l : Nat)) ∧ Only nob w w') ∧
    (∀ w, Only nob W0 w → Calls Try.prog 17 #[v, .int .i64 n] w fun e w' => e = .returned (.bool (rightS dE l n)) ∧ Only nob w w') ∧
    (∀ w, Only nob W0 w → Calls Try.prog 20 #[v, .int .i64 n] w fun e w' => e = .returned (.bool (rightS dE l n)) ∧ Only nob w w') ∧
    (∀ w, Only nob W0 w → Calls Try.prog 22 #[v] w fun e w' => ∃ v', e = .returned v' ∧ Sl w' w'.heap.size 1 v' (handlesS l).length (i64s (handlesS l)) ∧ Only nob w w') ∧
    (∀ w, Only nob W0 w → Calls Try.prog 23 #[v] w fun e w' => ∃ v', e = .returned v' ∧ Sl w' w'.heap.size 1 v' (handlesS l).length (i64s (handlesS l)) ∧ Only nob w w') :=
  ⟨fun w o => C.used v l _ w (hv.below o.whole) o.size hl, fun w o => rUsed14 v l _ w (hv.below o.whole) o.size hl, fun w o => C.right v l n _ w (hv.below o.whole) o.size hl hok,
    fun w o => rRight14 v l n _ w (hv.below o.whole) o.size hl hok, fun w o => C.handles v l _ w (hv.below o.whole) o.size hl hok, fun w o => rHandles14 v l _ w (hv.below o.whole) o.size hl hok⟩

set_option maxHeartbeats 8000000 in
theorem rootsTells_small (C : RootsC) (v : Value) (l : List Slt) (n : Int) (hn1 : -9223372036854775808 ≤ n) (hn2 : n ≤ 9223372036854775807) (w : World) (hv : Sl w w.heap.size 3 v l.length (slc l)) (hok : SlOk l) (hl : l.length ≤ 1200) :
    Calls Try.prog 4 #[v, .int .i64 n] w fun e w' => e = .returned (.bool true) ∧ Below w.heap.size w w' := by
  have HH := Lib.hid (rootsTells_half C v l n w hv hok (by omega))
  have HAW := Lib.hid (awake14_any C)
  obtain ⟨A, ca, rfl, hac, ham, -⟩ := hv
  unfold maxLen at ham
  obtain ⟨us, hus⟩ : ∃ z, z = usedS l := ⟨_, rfl⟩
  obtain ⟨rr, hrr⟩ : ∃ z, z = rightS dE l n := ⟨_, rfl⟩
  rw [← hus, ← hrr] at HH
  have HNEW := Lib.hid (C.new n w hn1 hn2)
  clear hok hus hrr
  by_cases hn : 1 ≤ n ∧ n ≤ 1024
  · obtain ⟨m, rfl⟩ := Int.eq_ofNat_of_zero_le (show 0 ≤ n by omega)
    obtain ⟨hm1, hm2⟩ := hn
    have HRN := Lib.hid (right_new (m := m) (by omega))
    have HUN := Lib.hid (used_new m)
    go_enter Try.func4, Try.ntmps4
    go_wp2_with fail
    go_at_call 16
    refine HNEW.out.mono ?_
    rintro e w1 ⟨vt, lt, rfl, hlt, st, o⟩
    rw [if_pos ⟨hm1, hm2⟩] at hlt
    rw [if_pos ⟨hm1, hm2⟩]
    obtain rfl : lt = List.replicate m ((false, 0, 0) : Slt) := hlt
    obtain ⟨At, ct, rfl, -, -⟩ := st.form
    have hlm : (List.replicate m ((false, 0, 0) : Slt)).length = m := List.length_replicate
    rw [hlm]
    have ST := Lib.hid st
    have O1 := Lib.hid o
    have HLM := Lib.hid hlm
    clear st o hlm
    go_wp2_with fail
    go_at_call 17
    have HR1 := C.right (.slice At (List.replicate m ((false, 0, 0) : Slt)).length ct) (List.replicate m (false, 0, 0)) m _ w1 ST.out (Nat.le_refl _) (by rw [HLM.out]; omega) (ok_new m)
    rw [HRN.out, HLM.out] at HR1
    refine HR1.mono ?_
    rintro e w2 ⟨rfl, o⟩
    have ST2 := Lib.hid ((ST.out.below o.whole).more o.size)
    have O2 := Lib.hid (O1.out.trans o)
    clear o HR1
    go_wp2_with fail
    go_at_call 18
    have HR1 := C.used (.slice At (List.replicate m ((false, 0, 0) : Slt)).length ct) (List.replicate m (false, 0, 0)) _ w2 ST2.out (Nat.le_refl _) (by rw [HLM.out]; omega)
    rw [HUN.out, HLM.out] at HR1
    refine HR1.mono ?_
    rintro e w3 ⟨rfl, o⟩
    have O3 := Lib.hid (O2.out.trans o)
    clear o HR1
    go_wp2_with fail
    go_at_call 18
    refine (HH.out.1 _ O3.out).mono ?_
    rintro e w4 ⟨rfl, o⟩
    have O4 := Lib.hid (O3.out.trans o)
    clear o
    go_wp2_with fail
    go_at_call 19
    refine (HH.out.2.1 _ O4.out).mono ?_
    rintro e w5 ⟨rfl, o⟩
    have O5 := Lib.hid (O4.out.trans o)
    clear o
    go_wp2_with fail
    go_at_call 17
    refine (HH.out.2.2.1 _ O5.out).mono ?_
    rintro e w6 ⟨rfl, o⟩
    have O6 := Lib.hid (O5.out.trans o)
    clear o
    go_wp2_with fail
    go_at_call 20
    refine (HH.out.2.2.2.1 _ O6.out).mono ?_
    rintro e w7 ⟨rfl, o⟩
    have O7 := Lib.hid (O6.out.trans o)
    clear o
    go_wp2_with fail
    go_at_call 22
    refine (HH.out.2.2.2.2.1 _ O7.out).mono ?_
    rintro e w8 ⟨v8, rfl, s8, o⟩
    have O8 := Lib.hid (O7.out.trans o)
    have S8 := Lib.hid s8
    clear o s8
    go_wp2_with fail
    go_at_call 23
    refine (HH.out.2.2.2.2.2 _ O8.out).mono ?_
    rintro e w9 ⟨v9, rfl, s9, o⟩
    have O9 := Lib.hid (O8.out.trans o)
    have S9 := Lib.hid s9
    have S8' := Lib.hid (S8.out.below o.whole)
    clear o s9
    go_wp2_with fail
    go_at_call 21
    refine (rInts14 _ _ _ _ _ _ S8'.out S9.out).mono ?_
    rintro e w10 ⟨rfl, o⟩
    have O10 := Lib.hid (O9.out.trans o)
    clear o
    go_wp2_with fail
    go_at_call 6
    refine (HAW.out _).mono ?_
    rintro e w11 ⟨rfl, o⟩
    have O11 := Lib.hid (O10.out.trans o)
    clear o
    go_wp2
    go_ret
    exact ⟨rfl, O11.out.whole⟩
  · have hsp : n < 1 ∨ 1024 < n := by omega
    have HN := Lib.hid hn
    clear hn
    rcases hsp with h1 | h1
    all_goals
      go_enter Try.func4, Try.ntmps4
      go_wp2_with fail
      go_at_call 16
      refine HNEW.out.mono ?_
      rintro e w1 ⟨vt, lt, rfl, hlt, st, o⟩
      rw [if_neg HN.out] at hlt
      rw [if_neg HN.out]
      obtain rfl : lt = [] := hlt
      obtain ⟨At, ct, rfl, -, -⟩ := st.form
      have O3 := Lib.hid o
      clear st o
      go_wp2_with fail
      go_at_call 18
      refine (HH.out.1 _ O3.out).mono ?_
      rintro e w4 ⟨rfl, o⟩
      have O4 := Lib.hid (O3.out.trans o)
      clear o
      go_wp2_with fail
      go_at_call 19
      refine (HH.out.2.1 _ O4.out).mono ?_
      rintro e w5 ⟨rfl, o⟩
      have O5 := Lib.hid (O4.out.trans o)
      clear o
      go_wp2_with fail
      go_at_call 17
      refine (HH.out.2.2.1 _ O5.out).mono ?_
      rintro e w6 ⟨rfl, o⟩
      have O6 := Lib.hid (O5.out.trans o)
      clear o
      go_wp2_with fail
      go_at_call 20
      refine (HH.out.2.2.2.1 _ O6.out).mono ?_
      rintro e w7 ⟨rfl, o⟩
      have O7 := Lib.hid (O6.out.trans o)
      clear o
      go_wp2_with fail
      go_at_call 22
      refine (HH.out.2.2.2.2.1 _ O7.out).mono ?_
      rintro e w8 ⟨v8, rfl, s8, o⟩
      have O8 := Lib.hid (O7.out.trans o)
      have S8 := Lib.hid s8
      clear o s8
      go_wp2_with fail
      go_at_call 23
      refine (HH.out.2.2.2.2.2 _ O8.out).mono ?_
      rintro e w9 ⟨v9, rfl, s9, o⟩
      have O9 := Lib.hid (O8.out.trans o)
      have S9 := Lib.hid s9
      have S8' := Lib.hid (S8.out.below o.whole)
      clear o s9
      go_wp2_with fail
      go_at_call 21
      refine (rInts14 _ _ _ _ _ _ S8'.out S9.out).mono ?_
      rintro e w10 ⟨rfl, o⟩
      have O10 := Lib.hid (O9.out.trans o)
      clear o
      go_wp2_with fail
      go_at_call 6
      refine (HAW.out _).mono ?_
      rintro e w11 ⟨rfl, o⟩
      have O11 := Lib.hid (O10.out.trans o)
      clear o
      go_wp2
      go_ret
      exact ⟨rfl, O11.out.whole⟩

set_option maxHeartbeats 1000000 in
theorem rootsMoves_walk (C : RootsC) (v : Value) (l : List Slt) (h : Int) (x : Nat) (w : World) (hv : Sl w w.heap.size 3 v l.length (slc l)) (hok : SlOk l) (hx : x < full) :
    Calls Try.prog 3 #[v, .int .i64 h, .int .u64 (x : Nat)] w fun e w' => e = .returned (.bool true) ∧ Below w.heap.size w w' := by
  by_cases hl : l.length ≤ 1200
  · exact rootsMoves_small C v l h x w hv hok hx hl
  · obtain ⟨A, ca, rfl, -⟩ := hv
    have h1 : 1200 < l.length := by omega
    clear hok hl
    go_enter Try.func3, Try.ntmps3
    go_wp2_with fail
    go_at_call 6
    refine (awake14_any C _).mono ?_
    rintro e w1 ⟨rfl, o⟩
    have O := Lib.hid o
    clear o
    go_wp2
    go_ret
    exact ⟨rfl, O.out.whole⟩
set_option maxHeartbeats 1000000 in
theorem rootsTells_walk (C : RootsC) (v : Value) (l : List Slt) (n : Int) (hn1 : -9223372036854775808 ≤ n) (hn2 : n ≤ 9223372036854775807) (w : World) (hv : Sl w w.heap.size 3 v l.length (slc l)) (hok : SlOk l) :
    Calls Try.prog 4 #[v, .int .i64 n] w fun e w' => e = .returned (.bool true) ∧ Below w.heap.size w w' := by
  by_cases hl : l.length ≤ 1200
  · exact rootsTells_small C v l n hn1 hn2 w hv hok hl
  · obtain ⟨A, ca, rfl, -⟩ := hv
    have h1 : 1200 < l.length := by omega
    clear hok hl
    go_enter Try.func4, Try.ntmps4
    go_wp2_with fail
    go_at_call 6
    refine (awake14_any C _).mono ?_
    rintro e w1 ⟨rfl, o⟩
    have O := Lib.hid o
    clear o
    go_wp2
    go_ret
    exact ⟨rfl, O.out.whole⟩
end Go.Proofs.Ytcfiimedmhohaaa
