/- Contracts of package extent. -/
import Derived.Test.YtoeccbbjncgmlaaDoorExtSl
import Derived.Test.YtoeccbbjncgmlaaDoorSpanMN
import Derived.OwnWalk
namespace Go.Proofs.YtoeccbbjncgmlaaDoor
set_option maxRecDepth 100000
open Go.RowKit Go.Lib

theorem fits_ok {n : Int} {x : Sp} (h : x.ok) : Sp.fits n x = decide (n ≤ x.2) := by
  unfold Sp.fits
  rw [Bool.eq_iff_iff, decide_eq_true_iff, decide_eq_true_iff]
  exact ⟨fun e => e.2, fun e => ⟨h, e⟩⟩
theorem fits_no {n : Int} {x : Sp} (h : ¬ x.ok) : Sp.fits n x = false := by unfold Sp.fits; exact decide_eq_false fun e => h e.1

set_option maxHeartbeats 1000000 in
theorem has1_any (n : Int) (gp : Nat) (x : Sp) (hx : Fit x) (w : World) (hb : Blk w gp 3 #[.int .i64 n]) :
    Calls Tryd.prog 68 #[.agg #[.int .i64 x.1, .int .i64 x.2], .pointer (some ⟨gp, 0, none⟩)] w fun e w' => e = .returned (.bool (Sp.fits n x)) ∧ Only nob w w' := by
  have HB := Lib.hid hb
  have hbx := Blk.new w 25 #[.int .i64 x.1, .int .i64 x.2]
  have HBX := Lib.hid hbx
  clear hb hbx
  by_cases ho : x.ok
  · have HM := Lib.hid (decide_eq_true ho)
    by_cases hn : n ≤ x.2
    case' pos => have HK := Lib.hid ((fits_ok ho).trans (decide_eq_true hn))
    case' neg => have HK := Lib.hid ((fits_ok ho).trans (decide_eq_false hn))
    all_goals
      clear ho
      go_enter Tryd.func68, Tryd.ntmps68
      go_wp2_with fail
      go_at_call 13
      refine (spMay x hx _).mono ?_
      rw [HM.out]
      rintro e w1 ⟨rfl, o⟩
      have c1 := o.keeps (HBX.out.cell 1)
      have c2 := ((((Only.refl nob w).alloc (.cells #[.int .i64 x.1, .int .i64 x.2] 25)).trans o)).keeps (HB.out.cell 0)
      simp at c1 c2
      have O := Lib.hid (((Only.refl nob w).alloc (.cells #[.int .i64 x.1, .int .i64 x.2] 25)).trans o)
      clear o
      go_wp2
      go_ret
      exact ⟨ret_bool (by first | (rw [HK.out]; done) | (rw [HK.out]; exact decide_eq_false (by omega))), O.out⟩
  · have HM := Lib.hid (decide_eq_false ho)
    have HK := Lib.hid (fits_no (n := n) ho)
    clear ho
    go_enter Tryd.func68, Tryd.ntmps68
    go_wp2_with fail
    go_at_call 13
    refine (spMay x hx _).mono ?_
    rw [HM.out]
    rintro e w1 ⟨rfl, o⟩
    have O := Lib.hid (((Only.refl nob w).alloc (.cells #[.int .i64 x.1, .int .i64 x.2] 25)).trans o)
    clear o
    go_wp2
    go_ret
    exact ⟨ret_bool (by rw [HK.out]), O.out⟩
theorem has1_pred {n : Int} {gp : Nat} {w : World} (hb : Blk w gp 3 #[.int .i64 n]) : Pred 68 #[.pointer (some ⟨gp, 0, none⟩)] (Sp.fits n) w :=
  ⟨enters_of Tryd.func68 (by kernel_rfl) rfl, fun x hx W hW => has1_any n gp x hx W (hb.keep hW id)⟩
theorem hasF_any (n : Int) (w : World) :
    Calls Tryd.prog 46 #[.int .i64 n] w fun e w' => e = .returned (.func (.func 68) #[] #[.pointer (some ⟨w.heap.size, 0, none⟩)]) ∧ Blk w' w.heap.size 3 #[.int .i64 n] ∧ Only nob w w' := by
  go_enter Tryd.func46, Tryd.ntmps46
  go_wp2
  go_ret
  exact ⟨rfl, Blk.new w _ _, (Only.refl nob w).alloc _⟩

/-- A row of the call's own, opened: its block. -/
theorem own_block {w : World} {base n : Nat} {v : Value} {l : List Sp} (h : w.ownsRow base 25 2 v l.length (spc l)) (hn : n < l.length) : ∃ g cap, ∃ cur : Array Value, v = .slice (some ⟨g, 0, none⟩) l.length cap ∧ base ≤ g ∧ Blk w g 25 cur ∧ l.length ≤ cap ∧ cap ≤ maxLen ∧ cur.size = cap * 2 ∧ cur.toList.take (l.length * 2) = spc l := by
  rcases h.2 with ⟨_, h0⟩ | ⟨g, cap, cur, h1, h2, h3, h4, h5, h6, h7⟩
  · exact absurd hn (by omega)
  · exact ⟨g, cap, cur, h1, h2, h3, h4, h5, h6, h7⟩
/-- A block of the call's own reads as spans. -/
theorem sl_of_cur {w : World} {g cap n : Nat} {cur : Array Value} {l : List Sp} (h : Blk w g 25 cur) (hn : l.length = n) (h1 : n ≤ cap) (h2 : cap ≤ maxLen) (h3 : cur.toList.take (n * 2) = spc l) : Sl w w.heap.size 2 (.slice (some ⟨g, 0, none⟩) n cap) n (spc l) := by
  refine ⟨_, cap, rfl, h1, h2, by rw [spc_len, hn], fun _ => ⟨g, 0, rfl, h.lt, fun k u hu => ?_⟩⟩
  rw [Nat.zero_add, h.cell, ← Array.getElem?_toList]
  rw [← h3, List.getElem?_take] at hu
  split at hu
  · exact hu
  · cases hu
theorem cur_set {cur : Array Value} {l : List Sp} {k n : Nat} {y : Sp} (hn : l.length = n) (h : cur.toList.take (n * 2) = spc l) (hk : k < n) : ((cur.setIfInBounds (k * 2) (.int .i64 y.1)).setIfInBounds (k * 2 + 1) (.int .i64 y.2)).toList.take (n * 2) = spc (l.set k y) := by
  rw [Array.toList_setIfInBounds, Array.toList_setIfInBounds, List.take_set, List.take_set, h]
  clear h
  subst hn
  induction l generalizing k with
  | nil => simp at hk
  | cons x l ih =>
    rcases k with _ | k
    · simp [spc]
    · have := ih (k := k) (by simpa using hk)
      rw [show (k + 1) * 2 = k * 2 + 1 + 1 by omega]
      simpa [spc] using this
/-- What Take tells. -/
def SpTake : Prop := ∀ (v : Value) (l : List Sp) (n : Int) (B : Nat) (w : World), Sl w B 2 v l.length (spc l) → B ≤ w.heap.size → l.length ≤ 10000 → Fits l → -9223372036854775808 ≤ n → n ≤ 9223372036854775807 →
  Calls Tryd.prog 20 #[v, .int .i64 n] w fun e w' => ∃ v', e = .returned (.tuple #[v', .int .i64 (takeT l n).2.1, .int .i64 (takeT l n).2.2]) ∧ Sl w' w'.heap.size 2 v' (takeT l n).1.length (spc (takeT l n).1) ∧ Only nob w w'
theorem only_new {w w1 w2 : World} {g : Nat} (h : Only nob w w1) (hg : w.heap.size ≤ g) (k : Only (isb g) w1 w2) : Only nob w w2 := h.andThen k fun i hi e => by unfold isb at e; omega
theorem takeT_bounds {l : List Sp} {x : Sp} {k : Nat} {n : Int} (_ : l[k]? = some x) (hx : x.ok) (h1 : ¬ n < 1) (_ : n ≤ x.2) : 0 ≤ x.1 ∧ x.1 + x.2 ≤ 1099511627776 ∧ 1 ≤ n := by unfold Sp.ok most at hx; omega

set_option maxHeartbeats 4000000 in
theorem spTake : SpTake := by
  intro v l n B w h hB hl hf hn1 hn2
  have HA := Lib.hid h
  have HF := Lib.hid hf
  clear h hf
  go_enter Tryd.func20, Tryd.ntmps20
  go_wp2_with fail
  go_at_call 17
  refine (clone_spans v l B w HA.out hB (by omega)).mono ?_
  rintro e w1 ⟨v1, rfl, own1, o⟩
  have HO1 := Lib.hid own1
  have O1 := Lib.hid o
  have S1 := Lib.hid (Sl.of_own own1 own1.1)
  clear own1 o
  by_cases h1 : n < 1
  · have HT := Lib.hid (takeT_size (l := l) h1)
    go_wp2
    go_ret3
    exact ⟨v1, by rw [HT.out]; rfl, by rw [HT.out]; exact S1.out, O1.out⟩
  · have H1 := Lib.hid h1
    go_wp2_with fail
    go_at_call 46
    refine (hasF_any n w1).mono ?_
    rintro e w2 ⟨rfl, hb2, o⟩
    have HP := Lib.hid (has1_pred hb2)
    have O2 := Lib.hid (O1.out.trans o)
    have S2 := Lib.hid ((S1.out.below o.whole).more o.size)
    have HO2 := Lib.hid (own_only HO1.out o fun _ _ => id)
    clear hb2 o
    go_wp2_with fail
    go_at_call 45
    refine (indexFunc_any _ _ _ _ l w2.heap.size w2 HP.out S2.out (Nat.le_refl _) HF.out).mono ?_
    rintro e w3 ⟨rfl, o⟩
    have O3 := Lib.hid (O2.out.trans o)
    have S3 := Lib.hid ((S2.out.below o.whole).more o.size)
    have HO3 := Lib.hid (own_only HO2.out o fun _ _ => id)
    obtain ⟨i, hi⟩ : ∃ i, i = idxI (Sp.fits n) l := ⟨_, rfl⟩
    rw [← hi]
    have HI := Lib.hid hi
    have hr := idxI_range (Sp.fits n) l
    rw [← hi] at hr
    clear o hi
    by_cases h2 : i < 0
    · have HT := Lib.hid (takeT_none (l := l) (n := n) (by have := H1.out; omega) (by rw [← HI.out]; exact h2))
      go_wp2
      go_ret3
      exact ⟨v1, by rw [HT.out]; rfl, by rw [HT.out]; exact S3.out, O3.out⟩
    · obtain ⟨k, x, hk, hx, hok, hnx, he, hne⟩ := takeT_some (l := l) (n := n) (by have := H1.out; omega) (by rw [← HI.out]; exact h2)
      rw [← HI.out] at hk
      obtain rfl := hk
      obtain ⟨hb1, hb2, hb3⟩ := takeT_bounds (n := n) hx hok (by have := H1.out; omega) hnx
      have hkl : k < l.length := (List.getElem?_eq_some_iff.1 hx).1
      have hnx2 : x.2 ≤ 1099511627776 := by omega
      obtain ⟨g, cap, cur, rfl, hg, hblk, hc1, hc2, hc3, hc4⟩ := own_block HO3.out hkl
      obtain ⟨q0, q1⟩ := spc_at hx
      have HB := Lib.hid hblk
      have HZ := Lib.hid hc3
      have HC := Lib.hid hc4
      have hcm : cap ≤ 9223372036854775807 := by unfold maxLen at hc2; omega
      have d0 : w3.cell? ⟨g, k * 2, none⟩ = some (.int .i64 x.1) := by
        rw [hblk.cell, ← Array.getElem?_toList]
        rw [← hc4, List.getElem?_take, if_pos (by omega)] at q0
        exact q0
      have d1 : w3.cell? ⟨g, k * 2 + 1, none⟩ = some (.int .i64 x.2) := by
        rw [hblk.cell, ← Array.getElem?_toList]
        rw [← hc4, List.getElem?_take, if_pos (by omega)] at q1
        exact q1
      have HE := Lib.hid he
      have HN := Lib.hid hne
      clear he hne q0 q1 hblk hc3 hc4 hx hok
      go_wp2_with fail
      go_quiet (fail)
      by_cases h3 : x.2 = n
      · have HT := Lib.hid (HE.out h3)
        have HB4 := Lib.hid (show Blk (w3.drewN nq) g 25 cur from HB.out)
        have O4 := Lib.hid (O3.out.drewN nq)
        clear d0 d1
        go_wp2_with fail
        go_at_call 47
        refine (delete_any g cap l.length k (k + 1) cur l _ HB4.out HZ.out rfl hc1 hc2 HC.out hkl rfl).mono ?_
        rintro e w5 ⟨rfl, o, cur', hb5, hz5, hc5⟩
        have O5 := Lib.hid (only_new O4.out hg o)
        have S5 := Lib.hid (sl_of_cur (n := l.length - 1) hb5 (by rw [List.length_eraseIdx, if_pos hkl]) (by omega) hc2 hc5)
        clear o hb5 hz5 hc5
        go_wp2
        go_ret3
        exact ⟨_, by rw [HT.out]; rfl, by rw [HT.out]; simpa [List.length_eraseIdx, hkl] using S5.out, O5.out⟩
      · have HT := Lib.hid (HN.out h3)
        have hbeq : (x.2 == n) = false := by simpa using h3
        have f0 := HB.out.free (k * 2)
        have f1 := HB.out.free (k * 2 + 1)
        go_wp2_with fail
        go_ret3
        have B5 := ((HB.out.drewN nq).put (k * 2) (.int .i64 (x.1 + n))).put (k * 2 + 1) (.int .i64 (x.2 - n))
        have hc5 := cur_set (y := (x.1 + n, x.2 - n)) rfl HC.out hkl
        refine ⟨_, by rw [HT.out]; rfl, ?_, only_new (O3.out.drewN nq) hg ((only_set _ g _ _).trans (only_set _ g _ _))⟩
        rw [HT.out]
        have := (sl_of_cur (n := l.length) B5 (l := l.set k (x.1 + n, x.2 - n)) (by simp) hc1 hc2 hc5)
        simpa using this
end Go.Proofs.YtoeccbbjncgmlaaDoor

/- Contracts of package extent: Give, Right, Largest. -/
namespace Go.Proofs.YtoeccbbjncgmlaaDoor
set_option maxRecDepth 100000
open Go.RowKit Go.Lib

/-- What Give tells. -/
def GaveT (l : List Sp) (s : Sp) (O : List Sp) (e : Int) : Prop :=
  (¬ s.ok ∧ O = l ∧ e = 1) ∨ (s.ok ∧ l.any (fun x => decide (Sp.meets x s)) = true ∧ O = l ∧ e = 16) ∨
  (s.ok ∧ l.any (fun x => decide (Sp.meets x s)) = false ∧ Joined O ∧ (∀ p, cov O p ↔ cov (l ++ [s]) p) ∧ e = 0)
theorem fits_app {l m : List Sp} (h : Fits l) (k : Fits m) : Fits (l ++ m) := fun x hx => (List.mem_append.1 hx).elim (h x) (k x)
theorem fits_one {s : Sp} (h : Fit s) : Fits [s] := fun x hx => by rw [List.mem_singleton.1 hx]; exact h

theorem any_within {all : Sp} {l : List Sp} : l.any (fun x => !decide (Sp.within x all)) = false ↔ ∀ x ∈ l, Sp.within x all := by
  rw [List.any_eq_false]
  constructor
  · intro h x hx
    by_cases hw : Sp.within x all
    · exact hw
    · exact absurd (by simpa using hw) (h x hx)
  · intro h x hx
    simpa using h x hx
end Go.Proofs.YtoeccbbjncgmlaaDoor
