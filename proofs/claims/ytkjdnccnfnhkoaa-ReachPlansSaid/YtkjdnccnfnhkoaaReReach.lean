/- The document's own: whether a number is among some; what is met, rising. -/
import Derived.Test.YtkjdnccnfnhkoaaReLive
namespace Go.Proofs.Ytkjdnccnfnhkoaa
open Go.RowKit Go.Lib
set_option maxRecDepth 100000
set_option linter.unusedSimpArgs false
set_option linter.unusedVariables false

theorem mem_allS17 {l : List Int} {x : Int} (h : ∀ (j : Nat) y, j < l.length → l[j]? = some y → y ≠ x) : decide (x ∈ l) = false := by
  refine decide_eq_false fun hm => ?_
  obtain ⟨j, hj⟩ := List.getElem?_of_mem hm
  exact h j x (List.getElem?_eq_some_iff.1 hj).1 hj rfl
set_option maxHeartbeats 1000000 in
/-- Whether a number is in a list. -/
theorem rStarts17 (v : Value) (l : List Int) (x : Int) (B : Nat) (w : World) (h : Sl w B 1 v l.length (i64s l)) :
    Calls Try.prog 18 #[v, .int .i64 x] w fun e w' => e = .returned (.bool (decide (x ∈ l))) ∧ w' = w := by
  have HA := Lib.hid h
  obtain ⟨A, ca, rfl, hac, ham, -⟩ := h
  unfold maxLen at ham
  obtain ⟨q, hq⟩ : ∃ q, q = decide (x ∈ l) := ⟨_, rfl⟩
  have HQ := Lib.hid hq
  rw [← hq]
  clear hq
  go_enter Try.func18, Try.ntmps18
  go_wp2
  go_loopw [5] (fun i wr => ∃ k : Nat, k ≤ l.length ∧ i = .int .i64 k ∧ Hid (∀ (j : Nat) y, j < k → l[j]? = some y → y ≠ x) ∧ wr = w) (fun i _ => l.length - (intOf i).toNat)
  case atStart => exact ⟨0, Nat.zero_le _, rfl, fun j _ hj _ => absurd hj (Nat.not_lt_zero j), rfl⟩
  case round =>
    obtain ⟨k, hk, rfl, hno, rfl⟩ := hrel
    by_cases hlt : k < l.length
    · obtain ⟨y, hy⟩ : ∃ x, l[k]? = some x := ⟨_, List.getElem?_eq_getElem hlt⟩
      obtain ⟨b1, o1, rfl, -, c0⟩ := sl_int HA.out (Below.refl _ _) hy
      have HY := Lib.hid hy
      clear hy
      by_cases hyx : y = x
      · subst hyx
        have HF := Lib.hid (HQ.out.trans (decide_eq_true (List.mem_of_getElem? HY.out)))
        go_wp2
        go_ret
        exact ⟨ret_bool (by rw [HF.out]), rfl⟩
      · have hbq : (y == x) = false := by simpa using hyx
        go_wp2
        go_roundw
        case rel =>
          refine ⟨k + 1, by omega, by go_num, fun j z hj hz => ?_, by first | rfl | trivial⟩
          rcases Nat.lt_or_ge j k with h' | h'
          · exact hno.out j z h' hz
          · obtain rfl : j = k := by omega
            rw [HY.out] at hz
            rw [← Option.some.inj hz]; exact hyx
        case measure => simp [intOf]; omega
    · obtain rfl : k = l.length := by omega
      have HF := Lib.hid (HQ.out.trans (mem_allS17 hno.out))
      go_wp2
      go_ret
      exact ⟨ret_bool (by rw [HF.out]), rfl⟩


/-- What is met of a graph, rising. -/
def upTo (l : List Int) (n : Nat) : List Int := ((List.range n).map fun k : Nat => (k : Int)).filter fun x => decide (x ∈ l)
def reachL (g : Gr) : List Int := upTo (flatL g 0) g.nd.length
theorem upTo_succ (l : List Int) (n : Nat) : upTo l (n + 1) = upTo l n ++ (if (n : Int) ∈ l then [(n : Int)] else []) := by
  unfold upTo
  rw [List.range_succ, List.map_append, List.filter_append]
  congr 1
  by_cases h : (n : Int) ∈ l <;> simp [h]
theorem upTo_len (l : List Int) (n : Nat) : (upTo l n).length ≤ n := by
  unfold upTo
  exact Nat.le_trans (List.length_filter_le _ _) (by simp)
def ReachGC (f : FuncId) : Prop := ∀ (g : Gr) (vn vr : Value) (hs : List (Value × Value)) (B : Nat) (W : World), RdG W B g vn vr hs → B ≤ W.heap.size → GrFit g → GrBd g →
  Calls Try.prog f #[.agg #[vn, vr]] W fun e w' => ∃ v1, e = .returned (.tuple #[v1, .int .i64 (flatE g)]) ∧ OwR w' W.heap.size 3 v1 (reachL g).length (i64s (reachL g)) ∧ Only nob W w'
set_option maxHeartbeats 8000000 in
theorem rReach17 : ReachGC 15 := by
  intro g vn vr hs B W hr hB hfit hbd
  obtain ⟨j0, hj0, hy0, hy1, hy2⟩ := info_parts info_int
  obtain ⟨An, cn, rfl, hacn, hcmn⟩ := hr.nodes.form
  obtain ⟨Ar, cr, rfl, hacr, hcmr⟩ := hr.roots.form
  obtain ⟨W1, hW1, o1, b1⟩ := flat_box W An Ar g.nd.length cn g.rt.length cr
  have HW1 := Lib.hid hW1
  have O1 := Lib.hid o1
  have B1 := Lib.hid b1
  have HBD := Lib.hid hbd
  have HC := Lib.hid (rFlat17_0 g _ _ hs B W1 (hr.only o1 hB) (Nat.le_trans hB o1.size) hfit hbd)
  obtain ⟨E, hE⟩ : ∃ E, E = flatE g := ⟨_, rfl⟩
  obtain ⟨L, hL⟩ : ∃ L, L = flatL g 0 := ⟨_, rfl⟩
  rw [← hE, ← hL] at HC
  rw [← hE]
  have HRL := Lib.hid (show reachL g = upTo L g.nd.length by unfold reachL; rw [hL])
  rw [HRL.out]
  have c0 : W1.cell? ⟨W.heap.size, 0, none⟩ = some (.slice An g.nd.length cn) := b1.cell 0
  have c1 : W1.cell? ⟨W.heap.size, 1, none⟩ = some (.slice Ar g.rt.length cr) := b1.cell 1
  unfold maxLen at hcmn
  clear hW1 o1 b1 hr hB hfit hbd hE hL HRL
  go_enter Try.func15, Try.ntmps15
  go_upto_region 1 with fail
  rw [HW1.out]
  go_wp2_with fail
  go_at_call 12
  refine HC.out.mono ?_
  rintro e w2 ⟨v1, rfl, h1, o2⟩
  have HA := Lib.hid h1
  have O2 := Lib.hid (O1.out.trans o2)
  have B2 := Lib.hid (B1.out.keep o2 id)
  obtain ⟨A2, k2, rfl, -, -⟩ := h1.form
  clear h1 o2 c0 c1
  go_wp2_with fail
  go_loopw [6, 7] (fun u i wr => ∃ k : Nat, k ≤ g.nd.length ∧ i = .int .i64 k ∧ Hid (OwR wr w2.heap.size 3 u (upTo L k).length (i64s (upTo L k))) ∧ Hid (Only nob w2 wr)) (fun _ i _ => g.nd.length - (intOf i).toNat)
  case atStart => exact ⟨0, Nat.zero_le _, rfl, Lib.hid OwR.nil_, Lib.hid (Only.refl _ _)⟩
  case round =>
    obtain ⟨k, hk, rfl, HOW, HO⟩ := hrel
    have c0 : wr.cell? ⟨W.heap.size, 0, none⟩ = some (.slice An g.nd.length cn) := (B2.out.keep HO.out id).cell 0
    by_cases hlt : k < g.nd.length
    · have HI := Lib.hid (rIn17 _ L (k : Int) _ wr (HA.out.only HO.out fun _ _ h => h).sl)
      obtain ⟨mb, hmb⟩ : ∃ b, b = decide ((k : Int) ∈ L) := ⟨_, rfl⟩
      have HMB := Lib.hid hmb
      rw [← hmb] at HI
      clear hmb
      go_wp2_with fail
      go_at_call 28
      refine HI.out.mono ?_
      rintro e w3 ⟨rfl, o3⟩
      have HO3 := Lib.hid (HO.out.trans o3)
      have HW3 := Lib.hid (HOW.out.only o3 fun _ _ h => h)
      clear o3 c0
      cases mb with
      | false =>
        have HU := Lib.hid (show upTo L (k + 1) = upTo L k by rw [upTo_succ, if_neg (by have := HMB.out; simpa using this.symm), List.append_nil])
        go_wp2
        go_roundw
        case rel => exact ⟨k + 1, by omega, by go_num, by rw [HU.out]; exact HW3, HO3⟩
        case measure => simp [intOf]; omega
      | true =>
        have HU := Lib.hid (show upTo L (k + 1) = upTo L k ++ [(k : Int)] by rw [upTo_succ, if_pos (by have := HMB.out; simpa using this.symm)])
        obtain ⟨A6, k6, hv6, hk6, hm6⟩ := HW3.out.form
        subst hv6
        obtain ⟨n6, hn6⟩ : ∃ n, n = (upTo L k).length := ⟨_, rfl⟩
        have HN6 := Lib.hid hn6
        have hlen := upTo_len L k
        have how := HW3.out
        rw [← hn6] at how hlen
        have HW6 := Lib.hid how
        have hN := HBD.out.nd
        have hn6b : n6 ≤ 17000000000 := by omega
        rw [← hn6]
        have HB3 := Lib.hid (show w2.heap.size ≤ w3.heap.size from HO3.out.size)
        clear hn6 how hk6 hm6 hlen
        go_wp2_with (with_reducible refine wpList_append_or (o := ⟨some 26, _, _, _, _, _⟩) _ rfl (.tmp 23) (.tmp 25) _ rfl w2.heap.size 3 j0 _ 8 Try.underlying28 hj0 hy0 hy1 hy2 rfl (.slice A6 n6 k6) n6 (i64s (upTo L k)) rfl ?c1 (w3.heap.size + 1) (.slice (some ⟨w3.heap.size, 0, none⟩) 1 1) (.int .i64 (k : Int)) rfl ?c6 rfl ?c2 ?c3 ?c4 ?c5)
        case c1 => exact HW6.out.only ((Only.refl nob _).alloc _) (fun _ _ h => h)
        case c6 => exact one_of16 _ _
        case c2 => exact (fits17 hn6b).1
        case c3 => exact (fits17 hn6b).2
        case c4 => have := HB3.out; simp; omega
        case c5 =>
        intro v7 w7 H7 o7 ho7
        have HO7 := Lib.hid (show Only nob w2 w7 from (HO3.out.trans ((Only.refl nob w3).alloc _)).andThen o7 fun i hi e => absurd (HW6.out.lt e).1 (by omega))
        go_wp2
        go_roundw
        case rel => exact ⟨k + 1, by omega, by go_num, by rw [HU.out, List.length_append, ← HN6.out, i64s_append]; exact H7, HO7⟩
        case measure => simp [intOf]; omega
    · obtain rfl : k = g.nd.length := by omega
      go_wp2
      go_ret2
      exact ⟨_, rfl, HOW.out.more O2.out.size, O2.out.trans HO.out⟩
end Go.Proofs.Ytkjdnccnfnhkoaa
