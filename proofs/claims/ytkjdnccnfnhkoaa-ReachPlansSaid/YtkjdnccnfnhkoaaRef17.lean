/- The document's own plans in memory: a plan's state behind a pointer; whether a number is in a list; the first one that was not looked at. -/
import Derived.Test.YtkjdnccnfnhkoaaReMath
import Derived.Test.YtkjdnccnfnhkoaaRefGr
import Derived.BigQuiet
import Derived.IntWalk
namespace Go.Proofs.Ytkjdnccnfnhkoaa
open Go.RowKit Go.Lib
set_option maxRecDepth 100000
set_option linter.unusedSimpArgs false
set_option linter.unusedVariables false

theorem mem_all17 {l : List Int} {x : Int} (h : ∀ (j : Nat) y, j < l.length → l[j]? = some y → y ≠ x) : decide (x ∈ l) = false := by
  refine decide_eq_false fun hm => ?_
  obtain ⟨j, hj⟩ := List.getElem?_of_mem hm
  exact h j x (List.getElem?_eq_some_iff.1 hj).1 hj rfl
set_option maxHeartbeats 1000000 in
/-- Whether a number is in a list. -/
theorem rIn17 (v : Value) (l : List Int) (x : Int) (B : Nat) (w : World) (h : Sl w B 1 v l.length (i64s l)) :
    Calls Try.prog 28 #[v, .int .i64 x] w fun e w' => e = .returned (.bool (decide (x ∈ l))) ∧ Only nob w w' := by
  have HA := Lib.hid h
  obtain ⟨A, ca, rfl, hac, ham, -⟩ := h
  unfold maxLen at ham
  obtain ⟨q, hq⟩ : ∃ q, q = decide (x ∈ l) := ⟨_, rfl⟩
  have HQ := Lib.hid hq
  rw [← hq]
  clear hq
  go_enter Try.func28, Try.ntmps28
  go_wp2
  go_loopw [5] (fun i wr => ∃ k : Nat, k ≤ l.length ∧ i = .int .i64 k ∧ Hid (∀ (j : Nat) y, j < k → l[j]? = some y → y ≠ x) ∧ wr = w) (fun i _ => l.length - (intOf i).toNat)
  case atStart => exact ⟨0, Nat.zero_le _, rfl, fun j _ hj _ => absurd hj (Nat.not_lt_zero j), rfl⟩
  case round =>
    obtain ⟨k, hk, rfl, hno, rfl⟩ := hrel
    by_cases hlt : k < l.length
    · obtain ⟨y, hy⟩ : ∃ x, l[k]? = some x := ⟨_, List.getElem?_eq_getElem hlt⟩
      obtain ⟨b1, o1, rfl, -, c0⟩ := sl_int HA.out (Below.refl _ _) hy
      have HY := Lib.hid hy
      clear hy
      by_cases hyx : y = x
      · subst hyx
        have HF := Lib.hid (HQ.out.trans (decide_eq_true (List.mem_of_getElem? HY.out)))
        go_wp2
        go_ret
        exact ⟨ret_bool (by rw [HF.out]), Only.refl _ _⟩
      · have hbq : (y == x) = false := by simpa using hyx
        go_wp2
        go_roundw
        case rel =>
          refine ⟨k + 1, by omega, by go_num, fun j z hj hz => ?_, by first | rfl | trivial⟩
          rcases Nat.lt_or_ge j k with h' | h'
          · exact hno.out j z h' hz
          · obtain rfl : j = k := by omega
            rw [HY.out] at hz
            rw [← Option.some.inj hz]; exact hyx
        case measure => simp [intOf]; omega
    · obtain rfl : k = l.length := by omega
      have HF := Lib.hid (HQ.out.trans (mem_all17 hno.out))
      go_wp2
      go_ret
      exact ⟨ret_bool (by rw [HF.out]), Only.refl _ _⟩

def boos (l : List Bool) : List Value := l.map .bool
theorem boos_at {l : List Bool} {k : Nat} {z : Bool} (h : l[k]? = some z) : (boos l)[k]? = some (.bool z) := by simp [boos, h]
/-- A plan's rows: the small ones, where they begin, whether they were looked at, the large ones, the pile. -/
structure PV where
  s : Value
  b : Value
  l : Value
  g : Value
  p : Value
/-- A plan's state in memory, all of it new since the world of 'base' blocks. -/
structure Pm (W : World) (b base : Nat) (vn vr : Value) (lim blk : Int) (v : PV) (s : PSt) : Prop where
  box : Blk W b 61 #[vn, vr, .int .i64 lim, .int .i64 blk, v.s, v.b, v.l, v.g, v.p, .int .i64 s.top]
  new : base ≤ b
  sm : W.ownsRow base 3 1 v.s s.small.length (i64s s.small)
  bg : W.ownsRow base 3 1 v.b s.begins.length (i64s s.begins)
  lk : W.ownsRow base 4 1 v.l s.looked.length (boos s.looked)
  lg : W.ownsRow base 3 1 v.g s.large.length (i64s s.large)
  pl : W.ownsRow base 3 1 v.p s.pile.length (i64s s.pile)
  sb : ∀ k, v.s.ownBlock = some k → ¬ v.b.ownBlock = some k
  sg : ∀ k, v.s.ownBlock = some k → ¬ v.g.ownBlock = some k
  sp : ∀ k, v.s.ownBlock = some k → ¬ v.p.ownBlock = some k
  bgx : ∀ k, v.b.ownBlock = some k → ¬ v.g.ownBlock = some k
  bp : ∀ k, v.b.ownBlock = some k → ¬ v.p.ownBlock = some k
  gp : ∀ k, v.g.ownBlock = some k → ¬ v.p.ownBlock = some k
theorem Pm.nob {W W' : World} {b base : Nat} {vn vr : Value} {lim blk : Int} {v : PV} {s : PSt} (h : Pm W b base vn vr lim blk v s) (o : Only nob W W') : Pm W' b base vn vr lim blk v s :=
  ⟨h.box.keep o id, h.new, own_only h.sm o fun _ _ => id, own_only h.bg o fun _ _ => id, own_only h.lk o fun _ _ => id, own_only h.lg o fun _ _ => id, own_only h.pl o fun _ _ => id, h.sb, h.sg, h.sp, h.bgx, h.bp, h.gp⟩
/-- The first one that was not looked at, of a block, told as a place; -1. -/
def firstI (block z : Int) (s : PSt) : Int := match firstS (fun b => decide (z < 0) || decide (b.tdiv block = z)) s with | some i => (i : Nat) | none => -1
theorem firstI_hit {block z : Int} {s : PSt} {k : Nat} (hk : k < s.small.length) (hl : s.looked[k]? = some false) {c : Int} (hc : s.begins[k]? = some c) (hp : (decide (z < 0) || decide (c.tdiv block = z)) = true)
    (hn : ∀ (j : Nat) y c, j < k → s.looked[j]? = some y → s.begins[j]? = some c → (!y && (decide (z < 0) || decide (c.tdiv block = z))) = false) (h1 : s.looked.length = s.small.length) (h2 : s.begins.length = s.small.length) : firstI block z s = k := by
  have : firstS (fun b => decide (z < 0) || decide (b.tdiv block = z)) s = some k := by
    unfold firstS
    rw [List.find?_range_eq_some]
    refine ⟨by simp [hl, hc, List.getD_eq_getElem?_getD, hp], List.mem_range.2 hk, fun j hj => ?_⟩
    have e1 : s.looked[j]? = some s.looked[j] := List.getElem?_eq_getElem (by omega)
    have e2 : s.begins[j]? = some s.begins[j] := List.getElem?_eq_getElem (by omega)
    have := hn j _ _ hj e1 e2
    rw [List.getD_eq_getElem?_getD, List.getD_eq_getElem?_getD, e1, e2]
    simp at this ⊢
    cases hh : s.looked[j] with
    | true => exact .inl rfl
    | false => exact .inr (this hh)
  unfold firstI
  rw [this]
theorem firstI_no {block z : Int} {s : PSt} (hn : ∀ (j : Nat) y c, j < s.small.length → s.looked[j]? = some y → s.begins[j]? = some c → (!y && (decide (z < 0) || decide (c.tdiv block = z))) = false) (h1 : s.looked.length = s.small.length) (h2 : s.begins.length = s.small.length) : firstI block z s = -1 := by
  have : firstS (fun b => decide (z < 0) || decide (b.tdiv block = z)) s = none := by
    unfold firstS
    rw [List.find?_eq_none]
    intro j hj
    have hj := List.mem_range.1 hj
    have e1 : s.looked[j]? = some s.looked[j] := List.getElem?_eq_getElem (by omega)
    have e2 : s.begins[j]? = some s.begins[j] := List.getElem?_eq_getElem (by omega)
    have := hn j _ _ hj e1 e2
    rw [List.getD_eq_getElem?_getD, List.getD_eq_getElem?_getD, e1, e2]
    simpa using this
  unfold firstI
  rw [this]
theorem quo17 (x y : Int) (h : -9223372036854775808 ≤ x ∧ x ≤ 9223372036854775807 ∧ 1 ≤ y) : IntKind.i64.wrap (x.tdiv y) = x.tdiv y := by
  first | exact Go.i64_quo' x y h | exact Go.IntWalk.i64_quo' x y h | exact Go.Lib.i64_quo' x y h
theorem Pm.sl {W : World} {base size : Nat} {E : TypeId} {n : Nat} {v : Value} {xs : List Value} (h : W.ownsRow base E size v n xs) : Sl W W.heap.size size v n xs := Sl.of_own h h.1
set_option maxHeartbeats 4000000 in
theorem rFirst17 (W : World) (b base : Nat) (vn vr : Value) (lim blk z : Int) (v : PV) (s : PSt) (h : Pm W b base vn vr lim blk v s) (hb : 1 ≤ blk) (hbm : blk ≤ 9223372036854775807) (hz : -1 ≤ z ∧ z ≤ 9223372036854775807) (h1 : s.looked.length = s.small.length) (h2 : s.begins.length = s.small.length)
    (hbg : ∀ c ∈ s.begins, 0 ≤ c ∧ c ≤ 9223372036854775807) :
    Calls Try.prog 58 #[.pointer (some ⟨b, 0, none⟩), .int .i64 z] W fun e w' => e = .returned (.int .i64 (firstI blk z s)) ∧ Only nob W w' := by
  obtain ⟨A1, k1, e1, hc1, hm1, -⟩ := Pm.sl h.sm
  obtain ⟨A2, k2, e2, hc2, hm2, -⟩ := Pm.sl h.bg
  obtain ⟨A3, k3, e3, hc3, hm3, -⟩ := Pm.sl h.lk
  have HBX := Lib.hid h.box
  have HS2 := Lib.hid (Pm.sl h.bg)
  have HS3 := Lib.hid (Pm.sl h.lk)
  rw [e1, e2, e3, h1, h2] at HBX
  rw [e2, h2] at HS2
  rw [e3, h1] at HS3
  unfold maxLen at hm1
  obtain ⟨n, hn⟩ : ∃ n, n = s.small.length := ⟨_, rfl⟩
  have HN := Lib.hid hn
  rw [← hn] at HBX hc1 HS2 HS3 h1 h2
  have H1 := Lib.hid h1
  have H2 := Lib.hid h2
  obtain ⟨q, hq⟩ : ∃ q, q = firstI blk z s := ⟨_, rfl⟩
  have HQ := Lib.hid hq
  rw [← hq]
  have HBG := Lib.hid hbg
  clear hn hq h h1 h2 e1 e2 e3 hc2 hm2 hc3 hm3 hbg
  go_enter Try.func58, Try.ntmps58
  go_wp2
  go_loopw [5] (fun i wr => ∃ k : Nat, k ≤ n ∧ i = .int .i64 k ∧ Hid (∀ (j : Nat) y c, j < k → s.looked[j]? = some y → s.begins[j]? = some c → (!y && (decide (z < 0) || decide (c.tdiv blk = z))) = false) ∧ Hid (Only nob W wr)) (fun i _ => n - (intOf i).toNat)
  case atStart => exact ⟨0, Nat.zero_le _, rfl, fun j _ _ hj _ _ => absurd hj (Nat.not_lt_zero j), Lib.hid (Only.refl _ _)⟩
  case round =>
    obtain ⟨k, hk, rfl, hno, HO⟩ := hrel
    have BX := HBX.out.keep HO.out id
    have c2 : wr.cell? ⟨b, 3, none⟩ = some (.int .i64 blk) := BX.cell 3
    have c4 : wr.cell? ⟨b, 4, none⟩ = some (.slice A1 n k1) := BX.cell 4
    have c5 : wr.cell? ⟨b, 5, none⟩ = some (.slice A2 n k2) := BX.cell 5
    have c6 : wr.cell? ⟨b, 6, none⟩ = some (.slice A3 n k3) := BX.cell 6
    clear BX
    by_cases hlt : k < n
    · obtain ⟨y, hy⟩ : ∃ y, s.looked[k]? = some y := ⟨_, List.getElem?_eq_getElem (by rw [H1.out]; exact hlt)⟩
      obtain ⟨c, hc⟩ : ∃ c, s.begins[k]? = some c := ⟨_, List.getElem?_eq_getElem (by rw [H2.out]; exact hlt)⟩
      have hcb := HBG.out c (List.mem_of_getElem? hc)
      have HY := Lib.hid hy
      have HC := Lib.hid hc
      obtain ⟨b3, o3, c3', e3, -, -, hl3, hc3⟩ := (HS3.out.below (HO.out.below (Nat.le_refl _) fun _ h => h.elim)).at_ (by omega)
      obtain ⟨b2, o2, c2', e2, -, -, hl2, hc2⟩ := (HS2.out.below (HO.out.below (Nat.le_refl _) fun _ h => h.elim)).at_ (by omega)
      obtain ⟨rfl, rfl⟩ : A3 = some ⟨b3, o3, none⟩ ∧ k3 = c3' := by simpa using e3
      obtain ⟨rfl, rfl⟩ : A2 = some ⟨b2, o2, none⟩ ∧ k2 = c2' := by simpa using e2
      have g3 : wr.cell? ⟨b3, o3 + k, none⟩ = some (.bool y) := hc3 k _ (boos_at hy)
      have g2 : wr.cell? ⟨b2, o2 + k, none⟩ = some (.int .i64 c) := hc2 k _ (i64s_at hc)
      have hb0 : ¬ blk = 0 := by omega
      obtain ⟨dv, hdv⟩ : ∃ dv, dv = c.tdiv blk := ⟨_, rfl⟩
      have HDV := Lib.hid hdv
      have hw : IntKind.i64.wrap (c.tdiv blk) = dv := (quo17 _ _ (by omega)).trans hdv.symm
      clear hdv
      clear hy hc hc3 hc2 e3 e2
      cases y with
      | true =>
        have HX := Lib.hid (show ∀ (j : Nat) y c, j < k + 1 → s.looked[j]? = some y → s.begins[j]? = some c → (!y && (decide (z < 0) || decide (c.tdiv blk = z))) = false from fun j y c' hj e1 e2 => by
          rcases Nat.lt_or_ge j k with h' | h'
          · exact hno.out j y c' h' e1 e2
          · obtain rfl : j = k := by omega
            rw [HY.out] at e1
            rw [← Option.some.inj e1]; rfl)
        go_wp2
        go_quiet (fail)
        go_wp2
        go_roundw
        case rel => exact ⟨k + 1, by omega, by go_num, HX, Lib.hid (HO.out.drewN _)⟩
        case measure => simp [intOf]; omega
      | false =>
        by_cases hz0 : z < 0
        · have HF := Lib.hid (HQ.out.trans (firstI_hit (by rw [← HN.out]; exact hlt) HY.out HC.out (by simp [hz0]) hno.out (H1.out.trans HN.out) (H2.out.trans HN.out)))
          go_wp2
          go_quiet (fail)
          go_wp2
          go_ret
          exact ⟨ret_int (by rw [HF.out]), HO.out.drewN _⟩
        · by_cases hzd : dv = z
          · subst hzd
            have HF := Lib.hid (HQ.out.trans (firstI_hit (by rw [← HN.out]; exact hlt) HY.out HC.out (by simp [HDV.out]) hno.out (H1.out.trans HN.out) (H2.out.trans HN.out)))
            go_wp2
            go_quiet (fail)
            go_wp2
            go_ret
            exact ⟨ret_int (by rw [HF.out]), HO.out.drewN _⟩
          · have HX := Lib.hid (show ∀ (j : Nat) y c, j < k + 1 → s.looked[j]? = some y → s.begins[j]? = some c → (!y && (decide (z < 0) || decide (c.tdiv blk = z))) = false from fun j y c' hj e1 e2 => by
              rcases Nat.lt_or_ge j k with h' | h'
              · exact hno.out j y c' h' e1 e2
              · obtain rfl : j = k := by omega
                rw [HC.out] at e2
                rw [← Option.some.inj e2]
                rw [← HDV.out]
                simp [hz0, hzd])
            have hbq : (dv == z) = false := by simpa using hzd
            go_wp2
            go_quiet (fail)
            go_wp2
            go_roundw
            case rel => exact ⟨k + 1, by omega, by go_num, HX, Lib.hid (HO.out.drewN _)⟩
            case measure => simp [intOf]; omega
    · obtain rfl : k = n := by omega
      have HF := Lib.hid (HQ.out.trans (firstI_no (by rw [← HN.out]; exact hno.out) (H1.out.trans HN.out) (H2.out.trans HN.out)))
      go_wp2
      go_ret
      exact ⟨ret_int (by rw [HF.out]), HO.out⟩
end Go.Proofs.Ytkjdnccnfnhkoaa
