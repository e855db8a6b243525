/- Package graph's iterator: all values of a graph where they stand. -/
import Derived.Test.YtdlaigghejahdaaGrLib
import Derived.RangeFuncNested
import Derived.RangeFuncBound
import Derived.RangeFuncCalls
import Derived.RangeFuncLeaves
import Derived.RangeFuncBox
import Derived.Shelf.Abstract
import Derived.Shelf.RegionOpen
import Derived.WalkKit
import Derived.OwnWalkIn
import Derived.TacticsInMore
import Derived.LoopNIn
import Derived.LoopIn
import Derived.Maps.AppendAt
import Derived.Maps.OwnIn
namespace Go.Proofs.Ytdlaigghejahdaa
open Go.RowKit Go.Shelf
set_option maxRecDepth 100000
set_option linter.unusedSimpArgs false
set_option linter.unusedVariables false
attribute [local go_sem] Oper.semAt_some

theorem room16 {F : Fence} (hd : F.depth = none) (k : Nat) : F.room k := fun d h => by rw [hd] at h; cases h
theorem round_depth16 {F : Fence} (hd : F.depth = none) {m m' : Nat} {P : Program} {l : Nat} {f : FuncId} {tmps : Array Value} {assign body : Code} {w : World} {R : Ending → World → Prop}
    (h : RoundIn F m P l f tmps assign body w R) : RoundIn F m' P l f tmps assign body w R := ⟨h.1, fun c cs _ => h.2 c cs (room16 hd _)⟩
theorem yield_depth16 {F : Fence} (hd : F.depth = none) {m : Nat} (m' : Nat) {P : Program} {l : Nat} {args : Array Value} {W : World} {R : Ending → World → Prop} (h : YieldAt F m P l args W R) : YieldAt F m' P l args W R := by
  obtain ⟨fn, tmps, assign, body, hy, hR⟩ := h
  exact ⟨fn, tmps, assign, body, hy, round_depth16 hd hR⟩
theorem grown_only16 {W W' : World} (h : Only nob W W') : W.grownBy W' none := ⟨h.os, h.tape, h.output, h.size, fun k hk _ => h.block k hk id⟩

/-- Blocks below n0 that aren't V's lie as they lay. -/
structure KeepsV (V : Nat → Prop) (n0 : Nat) (W W' : World) : Prop where
  size : W.heap.size ≤ W'.heap.size
  block : ∀ k, k < n0 → k < W.heap.size → ¬ V k → W'.heap[k]? = W.heap[k]?
section
variable {V : Nat → Prop} {n0 : Nat} {W W' W'' : World}
theorem KeepsV.refl (V : Nat → Prop) (n0 : Nat) (W : World) : KeepsV V n0 W W := ⟨Nat.le_refl _, fun _ _ _ _ => rfl⟩
theorem KeepsV.trans (h : KeepsV V n0 W W') (g : KeepsV V n0 W' W'') : KeepsV V n0 W W'' := ⟨Nat.le_trans h.size g.size, fun k a b c => (g.block k a (Nat.lt_of_lt_of_le b h.size) c).trans (h.block k a b c)⟩
theorem KeepsV.putObj (W : World) (l : Nat) (o' : Obj) (hn : n0 ≤ l) : KeepsV V n0 W (W.putObj l o') := by
  have hg := grownBy_putObj' W l o'
  exact ⟨hg.size, fun k a b _ => hg.block k b (fun e => by have := Option.some.inj e; omega)⟩
theorem KeepsV.only {F : Nat → Prop} (h : Only F W W') (hF : ∀ k, k < n0 → F k → V k) : KeepsV V n0 W W' := ⟨h.size, fun k a b c => h.block k b fun f => c (hF k a f)⟩
theorem KeepsV.cell (h : KeepsV V n0 W W') {p : Addr} {v : Value} (hp : p.block < n0) (hv : ¬ V p.block) (hc : W.cell? p = some v) : W'.cell? p = some v :=
  (World.cell?_of_block (h.block p.block hp (World.block_lt_of_cell? W p hc) hv)).trans hc
end
/-- A row's form. -/
def RowF (h : Value) (n : Nat) : Prop := n ≤ 9223372036854775807 ∧ ∃ A c, h = .slice A n c ∧ (0 < n → ∃ b o, A = some ⟨b, o, none⟩)
theorem Sl.rowF {w : World} {B size n : Nat} {v : Value} {xs : List Value} (h : Sl w B size v n xs) : RowF v n := by
  obtain ⟨A, c, rfl, h1, h2, -, h3⟩ := h
  unfold maxLen at h2
  exact ⟨by omega, A, c, rfl, fun hn => by obtain ⟨b, o, e, -⟩ := h3 hn; exact ⟨b, o, e⟩⟩
/-- What the iterator reads: the row of nodes. -/
structure HdG (V : Nat → Prop) (n0 : Nat) (w : World) (g : Gr) (vn vr : Value) (hs : List (Value × Value)) : Prop where
  len : hs.length = g.nd.length
  nodes : Sl w n0 3 vn g.nd.length (ndc g.nd hs)
  away : ∀ b o n c, vn = .slice (some ⟨b, o, none⟩) n c → 0 < g.nd.length → ¬ V b
  rows : ∀ (i : Nat) d h, g.nd[i]? = some d → hs[i]? = some h → RowF h.1 d.fs.length ∧ RowF h.2 d.rs.length
  root : RowF vr g.rt.length
theorem RdG.hd {w : World} {B : Nat} {g : Gr} {vn vr : Value} {hs : List (Value × Value)} (h : RdG w B g vn vr hs) : HdG nob B w g vn vr hs :=
  ⟨h.len, h.nodes, fun _ _ _ _ _ _ => id, fun i d x hd hx => ⟨(h.each i d x hd hx).fields.rowF, (h.each i d x hd hx).raws.rowF⟩, h.roots.rowF⟩
theorem HdG.keep {V : Nat → Prop} {n0 : Nat} {w w' : World} {g : Gr} {vn vr : Value} {hs : List (Value × Value)} (h : HdG V n0 w g vn vr hs) (k : KeepsV V n0 w w') : HdG V n0 w' g vn vr hs := by
  refine ⟨h.len, ?_, h.away, h.rows, h.root⟩
  obtain ⟨A, c, e, h1, h2, h3, h4⟩ := h.nodes
  refine ⟨A, c, e, h1, h2, h3, fun hn => ?_⟩
  obtain ⟨b, o, hA, hb, hc⟩ := h4 hn
  exact ⟨b, o, hA, hb, fun j u hu => k.cell (p := ⟨b, o + j, none⟩) hb (h.away b o _ c (by rw [e, hA]) hn) (hc j u hu)⟩
/-- Where element k of a row of values stands. -/
def adr : Value → Nat → Option Addr
  | .slice (some a) _ _, k => some ⟨a.block, a.off + k * 2, none⟩
  | _, _ => none
theorem adr_some {b o n c k : Nat} : adr (.slice (some ⟨b, o, none⟩) n c) k = some ⟨b, o + k * 2, none⟩ := rfl

set_option maxHeartbeats 2000000 in
/-- All values of one row, in order; yield may stop it. -/
theorem each_in {α : Type} (lp i : Nat) (key : α → Nat × Nat) (encs : α → Array Value) (h : Value) (n : Nat) (hf : RowF h n)
    (hx : ∀ k, k < n → ∃ x : α, key x = (i, k) ∧ encs x = #[.pointer (adr h k)]) (V : Nat → Prop) (n0 N : Nat) (J Jx : List α → World → Prop)
    (hY : ∀ pre x W1, J pre W1 → pre.length < N → YieldAt Fence.wide 0 Try.prog lp (encs x) W1 fun e W' =>
      (e = .returned (.bool true) ∧ J (pre ++ [x]) W' ∧ KeepsV V n0 W1 W') ∨ (e = .returned (.bool false) ∧ Jx (pre ++ [x]) W'))
    (pre : List α) (hN : pre.length + n ≤ N) (W : World) (h0 : J pre W) (m : Nat) :
    CallsIn Fence.wide m Try.prog 45 #[h, .func (.yield lp) #[] #[]] W fun e W' =>
      (e = .returned (.bool true) ∧ ∃ ys, ys.map key = (List.range n).map (Prod.mk i) ∧ J (pre ++ ys) W' ∧ KeepsV V n0 W W') ∨
      (e = .returned (.bool false) ∧ ∃ k ys, k < n ∧ ys.map key = (List.range (k + 1)).map (Prod.mk i) ∧ Jx (pre ++ ys) W') := by
  obtain ⟨hn9, A, c, rfl, hA⟩ := hf
  have HY := Lib.hid hY
  have HX := Lib.hid hx
  have H0 := Lib.hid h0
  clear hY hx h0
  refine callsIn_of_wp Try.func45 rfl trivial ?_ rfl
  simp only [Try.ntmps45, List.size_toArray, List.length_cons, List.length_nil, Nat.reduceAdd, Nat.reduceSub, Array.replicate_succ, Array.replicate_zero, List.push_toArray, List.append_toArray, List.nil_append, List.cons_append]
  gi_wp2
  gi_loopw [5, 8] (fun _ i' wr => ∃ (k : Nat) (ys : List α), k ≤ n ∧ i' = .int .i64 k ∧ Hid (ys.map key = (List.range k).map (Prod.mk i)) ∧ Hid (J (pre ++ ys) wr) ∧ Hid (KeepsV V n0 W wr)) (fun _ i' _ => n - (intOf i').toNat)
  case atStart => exact ⟨0, [], Nat.zero_le _, rfl, Lib.hid rfl, Lib.hid (by rw [List.append_nil]; exact H0.out), Lib.hid (KeepsV.refl _ _ _)⟩
  case round =>
    obtain ⟨k, ys, hk, rfl, HK, HJ, HKV⟩ := hrel
    by_cases hlt : k < n
    · obtain ⟨b, o, rfl⟩ := hA (by omega)
      obtain ⟨x, hx1, hx2⟩ := HX.out k hlt
      have hyy := fun m' => yield_depth16 (F := Fence.wide) rfl m' (HY.out (pre ++ ys) x wr HJ.out (by rw [List.length_append]; have := congrArg List.length HK.out; simp at this; omega))
      rw [hx2, adr_some] at hyy
      have HK1 := Lib.hid (show (ys ++ [x]).map key = (List.range (k + 1)).map (Prod.mk i) by rw [List.map_append, HK.out, List.range_succ, List.map_append]; simp [hx1])
      clear hx1 hx2
      obtain ⟨fn, tmps, assign, body, hy, hR⟩ := hyy (m - 1)
      gi_wp2
      refine ⟨(fun h => by cases h), hR.mono ?_⟩
      rintro e W' (⟨rfl, hJ, hk2⟩ | ⟨rfl, hJx⟩)
      · have HJ2 := Lib.hid (show J (pre ++ (ys ++ [x])) W' by rw [← List.append_assoc]; exact hJ)
        have HV2 := Lib.hid (HKV.out.trans hk2)
        clear hJ hk2
        gi_wp2
        go_roundw
        case rel => exact ⟨k + 1, ys ++ [x], by omega, by go_num, HK1, HJ2, HV2⟩
        case measure => simp [intOf]; omega
      · have HJ2 := Lib.hid (show Jx (pre ++ (ys ++ [x])) W' by rw [← List.append_assoc]; exact hJx)
        clear hJx
        gi_wp2
        go_ret
        exact .inr ⟨rfl, k, ys ++ [x], hlt, HK1.out, HJ2.out⟩
    · obtain rfl : k = n := by omega
      gi_wp2
      go_ret
      exact .inl ⟨rfl, ys, HK.out, HJ.out, HKV.out⟩

/-! ### All values of a graph -/
/-- The rows of values, in order: the nodes' fields, the roots. -/
def lsts (g : Gr) : List (List Sp) := g.nd.map (·.fs) ++ [g.rt]
def allUp (g : Gr) (k : Nat) : List (Nat × Nat) := (List.range k).flatMap fun i => (List.range ((lsts g).getD i []).length).map (Prod.mk i)
def allP (g : Gr) : List (Nat × Nat) := allUp g (g.nd.length + 1)
/-- A value's place. -/
def Plc (g : Gr) : Type := { p : Nat × Nat // p.2 < ((lsts g).getD p.1 []).length }
def hdr (hs : List (Value × Value)) (vr : Value) (i : Nat) : Value := (hs.map (·.1) ++ [vr]).getD i vr
def plcE (hs : List (Value × Value)) (vr : Value) (g : Gr) (p : Plc g) : Array Value := #[.pointer (adr (hdr hs vr p.1.1) p.1.2)]
theorem allUp_succ (g : Gr) (k : Nat) : allUp g (k + 1) = allUp g k ++ (List.range ((lsts g).getD k []).length).map (Prod.mk k) := by
  unfold allUp
  rw [List.range_succ, List.flatMap_append]
  simp
theorem allUp_le (g : Gr) {j k : Nat} (h : j ≤ k) : (allUp g j) <+: (allUp g k) := by
  induction k with
  | zero => obtain rfl : j = 0 := by omega
            exact List.prefix_refl _
  | succ k ih =>
    rcases Nat.lt_or_ge k j with h' | h'
    · obtain rfl : j = k + 1 := by omega
      exact List.prefix_refl _
    · exact (ih h').trans (by rw [allUp_succ]; exact List.prefix_append _ _)
theorem lsts_at {g : Gr} {k : Nat} {d : Nd} (h : g.nd[k]? = some d) : (lsts g).getD k [] = d.fs := by
  have hk : k < g.nd.length := (List.getElem?_eq_some_iff.1 h).1
  unfold lsts
  rw [List.getD_eq_getElem?_getD, List.getElem?_append_left (by simpa using hk), List.getElem?_map, h]
  rfl
theorem lsts_root (g : Gr) : (lsts g).getD g.nd.length [] = g.rt := by
  unfold lsts
  rw [List.getD_eq_getElem?_getD, List.getElem?_append_right (by simp)]
  simp
theorem hdr_at {hs : List (Value × Value)} {vr : Value} {k : Nat} {h : Value × Value} (e : hs[k]? = some h) : hdr hs vr k = h.1 := by
  have hk : k < hs.length := (List.getElem?_eq_some_iff.1 e).1
  unfold hdr
  rw [List.getD_eq_getElem?_getD, List.getElem?_append_left (by simpa using hk), List.getElem?_map, e]
  rfl
theorem hdr_root (hs : List (Value × Value)) (vr : Value) : hdr hs vr hs.length = vr := by
  unfold hdr
  rw [List.getD_eq_getElem?_getD, List.getElem?_append_right (by simp)]
  simp
theorem range_prefix (i : Nat) {j k : Nat} (h : j ≤ k) : (List.range j).map (Prod.mk i) <+: (List.range k).map (Prod.mk i) := by
  obtain ⟨m, rfl⟩ : ∃ m, k = j + m := ⟨k - j, by omega⟩
  rw [List.range_add, List.map_append]
  exact List.prefix_append _ _

set_option maxHeartbeats 4000000 in
theorem values1_in (lp Bn n0 : Nat) (V : Nat → Prop) (g : Gr) (vn vr : Value) (hs : List (Value × Value)) (J Jx : List (Plc g) → World → Prop) (W : World)
    (hB : Bn < n0) (hBV : ¬ V Bn) (hb0 : W.cell? ⟨Bn, 0, none⟩ = some vn) (hb1 : W.cell? ⟨Bn, 1, none⟩ = some vr) (hG : HdG V n0 W g vn vr hs) (hn0 : n0 ≤ W.heap.size)
    (hJ : AbidesFrom W.heap.size J)
    (hY : ∀ pre x W1, J pre W1 → pre.length < (allP g).length → YieldAt Fence.wide 1 Try.prog lp (plcE hs vr g x) W1 fun e W' =>
      (e = .returned (.bool true) ∧ J (pre ++ [x]) W' ∧ KeepsV V n0 W1 W') ∨ (e = .returned (.bool false) ∧ Jx (pre ++ [x]) W'))
    (h0 : J [] W) :
    CallsIn Fence.wide 2 Try.prog 44 #[.func (.yield lp) #[] #[], .pointer (some ⟨Bn, 0, none⟩)] W fun e W' => (∃ v, e = .returned v) ∧
      ((∃ xs, xs.map (·.1) = allP g ∧ J xs W') ∨ (∃ pre, pre.map (·.1) <+: allP g ∧ Jx pre W')) := by
  have HG := Lib.hid hG
  obtain ⟨A, c, rfl, hac, hcm⟩ := hG.nodes.form
  unfold maxLen at hcm
  have HY := Lib.hid (fun pre x W1 a b => yield_depth16 (F := Fence.wide) rfl 0 (hY pre x W1 a b))
  have HJ := Lib.hid hJ
  have H0 := Lib.hid h0
  have HB := Lib.hid (And.intro hb0 hb1)
  clear hG hJ hY h0
  refine callsIn_of_wp Try.func44 rfl trivial ?_ rfl
  simp only [Try.ntmps44, List.size_toArray, List.length_cons, List.length_nil, Nat.reduceAdd, Nat.reduceSub, Array.replicate_succ, Array.replicate_zero, List.push_toArray, List.append_toArray, List.nil_append, List.cons_append]
  gi_wp2_with fail
  gi_loopw [4, 8] (fun _ i' wr => ∃ (k : Nat) (ys : List (Plc g)), k ≤ g.nd.length ∧ i' = .int .i64 k ∧ Hid (ys.map (·.1) = allUp g k) ∧ Hid (J ys wr) ∧ Hid (KeepsV V n0 W wr)) (fun _ i' _ => g.nd.length - (intOf i').toNat)
  case atStart => exact ⟨0, [], Nat.zero_le _, rfl, Lib.hid rfl, H0, Lib.hid (KeepsV.refl _ _ _)⟩
  case round =>
    obtain ⟨k, ys, hk, rfl, HK, HJ1, HKV⟩ := hrel
    by_cases hlt : k < g.nd.length
    · obtain ⟨d, hd⟩ : ∃ x, g.nd[k]? = some x := ⟨_, List.getElem?_eq_getElem hlt⟩
      obtain ⟨h, hh⟩ : ∃ h, hs[k]? = some h := ⟨_, List.getElem?_eq_getElem (by rw [HG.out.len]; exact hlt)⟩
      obtain ⟨fv, rv⟩ := h
      have HGr := HG.out.keep HKV.out
      obtain ⟨bb, o, c', e, _, _, hlt2, hc⟩ := HGr.nodes.at_ (by omega)
      obtain ⟨rfl, rfl⟩ : A = some ⟨bb, o, none⟩ ∧ c = c' := by simpa using e
      obtain ⟨q0, q1, q2⟩ := ndc_get g.nd hs k d (fv, rv) hd hh
      have g0 := hc _ _ q0
      have g1 := hc _ _ q1
      have g2 := hc _ _ q2
      rw [← Nat.add_assoc] at g1 g2
      obtain ⟨hrow, hrow2⟩ := HG.out.rows k d _ hd hh
      obtain ⟨W2, hW2, HB2⟩ := box_node wr d.kd fv rv
      have HW2 := Lib.hid hW2
      have HJ2 := Lib.hid (HJ.out ys wr W2 none HJ1.out (grown_only16 HB2.out.1) (fun _ h => by cases h))
      have hlen : ((lsts g).getD k []).length = d.fs.length := by rw [lsts_at hd]
      have hup : ys.length + d.fs.length ≤ (allP g).length := by
        have h1 := congrArg List.length HK.out
        rw [List.length_map] at h1
        have h2 := (allUp_le g (show k + 1 ≤ g.nd.length + 1 by omega)).length_le
        rw [allUp_succ, List.length_append, List.length_map, List.length_range, hlen] at h2
        unfold allP
        omega
      have HE := Lib.hid (each_in lp k (fun x : Plc g => x.1) (plcE hs vr g) fv d.fs.length hrow (fun j hj => ⟨⟨(k, j), by show j < ((lsts g).getD k []).length; rw [hlen]; exact hj⟩, rfl, by unfold plcE; simp only [hdr_at hh]⟩) V n0 (allP g).length J Jx HY.out ys hup W2 HJ2.out)
      have HKV2 := Lib.hid (HKV.out.trans (KeepsV.only (V := V) (n0 := n0) HB2.out.1 fun _ _ h => h.elim))
      have HUP := Lib.hid (show allUp g (k + 1) = allUp g k ++ (List.range d.fs.length).map (Prod.mk k) by rw [allUp_succ, hlen])
      have HPR := Lib.hid (show allUp g (k + 1) <+: allP g from allUp_le g (by omega))
      obtain ⟨kd, hkd⟩ : ∃ kd, kd = d.kd := ⟨_, rfl⟩
      rw [← hkd] at g0 HB2 HW2
      obtain ⟨-, Af, cf, rfl, -⟩ := id hrow
      obtain ⟨-, Ar, cr, rfl, -⟩ := id hrow2
      obtain ⟨-, -, d0, d1, d2⟩ := HB2.out
      clear hrow2 hd hh HGr e hc q0 q1 q2 hW2 hkd hup hrow hlen
      gi_wp2_with (with_reducible rw [HW2.out])
      clear g0 g1 g2
      refine ⟨trivial, ?_⟩
      gi_at_call 45
      refine (HE.out _).mono ?_
      rintro e W3 (⟨rfl, zs, hz, hJ3, hk3⟩ | ⟨rfl, j, zs, hj, hz, hJ3⟩)
      · have HZ := Lib.hid (show (ys ++ zs).map (·.1) = allUp g (k + 1) by rw [List.map_append, HK.out, HUP.out]; rw [← hz])
        have HJ3 := Lib.hid hJ3
        have HV3 := Lib.hid (HKV2.out.trans hk3)
        clear hz hJ3 hk3 d0 d1 d2
        gi_wp2
        go_roundw
        case rel => exact ⟨k + 1, ys ++ zs, by omega, by go_num, HZ, HJ3, HV3⟩
        case measure => simp [intOf]; omega
      · have HZ := Lib.hid (show (ys ++ zs).map (·.1) <+: allP g by
          refine List.IsPrefix.trans ?_ HPR.out
          rw [List.map_append, HK.out, HUP.out]
          exact (List.prefix_append_right_inj _).2 (by rw [hz]; exact range_prefix k (by omega)))
        have HJ3 := Lib.hid hJ3
        clear hz hJ3 d0 d1 d2
        gi_wp2
        refine bodyPost_ret (results_none rfl _ _ _) rfl ?_
        exact ⟨⟨_, rfl⟩, .inr ⟨_, HZ.out, HJ3.out⟩⟩
    · obtain rfl : k = g.nd.length := by omega
      have b1 := HKV.out.cell (p := ⟨Bn, 1, none⟩) hB hBV HB.out.2
      have hup : ys.length + g.rt.length ≤ (allP g).length := by
        have h1 := congrArg List.length HK.out
        rw [List.length_map] at h1
        unfold allP
        rw [allUp_succ, List.length_append, List.length_map, List.length_range, lsts_root]
        omega
      have hlen : ((lsts g).getD g.nd.length []).length = g.rt.length := by rw [lsts_root]
      have HE := Lib.hid (each_in lp g.nd.length (fun x : Plc g => x.1) (plcE hs vr g) vr g.rt.length HG.out.root (fun j hj => ⟨⟨(g.nd.length, j), by show j < ((lsts g).getD g.nd.length []).length; rw [hlen]; exact hj⟩, rfl, by unfold plcE; simp only [← HG.out.len, hdr_root]⟩) V n0 (allP g).length J Jx HY.out ys hup wr HJ1.out)
      have HUP := Lib.hid (show allP g = allUp g g.nd.length ++ (List.range g.rt.length).map (Prod.mk g.nd.length) by unfold allP; rw [allUp_succ, hlen])
      clear hup hlen
      gi_wp2_with fail
      refine ⟨trivial, ?_⟩
      gi_at_call 45
      refine (HE.out _).mono ?_
      rintro e W3 (⟨rfl, zs, hz, hJ3, hk3⟩ | ⟨rfl, j, zs, hj, hz, hJ3⟩)
      · gi_wp2
        go_end0
        exact ⟨⟨_, rfl⟩, .inl ⟨ys ++ zs, by rw [List.map_append, HK.out, HUP.out]; rw [← hz], hJ3⟩⟩
      · gi_wp2
        go_end0
        exact ⟨⟨_, rfl⟩, .inr ⟨ys ++ zs, by rw [List.map_append, HK.out, HUP.out]; exact (List.prefix_append_right_inj _).2 (by rw [hz]; exact range_prefix _ (by omega)), hJ3⟩⟩
/-- The iterator's word. -/
theorem itValues (Bn n0 : Nat) (V : Nat → Prop) (g : Gr) (vn vr : Value) (hs : List (Value × Value)) (w : World) (hB : Bn < n0) (hBV : ¬ V Bn) (hb0 : w.cell? ⟨Bn, 0, none⟩ = some vn) (hb1 : w.cell? ⟨Bn, 1, none⟩ = some vr) (hG : HdG V n0 w g vn vr hs) (hn0 : n0 ≤ w.heap.size) :
    SeqStopsK Fence.wide 2 Try.prog 44 #[.pointer (some ⟨Bn, 0, none⟩)] (plcE hs vr g) (KeepsV V n0) (fun xs => xs.map (·.1) = allP g) (fun pre => pre.map (·.1) <+: allP g) (allP g).length w := by
  intro lp J Jx W hW hJ hJx hY h0
  have hkk : KeepsV V n0 w W := ⟨hW.size, fun k hk hkw hv => hW.block k hkw⟩
  exact values1_in lp Bn n0 V g vn vr hs J Jx W hB hBV (hkk.cell (p := ⟨Bn, 0, none⟩) hB hBV hb0) (hkk.cell (p := ⟨Bn, 1, none⟩) hB hBV hb1) (hG.keep hkk) (Nat.le_trans hn0 hW.size) hJ hY h0
end Go.Proofs.Ytdlaigghejahdaa
