/- Package graph: the library's Clone and Equal at values and words. -/
import Derived.Test.YtkjdnccnfnhkoaaRefGr
import Derived.BigQuiet
import Derived.RangeFuncNested
import Derived.RangeFuncBound
import Derived.RangeFuncCalls
import Derived.RangeFuncLeaves
import Derived.RangeFuncBox
import Derived.Shelf.Abstract
import Derived.Shelf.RegionOpen
import Derived.WalkKit
import Derived.OwnWalkIn
import Derived.TacticsInMore
import Derived.LoopNIn
import Derived.LoopIn
import Derived.Maps.AppendAt
import Derived.Maps.OwnIn
namespace Go.Proofs.Ytkjdnccnfnhkoaa
open Go.RowKit Go.Lib
set_option maxRecDepth 100000
set_option linter.unusedSimpArgs false
set_option linter.unusedVariables false

theorem info_u6416 : (Try.prog.info? 47).map (fun i => (i.zero, i.size, i.bytes)) = some (some (.int .u64 0), 1, 8) := by kernel_rfl
end Go.Proofs.Ytkjdnccnfnhkoaa

/- Package graph's iterator: all values of a graph where they stand. -/
namespace Go.Proofs.Ytkjdnccnfnhkoaa
open Go.RowKit Go.Shelf
set_option maxRecDepth 100000
set_option linter.unusedSimpArgs false
set_option linter.unusedVariables false
attribute [local go_sem] Oper.semAt_some

theorem room16 {F : Fence} (hd : F.depth = none) (k : Nat) : F.room k := fun d h => by rw [hd] at h; cases h
theorem round_depth16 {F : Fence} (hd : F.depth = none) {m m' : Nat} {P : Program} {l : Nat} {f : FuncId} {tmps : Array Value} {assign body : Code} {w : World} {R : Ending → World → Prop}
    (h : RoundIn F m P l f tmps assign body w R) : RoundIn F m' P l f tmps assign body w R := ⟨h.1, fun c cs _ => h.2 c cs (room16 hd _)⟩
theorem yield_depth16 {F : Fence} (hd : F.depth = none) {m : Nat} (m' : Nat) {P : Program} {l : Nat} {args : Array Value} {W : World} {R : Ending → World → Prop} (h : YieldAt F m P l args W R) : YieldAt F m' P l args W R := by
  obtain ⟨fn, tmps, assign, body, hy, hR⟩ := h
  exact ⟨fn, tmps, assign, body, hy, round_depth16 hd hR⟩
theorem grown_only16 {W W' : World} (h : Only nob W W') : W.grownBy W' none := ⟨h.os, h.tape, h.output, h.size, fun k hk _ => h.block k hk id⟩

/-- Blocks below n0 that aren't V's lie as they lay. -/
structure KeepsV (V : Nat → Prop) (n0 : Nat) (W W' : World) : Prop where
  size : W.heap.size ≤ W'.heap.size
  block : ∀ k, k < n0 → k < W.heap.size → ¬ V k → W'.heap[k]? = W.heap[k]?
section
variable {V : Nat → Prop} {n0 : Nat} {W W' W'' : World}
theorem KeepsV.refl (V : Nat → Prop) (n0 : Nat) (W : World) : KeepsV V n0 W W := ⟨Nat.le_refl _, fun _ _ _ _ => rfl⟩
theorem KeepsV.trans (h : KeepsV V n0 W W') (g : KeepsV V n0 W' W'') : KeepsV V n0 W W'' := ⟨Nat.le_trans h.size g.size, fun k a b c => (g.block k a (Nat.lt_of_lt_of_le b h.size) c).trans (h.block k a b c)⟩
theorem KeepsV.putObj (W : World) (l : Nat) (o' : Obj) (hn : n0 ≤ l) : KeepsV V n0 W (W.putObj l o') := by
  have hg := grownBy_putObj' W l o'
  exact ⟨hg.size, fun k a b _ => hg.block k b (fun e => by have := Option.some.inj e; omega)⟩
theorem KeepsV.only {F : Nat → Prop} (h : Only F W W') (hF : ∀ k, k < n0 → F k → V k) : KeepsV V n0 W W' := ⟨h.size, fun k a b c => h.block k b fun f => c (hF k a f)⟩
theorem KeepsV.cell (h : KeepsV V n0 W W') {p : Addr} {v : Value} (hp : p.block < n0) (hv : ¬ V p.block) (hc : W.cell? p = some v) : W'.cell? p = some v :=
  (World.cell?_of_block (h.block p.block hp (World.block_lt_of_cell? W p hc) hv)).trans hc
end
/-- A row's form. -/
def RowF (h : Value) (n : Nat) : Prop := n ≤ 9223372036854775807 ∧ ∃ A c, h = .slice A n c ∧ (0 < n → ∃ b o, A = some ⟨b, o, none⟩)
theorem Sl.rowF {w : World} {B size n : Nat} {v : Value} {xs : List Value} (h : Sl w B size v n xs) : RowF v n := by
  obtain ⟨A, c, rfl, h1, h2, -, h3⟩ := h
  unfold maxLen at h2
  exact ⟨by omega, A, c, rfl, fun hn => by obtain ⟨b, o, e, -⟩ := h3 hn; exact ⟨b, o, e⟩⟩
/-- What the iterator reads: the row of nodes. -/
structure HdG (V : Nat → Prop) (n0 : Nat) (w : World) (g : Gr) (vn vr : Value) (hs : List (Value × Value)) : Prop where
  len : hs.length = g.nd.length
  nodes : Sl w n0 3 vn g.nd.length (ndc g.nd hs)
  away : ∀ b o n c, vn = .slice (some ⟨b, o, none⟩) n c → 0 < g.nd.length → ¬ V b
  rows : ∀ (i : Nat) d h, g.nd[i]? = some d → hs[i]? = some h → RowF h.1 d.fs.length ∧ RowF h.2 d.rs.length
  root : RowF vr g.rt.length
theorem RdG.hd {w : World} {B : Nat} {g : Gr} {vn vr : Value} {hs : List (Value × Value)} (h : RdG w B g vn vr hs) : HdG nob B w g vn vr hs :=
  ⟨h.len, h.nodes, fun _ _ _ _ _ _ => id, fun i d x hd hx => ⟨(h.each i d x hd hx).fields.rowF, (h.each i d x hd hx).raws.rowF⟩, h.roots.rowF⟩
theorem HdG.keep {V : Nat → Prop} {n0 : Nat} {w w' : World} {g : Gr} {vn vr : Value} {hs : List (Value × Value)} (h : HdG V n0 w g vn vr hs) (k : KeepsV V n0 w w') : HdG V n0 w' g vn vr hs := by
  refine ⟨h.len, ?_, h.away, h.rows, h.root⟩
  obtain ⟨A, c, e, h1, h2, h3, h4⟩ := h.nodes
  refine ⟨A, c, e, h1, h2, h3, fun hn => ?_⟩
  obtain ⟨b, o, hA, hb, hc⟩ := h4 hn
  exact ⟨b, o, hA, hb, fun j u hu => k.cell (p := ⟨b, o + j, none⟩) hb (h.away b o _ c (by rw [e, hA]) hn) (hc j u hu)⟩
/-- Where element k of a row of values stands. -/
def adr : Value → Nat → Option Addr
  | .slice (some a) _ _, k => some ⟨a.block, a.off + k * 2, none⟩
  | _, _ => none
theorem adr_some {b o n c k : Nat} : adr (.slice (some ⟨b, o, none⟩) n c) k = some ⟨b, o + k * 2, none⟩ := rfl

set_option maxHeartbeats 2000000 in
/-- All values of one row, in order; yield may stop it. -/
theorem each_in {α : Type} (lp i : Nat) (key : α → Nat × Nat) (encs : α → Array Value) (h : Value) (n : Nat) (hf : RowF h n)
    (hx : ∀ k, k < n → ∃ x : α, key x = (i, k) ∧ encs x = #[.pointer (adr h k)]) (V : Nat → Prop) (n0 N : Nat) (J Jx : List α → World → Prop)
    (hY : ∀ pre x W1, J pre W1 → pre.length < N → YieldAt Fence.wide 0 Try.prog lp (encs x) W1 fun e W' =>
      (e = .returned (.bool true) ∧ J (pre ++ [x]) W' ∧ KeepsV V n0 W1 W') ∨ (e = .returned (.bool false) ∧ Jx (pre ++ [x]) W'))
    (pre : List α) (hN : pre.length + n ≤ N) (W : World) (h0 : J pre W) (m : Nat) :
    CallsIn Fence.wide m Try.prog 53 #[h, .func (.yield lp) #[] #[]] W fun e W' =>
      (e = .returned (.bool true) ∧ ∃ ys, ys.map key = (List.range n).map (Prod.mk i) ∧ J (pre ++ ys) W' ∧ KeepsV V n0 W W') ∨
      (e = .returned (.bool false) ∧ ∃ k ys, k < n ∧ ys.map key = (List.range (k + 1)).map (Prod.mk i) ∧ Jx (pre ++ ys) W') := by
  obtain ⟨hn9, A, c, rfl, hA⟩ := hf
  have HY := Lib.hid hY
  have HX := Lib.hid hx
  have H0 := Lib.hid h0
  clear hY hx h0
  refine callsIn_of_wp Try.func53 rfl trivial ?_ rfl
  simp only [Try.ntmps53, List.size_toArray, List.length_cons, List.length_nil, Nat.reduceAdd, Nat.reduceSub, Array.replicate_succ, Array.replicate_zero, List.push_toArray, List.append_toArray, List.nil_append, List.cons_append]
  gi_wp2
  gi_loopw [5, 8] (fun _ i' wr => ∃ (k : Nat) (ys : List α), k ≤ n ∧ i' = .int .i64 k ∧ Hid (ys.map key = (List.range k).map (Prod.mk i)) ∧ Hid (J (pre ++ ys) wr) ∧ Hid (KeepsV V n0 W wr)) (fun _ i' _ => n - (intOf i').toNat)
  case atStart => exact ⟨0, [], Nat.zero_le _, rfl, Lib.hid rfl, Lib.hid (by rw [List.append_nil]; exact H0.out), Lib.hid (KeepsV.refl _ _ _)⟩
  case round =>
    obtain ⟨k, ys, hk, rfl, HK, HJ, HKV⟩ := hrel
    by_cases hlt : k < n
    · obtain ⟨b, o, rfl⟩ := hA (by omega)
      obtain ⟨x, hx1, hx2⟩ := HX.out k hlt
      have hyy := fun m' => yield_depth16 (F := Fence.wide) rfl m' (HY.out (pre ++ ys) x wr HJ.out (by rw [List.length_append]; have := congrArg List.length HK.out; simp at this; omega))
      rw [hx2, adr_some] at hyy
      have HK1 := Lib.hid (show (ys ++ [x]).map key = (List.range (k + 1)).map (Prod.mk i) by rw [List.map_append, HK.out, List.range_succ, List.map_append]; simp [hx1])
      clear hx1 hx2
      obtain ⟨fn, tmps, assign, body, hy, hR⟩ := hyy (m - 1)
      gi_wp2
      refine ⟨(fun h => by cases h), hR.mono ?_⟩
      rintro e W' (⟨rfl, hJ, hk2⟩ | ⟨rfl, hJx⟩)
      · have HJ2 := Lib.hid (show J (pre ++ (ys ++ [x])) W' by rw [← List.append_assoc]; exact hJ)
        have HV2 := Lib.hid (HKV.out.trans hk2)
        clear hJ hk2
        gi_wp2
        go_roundw
        case rel => exact ⟨k + 1, ys ++ [x], by omega, by go_num, HK1, HJ2, HV2⟩
        case measure => simp [intOf]; omega
      · have HJ2 := Lib.hid (show Jx (pre ++ (ys ++ [x])) W' by rw [← List.append_assoc]; exact hJx)
        clear hJx
        gi_wp2
        go_ret
        exact .inr ⟨rfl, k, ys ++ [x], hlt, HK1.out, HJ2.out⟩
    · obtain rfl : k = n := by omega
      gi_wp2
      go_ret
      exact .inl ⟨rfl, ys, HK.out, HJ.out, HKV.out⟩

/-! ### All values of a graph -/
/-- The rows of values, in order: the nodes' fields, the roots. -/
def lsts (g : Gr) : List (List Sp) := g.nd.map (·.fs) ++ [g.rt]
def allUp (g : Gr) (k : Nat) : List (Nat × Nat) := (List.range k).flatMap fun i => (List.range ((lsts g).getD i []).length).map (Prod.mk i)
def allP (g : Gr) : List (Nat × Nat) := allUp g (g.nd.length + 1)
/-- A value's place. -/
def Plc (g : Gr) : Type := { p : Nat × Nat // p.2 < ((lsts g).getD p.1 []).length }
def hdr (hs : List (Value × Value)) (vr : Value) (i : Nat) : Value := (hs.map (·.1) ++ [vr]).getD i vr
def plcE (hs : List (Value × Value)) (vr : Value) (g : Gr) (p : Plc g) : Array Value := #[.pointer (adr (hdr hs vr p.1.1) p.1.2)]
theorem allUp_succ (g : Gr) (k : Nat) : allUp g (k + 1) = allUp g k ++ (List.range ((lsts g).getD k []).length).map (Prod.mk k) := by
  unfold allUp
  rw [List.range_succ, List.flatMap_append]
  simp
theorem allUp_le (g : Gr) {j k : Nat} (h : j ≤ k) : (allUp g j) <+: (allUp g k) := by
  induction k with
  | zero => obtain rfl : j = 0 := by omega
            exact List.prefix_refl _
  | succ k ih =>
    rcases Nat.lt_or_ge k j with h' | h'
    · obtain rfl : j = k + 1 := by omega
      exact List.prefix_refl _
    · exact (ih h').trans (by rw [allUp_succ]; exact List.prefix_append _ _)
theorem lsts_at {g : Gr} {k : Nat} {d : Nd} (h : g.nd[k]? = some d) : (lsts g).getD k [] = d.fs := by
  have hk : k < g.nd.length := (List.getElem?_eq_some_iff.1 h).1
  unfold lsts
  rw [List.getD_eq_getElem?_getD, List.getElem?_append_left (by simpa using hk), List.getElem?_map, h]
  rfl
theorem lsts_root (g : Gr) : (lsts g).getD g.nd.length [] = g.rt := by
  unfold lsts
  rw [List.getD_eq_getElem?_getD, List.getElem?_append_right (by simp)]
  simp
theorem hdr_at {hs : List (Value × Value)} {vr : Value} {k : Nat} {h : Value × Value} (e : hs[k]? = some h) : hdr hs vr k = h.1 := by
  have hk : k < hs.length := (List.getElem?_eq_some_iff.1 e).1
  unfold hdr
  rw [List.getD_eq_getElem?_getD, List.getElem?_append_left (by simpa using hk), List.getElem?_map, e]
  rfl
theorem hdr_root (hs : List (Value × Value)) (vr : Value) : hdr hs vr hs.length = vr := by
  unfold hdr
  rw [List.getD_eq_getElem?_getD, List.getElem?_append_right (by simp)]
  simp
theorem range_prefix (i : Nat) {j k : Nat} (h : j ≤ k) : (List.range j).map (Prod.mk i) <+: (List.range k).map (Prod.mk i) := by
  obtain ⟨m, rfl⟩ : ∃ m, k = j + m := ⟨k - j, by omega⟩
  rw [List.range_add, List.map_append]
  exact List.prefix_append _ _

set_option maxHeartbeats 4000000 in
theorem values1_in (lp Bn n0 : Nat) (V : Nat → Prop) (g : Gr) (vn vr : Value) (hs : List (Value × Value)) (J Jx : List (Plc g) → World → Prop) (W : World)
    (hB : Bn < n0) (hBV : ¬ V Bn) (hb0 : W.cell? ⟨Bn, 0, none⟩ = some vn) (hb1 : W.cell? ⟨Bn, 1, none⟩ = some vr) (hG : HdG V n0 W g vn vr hs) (hn0 : n0 ≤ W.heap.size)
    (hJ : AbidesFrom W.heap.size J)
    (hY : ∀ pre x W1, J pre W1 → pre.length < (allP g).length → YieldAt Fence.wide 1 Try.prog lp (plcE hs vr g x) W1 fun e W' =>
      (e = .returned (.bool true) ∧ J (pre ++ [x]) W' ∧ KeepsV V n0 W1 W') ∨ (e = .returned (.bool false) ∧ Jx (pre ++ [x]) W'))
    (h0 : J [] W) :
    CallsIn Fence.wide 2 Try.prog 52 #[.func (.yield lp) #[] #[], .pointer (some ⟨Bn, 0, none⟩)] W fun e W' => (∃ v, e = .returned v) ∧
      ((∃ xs, xs.map (·.1) = allP g ∧ J xs W') ∨ (∃ pre, pre.map (·.1) <+: allP g ∧ Jx pre W')) := by
  have HG := Lib.hid hG
  obtain ⟨A, c, rfl, hac, hcm⟩ := hG.nodes.form
  unfold maxLen at hcm
  have HY := Lib.hid (fun pre x W1 a b => yield_depth16 (F := Fence.wide) rfl 0 (hY pre x W1 a b))
  have HJ := Lib.hid hJ
  have H0 := Lib.hid h0
  have HB := Lib.hid (And.intro hb0 hb1)
  clear hG hJ hY h0
  refine callsIn_of_wp Try.func52 rfl trivial ?_ rfl
  simp only [Try.ntmps52, List.size_toArray, List.length_cons, List.length_nil, Nat.reduceAdd, Nat.reduceSub, Array.replicate_succ, Array.replicate_zero, List.push_toArray, List.append_toArray, List.nil_append, List.cons_append]
  gi_wp2_with fail
  gi_loopw [4, 8] (fun _ i' wr => ∃ (k : Nat) (ys : List (Plc g)), k ≤ g.nd.length ∧ i' = .int .i64 k ∧ Hid (ys.map (·.1) = allUp g k) ∧ Hid (J ys wr) ∧ Hid (KeepsV V n0 W wr)) (fun _ i' _ => g.nd.length - (intOf i').toNat)
  case atStart => exact ⟨0, [], Nat.zero_le _, rfl, Lib.hid rfl, H0, Lib.hid (KeepsV.refl _ _ _)⟩
  case round =>
    obtain ⟨k, ys, hk, rfl, HK, HJ1, HKV⟩ := hrel
    by_cases hlt : k < g.nd.length
    · obtain ⟨d, hd⟩ : ∃ x, g.nd[k]? = some x := ⟨_, List.getElem?_eq_getElem hlt⟩
      obtain ⟨h, hh⟩ : ∃ h, hs[k]? = some h := ⟨_, List.getElem?_eq_getElem (by rw [HG.out.len]; exact hlt)⟩
      obtain ⟨fv, rv⟩ := h
      have HGr := HG.out.keep HKV.out
      obtain ⟨bb, o, c', e, _, _, hlt2, hc⟩ := HGr.nodes.at_ (by omega)
      obtain ⟨rfl, rfl⟩ : A = some ⟨bb, o, none⟩ ∧ c = c' := by simpa using e
      obtain ⟨q0, q1, q2⟩ := ndc_get g.nd hs k d (fv, rv) hd hh
      have g0 := hc _ _ q0
      have g1 := hc _ _ q1
      have g2 := hc _ _ q2
      rw [← Nat.add_assoc] at g1 g2
      obtain ⟨hrow, hrow2⟩ := HG.out.rows k d _ hd hh
      obtain ⟨W2, hW2, HB2⟩ := box_node wr d.kd fv rv
      have HW2 := Lib.hid hW2
      have HJ2 := Lib.hid (HJ.out ys wr W2 none HJ1.out (grown_only16 HB2.out.1) (fun _ h => by cases h))
      have hlen : ((lsts g).getD k []).length = d.fs.length := by rw [lsts_at hd]
      have hup : ys.length + d.fs.length ≤ (allP g).length := by
        have h1 := congrArg List.length HK.out
        rw [List.length_map] at h1
        have h2 := (allUp_le g (show k + 1 ≤ g.nd.length + 1 by omega)).length_le
        rw [allUp_succ, List.length_append, List.length_map, List.length_range, hlen] at h2
        unfold allP
        omega
      have HE := Lib.hid (each_in lp k (fun x : Plc g => x.1) (plcE hs vr g) fv d.fs.length hrow (fun j hj => ⟨⟨(k, j), by show j < ((lsts g).getD k []).length; rw [hlen]; exact hj⟩, rfl, by unfold plcE; simp only [hdr_at hh]⟩) V n0 (allP g).length J Jx HY.out ys hup W2 HJ2.out)
      have HKV2 := Lib.hid (HKV.out.trans (KeepsV.only (V := V) (n0 := n0) HB2.out.1 fun _ _ h => h.elim))
      have HUP := Lib.hid (show allUp g (k + 1) = allUp g k ++ (List.range d.fs.length).map (Prod.mk k) by rw [allUp_succ, hlen])
      have HPR := Lib.hid (show allUp g (k + 1) <+: allP g from allUp_le g (by omega))
      obtain ⟨kd, hkd⟩ : ∃ kd, kd = d.kd := ⟨_, rfl⟩
      rw [← hkd] at g0 HB2 HW2
      obtain ⟨-, Af, cf, rfl, -⟩ := id hrow
      obtain ⟨-, Ar, cr, rfl, -⟩ := id hrow2
      obtain ⟨-, -, d0, d1, d2⟩ := HB2.out
      clear hrow2 hd hh HGr e hc q0 q1 q2 hW2 hkd hup hrow hlen
      gi_wp2_with (with_reducible rw [HW2.out])
      clear g0 g1 g2
      refine ⟨trivial, ?_⟩
      gi_at_call 53
      refine (HE.out _).mono ?_
      rintro e W3 (⟨rfl, zs, hz, hJ3, hk3⟩ | ⟨rfl, j, zs, hj, hz, hJ3⟩)
      · have HZ := Lib.hid (show (ys ++ zs).map (·.1) = allUp g (k + 1) by rw [List.map_append, HK.out, HUP.out]; rw [← hz])
        have HJ3 := Lib.hid hJ3
        have HV3 := Lib.hid (HKV2.out.trans hk3)
        clear hz hJ3 hk3 d0 d1 d2
        gi_wp2
        go_roundw
        case rel => exact ⟨k + 1, ys ++ zs, by omega, by go_num, HZ, HJ3, HV3⟩
        case measure => simp [intOf]; omega
      · have HZ := Lib.hid (show (ys ++ zs).map (·.1) <+: allP g by
          refine List.IsPrefix.trans ?_ HPR.out
          rw [List.map_append, HK.out, HUP.out]
          exact (List.prefix_append_right_inj _).2 (by rw [hz]; exact range_prefix k (by omega)))
        have HJ3 := Lib.hid hJ3
        clear hz hJ3 d0 d1 d2
        gi_wp2
        refine bodyPost_ret (results_none rfl _ _ _) rfl ?_
        exact ⟨⟨_, rfl⟩, .inr ⟨_, HZ.out, HJ3.out⟩⟩
    · obtain rfl : k = g.nd.length := by omega
      have b1 := HKV.out.cell (p := ⟨Bn, 1, none⟩) hB hBV HB.out.2
      have hup : ys.length + g.rt.length ≤ (allP g).length := by
        have h1 := congrArg List.length HK.out
        rw [List.length_map] at h1
        unfold allP
        rw [allUp_succ, List.length_append, List.length_map, List.length_range, lsts_root]
        omega
      have hlen : ((lsts g).getD g.nd.length []).length = g.rt.length := by rw [lsts_root]
      have HE := Lib.hid (each_in lp g.nd.length (fun x : Plc g => x.1) (plcE hs vr g) vr g.rt.length HG.out.root (fun j hj => ⟨⟨(g.nd.length, j), by show j < ((lsts g).getD g.nd.length []).length; rw [hlen]; exact hj⟩, rfl, by unfold plcE; simp only [← HG.out.len, hdr_root]⟩) V n0 (allP g).length J Jx HY.out ys hup wr HJ1.out)
      have HUP := Lib.hid (show allP g = allUp g g.nd.length ++ (List.range g.rt.length).map (Prod.mk g.nd.length) by unfold allP; rw [allUp_succ, hlen])
      clear hup hlen
      gi_wp2_with fail
      refine ⟨trivial, ?_⟩
      gi_at_call 53
      refine (HE.out _).mono ?_
      rintro e W3 (⟨rfl, zs, hz, hJ3, hk3⟩ | ⟨rfl, j, zs, hj, hz, hJ3⟩)
      · gi_wp2
        go_end0
        exact ⟨⟨_, rfl⟩, .inl ⟨ys ++ zs, by rw [List.map_append, HK.out, HUP.out]; rw [← hz], hJ3⟩⟩
      · gi_wp2
        go_end0
        exact ⟨⟨_, rfl⟩, .inr ⟨ys ++ zs, by rw [List.map_append, HK.out, HUP.out]; exact (List.prefix_append_right_inj _).2 (by rw [hz]; exact range_prefix _ (by omega)), hJ3⟩⟩
/-- The iterator's word. -/
theorem itValues (Bn n0 : Nat) (V : Nat → Prop) (g : Gr) (vn vr : Value) (hs : List (Value × Value)) (w : World) (hB : Bn < n0) (hBV : ¬ V Bn) (hb0 : w.cell? ⟨Bn, 0, none⟩ = some vn) (hb1 : w.cell? ⟨Bn, 1, none⟩ = some vr) (hG : HdG V n0 w g vn vr hs) (hn0 : n0 ≤ w.heap.size) :
    SeqStopsK Fence.wide 2 Try.prog 52 #[.pointer (some ⟨Bn, 0, none⟩)] (plcE hs vr g) (KeepsV V n0) (fun xs => xs.map (·.1) = allP g) (fun pre => pre.map (·.1) <+: allP g) (allP g).length w := by
  intro lp J Jx W hW hJ hJx hY h0
  have hkk : KeepsV V n0 w W := ⟨hW.size, fun k hk hkw hv => hW.block k hkw⟩
  exact values1_in lp Bn n0 V g vn vr hs J Jx W hB hBV (hkk.cell (p := ⟨Bn, 0, none⟩) hB hBV hb0) (hkk.cell (p := ⟨Bn, 1, none⟩) hB hBV hb1) (hG.keep hkk) (Nat.le_trans hn0 hW.size) hJ hY h0
end Go.Proofs.Ytkjdnccnfnhkoaa

/- The document's own comparisons of words and numbers. -/
namespace Go.Proofs.Ytkjdnccnfnhkoaa
open Go.RowKit Go.Lib
set_option maxRecDepth 100000
set_option linter.unusedSimpArgs false
set_option linter.unusedVariables false

set_option maxHeartbeats 1000000 in
/-- The same numbers. -/
theorem rInts16 (va vb : Value) (l : List Int) (B B' : Nat) (w : World) (ha : Sl w B 1 va l.length (i64s l)) (hb : Sl w B' 1 vb l.length (i64s l)) :
    Calls Try.prog 10 #[va, vb] w fun e w' => e = .returned (.bool true) ∧ ∃ m, w' = w.drewN m := by
  have HA := Lib.hid ha
  have HB := Lib.hid hb
  obtain ⟨A, ca, rfl, hac, ham, -⟩ := ha
  obtain ⟨A', cb, rfl, hbc, hbm, -⟩ := hb
  unfold maxLen at ham hbm
  go_enter Try.func10, Try.ntmps10
  go_wp2
  go_loopw [5] (fun i wr => ∃ k m : Nat, k ≤ l.length ∧ i = .int .i64 k ∧ wr = w.drewN m) (fun i _ => l.length - (intOf i).toNat)
  case atStart => exact ⟨0, 0, Nat.zero_le _, rfl, rfl⟩
  case round =>
    obtain ⟨k, m, hk, rfl, rfl⟩ := hrel
    by_cases hlt : k < l.length
    · obtain ⟨y, hy⟩ : ∃ y, l[k]? = some y := ⟨_, List.getElem?_eq_getElem hlt⟩
      obtain ⟨b1, o1, rfl, -, g1⟩ := sl_int HA.out (Below.refl _ _) hy
      obtain ⟨b2, o2, rfl, -, g2⟩ := sl_int HB.out (Below.refl _ _) hy
      clear hy
      go_wp2
      go_quiet (fail)
      go_wp2
      go_roundw
      case rel => exact ⟨k + 1, _, by omega, by go_num, rfl⟩
      case measure => simp [intOf]; omega
    · obtain rfl : k = l.length := by omega
      go_wp2
      go_ret
      exact ⟨rfl, _, rfl⟩
end Go.Proofs.Ytkjdnccnfnhkoaa

/- Package graph: whether a graph may be. -/
namespace Go.Proofs.Ytkjdnccnfnhkoaa
open Go.RowKit Go.Shelf
set_option maxRecDepth 100000
set_option linter.unusedSimpArgs false
set_option linter.unusedVariables false
attribute [local go_sem] Oper.semAt_some

/-- Is a node wrong, whatever its fields say? -/
def ndBad (d : Nd) : Bool := decide (d.kd < 0) || (decide (31 < d.kd) || (decide (4096 < (d.fs.length : Int)) || decide (4096 < (d.rs.length : Int))))
theorem ndBad_cases (d : Nd) : (d.kd < 0 ∧ ndBad d = true) ∨ (0 ≤ d.kd ∧ 31 < d.kd ∧ ndBad d = true) ∨ (0 ≤ d.kd ∧ d.kd ≤ 31 ∧ 4096 < (d.fs.length : Int) ∧ ndBad d = true) ∨ (0 ≤ d.kd ∧ d.kd ≤ 31 ∧ (d.fs.length : Int) ≤ 4096 ∧ 4096 < (d.rs.length : Int) ∧ ndBad d = true) ∨ (0 ≤ d.kd ∧ d.kd ≤ 31 ∧ (d.fs.length : Int) ≤ 4096 ∧ (d.rs.length : Int) ≤ 4096 ∧ ndBad d = false) := by
  unfold ndBad
  by_cases h1 : d.kd < 0
  · exact .inl ⟨h1, by simp [h1]⟩
  by_cases h2 : 31 < d.kd
  · exact .inr (.inl ⟨by omega, h2, by simp [h2]⟩)
  by_cases h3 : 4096 < (d.fs.length : Int)
  · exact .inr (.inr (.inl ⟨by omega, by omega, h3, by simp; omega⟩))
  by_cases h4 : 4096 < (d.rs.length : Int)
  · exact .inr (.inr (.inr (.inl ⟨by omega, by omega, by omega, h4, by simp; omega⟩)))
  · exact .inr (.inr (.inr (.inr ⟨by omega, by omega, by omega, by omega, by simp; omega⟩)))
theorem ndOk_bad (n : Nat) (d : Nd) : ndOk n d = (!ndBad d && d.fs.all (vOk n)) := by
  have h1 := ndBad_cases d
  have h2 := ndOk_cases n d
  rcases h1 with ⟨a, e⟩ | ⟨a, b, e⟩ | ⟨a, b, c, e⟩ | ⟨a, b, c, f, e⟩ | ⟨a, b, c, f, e⟩ <;> rcases h2 with ⟨a', e'⟩ | ⟨a', b', e'⟩ | ⟨a', b', c', e'⟩ | ⟨a', b', c', f', e'⟩ | ⟨a', b', c', f', e'⟩ <;> first | omega | (rw [e, e']; simp)
set_option maxHeartbeats 1000000 in
theorem isWrong_any (d : Nd) (h : Value × Value) (h1 : RowF h.1 d.fs.length) (h2 : RowF h.2 d.rs.length) (w : World) :
    Calls Try.prog 33 #[.agg #[.int .i64 d.kd, h.1, h.2]] w fun e w' => e = .returned (.bool (ndBad d)) ∧ Only nob w w' := by
  obtain ⟨fv, rv⟩ := h
  obtain ⟨n1, Af, cf, hfv, -⟩ := h1
  obtain ⟨n2, Ar, cr, hrv, -⟩ := h2
  simp only at hfv hrv
  subst hfv hrv
  obtain ⟨W, hW, HB⟩ := box_node w d.kd (.slice Af d.fs.length cf) (.slice Ar d.rs.length cr)
  have HW := Lib.hid hW
  obtain ⟨-, -, d0, d1, d2⟩ := HB.out
  have hcs := ndBad_cases d
  obtain ⟨q, hq⟩ : ∃ q, q = ndBad d := ⟨_, rfl⟩
  obtain ⟨kd, hkd⟩ : ∃ kd, kd = d.kd := ⟨_, rfl⟩
  rw [← hq, ← hkd] at hcs
  rw [← hkd] at HW d0
  rw [← hq]
  simp only
  rw [← hkd]
  have HO := Lib.hid HB.out.1
  clear hW hq hkd HB
  go_enter Try.func33, Try.ntmps33
  go_upto_region 1 with fail
  rw [HW.out]
  rcases hcs with ⟨a, rfl⟩ | ⟨a, b, rfl⟩ | ⟨a, b, c, rfl⟩ | ⟨a, b, c, f, rfl⟩ | ⟨a, b, c, f, rfl⟩
  all_goals
    go_wp2
    go_ret
    exact ⟨ret_bool (by first | rfl | (simp; done) | (simp; omega)), HO.out⟩
theorem any_hit {l : List Nd} {p : Nd → Bool} {k : Nat} {x : Nd} (hx : l[k]? = some x) (hp : p x = true) : l.any p = true := List.any_eq_true.2 ⟨x, List.mem_of_getElem? hx, hp⟩
theorem any_miss {l : List Nd} {p : Nd → Bool} (h : ∀ (j : Nat) y, j < l.length → l[j]? = some y → p y = false) : l.any p = false := by
  rw [List.any_eq_false]
  intro y hy
  obtain ⟨j, hj⟩ := List.getElem?_of_mem hy
  rw [h j y (List.getElem?_eq_some_iff.1 hj).1 hj]
  simp
set_option maxHeartbeats 2000000 in
theorem index16 (g : Gr) (v vr : Value) (hs : List (Value × Value)) (B : Nat) (w : World) (hr : RdG w B g v vr hs) (hB : B ≤ w.heap.size) :
    Calls Try.prog 51 #[v, .func (.func 33) #[] #[]] w fun e w' => ∃ z : Int, e = .returned (.int .i64 z) ∧ decide (0 ≤ z) = g.nd.any ndBad ∧ Only nob w w' := by
  have HR := Lib.hid hr
  obtain ⟨A, c, rfl, hac, hcm⟩ := hr.nodes.form
  unfold maxLen at hcm
  have eg : ∀ args w, (callFunc 33 args).run Try.prog w = .ok (.enter 33 args) w := enters_of Try.func33 (by kernel_rfl) rfl
  obtain ⟨q, hq⟩ : ∃ q, q = g.nd.any ndBad := ⟨_, rfl⟩
  have HQ := Lib.hid hq
  rw [← hq]
  clear hr hq
  go_enter Try.func51, Try.ntmps51
  go_wp2_with fail
  go_loopw [5, 8] (fun _ i wr => ∃ k : Nat, k ≤ g.nd.length ∧ i = .int .i64 k ∧ Hid (∀ (j : Nat) y, j < k → g.nd[j]? = some y → ndBad y = false) ∧ Hid (Only nob w wr)) (fun _ i _ => g.nd.length - (intOf i).toNat)
  case atStart => exact ⟨0, Nat.zero_le _, rfl, fun j _ hj _ => absurd hj (Nat.not_lt_zero j), Lib.hid (Only.refl _ _)⟩
  case round =>
    obtain ⟨k, hk, rfl, hno, HO⟩ := hrel
    by_cases hlt : k < g.nd.length
    · obtain ⟨d, hd⟩ : ∃ x, g.nd[k]? = some x := ⟨_, List.getElem?_eq_getElem hlt⟩
      obtain ⟨bb, o, fv, rv, rfl, hbb, hh, g0, g1, g2, hnd⟩ := HR.out.at_ (HO.out.below hB fun _ h => h.elim) hd
      have HD := Lib.hid hd
      have hf1 := hnd.fields.rowF
      have hf2 := hnd.raws.rowF
      have HC := Lib.hid (isWrong_any d (fv, rv) hf1 hf2 wr)
      obtain ⟨-, Af, cf, hfv, -⟩ := hf1
      obtain ⟨-, Ar, cr, hrv, -⟩ := hf2
      simp only at hfv hrv
      subst hfv hrv
      obtain ⟨kd, hkd⟩ : ∃ kd, kd = d.kd := ⟨_, rfl⟩
      rw [← hkd] at g0 HC
      clear hd hh hnd hkd
      cases hp : ndBad d with
      | true =>
        rw [hp] at HC
        have HN := Lib.hid (show decide (0 ≤ (k : Int)) = q by rw [HQ.out, any_hit HD.out hp]; simp)
        clear hp
        go_wp2_with fail
        refine HC.out.mono ?_
        rintro e w1 ⟨rfl, ho⟩
        have HO1 := Lib.hid (HO.out.trans ho)
        clear ho g0 g1 g2
        go_wp2
        go_ret
        exact ⟨_, rfl, HN.out, HO1.out⟩
      | false =>
        rw [hp] at HC
        have HN := Lib.hid (show ∀ (j : Nat) y, j < k + 1 → g.nd[j]? = some y → ndBad y = false from fun j y hj hy => by
          rcases Nat.lt_or_ge j k with h' | h'
          · exact hno.out j y h' hy
          · obtain rfl : j = k := by omega
            rw [HD.out] at hy
            obtain rfl := Option.some.inj hy
            exact hp)
        clear hp
        go_wp2_with fail
        refine HC.out.mono ?_
        rintro e w1 ⟨rfl, ho⟩
        have HO1 := Lib.hid (HO.out.trans ho)
        clear ho g0 g1 g2
        go_wp2
        go_roundw
        case rel => exact ⟨k + 1, by omega, by go_num, HN, HO1⟩
        case measure => simp [intOf]; omega
    · obtain rfl : k = g.nd.length := by omega
      have HN := Lib.hid (show decide (0 ≤ (-1 : Int)) = q by rw [HQ.out, any_miss fun j y hj hy => hno.out j y hj hy]; rfl)
      go_wp2
      go_ret
      exact ⟨_, rfl, HN.out, HO.out⟩
set_option maxHeartbeats 1000000 in
theorem contains16 (g : Gr) (v vr : Value) (hs : List (Value × Value)) (B : Nat) (w : World) (hr : RdG w B g v vr hs) (hB : B ≤ w.heap.size) :
    Calls Try.prog 32 #[v, .func (.func 33) #[] #[]] w fun e w' => e = .returned (.bool (g.nd.any ndBad)) ∧ Only nob w w' := by
  have HC := Lib.hid (index16 g v vr hs B w hr hB)
  obtain ⟨A, c, rfl, hac, hcm⟩ := hr.nodes.form
  clear hr
  go_enter Try.func32, Try.ntmps32
  go_wp2_with fail
  go_at_call 51
  refine HC.out.mono ?_
  rintro e w1 ⟨z, rfl, hz, ho⟩
  have HZ := Lib.hid hz
  have HO := Lib.hid ho
  clear hz ho
  go_wp2
  go_ret
  exact ⟨ret_bool HZ.out, HO.out⟩
theorem vOk_cases (n : Nat) (x y : Int) : (vmay x y = false ∧ vOk n (x, y) = false) ∨ (vmay x y = true ∧ x ≠ 2 ∧ vOk n (x, y) = true) ∨ (vmay x y = true ∧ x = 2 ∧ y < (n : Int) ∧ vOk n (x, y) = true) ∨ (vmay x y = true ∧ x = 2 ∧ (n : Int) ≤ y ∧ vOk n (x, y) = false) := by
  unfold vOk
  cases h : vmay x y with
  | false => exact .inl ⟨rfl, by simp [h]⟩
  | true =>
    by_cases h2 : x = 2
    · by_cases h3 : (n : Int) ≤ y
      · exact .inr (.inr (.inr ⟨rfl, h2, h3, by simp [h2, h3]⟩))
      · exact .inr (.inr (.inl ⟨rfl, h2, by omega, by simp [h, h3]⟩))
    · exact .inr (.inl ⟨rfl, h2, by simp [h, h2]⟩)
set_option maxHeartbeats 1000000 in
theorem mayStand_any (x y : Int) (n : Nat) (w : World) : Calls Try.prog 35 #[.agg #[.int .i64 x, .int .i64 y], .int .i64 n] w fun e w' => e = .returned (.bool (vOk n (x, y))) ∧ Only nob w w' := by
  obtain ⟨W, hW, HB⟩ := box_val16 w x y
  have HW := Lib.hid hW
  have d0 : W.cell? ⟨w.heap.size, 0, none⟩ = some (.int .i64 x) := HB.out.2.cell 0
  have d1 : W.cell? ⟨w.heap.size, 1, none⟩ = some (.int .i64 y) := HB.out.2.cell 1
  obtain ⟨q, hq⟩ : ∃ q, q = vOk n (x, y) := ⟨_, rfl⟩
  have hcs := vOk_cases n x y
  rw [← hq] at hcs ⊢
  clear hW hq
  rcases hcs with ⟨hm, rfl⟩ | ⟨hm, h2, rfl⟩ | ⟨hm, rfl, h3, rfl⟩ | ⟨hm, rfl, h3, rfl⟩
  · have HC := Lib.hid (enc_no x y hm W)
    clear hm
    go_enter Try.func35, Try.ntmps35
    go_upto_region 1 with fail
    rw [HW.out]
    go_wp2_with fail
    go_at_call 54
    refine HC.out.mono ?_
    rintro e w1 ⟨rfl, ho⟩
    have HO := Lib.hid (HB.out.1.trans ho)
    clear ho d0 d1
    go_wp2
    go_ret
    exact ⟨ret_bool rfl, HO.out⟩
  · have HC := Lib.hid (enc_yes x y hm W)
    have hbq : (x != 2) = true := by simpa using h2
    clear hm h2
    go_enter Try.func35, Try.ntmps35
    go_upto_region 1 with fail
    rw [HW.out]
    go_wp2_with fail
    go_at_call 54
    refine HC.out.mono ?_
    rintro e w1 ⟨rfl, ho⟩
    have HO := Lib.hid (HB.out.1.trans ho)
    have e0 := ho.keeps d0
    have e1 := ho.keeps d1
    clear ho d0 d1
    go_wp2
    go_ret
    exact ⟨ret_bool rfl, HO.out⟩
  all_goals
    have HC := Lib.hid (enc_yes 2 y hm W)
    clear hm
    go_enter Try.func35, Try.ntmps35
    go_upto_region 1 with fail
    rw [HW.out]
    go_wp2_with fail
    go_at_call 54
    refine HC.out.mono ?_
    rintro e w1 ⟨rfl, ho⟩
    have HO := Lib.hid (HB.out.1.trans ho)
    have e0 := ho.keeps d0
    have e1 := ho.keeps d1
    clear ho d0 d1
    go_wp2
    go_ret
    exact ⟨ret_bool (by first | rfl | (simp; omega)), HO.out⟩
end Go.Proofs.Ytkjdnccnfnhkoaa

/- Package graph: Right. -/
namespace Go.Proofs.Ytkjdnccnfnhkoaa
open Go.RowKit Go.Shelf
set_option maxRecDepth 100000
set_option linter.unusedSimpArgs false
set_option linter.unusedVariables false
attribute [local go_sem] Oper.semAt_some

theorem blk_kept16 {X Y : World} {g : Nat} {t : TypeId} {cs : Array Value} {row : Option Nat} (h : Blk X g t cs) (hg : X.grownBy Y row) (hr : ∀ r, row = some r → ∃ o : Obj, X.heap[r]? = some o ∧ o.isCells = false) : Blk Y g t cs :=
  (hg.block g h.lt (fun e => by obtain ⟨o, ho, hc⟩ := hr g e.symm; rw [show X.heap[g]? = _ from h] at ho; cases ho; cases hc)).trans h
theorem blk_putObj16 {X : World} {g D : Nat} {t : TypeId} {cs : Array Value} {o : Obj} (h : Blk X g t cs) (o' : Obj) (hk : X.heap[D]? = some o) (hc : o.isCells = false) : Blk (X.putObj D o') g t cs :=
  blk_kept16 h (grownBy_putObj' X D o') fun r e => by cases e; exact ⟨o, hk, hc⟩
theorem others16 {F : Nat → Prop} {W W' : World} (h : Only F W W') (hF : ∀ k o, F k → W.heap[k]? = some o → o.isCells = true) : KeepsOthers W W' :=
  ⟨h.size, fun k o ho hc => (h.block k (Array.getElem?_eq_some_iff.1 ho).1 (fun f => by rw [hF k o f ho] at hc; cases hc)).trans ho⟩
theorem others_nob16 {W W' : World} (h : Only nob W W') : KeepsOthers W W' := others16 h fun _ _ h => h.elim
theorem below_done16 {w W : World} {D : Nat} (h : Below w.heap.size w W) (hD : w.heap.size ≤ D) (hK : W.heap[D]? = some (.deferred (some []))) : Only nob w (W.putObj D (.deferred none)) :=
  Below.only (h.trans (belowK_b (w := w) (Nat.le_refl _) W D _ (.deferred none) hD hK rfl rfl))
/-- What only F has turned stays so, when a block from B on turns. -/
theorem only_from16 {F : Nat → Prop} {w W W' : World} {row : Option Nat} (h : Only F w W) (hg : W.grownBy W' row) (hr : ∀ k, row = some k → w.heap.size ≤ k) : Only F w W' :=
  ⟨hg.os.trans h.os, hg.tape.trans h.tape, hg.output.trans h.output, Nat.le_trans h.size hg.size, fun k hk hn => (hg.block k (Nat.lt_of_lt_of_le hk h.size) (fun e => by have := hr k e.symm; omega)).trans (h.block k hk hn)⟩
set_option maxHeartbeats 1000000 in
theorem values_in (n : Nat) (vn vr : Value) (w : World) : CallsIn Fence.wide n Try.prog 34 #[.agg #[vn, vr]] w fun e w' =>
    e = .returned (.func (.func 52) #[] #[.pointer (some ⟨w.heap.size, 0, none⟩)]) ∧ w' = w.alloc (.cells #[vn, vr] 25) := by
  refine callsIn_wide.2 ?_
  go_enter Try.func34, Try.ntmps34
  go_wp2_with fail
  go_ret
  exact ⟨rfl, rfl⟩
/-- The value at a place. -/
def plcV (g : Gr) (p : Nat × Nat) : Sp := ((lsts g).getD p.1 []).getD p.2 (0, 0)
theorem plc_mem (g : Gr) (p : Plc g) : ∃ l, (lsts g)[p.1.1]? = some l ∧ l[p.1.2]? = some (plcV g p.1) := by
  have h := p.2
  have h1 : p.1.1 < (lsts g).length := by
    refine Nat.lt_of_not_le fun h' => ?_
    rw [List.getD_eq_getElem?_getD, List.getElem?_eq_none h'] at h
    simp at h
  refine ⟨(lsts g)[p.1.1], List.getElem?_eq_getElem h1, ?_⟩
  unfold plcV
  rw [List.getD_eq_getElem?_getD, List.getElem?_eq_getElem h1, Option.getD_some] at h
  rw [List.getD_eq_getElem?_getD (l := lsts g), List.getElem?_eq_getElem h1, Option.getD_some, List.getD_eq_getElem?_getD, List.getElem?_eq_getElem h, Option.getD_some]
/-- All values of a graph. -/
def allV (g : Gr) : List Sp := (lsts g).flatten
theorem mem_allP {g : Gr} {p : Nat × Nat} : p ∈ allP g ↔ p.1 < g.nd.length + 1 ∧ p.2 < ((lsts g).getD p.1 []).length := by
  unfold allP allUp
  simp only [List.mem_flatMap, List.mem_range, List.mem_map]
  constructor
  · rintro ⟨i, hi, j, hj, rfl⟩
    exact ⟨hi, hj⟩
  · rintro ⟨h1, h2⟩
    exact ⟨p.1, h1, p.2, h2, rfl⟩
theorem lsts_len (g : Gr) : (lsts g).length = g.nd.length + 1 := by simp [lsts]
/-- A place for each value. -/
theorem plc_of {g : Gr} {v : Sp} (h : v ∈ allV g) : ∃ p ∈ allP g, plcV g p = v := by
  unfold allV at h
  obtain ⟨l, hl, hv⟩ := List.mem_flatten.1 h
  obtain ⟨i, hi⟩ := List.getElem?_of_mem hl
  obtain ⟨j, hj⟩ := List.getElem?_of_mem hv
  have e : (lsts g).getD i [] = l := by rw [List.getD_eq_getElem?_getD, hi]; rfl
  refine ⟨(i, j), mem_allP.2 ⟨by have := (List.getElem?_eq_some_iff.1 hi).1; rw [lsts_len] at this; exact this, ?_⟩, ?_⟩
  · rw [e]; exact (List.getElem?_eq_some_iff.1 hj).1
  · unfold plcV
    rw [e, List.getD_eq_getElem?_getD, hj]
    rfl
theorem grOk_all (g : Gr) : grOk g = (!g.nd.any ndBad && (allV g).all (vOk g.nd.length)) := by
  unfold grOk allV lsts
  rw [List.flatten_append, List.all_append]
  have h1 : g.nd.all (ndOk g.nd.length) = (!g.nd.any ndBad && (g.nd.map (·.fs)).flatten.all (vOk g.nd.length)) := by
    rw [show ndOk g.nd.length = fun d => !ndBad d && d.fs.all (vOk g.nd.length) from funext (ndOk_bad _)]
    generalize g.nd.length = n
    induction g.nd with
    | nil => rfl
    | cons d l ih =>
      simp only [List.all_cons, List.any_cons, List.map_cons, List.flatten_cons, List.all_append, ih, Bool.not_or]
      cases ndBad d <;> cases d.fs.all (vOk n) <;> cases l.any ndBad <;> simp
  rw [h1, Bool.and_assoc]
  simp
theorem lsts_mem {w : World} {B : Nat} {g : Gr} {vn vr : Value} {hs : List (Value × Value)} (h : RdG w B g vn vr hs) {i : Nat} {l : List Sp} (hi : (lsts g)[i]? = some l) : Sl w B 2 (hdr hs vr i) l.length (spc l) := by
  rcases Nat.lt_or_ge i g.nd.length with hlt | hge
  · obtain ⟨d, hd⟩ : ∃ x, g.nd[i]? = some x := ⟨_, List.getElem?_eq_getElem hlt⟩
    obtain ⟨x, hx⟩ : ∃ x, hs[i]? = some x := ⟨_, List.getElem?_eq_getElem (by rw [h.len]; exact hlt)⟩
    have e := lsts_at hd
    rw [List.getD_eq_getElem?_getD, hi] at e
    obtain rfl : l = d.fs := e
    rw [hdr_at hx]
    exact (h.each i d x hd hx).fields
  · have hl : i = g.nd.length := by have := (List.getElem?_eq_some_iff.1 hi).1; rw [lsts_len] at this; omega
    subst hl
    have e := lsts_root g
    rw [List.getD_eq_getElem?_getD, hi] at e
    obtain rfl : l = g.rt := e
    rw [← h.len, hdr_root]
    exact h.roots
/-- The cells at a place. -/
theorem plc_cells {w w' : World} {B : Nat} {g : Gr} {vn vr : Value} {hs : List (Value × Value)} (h : RdG w B g vn vr hs) (b : Below B w w') (p : Plc g) :
    ∃ bb o, adr (hdr hs vr p.1.1) p.1.2 = some ⟨bb, o, none⟩ ∧ bb < B ∧ w'.cell? ⟨bb, o, none⟩ = some (.int .i64 (plcV g p.1).1) ∧ w'.cell? ⟨bb, o + 1, none⟩ = some (.int .i64 (plcV g p.1).2) := by
  obtain ⟨l, hl, hv⟩ := plc_mem g p
  have hs' := lsts_mem h hl
  obtain ⟨A, c, e, -⟩ := hs'.form
  rw [e] at hs' ⊢
  obtain ⟨bb, o, rfl, hb, c0, c1⟩ := sl_span hs' b hv
  exact ⟨bb, o + p.1.2 * 2, rfl, hb, c0, c1⟩

set_option maxHeartbeats 4000000 in
theorem right_any16 : RightGC 20 := by
  intro g vn vr hs B w h hB hfit
  have HR := Lib.hid h
  obtain ⟨A, c, rfl, hac, hcm⟩ := h.nodes.form
  obtain ⟨Ar, cr, rfl, harc, hcrm⟩ := h.roots.form
  unfold maxLen at hcm hcrm
  have HG := Lib.hid (grOk_all g)
  obtain ⟨q, hq⟩ : ∃ q, q = grOk g := ⟨_, rfl⟩
  have HQ := Lib.hid hq
  rw [← hq]
  obtain ⟨V, hV, HV⟩ : ∃ V, ((w.alloc (.cells #[.slice A g.nd.length c, .slice Ar g.rt.length cr] 25)).alloc (.cells #[.bool false] 4)) = V ∧ Hid (Only nob w V ∧ V.heap.size = w.heap.size + 2 ∧ Blk V w.heap.size 25 #[.slice A g.nd.length c, .slice Ar g.rt.length cr] ∧ Blk V (w.heap.size + 1) 4 #[.bool false]) :=
    ⟨_, rfl, Lib.hid ⟨((Only.refl nob w).alloc _).alloc _, by simp, (Blk.new w _ _).alloc _, Blk.newAt _ _ _ _ (by simp)⟩⟩
  have HVE := Lib.hid hV
  have HCF := Lib.hid (fun (w' : World) (b : Only nob w w') => contains16 g (.slice A g.nd.length c) (.slice Ar g.rt.length cr) hs B w' (HR.out.only b hB) (Nat.le_trans hB b.size))
  have v0 : V.cell? ⟨w.heap.size, 0, none⟩ = some (.slice A g.nd.length c) := HV.out.2.2.1.cell 0
  have v1 : V.cell? ⟨w.heap.size, 1, none⟩ = some (.slice Ar g.rt.length cr) := HV.out.2.2.1.cell 1
  have r0 : V.cell? ⟨w.heap.size + 1, 0, none⟩ = some (.bool false) := HV.out.2.2.2.cell 0
  have fr0 := HV.out.2.2.2.free 0
  clear hV hq h hfit
  refine (callsIn_wide (n := 3)).1 ?_
  refine callsIn_of_wp_marks Try.func20 rfl trivial ?_ rfl
  simp only [Try.ntmps20, List.size_toArray, List.length_cons, List.length_nil, Nat.reduceAdd, Nat.reduceSub, Array.replicate_succ, Array.replicate_zero, List.push_toArray, List.append_toArray, List.nil_append, List.cons_append]
  gi_wp2_with (with_reducible rw [HVE.out])
  refine ⟨trivial, ?_⟩
  gi_at_call 32
  refine (callsIn_wide.2 (HCF.out V HV.out.1)).mono ?_
  cases hany : g.nd.any ndBad with
  | true =>
    have HN := Lib.hid (show q = false by rw [HQ.out, HG.out, hany]; rfl)
    clear hany
    rintro e w1 ⟨rfl, o1⟩
    have O1 := Lib.hid (HV.out.1.trans o1)
    have B1 := HV.out.2.2.2.keep o1 id
    have r1 : w1.cell? ⟨w.heap.size + 1, 0, none⟩ = some (.bool false) := B1.cell 0
    have fr1 := B1.free 0
    have B2 : Blk (w1.setCell ⟨w.heap.size + 1, 0, none⟩ (.bool false)) (w.heap.size + 1) 4 #[.bool false] := by simpa using B1.put 0 (.bool false)
    have c2 : (w1.setCell ⟨w.heap.size + 1, 0, none⟩ (.bool false)).cell? ⟨w.heap.size + 1, 0, none⟩ = some (.bool false) := B2.cell 0
    have O2 := Lib.hid (O1.out.setCell (p := ⟨w.heap.size + 1, 0, none⟩) (fun h => absurd h (by show ¬ w.heap.size + 1 < w.heap.size; omega)) (.bool false))
    clear o1 v0 v1 r0 fr0 B1 B2
    gi_wp2
    refine ⟨.bool false, ?_, by rw [HN.out], O2.out⟩
    simp [results, Try.results20, go_sem, c2]
  | false =>
    have HN := Lib.hid (show q = (allV g).all (vOk g.nd.length) by rw [HQ.out, HG.out, hany]; rfl)
    clear hany
    rintro e w1 ⟨rfl, o1⟩
    have O1 := Lib.hid (HV.out.1.trans o1)
    have u0 := o1.keeps v0
    have u1 := o1.keeps v1
    have hsz : w.heap.size + 2 ≤ w1.heap.size := Nat.le_trans (Nat.le_of_eq HV.out.2.1.symm) o1.size
    have B1 := Lib.hid (HV.out.2.2.2.keep o1 id)
    have G1 := Lib.hid (HV.out.2.2.1.keep o1 id)
    clear o1 v0 v1 r0 fr0
    gi_wp2_with (refine ⟨trivial, ?_⟩; gi_at_call 34; refine (values_in _ _ _ _).mono ?_; rintro e w' ⟨rfl, rfl⟩)
    obtain ⟨W0, hW0, o0, hz0, bg0⟩ : ∃ W0, w1.alloc (.cells #[.slice A g.nd.length c, .slice Ar g.rt.length cr] 25) = W0 ∧ Only nob w1 W0 ∧ W0.heap.size = w1.heap.size + 1 ∧ Blk W0 w1.heap.size 25 #[.slice A g.nd.length c, .slice Ar g.rt.length cr] :=
      ⟨_, rfl, (Only.refl nob w1).alloc _, by simp, Blk.new w1 _ _⟩
    rw [hW0]
    have OW0 := Lib.hid (O1.out.trans o0)
    have RW0 := Lib.hid (HR.out.only OW0.out hB)
    have hz1 : w1.heap.size < W0.heap.size := by omega
    have BR := Lib.hid (B1.out.keep o0 id)
    have BG := Lib.hid (G1.out.keep o0 id)
    have hh0 : W0.cell? ⟨w1.heap.size, 0, none⟩ = some (.slice A g.nd.length c) := bg0.cell 0
    have hh1 : W0.cell? ⟨w1.heap.size, 1, none⟩ = some (.slice Ar g.rt.length cr) := bg0.cell 1
    clear hW0 o0 hz0 bg0 u0 u1
    refine wpIn_rangeFunc_ownH rfl (by decide) (gf := 52) (lb := #[.pointer (some ⟨w1.heap.size, 0, none⟩)]) rfl trivial (enters_of Try.func52 (by kernel_rfl) rfl)
      (itValues w1.heap.size W0.heap.size nob g (.slice A g.nd.length c) (.slice Ar g.rt.length cr) hs W0 hz1 id hh0 hh1 (RdG.hd (RW0.out.more (Nat.le_trans hB OW0.out.size))) (Nat.le_refl _)) KeepsV.trans (fun W l o o' h1 _ _ _ => KeepsV.putObj W l o' h1) (Below.refl _ _) (fun _ => rfl)
      (fun pre W => (∀ p ∈ pre, vOk g.nd.length (plcV g p.1) = true) ∧ Only nob W0 W)
      (fun c pre W => c = .ret ∧ (∃ p ∈ pre, vOk g.nd.length (plcV g p.1) = false) ∧ Only (isb (w.heap.size + 1)) W0 W ∧ Blk W (w.heap.size + 1) 4 #[.bool false])
      ?hI ?hIx ⟨(fun _ h => by cases h), Only.refl _ _⟩
      (fun x a' W => a' = { tmps := #[.agg #[.slice A g.nd.length c, .slice Ar g.rt.length cr], .pointer (some ⟨w.heap.size, 0, none⟩), .pointer (some ⟨w.heap.size + 1, 0, none⟩), .pointer (adr (hdr hs (.slice Ar g.rt.length cr) x.1.1) x.1.2), .pointer (some ⟨w.heap.size, 0, none⟩), .slice A g.nd.length c, .bool false, .agg #[.slice A g.nd.length c, .slice Ar g.rt.length cr], .func (.func 52) #[] #[.pointer (some ⟨w1.heap.size, 0, none⟩)], .pointer (adr (hdr hs (.slice Ar g.rt.length cr) x.1.1) x.1.2), undef, undef, undef, undef, undef, undef, undef, undef], defers := [] })
      (fun x a' _ X Y row hs hg hr => hs)
      ?assign ?body ?done ?stop
    case hI =>
      rintro pre W W' row ⟨h1, h2⟩ hg hr
      exact ⟨h1, only_from16 h2 hg fun k e => (hr k e).1⟩
    case hIx =>
      rintro c pre W W' row ⟨rfl, h1, h2, h3⟩ hg hr
      exact ⟨rfl, h1, only_from16 h2 hg fun k e => (hr k e).1, blk_kept16 h3 hg fun r e => (hr r e).2⟩
    case assign =>
      rintro lp pre x W K hI hK
      dsimp only [plcE]
      gi_wp2
      exact hK _ _ ((KeepsOthers.refl _).from _) (KeepsV.refl _ _ _) hI rfl
    case body =>
      rintro lp pre x a' W hl ⟨r, hr⟩ ⟨hy, hO⟩ rfl hlt
      have HO := Lib.hid hO
      have HY := Lib.hid hy
      obtain ⟨bb, o, had, hbb, c0, c1⟩ := plc_cells (RW0.out.more (Nat.le_trans hB OW0.out.size)) (HO.out.below (Nat.le_refl _) fun _ h => h.elim) x
      rw [had]
      have g0 : W.cell? ⟨w.heap.size, 0, none⟩ = some (.slice A g.nd.length c) := HO.out.keeps (BG.out.cell 0)
      have BR1 := Lib.hid (BR.out.keep HO.out id)
      have r0 : W.cell? ⟨w.heap.size + 1, 0, none⟩ = some (.bool false) := BR1.out.cell 0
      obtain ⟨v, hv⟩ : ∃ v, v = plcV g x.1 := ⟨_, rfl⟩
      have HVV := Lib.hid hv
      rw [← hv] at c0 c1
      have HC := Lib.hid (fun (w' : World) => mayStand_any v.1 v.2 g.nd.length w')
      have e0 := wat_cell c0
      have e1 := wat_cell c1
      have e2 := wat_cell g0
      clear hO hy hv had c0 c1 g0
      cases hok : vOk g.nd.length (v.1, v.2) with
      | true =>
        rw [hok] at HC
        have HK := Lib.hid hok
        clear hok
        gi_wp2_with fail
        refine wpIn_region_only_tail (wideLike_in lp) 7 mixed16 (by kernel_rfl) (by kernel_rfl) ?_
        simp only [List.take_succ_cons, List.take_zero, List.drop_succ_cons, List.drop_zero]
        repeat (quiet_step (first | (go_at_call 35; with_reducible refine wat_call (HC.out _))))
        refine wpQuiet_nil ?_
        rintro w' ⟨⟨nq, osq⟩, rfl⟩
        obtain ⟨W2, hW2, O2⟩ := wat_name W nq osq
        rw [hW2]
        clear hW2 e0 e1 e2
        gi_wp2
        refine ⟨(others_nob16 O2.out).from _, KeepsV.only O2.out (fun _ _ h => h.elim), fun p hp => ?_, HO.out.trans O2.out⟩
        rcases List.mem_append.1 hp with h | h
        · exact HY.out p h
        · rw [List.mem_singleton.1 h, ← HVV.out]; exact HK.out
      | false =>
        rw [hok] at HC
        have HK := Lib.hid hok
        clear hok
        gi_wp2_with fail
        refine wpIn_region_only_tail (wideLike_in lp) 7 mixed16 (by kernel_rfl) (by kernel_rfl) ?_
        simp only [List.take_succ_cons, List.take_zero, List.drop_succ_cons, List.drop_zero]
        repeat (quiet_step (first | (go_at_call 35; with_reducible refine wat_call (HC.out _))))
        refine wpQuiet_nil ?_
        rintro w' ⟨⟨nq, osq⟩, rfl⟩
        obtain ⟨W2, hW2, O2⟩ := wat_name W nq osq
        rw [hW2]
        have BR2 := BR1.out.keep O2.out id
        have r2 : W2.cell? ⟨w.heap.size + 1, 0, none⟩ = some (.bool false) := BR2.cell 0
        have fr2 := BR2.free 0
        have BR3 : Blk (W2.setCell ⟨w.heap.size + 1, 0, none⟩ (.bool false)) (w.heap.size + 1) 4 #[.bool false] := by simpa using BR2.put 0 (.bool false)
        have HBR3 := Lib.hid BR3
        have O3 := Lib.hid (show Only (isb (w.heap.size + 1)) W0 (W2.setCell ⟨w.heap.size + 1, 0, none⟩ (.bool false)) from ((HO.out.trans O2.out).mono fun _ _ h => h.elim).trans (only_set _ _ _ _))
        clear hW2 e0 e1 e2 r0 BR2 BR3
        gi_wp2
        exact ⟨((others_nob16 O2.out).trans (KeepsOthers.setCell _ _ _)).from _, rfl, ⟨x, by simp, by rw [← HVV.out]; exact HK.out⟩, O3.out, HBR3.out⟩
    case done =>
      rintro D ys W hD hS ⟨hy, hO⟩ hK
      have HN2 := Lib.hid (show q = true by
        rw [HN.out, List.all_eq_true]
        intro v hv
        obtain ⟨p, hp, rfl⟩ := plc_of hv
        rw [← hS] at hp
        obtain ⟨y, hy1, rfl⟩ := List.mem_map.1 hp
        exact hy y hy1)
      have BR2 := BR.out.keep hO id
      have r2 : W.cell? ⟨w.heap.size + 1, 0, none⟩ = some (.bool false) := BR2.cell 0
      have fr2 := BR2.free 0
      have HB3 := Lib.hid (show Blk (W.setCell ⟨w.heap.size + 1, 0, none⟩ (.bool true)) (w.heap.size + 1) 4 #[.bool true] by simpa using BR2.put 0 (.bool true))
      have O3 := Lib.hid ((OW0.out.trans hO).setCell (p := ⟨w.heap.size + 1, 0, none⟩) (fun h => absurd h (by show ¬ w.heap.size + 1 < w.heap.size; omega)) (.bool true))
      have HKD := Lib.hid hK
      clear hy hO hK BR2
      gi_wp2
      have hK' := (KeepsOthers.setCell W ⟨w.heap.size + 1, 0, none⟩ (.bool true)).same D _ HKD.out rfl
      refine ⟨by simp, .inl ⟨_, _, rfl, run_takeDeferred hK', ?_⟩⟩
      have q0 := (blk_putObj16 HB3.out (.deferred none) hK' rfl).cell 0
      simp at q0
      refine ⟨.bool true, ?_, by rw [HN2.out], below_done16 (O3.out.whole) (by omega) hK'⟩
      simp [results, Try.results20, go_sem, q0]
    case stop =>
      rintro D c pre W hD hpre ⟨rfl, ⟨p, hp, hbad⟩, hO, hBR⟩ hK
      have HN2 := Lib.hid (show q = false by
        rw [HN.out]
        have hm : p.1 ∈ allP g := hpre.subset (List.mem_map.2 ⟨p, hp, rfl⟩)
        obtain ⟨l, hl, hv⟩ := plc_mem g p
        rw [List.all_eq_false]
        exact ⟨plcV g p.1, List.mem_flatten.2 ⟨l, List.mem_of_getElem? hl, List.mem_of_getElem? hv⟩, by rw [hbad]; simp⟩)
      have HBB := Lib.hid hBR
      have HKD := Lib.hid hK
      have O3 := Lib.hid (show Only nob w W from OW0.out.andThen hO fun i hi e => by unfold isb at e; omega)
      clear hO hBR hK
      gi_wp2
      have hK' := HKD.out
      refine ⟨by simp, .inl ⟨_, _, rfl, run_takeDeferred hK', ?_⟩⟩
      have q0 := (blk_putObj16 HBB.out (.deferred none) hK' rfl).cell 0
      simp at q0
      refine ⟨.bool false, ?_, by rw [HN2.out], below_done16 (O3.out.whole) (by omega) hK'⟩
      simp [results, Try.results20, go_sem, q0]
end Go.Proofs.Ytkjdnccnfnhkoaa

/- Package graph: a node's size, where it leads, how many words and fields some nodes have. -/
namespace Go.Proofs.Ytkjdnccnfnhkoaa
open Go.RowKit Go.Lib
set_option maxRecDepth 100000
set_option linter.unusedSimpArgs false
set_option linter.unusedVariables false

set_option maxHeartbeats 1000000 in
theorem size_any16 : SizeGC 40 := by
  intro d h B w hr
  obtain ⟨fv, rv⟩ := h
  obtain ⟨Af, cf, hfv, hafc, hcfm⟩ := hr.fields.form
  obtain ⟨Arw, crw, hrv, harw, hcrw⟩ := hr.raws.form
  simp only at hfv hrv
  subst hfv hrv
  obtain ⟨W, hW, HB⟩ := box_node w d.kd (.slice Af d.fs.length cf) (.slice Arw d.rs.length crw)
  have HW := Lib.hid hW
  obtain ⟨-, -, d0, d1, d2⟩ := HB.out
  have HZ := Lib.hid (show ndSz d = wrap64 (wrap64 (1 + (d.fs.length : Int)) + (d.rs.length : Int)) by rw [wrap_add16]; rfl)
  obtain ⟨z, hz⟩ : ∃ z, z = ndSz d := ⟨_, rfl⟩
  rw [← hz] at HZ ⊢
  simp only
  clear hW hr hz
  go_enter Try.func40, Try.ntmps40
  go_upto_region 1 with fail
  rw [HW.out]
  go_wp2
  go_ret
  exact ⟨ret_int (by rw [HZ.out]), HB.out.1⟩
set_option maxHeartbeats 1000000 in
theorem fields1_any16 (d : Nd) (h : Value × Value) (B : Nat) (w : World) (hr : NdR w B d h) :
    Calls Try.prog 49 #[.agg #[.int .i64 d.kd, h.1, h.2]] w fun e w' => e = .returned (.int .i64 (d.fs.length : Int)) ∧ Only nob w w' := by
  obtain ⟨fv, rv⟩ := h
  obtain ⟨Af, cf, hfv, hafc, hcfm⟩ := hr.fields.form
  obtain ⟨Arw, crw, hrv, harw, hcrw⟩ := hr.raws.form
  simp only at hfv hrv
  subst hfv hrv
  obtain ⟨W, hW, HB⟩ := box_node w d.kd (.slice Af d.fs.length cf) (.slice Arw d.rs.length crw)
  have HW := Lib.hid hW
  obtain ⟨-, -, d0, d1, d2⟩ := HB.out
  simp only
  clear hW hr
  go_enter Try.func49, Try.ntmps49
  go_upto_region 1 with fail
  rw [HW.out]
  go_wp2
  go_ret
  exact ⟨rfl, HB.out.1⟩
set_option maxHeartbeats 2000000 in
theorem nodeAt_yes (g : Gr) (n : Nat) (d : Nd) (vn vr : Value) (hs : List (Value × Value)) (h : Value × Value) (B : Nat) (w : World) (hr : RdG w B g vn vr hs) (hB : B ≤ w.heap.size) (hd : g.nd[n]? = some d) (hh : hs[n]? = some h) :
    Calls Try.prog 70 #[.agg #[vn, vr], .int .i64 n] w fun e w' => e = .returned (.tuple #[.agg #[.int .i64 d.kd, h.1, h.2], .bool true]) ∧ Only nob w w' := by
  obtain ⟨A, c, rfl, hac, hcm⟩ := hr.nodes.form
  unfold maxLen at hcm
  have hn : n < g.nd.length := (List.getElem?_eq_some_iff.1 hd).1
  obtain ⟨V, hV, oV, gV, zV⟩ : ∃ V, ((w.alloc (.cells #[.slice A g.nd.length c, vr] 25)).alloc (.cells #[.int .i64 0, .slice none 0 0, .slice none 0 0] 43)) = V ∧ Only nob w V ∧ Blk V w.heap.size 25 #[.slice A g.nd.length c, vr] ∧ Blk V (w.heap.size + 1) 43 #[.int .i64 0, .slice none 0 0, .slice none 0 0] :=
    ⟨_, rfl, ((Only.refl nob w).alloc _).alloc _, (Blk.new w _ _).alloc _, Blk.newAt _ _ _ _ (by simp)⟩
  have HV := Lib.hid hV
  obtain ⟨bb, o, fv, rv, rfl, hbb, hh', g0, g1, g2, hnd⟩ := hr.at_ (oV.below hB fun _ h => h.elim) hd
  obtain rfl : h = (fv, rv) := by rw [hh] at hh'; exact Option.some.inj hh'
  obtain ⟨Af, cf, hfv, hafc, hcfm⟩ := hnd.fields.form
  obtain ⟨Arw, crw, hrv, harw, hcrw⟩ := hnd.raws.form
  simp only at hfv hrv
  subst hfv hrv
  have v0 : V.cell? ⟨w.heap.size, 0, none⟩ = some (.slice (some ⟨bb, o, none⟩) g.nd.length c) := gV.cell 0
  have z0 : V.cell? ⟨w.heap.size + 1, 0, none⟩ = some (.int .i64 0) := zV.cell 0
  have z1 : V.cell? ⟨w.heap.size + 1, 1, none⟩ = some (.slice none 0 0) := zV.cell 1
  have z2 : V.cell? ⟨w.heap.size + 1, 2, none⟩ = some (.slice none 0 0) := zV.cell 2
  have f0 := zV.free 0
  have f1 := zV.free 1
  have f2 := zV.free 2
  obtain ⟨kd, hkd⟩ : ∃ kd, kd = d.kd := ⟨_, rfl⟩
  rw [← hkd] at g0 ⊢
  obtain ⟨U, hU, oU, zU⟩ : ∃ U, (((V.setCell ⟨w.heap.size + 1, 0, none⟩ (.int .i64 kd)).setCell ⟨w.heap.size + 1, 1, none⟩ (.slice Af d.fs.length cf)).setCell ⟨w.heap.size + 1, 2, none⟩ (.slice Arw d.rs.length crw)) = U ∧ Only nob w U ∧ Blk U (w.heap.size + 1) 43 #[.int .i64 kd, .slice Af d.fs.length cf, .slice Arw d.rs.length crw] :=
    ⟨_, rfl, ((oV.setCell (fun h => absurd h (by show ¬ w.heap.size + 1 < w.heap.size; omega)) _).setCell (fun h => absurd h (by show ¬ w.heap.size + 1 < w.heap.size; omega)) _).setCell (fun h => absurd h (by show ¬ w.heap.size + 1 < w.heap.size; omega)) _, by simpa using ((zV.put 0 (.int .i64 kd)).put 1 (.slice Af d.fs.length cf)).put 2 (.slice Arw d.rs.length crw)⟩
  have HU := Lib.hid hU
  have u0 : U.cell? ⟨w.heap.size + 1, 0, none⟩ = some (.int .i64 kd) := zU.cell 0
  have u1 : U.cell? ⟨w.heap.size + 1, 1, none⟩ = some (.slice Af d.fs.length cf) := zU.cell 1
  have u2 : U.cell? ⟨w.heap.size + 1, 2, none⟩ = some (.slice Arw d.rs.length crw) := zU.cell 2
  have OU := Lib.hid oU
  clear hr hd hh hh' hV hU oV gV zV hnd oU zU hkd
  go_enter Try.func70, Try.ntmps70
  go_upto_region 1 with fail
  rw [HV.out]
  go_wp2
  rw [HU.out]
  refine bodyPost_ret (v := .tuple #[.agg #[.int .i64 kd, .slice Af d.fs.length cf, .slice Arw d.rs.length crw], .bool true]) (by simp [results, Try.results70, go_sem, u0, u1, u2]) rfl ?_
  exact ⟨rfl, OU.out⟩
set_option maxHeartbeats 2000000 in
theorem nodeAt_no (g : Gr) (i : Int) (vn vr : Value) (hs : List (Value × Value)) (B : Nat) (w : World) (hr : RdG w B g vn vr hs) (hn : ¬ (0 ≤ i ∧ i < (g.nd.length : Int))) :
    Calls Try.prog 70 #[.agg #[vn, vr], .int .i64 i] w fun e w' => e = .returned (.tuple #[.agg #[.int .i64 0, .slice none 0 0, .slice none 0 0], .bool false]) ∧ Only nob w w' := by
  obtain ⟨A, c, rfl, hac, hcm⟩ := hr.nodes.form
  unfold maxLen at hcm
  obtain ⟨V, hV, oV, gV, zV⟩ : ∃ V, ((w.alloc (.cells #[.slice A g.nd.length c, vr] 25)).alloc (.cells #[.int .i64 0, .slice none 0 0, .slice none 0 0] 43)) = V ∧ Only nob w V ∧ Blk V w.heap.size 25 #[.slice A g.nd.length c, vr] ∧ Blk V (w.heap.size + 1) 43 #[.int .i64 0, .slice none 0 0, .slice none 0 0] :=
    ⟨_, rfl, ((Only.refl nob w).alloc _).alloc _, (Blk.new w _ _).alloc _, Blk.newAt _ _ _ _ (by simp)⟩
  have HV := Lib.hid hV
  have v0 : V.cell? ⟨w.heap.size, 0, none⟩ = some (.slice A g.nd.length c) := gV.cell 0
  have z0 : V.cell? ⟨w.heap.size + 1, 0, none⟩ = some (.int .i64 0) := zV.cell 0
  have z1 : V.cell? ⟨w.heap.size + 1, 1, none⟩ = some (.slice none 0 0) := zV.cell 1
  have z2 : V.cell? ⟨w.heap.size + 1, 2, none⟩ = some (.slice none 0 0) := zV.cell 2
  have f0 := zV.free 0
  have f1 := zV.free 1
  have f2 := zV.free 2
  obtain ⟨U, hU, oU, zU⟩ : ∃ U, (((V.setCell ⟨w.heap.size + 1, 0, none⟩ (.int .i64 0)).setCell ⟨w.heap.size + 1, 1, none⟩ (.slice none 0 0)).setCell ⟨w.heap.size + 1, 2, none⟩ (.slice none 0 0)) = U ∧ Only nob w U ∧ Blk U (w.heap.size + 1) 43 #[.int .i64 0, .slice none 0 0, .slice none 0 0] :=
    ⟨_, rfl, ((oV.setCell (fun h => absurd h (by show ¬ w.heap.size + 1 < w.heap.size; omega)) _).setCell (fun h => absurd h (by show ¬ w.heap.size + 1 < w.heap.size; omega)) _).setCell (fun h => absurd h (by show ¬ w.heap.size + 1 < w.heap.size; omega)) _, by simpa using ((zV.put 0 (.int .i64 0)).put 1 (.slice none 0 0)).put 2 (.slice none 0 0)⟩
  have HU := Lib.hid hU
  have u0 : U.cell? ⟨w.heap.size + 1, 0, none⟩ = some (.int .i64 0) := zU.cell 0
  have u1 : U.cell? ⟨w.heap.size + 1, 1, none⟩ = some (.slice none 0 0) := zU.cell 1
  have u2 : U.cell? ⟨w.heap.size + 1, 2, none⟩ = some (.slice none 0 0) := zU.cell 2
  have OU := Lib.hid oU
  clear hr hV hU oV gV zV oU zU
  go_enter Try.func70, Try.ntmps70
  go_upto_region 1 with fail
  rw [HV.out]
  by_cases h0 : i < 0
  · clear hn
    go_wp2
    rw [HU.out]
    refine bodyPost_ret (v := .tuple #[.agg #[.int .i64 0, .slice none 0 0, .slice none 0 0], .bool false]) (by simp [results, Try.results70, go_sem, u0, u1, u2]) rfl ?_
    exact ⟨rfl, OU.out⟩
  · have h1 : (g.nd.length : Int) ≤ i := by omega
    clear hn
    go_wp2
    rw [HU.out]
    refine bodyPost_ret (v := .tuple #[.agg #[.int .i64 0, .slice none 0 0, .slice none 0 0], .bool false]) (by simp [results, Try.results70, go_sem, u0, u1, u2]) rfl ?_
    exact ⟨rfl, OU.out⟩
end Go.Proofs.Ytkjdnccnfnhkoaa

/- Package graph: where a node leads; how many words and fields some nodes have. -/
namespace Go.Proofs.Ytkjdnccnfnhkoaa
open Go.RowKit Go.Lib
set_option maxRecDepth 100000
set_option linter.unusedSimpArgs false
set_option linter.unusedVariables false

/-- What a count tells of the node at a place, 0 where there is none. -/
def atR (raw : Nd → Int) (g : Gr) (i : Int) : Int := match nodeAt g i with | some d => raw d | none => 0
def sumR (raw : Nd → Int) (g : Gr) (l : List Int) : Int := wrap64 (l.map (atR raw g)).sum
theorem sumR_next {raw : Nd → Int} {g : Gr} {l : List Int} {k : Nat} {x : Int} (h : l[k]? = some x) : sumR raw g (l.take (k + 1)) = wrap64 (sumR raw g (l.take k) + atR raw g x) := by
  unfold sumR
  rw [List.take_add_one, h, wrap_add16]
  simp [List.sum_append]
theorem sumR_zero (raw : Nd → Int) (g : Gr) (l : List Int) : sumR raw g (l.take 0) = 0 := by
  unfold sumR wrap64
  simp
theorem atR_in {raw : Nd → Int} {g : Gr} {n : Nat} {d : Nd} (hd : g.nd[n]? = some d) : atR raw g (n : Int) = raw d := by
  unfold atR nodeAt
  rw [if_pos (by omega), Int.toNat_natCast, hd]
theorem atR_out {raw : Nd → Int} {g : Gr} {i : Int} (h : ¬ (0 ≤ i ∧ i < (g.nd.length : Int))) : atR raw g i = 0 := by
  unfold atR nodeAt
  by_cases h0 : 0 ≤ i
  · rw [if_pos h0, List.getElem?_eq_none (by omega)]
  · rw [if_neg h0]
set_option maxHeartbeats 4000000 in
theorem sum_any16 (cf : FuncId) (raw : Nd → Int) (eg : ∀ args w, (callFunc cf args).run Try.prog w = .ok (.enter cf args) w)
    (hc : ∀ (d : Nd) (h : Value × Value) (B : Nat) (w : World), NdR w B d h → Calls Try.prog cf #[.agg #[.int .i64 d.kd, h.1, h.2]] w fun e w' => e = .returned (.int .i64 (wrap64 (raw d))) ∧ Only nob w w')
    (g : Gr) (l : List Int) (vn vr v : Value) (hs : List (Value × Value)) (B : Nat) (w : World) (h : RdG w B g vn vr hs) (hv : Sl w B 1 v l.length (i64s l)) (hB : B ≤ w.heap.size) :
    Calls Try.prog 48 #[.agg #[vn, vr], v, .func (.func cf) #[] #[]] w fun e w' => e = .returned (.int .i64 (sumR raw g l)) ∧ Only nob w w' := by
  have HR := Lib.hid h
  have HV := Lib.hid hv
  have HCF := Lib.hid hc
  obtain ⟨A, c, rfl, hac, hcm⟩ := h.nodes.form
  obtain ⟨Ar, cr, rfl, harc, hcrm⟩ := h.roots.form
  obtain ⟨Al, cl, rfl, hal, hcl⟩ := hv.form
  unfold maxLen at hcm hcl
  obtain ⟨W, hW, HB⟩ := box_graph w (.slice A g.nd.length c) (.slice Ar g.rt.length cr)
  have HW := Lib.hid hW
  obtain ⟨p, hp⟩ : ∃ p, p = w.heap.size := ⟨_, rfl⟩
  have HP := Lib.hid hp
  rw [← hp] at HB
  clear hW hp h hv hc
  go_enter Try.func48, Try.ntmps48
  go_upto_region 1 with fail
  rw [HW.out, ← HP.out]
  go_wp2_with fail
  go_loopw [7, 9, 10, 11, 14] (fun a _ _ _ i wr => ∃ k : Nat, k ≤ l.length ∧ i = .int .i64 k ∧ a = .int .i64 (sumR raw g (l.take k)) ∧ Hid (Only nob W wr)) (fun _ _ _ _ i _ => l.length - (intOf i).toNat)
  case atStart => exact ⟨0, Nat.zero_le _, rfl, by rw [sumR_zero], Lib.hid (Only.refl _ _)⟩
  case round =>
    obtain ⟨k, hk, rfl, rfl, HO⟩ := hrel
    have c0 := HO.out.keeps HB.out.2.2.1
    have c1 := HO.out.keeps HB.out.2.2.2
    by_cases hlt : k < l.length
    · obtain ⟨i, hi⟩ : ∃ x, l[k]? = some x := ⟨_, List.getElem?_eq_getElem hlt⟩
      obtain ⟨b1, o1, rfl, -, e0⟩ := sl_int HV.out ((HB.out.1.trans HO.out).below hB fun _ h => h.elim) hi
      have HS1 := Lib.hid (sumR_next (raw := raw) (g := g) hi)
      obtain ⟨sw, hsw⟩ : ∃ s, s = sumR raw g (l.take k) := ⟨_, rfl⟩
      rw [← hsw] at HS1 ⊢
      have HWID := Lib.hid (show wrap64 sw = sw by rw [hsw]; unfold sumR; rw [wrap_wrap16])
      have RG := Lib.hid (HR.out.only (HB.out.1.trans HO.out) hB)
      have hBr : B ≤ wr.heap.size := Nat.le_trans hB (HB.out.1.trans HO.out).size
      clear hi hsw
      by_cases hin : 0 ≤ i ∧ i < (g.nd.length : Int)
      · obtain ⟨n, rfl⟩ : ∃ n : Nat, i = n := ⟨i.toNat, by omega⟩
        have hn : n < g.nd.length := by omega
        obtain ⟨d, hd⟩ : ∃ x, g.nd[n]? = some x := ⟨_, List.getElem?_eq_getElem hn⟩
        obtain ⟨hh, hhh⟩ : ∃ x, hs[n]? = some x := ⟨_, List.getElem?_eq_getElem (by rw [RG.out.len]; exact hn)⟩
        have hnd := RG.out.each n d hh hd hhh
        have HNA := Lib.hid (nodeAt_yes g n d _ _ hs hh B wr RG.out hBr hd hhh)
        rw [atR_in hd] at HS1
        obtain ⟨fv, rv⟩ := hh
        obtain ⟨Af, cf2, hfv, -⟩ := hnd.fields.form
        obtain ⟨Ar2, cr2, hrv, -⟩ := hnd.raws.form
        simp only at hfv hrv
        subst hfv hrv
        have HND := Lib.hid hnd
        have HC := Lib.hid (fun (w' : World) (b : Only nob wr w') => HCF.out d _ B w' (HND.out.below (b.below hBr fun _ h => h.elim)))
        obtain ⟨kd, hkd⟩ : ∃ kd, kd = d.kd := ⟨_, rfl⟩
        rw [← hkd] at HNA HC
        obtain ⟨rd, hrd⟩ : ∃ rd, rd = raw d := ⟨_, rfl⟩
        rw [← hrd] at HC HS1
        have HSS := Lib.hid (show wrap64 (sw + wrap64 rd) = wrap64 (sw + rd) from wrap_add16' _ _)
        obtain ⟨sr, hsr⟩ : ∃ sr, sr = wrap64 rd := ⟨_, rfl⟩
        rw [← hsr] at HC HSS
        clear hd hhh hnd hkd hrd hsr hin
        go_wp2_with fail
        go_at_call 70
        refine HNA.out.mono ?_
        rintro e w1 ⟨rfl, o1⟩
        obtain ⟨W2, hW2, HB2⟩ := box_node w1 kd (.slice Af d.fs.length cf2) (.slice Ar2 d.rs.length cr2)
        have HW2 := Lib.hid hW2
        have O2 := Lib.hid (o1.trans HB2.out.1)
        obtain ⟨-, -, d0, d1, d2⟩ := HB2.out
        clear hW2 o1 c0 c1 e0
        go_upto_region 6 with fail
        rw [HW2.out]
        go_wp2_with fail
        refine (HC.out W2 O2.out).mono ?_
        rintro e w3 ⟨rfl, o3⟩
        have O3 := Lib.hid (HO.out.trans (O2.out.trans o3))
        clear o3 d0 d1 d2
        go_wp2
        go_roundw
        case rel => exact ⟨k + 1, by omega, by go_num, by rw [HS1.out, ← HSS.out], O3⟩
        case measure => simp [intOf]; omega
      · have HNA := Lib.hid (nodeAt_no g i _ _ hs B wr RG.out hin)
        rw [atR_out hin, Int.add_zero, HWID.out] at HS1
        clear hin
        go_wp2_with fail
        go_at_call 70
        refine HNA.out.mono ?_
        rintro e w1 ⟨rfl, o1⟩
        obtain ⟨W2, hW2, HB2⟩ := box_node w1 0 (.slice none 0 0) (.slice none 0 0)
        have HW2 := Lib.hid hW2
        have O2 := Lib.hid (HO.out.trans (o1.trans HB2.out.1))
        clear hW2 o1 c0 c1 e0
        go_upto_region 6 with fail
        rw [HW2.out]
        go_wp2
        go_roundw
        case rel => exact ⟨k + 1, by omega, by go_num, by rw [HS1.out], O2⟩
        case measure => simp [intOf]; omega
    · obtain rfl : k = l.length := by omega
      have HE := Lib.hid (show l.take l.length = l from List.take_length)
      go_wp2
      go_ret
      exact ⟨by rw [HE.out]; rfl, HB.out.1.trans HO.out⟩
theorem words_any16 : SumGC sumW 30 := by
  intro g l vn vr v hs B w h hv hB hfit hl
  have HR := Lib.hid h
  obtain ⟨A, c, rfl, hac, hcm⟩ := h.nodes.form
  obtain ⟨Ar, cr, rfl, harc, hcrm⟩ := h.roots.form
  obtain ⟨Al, cl, rfl, hal, hcl⟩ := hv.form
  obtain ⟨W, hW, HB⟩ := box_graph w (.slice A g.nd.length c) (.slice Ar g.rt.length cr)
  have HW := Lib.hid hW
  have c0 := HB.out.2.2.1
  have c1 := HB.out.2.2.2
  have HC := Lib.hid (sum_any16 40 ndRaw (enters_of Try.func40 (by kernel_rfl) rfl) (fun d h B w hr => size_any16 d h B w hr) g l _ _ _ hs B W (h.only HB.out.1 hB) (hv.below (HB.out.1.below hB fun _ h => h.elim)) (Nat.le_trans hB HB.out.1.size))
  have HE := Lib.hid (show sumR ndRaw g l = sumW g l from rfl)
  obtain ⟨q, hq⟩ : ∃ q, q = sumW g l := ⟨_, rfl⟩
  rw [HE.out, ← hq] at HC
  rw [← hq]
  clear hW h hv hq
  go_enter Try.func30, Try.ntmps30
  go_upto_region 1 with fail
  rw [HW.out]
  go_wp2_with fail
  go_at_call 48
  refine HC.out.mono ?_
  rintro e w1 ⟨rfl, o1⟩
  have O1 := Lib.hid (HB.out.1.trans o1)
  clear o1 c0 c1
  go_wp2
  go_ret
  exact ⟨rfl, O1.out⟩
theorem wrap_len16 (d : Nd) (h : d.fs.length ≤ 9223372036854775807) : wrap64 (d.fs.length : Int) = d.fs.length := by unfold wrap64; omega
theorem fields_any16 : SumGC sumF 29 := by
  intro g l vn vr v hs B w h hv hB hfit hl
  have HR := Lib.hid h
  obtain ⟨A, c, rfl, hac, hcm⟩ := h.nodes.form
  obtain ⟨Ar, cr, rfl, harc, hcrm⟩ := h.roots.form
  obtain ⟨Al, cl, rfl, hal, hcl⟩ := hv.form
  obtain ⟨W, hW, HB⟩ := box_graph w (.slice A g.nd.length c) (.slice Ar g.rt.length cr)
  have HW := Lib.hid hW
  have c0 := HB.out.2.2.1
  have c1 := HB.out.2.2.2
  have HC := Lib.hid (sum_any16 49 (fun d => (d.fs.length : Int)) (enters_of Try.func49 (by kernel_rfl) rfl) (fun d h B w hr => (fields1_any16 d h B w hr).mono (by
    rintro e w' ⟨rfl, o⟩
    obtain ⟨_, _, _, hle, hle2, _⟩ := id hr.fields
    unfold maxLen at hle2
    exact ⟨by rw [wrap_len16 d (by omega)], o⟩)) g l _ _ _ hs B W (h.only HB.out.1 hB) (hv.below (HB.out.1.below hB fun _ h => h.elim)) (Nat.le_trans hB HB.out.1.size))
  have HE := Lib.hid (show sumR (fun d => (d.fs.length : Int)) g l = sumF g l from rfl)
  obtain ⟨q, hq⟩ : ∃ q, q = sumF g l := ⟨_, rfl⟩
  rw [HE.out, ← hq] at HC
  rw [← hq]
  clear hW h hv hq
  go_enter Try.func29, Try.ntmps29
  go_upto_region 1 with fail
  rw [HW.out]
  go_wp2_with fail
  go_at_call 48
  refine HC.out.mono ?_
  rintro e w1 ⟨rfl, o1⟩
  have O1 := Lib.hid (HB.out.1.trans o1)
  clear o1 c0 c1
  go_wp2
  go_ret
  exact ⟨rfl, O1.out⟩
end Go.Proofs.Ytkjdnccnfnhkoaa

/- Package graph: two graphs held against one another. -/
namespace Go.Proofs.Ytkjdnccnfnhkoaa
open Go.RowKit Go.Lib
set_option maxRecDepth 100000
set_option linter.unusedSimpArgs false
set_option linter.unusedVariables false

/-- The same node? -/
def sameN (a b : Nd) : Bool := decide (a.kd = b.kd) && (decide (a.fs = b.fs) && decide (a.rs = b.rs))
theorem sameN_iff {a b : Nd} : sameN a b = true ↔ a = b := by
  unfold sameN
  simp only [Bool.and_eq_true, decide_eq_true_eq]
  constructor
  · intro h
    cases a; cases b
    simp only at h
    obtain ⟨rfl, rfl, rfl⟩ := h
    rfl
  · rintro rfl
    exact ⟨rfl, rfl, rfl⟩
theorem sameN_cases (a b : Nd) : (a.kd ≠ b.kd ∧ sameN a b = false) ∨ (a.kd = b.kd ∧ decide (a.fs = b.fs) = false ∧ sameN a b = false) ∨ (a.kd = b.kd ∧ decide (a.fs = b.fs) = true ∧ sameN a b = decide (a.rs = b.rs)) := by
  unfold sameN
  by_cases h1 : a.kd = b.kd
  · cases h2 : decide (a.fs = b.fs) with
    | true => exact .inr (.inr ⟨h1, rfl, by simp [h1]⟩)
    | false => exact .inr (.inl ⟨h1, rfl, by simp⟩)
  · exact .inl ⟨h1, by simp [h1]⟩
theorem boxes_nodes (w : World) (k k' : Int) (fv rv fv' rv' : Value) : ∃ V, ((w.alloc (.cells #[.int .i64 k, fv, rv] 43)).alloc (.cells #[.int .i64 k', fv', rv'] 43)) = V ∧ Hid (Only nob w V ∧
    V.cell? ⟨w.heap.size, 0, none⟩ = some (.int .i64 k) ∧ V.cell? ⟨w.heap.size, 1, none⟩ = some fv ∧ V.cell? ⟨w.heap.size, 2, none⟩ = some rv ∧ V.cell? ⟨w.heap.size + 1, 0, none⟩ = some (.int .i64 k') ∧ V.cell? ⟨w.heap.size + 1, 1, none⟩ = some fv' ∧ V.cell? ⟨w.heap.size + 1, 2, none⟩ = some rv') := by
  have h1 := (Blk.new w 43 #[.int .i64 k, fv, rv]).alloc (.cells #[.int .i64 k', fv', rv'] 43)
  have h2 := Blk.newAt (w.alloc (.cells #[.int .i64 k, fv, rv] 43)) 43 #[.int .i64 k', fv', rv'] (w.heap.size + 1) (by simp)
  exact ⟨_, rfl, Lib.hid ⟨((Only.refl nob w).alloc _).alloc _, h1.cell 0, h1.cell 1, h1.cell 2, h2.cell 0, h2.cell 1, h2.cell 2⟩⟩
theorem len_ne16 {α : Type} {l m : List α} (h : l.length ≠ m.length) : ¬ l = m := fun e => h (by rw [e])
noncomputable instance (a b : List Nd) : Decidable (a = b) := Classical.propDecidable _
theorem sameG_iff {a b : Gr} : sameG a b = true ↔ a.nd = b.nd ∧ a.rt = b.rt := by
  unfold sameG
  rw [decide_eq_true_eq]
  cases a; cases b
  simp
theorem sameG_no {a b : Gr} (h : decide (a.nd = b.nd) = false) : sameG a b = false := by
  cases e : sameG a b with
  | false => rfl
  | true => exact absurd (sameG_iff.1 e).1 (of_decide_eq_false h)
theorem sameG_yes {a b : Gr} (h : decide (a.nd = b.nd) = true) : sameG a b = decide (a.rt = b.rt) := by
  have h := of_decide_eq_true h
  cases e : sameG a b with
  | true => exact (decide_eq_true (sameG_iff.1 e).2).symm
  | false => exact (decide_eq_false fun h' => by rw [sameG_iff.2 ⟨h, h'⟩] at e; cases e).symm
end Go.Proofs.Ytkjdnccnfnhkoaa
