/- Package reach: the references of a row are put ahead; a row gone over backward by a range over a function. -/
import Derived.Test.YtkjdnccnfnhkoaaReNext
import Derived.Test.YtkjdnccnfnhkoaaGrProgA
import Derived.Test.YtkjdnccnfnhkoaaGrProgB
namespace Go.Proofs.Ytkjdnccnfnhkoaa
open Go.RowKit Go.Shelf
set_option maxRecDepth 100000
set_option linter.unusedSimpArgs false
set_option linter.unusedVariables false
attribute [local go_sem] Oper.semAt_some

/-- append as a step of a region of a round that draws its order. -/
theorem stepIn_append_or {P : Program} {F : Fence} {nF : Nat} (w : World) {ops : Array Oper} {o : Oper} {a : Act} {K : Act → World → Prop} {Q : Exit → Act → World → Prop} {X : Prop} (hgd : o.guard = none) (s x : Operand) (t : TypeId)
    (ho : o.op = .call { callee := .builtin .append, args := #[s, x], argTypes := #[t, t] })
    (base : Nat) (e : TypeId) (i : TypeInfo) (z : Value) (bytes : Nat) (ht : P.underlying t = some (.slice e)) (hi : P.info? e = some i) (hz : i.zero = some z)
    (hsize : i.size = 1) (hby : i.bytes = bytes) (hzs : z.cells.size = 1)
    (v : Value) (n : Nat) (xs : List Value) (hs : a.eval s = v) (hown : OwR w base e v n xs)
    (B : Nat) (u : Value) (y : Value) (hx : a.eval x = u) (hr : Sl w B 1 u 1 [y]) (h1 : y.oneCell' = true)
    (h63 : n + 1 ≤ maxLen) (hbytes : (n + 1) * bytes ≤ 140737488355328) (hbase : base ≤ w.heap.size)
    (h : ∀ v' w', Hid (OwR w' base e v' (n + 1) (xs ++ [y])) → Only (fun k => v.ownBlock = some k) w w' → (v'.ownBlock = v.ownBlock ∨ v'.ownBlock = some w.heap.size) → K (a.put o.dst v') w') :
    if Region.wanted o (yielded ops a.tmps) = true then Oper.wpIn F nF P o a w K Q else X := by
  have hw : Region.wanted o (yielded ops a.tmps) = true := by simp [Region.wanted, hgd]
  rw [if_pos hw]
  obtain ⟨v', w', hrun, g2, g3, g4⟩ := run_append_or (P := P) w base t o.type e i z bytes ht hi hz hsize hby hzs v n xs hown B u y hr h1 h63 hbytes hbase
  unfold Oper.wpIn
  refine ⟨by simp [Oper.about, ho, resolve, Target.leads, Sem.run_pure], ?_⟩
  rw [Oper.semAt_plain F _ _ (by rw [ho]; intro c hc'; cases hc')]
  simp [execOp, ho, resolve, invoke, builtin, hs, hx, hrun, Result.andThen]
  exact h v' w' g2 g3 g4
set_option maxHeartbeats 1000000 in
theorem back_in (n : Nat) (A : Option Addr) (m c : Nat) (w : World) : CallsIn Fence.wide n Try.prog 55 #[.slice A m c] w fun e w' =>
    e = .returned (.func (.func 72) #[] #[.pointer (some ⟨w.heap.size, 0, none⟩)]) ∧ w' = w.alloc (.cells #[.slice A m c] 23) := by
  refine callsIn_wide.2 ?_
  go_enter Try.func55, Try.ntmps55
  go_wp2_with fail
  go_ret
  exact ⟨rfl, rfl⟩
/-- What the iterator hands out: the place, the value. -/
def bkE (x : Int × Sp) : Array Value := #[.int .i64 x.1, .agg #[.int .i64 x.2.1, .int .i64 x.2.2]]
set_option maxHeartbeats 4000000 in
theorem back1_in (lp Bn n0 : Nat) (V : Nat → Prop) (A : Option Addr) (c : Nat) (l : List Sp) (J Jx : List (Int × Sp) → World → Prop) (W : World)
    (hB : Bn < n0) (hBV : ¬ V Bn) (hb0 : W.cell? ⟨Bn, 0, none⟩ = some (.slice A l.length c)) (hG : Sl W n0 2 (.slice A l.length c) l.length (spc l)) (hGV : ∀ g, g < n0 → (∃ o, A = some ⟨g, o, none⟩) → 0 < l.length → ¬ V g)
    (hY : ∀ pre x W1, J pre W1 → pre.length < l.length → YieldAt Fence.wide 1 Try.prog lp (bkE x) W1 fun e W' =>
      (e = .returned (.bool true) ∧ J (pre ++ [x]) W' ∧ KeepsV V n0 W1 W') ∨ (e = .returned (.bool false) ∧ Jx (pre ++ [x]) W'))
    (h0 : J [] W) :
    CallsIn Fence.wide 2 Try.prog 72 #[.func (.yield lp) #[] #[], .pointer (some ⟨Bn, 0, none⟩)] W fun e W' => (∃ v, e = .returned v) ∧
      ((∃ xs, xs.map (·.2) = l.reverse ∧ J xs W') ∨ (∃ pre : List (Int × Sp), True ∧ Jx pre W')) := by
  have HG := Lib.hid hG
  obtain ⟨A', c', e, hac, hcm, -⟩ := id hG
  obtain ⟨rfl, rfl⟩ : A = A' ∧ c = c' := by simpa using e
  unfold maxLen at hcm
  have HY := Lib.hid (fun pre x W1 a b => yield_depth16 (F := Fence.wide) rfl 0 (hY pre x W1 a b))
  have H0 := Lib.hid h0
  have HB := Lib.hid hb0
  have HGV := Lib.hid hGV
  have hws : IntKind.i64.wrap ((l.length : Int) - 1) = (l.length : Int) - 1 := IntWalk.i64_in _ (by omega)
  clear hG hY h0 e hGV
  refine callsIn_of_wp Try.func72 rfl trivial ?_ rfl
  simp only [Try.ntmps72, List.size_toArray, List.length_cons, List.length_nil, Nat.reduceAdd, Nat.reduceSub, Array.replicate_succ, Array.replicate_zero, List.push_toArray, List.append_toArray, List.nil_append, List.cons_append]
  gi_wp2_with fail
  gi_loopw [3] (fun i' wr => ∃ (m : Nat) (ys : List (Int × Sp)), m ≤ l.length ∧ i' = .int .i64 ((m : Int) - 1) ∧ Hid (ys.map (·.2) = (l.drop m).reverse) ∧ Hid (J ys wr) ∧ Hid (KeepsV V n0 W wr)) (fun i' _ => (intOf i' + 1).toNat)
  case atStart => exact ⟨l.length, [], Nat.le_refl _, rfl, Lib.hid (by simp), H0, Lib.hid (KeepsV.refl _ _ _)⟩
  case round =>
    obtain ⟨m, ys, hm, rfl, HK, HJ1, HKV⟩ := hrel
    rcases Nat.eq_zero_or_pos m with h0 | h0
    · subst h0
      have hneg : ¬ (0 ≤ ((0 : Nat) : Int) - 1) := by omega
      gi_wp2
      go_end0
      exact ⟨⟨_, rfl⟩, .inl ⟨ys, by simpa using HK.out, HJ1.out⟩⟩
    · obtain ⟨k, rfl⟩ : ∃ k, m = k + 1 := ⟨m - 1, by omega⟩
      rw [show ((k + 1 : Nat) : Int) - 1 = (k : Int) by omega]
      obtain ⟨x, hx⟩ : ∃ x, l[k]? = some x := ⟨_, List.getElem?_eq_getElem (by omega)⟩
      obtain ⟨bb, o, c', e, _, _, hlt2, hc⟩ := HG.out.at_ (by omega)
      obtain ⟨rfl, rfl⟩ : A = some ⟨bb, o, none⟩ ∧ c = c' := by simpa using e
      obtain ⟨q0, q1⟩ := spc_at hx
      have hbv := HGV.out bb hlt2 ⟨o, rfl⟩ (by omega)
      have g0 := HKV.out.cell (p := ⟨bb, o + k * 2, none⟩) hlt2 hbv (hc _ _ q0)
      have g1 := HKV.out.cell (p := ⟨bb, o + (k * 2 + 1), none⟩) hlt2 hbv (hc _ _ q1)
      rw [← Nat.add_assoc] at g1
      have b0 := HKV.out.cell (p := ⟨Bn, 0, none⟩) hB hBV HB.out
      have HK1 := Lib.hid (show (ys ++ [((k : Int), x)]).map (·.2) = (l.drop k).reverse by
        rw [List.map_append, HK.out, List.drop_eq_getElem_cons (by omega : k < l.length), List.reverse_cons]
        have : l[k] = x := by rw [List.getElem?_eq_getElem (by omega)] at hx; exact Option.some.inj hx
        simp [this])
      have hyy := fun m' => yield_depth16 (F := Fence.wide) rfl m' (HY.out ys ((k : Int), x) wr HJ1.out (by
        have h1 := congrArg List.length HK.out
        simp at h1
        omega))
      obtain ⟨fn, tmps, assign, body, hy, hR⟩ := hyy 1
      unfold bkE at hy
      dsimp only at hy
      have hpos : 0 ≤ (k : Int) := by omega
      have hws2 : IntKind.i64.wrap ((k : Int) - 1) = (k : Int) - 1 := IntWalk.i64_in _ (by omega)
      clear hx e hc q0 q1 hbv hyy
      gi_wp2
      refine hR.mono ?_
      rintro e W' (⟨rfl, hJ, hk2⟩ | ⟨rfl, hJx⟩)
      · have HJ2 := Lib.hid hJ
        have HV2 := Lib.hid (HKV.out.trans hk2)
        clear hJ hk2 g0 g1 b0 hy hR
        gi_wp2
        go_roundw
        case rel => exact ⟨k, ys ++ [((k : Int), x)], by omega, rfl, HK1, HJ2, HV2⟩
        case measure => first | (simp [intOf]; done) | (simp [intOf]; omega)
      · clear g0 g1 b0 hy hR
        gi_wp2
        refine bodyPost_ret (results_none rfl _ _ _) rfl ?_
        exact ⟨⟨_, rfl⟩, .inr ⟨_, trivial, hJx⟩⟩
theorem itBack (Bn n0 : Nat) (V : Nat → Prop) (A : Option Addr) (c : Nat) (l : List Sp) (w : World) (hB : Bn < n0) (hBV : ¬ V Bn) (hb0 : w.cell? ⟨Bn, 0, none⟩ = some (.slice A l.length c)) (hG : Sl w n0 2 (.slice A l.length c) l.length (spc l)) (hGV : ∀ g, g < n0 → (∃ o, A = some ⟨g, o, none⟩) → 0 < l.length → ¬ V g) (hn0 : n0 ≤ w.heap.size) :
    SeqStopsK Fence.wide 2 Try.prog 72 #[.pointer (some ⟨Bn, 0, none⟩)] bkE (KeepsV V n0) (fun xs => xs.map (·.2) = l.reverse) (fun _ => True) l.length w := by
  intro lp J Jx W hW hJ hJx hY h0
  have hkk : KeepsV V n0 w W := ⟨hW.size, fun k hk hkw hv => hW.block k hkw⟩
  exact back1_in lp Bn n0 V A c l J Jx W hB hBV (hkk.cell (p := ⟨Bn, 0, none⟩) hB hBV hb0) (hG.keep fun p hp => World.cell?_of_block (hW.block p.block (Nat.lt_of_lt_of_le hp hn0))) hGV hY h0
end Go.Proofs.Ytkjdnccnfnhkoaa
