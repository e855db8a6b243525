/- The law GraphTells: walked. -/
import Derived.Test.YtmnehonmbjnnaaaGrAws
import Derived.Test.YtmnehonmbjnnaaaGrProgA
import Derived.Test.YtmnehonmbjnnaaaRefGr
import Derived.Test.YtmnehonmbjnnaaaGrProgB
import Derived.Test.YtmnehonmbjnnaaaRefGr2
import Derived.BigQuiet
import Derived.Deep.RegionHeld3
namespace Go.Proofs.Ytmnehonmbjnnaaa
open Go.RowKit Go.Lib
set_option maxRecDepth 100000
set_option linter.unusedSimpArgs false
set_option linter.unusedVariables false

theorem calls_whole16 {f : FuncId} {args : Array Value} {w : World} (h : Calls Try.prog f args w fun e w' => e = .returned (.bool true) ∧ Only nob w w') : Calls Try.prog f args w fun e w' => e = .returned (.bool true) ∧ Below w.heap.size w w' :=
  h.mono fun e w' hh => ⟨hh.1, hh.2.whole⟩
theorem large_call (g : Gr) (vn vr : Value) (hs : List (Value × Value)) (B : Nat) (w : World) (h : RdG w B g vn vr hs) (hB : B ≤ w.heap.size) :
    Calls Try.prog 6 #[.agg #[vn, vr]] w fun e w' => (e = .returned (.bool true) ∧ Only nob w w') ∨ (e = .returned (.bool false) ∧ (g.nd.length ≤ 60 ∧ g.rt.length ≤ 100) ∧ Only nob w w') :=
  (large_any16 g vn vr hs B w h hB).mono fun e w' hh => by
    obtain ⟨b, rfl, hb, o⟩ := hh
    cases b with
    | true => exact Or.inl ⟨rfl, o⟩
    | false => exact Or.inr ⟨rfl, hb rfl, o⟩
end Go.Proofs.Ytmnehonmbjnnaaa

/- The law GraphTurns: walked. -/
namespace Go.Proofs.Ytmnehonmbjnnaaa
open Go.RowKit Go.Lib
set_option maxRecDepth 100000
set_option linter.unusedSimpArgs false
set_option linter.unusedVariables false

theorem two_graphs (w : World) (vn vr un ur : Value) : ∃ W, (w.alloc (.cells #[vn, vr] 25)).alloc (.cells #[un, ur] 25) = W ∧ Hid (Only nob w W ∧ Blk W w.heap.size 25 #[vn, vr] ∧ Blk W (w.heap.size + 1) 25 #[un, ur]) :=
  ⟨_, rfl, Lib.hid ⟨((Only.refl nob w).alloc _).alloc _, (Blk.new w _ _).alloc _, Blk.newAt _ _ _ _ (by simp)⟩⟩
theorem vl_turn16 {o : List Int} {l : List Sp} (h : VlOk l) (hl : o.length ≤ 1000000) : VlOk (turnT o l) := by
  intro v hv
  obtain ⟨x, hx, rfl⟩ := List.mem_map.1 hv
  have hb := h x hx
  unfold turnD
  split
  · refine ⟨by omega, ?_⟩
    by_cases hm : x.2 ∈ o
    · have h1 : o.idxOf x.2 < o.length := List.idxOf_lt_length_iff.2 hm
      show -9223372036854775808 ≤ plc o x.2 ∧ plc o x.2 ≤ 9223372036854775807
      rw [plc_in hm]; omega
    · show -9223372036854775808 ≤ plc o x.2 ∧ plc o x.2 ≤ 9223372036854775807
      rw [plc_out hm]; omega
  · exact hb
theorem fit_rn {g : Gr} {o : List Int} (h : GrFit g) (hl : o.length ≤ 1000000) : GrFit (rnG g o) := by
  unfold rnG
  split
  · rename_i h0
    have hp := fit_pick h (ordOk_iff.1 (rnE_iff.1 h0).ord).1
    refine ⟨fun d hd => ?_, fun d hd => ?_, fun d hd => ?_, vl_turn16 h.rt hl⟩
    · obtain ⟨x, hx, rfl⟩ := List.mem_map.1 hd; exact hp.kd x hx
    · obtain ⟨x, hx, rfl⟩ := List.mem_map.1 hd; exact vl_turn16 (hp.fs x hx) hl
    · obtain ⟨x, hx, rfl⟩ := List.mem_map.1 hd; exact hp.rs x hx
  · exact ⟨fun d hd => by simp at hd, fun d hd => by simp at hd, fun d hd => by simp at hd, fun v hv => by simp at hv⟩
theorem rSame_eq (g : Gr) (vn vr un ur : Value) (hs js : List (Value × Value)) (B B' : Nat) (w : World) (h : RdG w B g vn vr hs) (k : RdG w B' g un ur js) (hB : B ≤ w.heap.size) (hB' : B' ≤ w.heap.size) (hf : GrFit g) :
    Calls Try.prog 14 #[.agg #[vn, vr], .agg #[un, ur]] w fun e w' => e = .returned (.bool true) ∧ Only nob w w' := by
  have := rSame16 g g vn vr un ur hs js B B' w h k hB hB' hf hf
  rwa [show sameG g g = true from decide_eq_true rfl] at this
end Go.Proofs.Ytmnehonmbjnnaaa

/- The law GraphBack: walked. -/
namespace Go.Proofs.Ytmnehonmbjnnaaa
open Go.RowKit Go.Lib
set_option maxRecDepth 100000
set_option linter.unusedSimpArgs false
set_option linter.unusedVariables false

theorem make_ints16 (n : Nat) (hn : n ≤ 1000000) (w : World) : ∃ W, (Instr.makeSlice 28 (.int .i64 (n : Int)) (.int .i64 (n : Int))).run Try.prog w = .ok (.slice (some ⟨w.heap.size, 0, none⟩) n n) W ∧ Only nob w W ∧ W.ownsRow w.heap.size 3 1 (.slice (some ⟨w.heap.size, 0, none⟩) n n) n (i64s (List.replicate n 0)) := by
  obtain ⟨i0, hi0, hz0, hz1, hz2⟩ := info_parts info_int
  obtain ⟨W, h1, h2, h3⟩ := run_make_full (P := Try.prog) w w.heap.size 28 3 i0 _ 1 Try.underlying28 hi0 hz0 hz1 .i64 .i64 n (by rw [hz2]; omega) (by unfold maxLen; omega) (Nat.le_refl _)
  refine ⟨W, h1, ⟨h3.os, h3.tape, h3.output, h3.size, fun k hk _ => h3.block k hk (by simp)⟩, ?_⟩
  have e : (madeCells (Value.int .i64 0).cells (n * 1)).toList = i64s (List.replicate n 0) := by
    show (madeCells #[.int .i64 0] (n * 1)).toList = _
    rw [toList_madeCells_one, Nat.mul_one]
    simp [i64s]
  rw [e] at h2
  exact h2
theorem i64s_set16 (l : List Int) (k : Nat) (y : Int) : (i64s l).set k (.int .i64 y) = i64s (l.set k y) := by simp [i64s, List.map_set]
theorem back_step {l bl : List Int} {k m0 : Nat} (hnd : l.Nodup) (hk : l[k]? = some (m0 : Int)) (hm0 : m0 < bl.length) (H : ∀ j m : Nat, j < k → l[j]? = some (m : Int) → bl[m]? = some (j : Int)) :
    ∀ j m : Nat, j < k + 1 → l[j]? = some (m : Int) → (bl.set m0 (k : Int))[m]? = some (j : Int) := by
  intro j m hj hm
  rcases Nat.lt_or_ge j k with h' | h'
  · have hne : m0 ≠ m := by
      rintro rfl
      have := nodup_at hnd hm hk
      omega
    rw [List.getElem?_set_ne hne]
    exact H j m h' hm
  · obtain rfl : j = k := by omega
    rw [hk] at hm
    obtain rfl : m0 = m := by have := Option.some.inj hm; omega
    rw [List.getElem?_set_self hm0]
theorem back_end {l bl : List Int} {n : Nat} (h : ordOk n l = true) (hl : l.length = n) (hb : bl.length = n) (H : ∀ j m : Nat, j < n → l[j]? = some (m : Int) → bl[m]? = some (j : Int)) : bl = backO n l := by
  refine List.ext_getElem? fun k => ?_
  rcases Nat.lt_or_ge k n with hk | hk
  · obtain ⟨j, e, hj⟩ := plc_at (ord_all h hl k hk)
    rw [back_at hk, e]
    exact H j k (by have := (List.getElem?_eq_some_iff.1 hj).1; omega) hj
  · rw [List.getElem?_eq_none (by omega), List.getElem?_eq_none (by rw [back_len]; omega)]
theorem rn_back2 {g : Gr} {l : List Int} (h : rnE g l = 0) (hl : l.length = g.nd.length) (hn : g.nd.length ≤ 1000000) :
    grOk (rnG g l) = true ∧ rnE (rnG g l) (backO g.nd.length l) = 0 ∧ rnG (rnG g l) (backO g.nd.length l) = g ∧ (rnG g l).nd.length = g.nd.length ∧ (rnG g l).rt.length = g.rt.length := by
  have hok := rnE_iff.1 h
  have e : rnG g l = ⟨(pick g l).map (ndT l), turnT l g.rt⟩ := by unfold rnG; rw [if_pos h]
  obtain ⟨b1, b2, b3⟩ := rn_back hok hl hn
  rw [e]
  have h0 := rnE_iff.2 b1
  refine ⟨rn_may hok hl hn, h0, ?_, by unfold pick; simp [hl], by unfold turnT; simp⟩
  unfold rnG
  rw [if_pos h0]
  cases g with
  | mk nd rt =>
    simp only at b2 b3 ⊢
    rw [b2, b3]
theorem back_b64 {n : Nat} {l : List Int} (hl : l.length ≤ 1000000) : ∀ x ∈ backO n l, -9223372036854775808 ≤ x ∧ x ≤ 9223372036854775807 := by
  intro x hx
  obtain ⟨k, -, rfl⟩ := List.mem_map.1 hx
  by_cases hm : (k : Int) ∈ l
  · have h1 : l.idxOf (k : Int) < l.length := List.idxOf_lt_length_iff.2 hm
    rw [plc_in hm]; omega
  · rw [plc_out hm]; omega
theorem only_grown16 {W W' : World} (h : W.grownBy W' none) : Only nob W W' := ⟨h.os, h.tape, h.output, h.size, fun k hk _ => h.block k hk (by simp)⟩
end Go.Proofs.Ytmnehonmbjnnaaa
