/- Chapter 16's example: its graphs, in plain words and in memory. -/
import Derived.Test.YtmnehonmbjnnaaaGrProgB
import Derived.Test.YtmnehonmbjnnaaaGrProgA
import Derived.Test.YtmnehonmbjnnaaaRefGr2
import Derived.Test.YtmnehonmbjnnaaaRefGr
import Derived.Deep.RegionHeld3
import Derived.Lib.SliceRun
import Derived.WalkKit
import Derived.BigQuiet
import Derived.Laws.Small
namespace Go.Proofs.Ytmnehonmbjnnaaa
open Go.RowKit Go.Lib
set_option maxRecDepth 100000
set_option linter.unusedSimpArgs false
set_option linter.unusedVariables false

def gA : Gr := ⟨[⟨0, [(2, 1)], []⟩, ⟨3, [(2, 0)], [7]⟩], [(2, 0)]⟩
def gA2 : Gr := ⟨[⟨3, [(2, 1)], [7]⟩, ⟨0, [(2, 0)], []⟩], [(2, 1)]⟩
def gB : Gr := ⟨[⟨0, [(2, 2)], []⟩, ⟨3, [(2, 0)], [7]⟩], [(2, 0)]⟩
theorem gA_ok : grOk gA = true := by decide
theorem gB_bad : grOk gB = false := by decide
theorem gA_rn : rnE gA [1, 0] = 0 ∧ rnG gA [1, 0] = gA2 := ⟨by decide, by unfold rnG; rw [if_pos (by decide)]; rfl⟩
theorem gA_rn2 : rnE gA [1] = 2 ∧ rnG gA [1] = ⟨[], []⟩ := ⟨by decide, by unfold rnG; rw [if_neg (by decide)]⟩
theorem gA_rn1 : rnE gA [1, 1] = 1 ∧ rnG gA [1, 1] = ⟨[], []⟩ := ⟨by decide, by unfold rnG; rw [if_neg (by decide)]⟩
theorem gA_words : sumW gA [0, 1, 1] = 8 := by
  unfold sumW
  rw [show ([0, 1, 1].map (wAt gA)).sum = 8 by decide]
  unfold wrap64; omega
theorem gA_fields : sumF gA [0, 1] = 2 := by
  unfold sumF
  rw [show ([0, 1].map (fAt gA)).sum = 2 by decide]
  unfold wrap64; omega
theorem gA_leads : leadsG gA 0 = [1] := by decide
theorem gA_size : ndSz ⟨3, [(2, 0)], [7]⟩ = 3 := by
  unfold ndSz
  rw [show ndRaw ⟨3, [(2, 0)], [7]⟩ = 3 by decide]
  unfold wrap64; omega
theorem gAB : sameG gA gB = false := by
  cases h : sameG gA gB with
  | false => rfl
  | true =>
    have := (sameG_iff.1 h).1
    simp [gA, gB] at this
theorem gA_put : setG gA (0, 0) ((plcV gA (0, 0)).1, 2) = gB := by rfl
theorem gA_fit : GrFit gA := ⟨fun d hd => by simp [gA] at hd; rcases hd with rfl | rfl <;> simp, fun d hd v hv => by simp [gA] at hd; rcases hd with rfl | rfl <;> (simp at hv; subst hv; simp), fun d hd v hv => by simp [gA] at hd; rcases hd with rfl | rfl <;> simp at hv; subst hv; decide, fun v hv => by simp [gA] at hv; subst hv; simp⟩
theorem gB_fit : GrFit gB := ⟨fun d hd => by simp [gB] at hd; rcases hd with rfl | rfl <;> simp, fun d hd v hv => by simp [gB] at hd; rcases hd with rfl | rfl <;> (simp at hv; subst hv; simp), fun d hd v hv => by simp [gB] at hd; rcases hd with rfl | rfl <;> simp at hv; subst hv; decide, fun v hv => by simp [gB] at hv; subst hv; simp⟩
abbrev sl1 (b : Nat) : Value := .slice (some ⟨b, 0, none⟩) 1 1
/-- The literal. -/
theorem laidA (w : World) : ∃ V, ((((((w.alloc (.cells #[.int .i64 2, .int .i64 1] 43)).alloc (.cells #[.int .i64 2, .int .i64 0] 43)).alloc (.cells #[.int .u64 7] 71)).alloc (.cells #[.int .i64 0, .slice (some ⟨w.heap.size, 0, none⟩) 1 1, .slice none 0 0, .int .i64 3, .slice (some ⟨w.heap.size + 1, 0, none⟩) 1 1, .slice (some ⟨w.heap.size + 1 + 1, 0, none⟩) 1 1] 41)).alloc (.cells #[.int .i64 2, .int .i64 0] 43)).alloc (.cells #[.slice (some ⟨w.heap.size + 1 + 1 + 1, 0, none⟩) 2 2, .slice (some ⟨w.heap.size + 1 + 1 + 1 + 1, 0, none⟩) 1 1] 25)) = V ∧
    Hid (Only nob w V ∧ RdG V V.heap.size gA (.slice (some ⟨w.heap.size + 1 + 1 + 1, 0, none⟩) 2 2) (.slice (some ⟨w.heap.size + 1 + 1 + 1 + 1, 0, none⟩) 1 1) [(.slice (some ⟨w.heap.size, 0, none⟩) 1 1, .slice none 0 0), (.slice (some ⟨w.heap.size + 1, 0, none⟩) 1 1, .slice (some ⟨w.heap.size + 1 + 1, 0, none⟩) 1 1)] ∧
      Blk V (w.heap.size + 1 + 1 + 1 + 1 + 1) 25 #[.slice (some ⟨w.heap.size + 1 + 1 + 1, 0, none⟩) 2 2, .slice (some ⟨w.heap.size + 1 + 1 + 1 + 1, 0, none⟩) 1 1]) := by
  obtain ⟨V, hV⟩ : ∃ V, ((((((w.alloc (.cells #[.int .i64 2, .int .i64 1] 43)).alloc (.cells #[.int .i64 2, .int .i64 0] 43)).alloc (.cells #[.int .u64 7] 71)).alloc (.cells #[.int .i64 0, .slice (some ⟨w.heap.size, 0, none⟩) 1 1, .slice none 0 0, .int .i64 3, .slice (some ⟨w.heap.size + 1, 0, none⟩) 1 1, .slice (some ⟨w.heap.size + 1 + 1, 0, none⟩) 1 1] 41)).alloc (.cells #[.int .i64 2, .int .i64 0] 43)).alloc (.cells #[.slice (some ⟨w.heap.size + 1 + 1 + 1, 0, none⟩) 2 2, .slice (some ⟨w.heap.size + 1 + 1 + 1 + 1, 0, none⟩) 1 1] 25)) = V := ⟨_, rfl⟩
  refine ⟨V, hV, Lib.hid ⟨by rw [← hV]; exact ((((((Only.refl nob w).alloc _).alloc _).alloc _).alloc _).alloc _).alloc _, ?_, by rw [← hV]; exact Blk.newAt _ _ _ _ (by simp)⟩⟩
  have b0 : Blk V w.heap.size 43 #[.int .i64 2, .int .i64 1] := by rw [← hV]; exact (((((Blk.new w _ _).alloc _).alloc _).alloc _).alloc _).alloc _
  have b1 : Blk V (w.heap.size + 1) 43 #[.int .i64 2, .int .i64 0] := by rw [← hV]; exact ((((Blk.newAt _ _ _ _ (by simp)).alloc _).alloc _).alloc _).alloc _
  have b2 : Blk V (w.heap.size + 1 + 1) 71 #[.int .u64 7] := by rw [← hV]; exact (((Blk.newAt _ _ _ _ (by simp)).alloc _).alloc _).alloc _
  have b3 : Blk V (w.heap.size + 1 + 1 + 1) 41 #[.int .i64 0, .slice (some ⟨w.heap.size, 0, none⟩) 1 1, .slice none 0 0, .int .i64 3, .slice (some ⟨w.heap.size + 1, 0, none⟩) 1 1, .slice (some ⟨w.heap.size + 1 + 1, 0, none⟩) 1 1] := by rw [← hV]; exact ((Blk.newAt _ _ _ _ (by simp)).alloc _).alloc _
  have b4 : Blk V (w.heap.size + 1 + 1 + 1 + 1) 43 #[.int .i64 2, .int .i64 0] := by rw [← hV]; exact (Blk.newAt _ _ _ _ (by simp)).alloc _
  clear hV
  have s0 := Sl.of_blk (size := 2) (n := 1) (c := 1) b0 rfl (Nat.le_refl _) (by decide)
  have s1 := Sl.of_blk (size := 2) (n := 1) (c := 1) b1 rfl (Nat.le_refl _) (by decide)
  have s2 := Sl.of_blk (size := 1) (n := 1) (c := 1) b2 rfl (Nat.le_refl _) (by decide)
  have s3 := Sl.of_blk (size := 3) (n := 2) (c := 2) b3 rfl (Nat.le_refl _) (by decide)
  have s4 := Sl.of_blk (size := 2) (n := 1) (c := 1) b4 rfl (Nat.le_refl _) (by decide)
  refine ⟨rfl, s3, fun i d h hd hh => ?_, s4⟩
  match i, hd, hh with
  | 0, hd, hh =>
    obtain rfl : d = ⟨0, [(2, 1)], []⟩ := by simpa [gA] using hd.symm
    obtain rfl := Option.some.inj hh
    exact ⟨s0, Sl.nil_⟩
  | 1, hd, hh =>
    obtain rfl : d = ⟨3, [(2, 0)], [7]⟩ := by simpa [gA] using hd.symm
    obtain rfl := Option.some.inj hh
    exact ⟨s1, s2⟩
  | n + 2, hd, _ => simp [gA] at hd
end Go.Proofs.Ytmnehonmbjnnaaa

/- Chapter 16's example comes to what the chapter says. (The last region printed by wip/tools/gen_awake16.py.) -/
namespace Go.Proofs.Ytmnehonmbjnnaaa
open Go.RowKit Go.Lib
set_option maxRecDepth 100000
set_option linter.unusedSimpArgs false
set_option linter.unusedVariables false

theorem lit_ints16 (w : World) (cs : Array Value) (l : List Int) (h : cs.toList = i64s l) (hn : cs.size = l.length) (hm : l.length ≤ 1000) : ∃ W, w.alloc (.cells cs 3) = W ∧ Only nob w W ∧ Sl W W.heap.size 1 (.slice (some ⟨w.heap.size, 0, none⟩) l.length l.length) l.length (i64s l) := by
  refine ⟨_, rfl, (Only.refl nob w).alloc _, ?_⟩
  have := Sl.of_blk (size := 1) (n := l.length) (c := l.length) (Blk.new w 3 cs) (by omega) (Nat.le_refl _) (by unfold maxLen; omega)
  rw [h] at this
  exact this
theorem box_graph2 (w : World) (vn vr : Value) : ∃ W, w.alloc (.cells #[vn, vr] 25) = W ∧ Hid (Only nob w W ∧ Blk W w.heap.size 25 #[vn, vr]) := ⟨_, rfl, Lib.hid ⟨(Only.refl nob w).alloc _, Blk.new w _ _⟩⟩
end Go.Proofs.Ytmnehonmbjnnaaa

/- The law's Large: an answer of either kind; false only for a graph of few nodes and roots. -/
namespace Go.Proofs.Ytmnehonmbjnnaaa
open Go.RowKit Go.Lib
set_option maxRecDepth 100000
set_option linter.unusedSimpArgs false
set_option linter.unusedVariables false

def LargeP (g : Gr) (w : World) (e : Ending) (w' : World) : Prop := ∃ b : Bool, e = .returned (.bool b) ∧ (b = false → g.nd.length ≤ 60 ∧ g.rt.length ≤ 100) ∧ Only nob w w'
def LargeGC (f : FuncId) : Prop := ∀ (g : Gr) (vn vr : Value) (hs : List (Value × Value)) (B : Nat) (w : World), RdG w B g vn vr hs → B ≤ w.heap.size →
  Calls Try.prog f #[.agg #[vn, vr]] w (LargeP g w)
theorem cap16 (n : Nat) : ∃ a : Nat, a ≤ 5000 ∧ (if (5000 : Int) < (n : Int) then (5000 : Int) else (n : Int)) = (a : Int) := by
  by_cases h : (5000 : Int) < n
  · exact ⟨5000, Nat.le_refl _, by rw [if_pos h]; rfl⟩
  · exact ⟨n, by omega, by rw [if_neg h]⟩
set_option maxHeartbeats 4000000 in
theorem large_any16 : LargeGC 6 := by
  intro g vn vr hs B w h hB
  have HR := Lib.hid h
  obtain ⟨A, c, rfl, hac, hcm⟩ := h.nodes.form
  obtain ⟨Ar, cr, rfl, harc, hcrm⟩ := h.roots.form
  unfold maxLen at hcm hcrm
  obtain ⟨W, hW, HB⟩ := box_graph w (.slice A g.nd.length c) (.slice Ar g.rt.length cr)
  have HW := Lib.hid hW
  obtain ⟨p, hp⟩ : ∃ p, p = w.heap.size := ⟨_, rfl⟩
  have HP := Lib.hid hp
  rw [← hp] at HB
  have c0 := HB.out.2.2.1
  have c1 := HB.out.2.2.2
  clear hW hp h
  by_cases h60 : (60 : Int) < (g.nd.length : Int)
  · go_enter Try.func6, Try.ntmps6
    go_upto_region 1 with fail
    rw [HW.out, ← HP.out]
    go_wp2
    go_ret
    exact ⟨_, ret_bool rfl, fun h => (by cases h), HB.out.1⟩
  · by_cases h100 : (100 : Int) < (g.rt.length : Int)
    · go_enter Try.func6, Try.ntmps6
      go_upto_region 1 with fail
      rw [HW.out, ← HP.out]
      go_wp2
      go_ret
      exact ⟨_, ret_bool rfl, fun h => (by cases h), HB.out.1⟩
    · have HS := Lib.hid (show g.nd.length ≤ 60 ∧ g.rt.length ≤ 100 by omega)
      have hl60 : g.nd.length ≤ 60 := HS.out.1
      go_enter Try.func6, Try.ntmps6
      go_upto_region 1 with fail
      rw [HW.out, ← HP.out]
      go_wp2_with fail
      clear h60 h100 c0 c1
      go_loopw [3, 4] (fun a i wr => ∃ k m : Nat, k ≤ g.nd.length ∧ m ≤ k * 10000 ∧ i = .int .i64 k ∧ a = .int .i64 m ∧ Hid (Only nob W wr)) (fun _ i _ => g.nd.length - (intOf i).toNat)
      case atStart => exact ⟨0, 0, Nat.zero_le _, Nat.zero_le _, rfl, rfl, Lib.hid (Only.refl _ _)⟩
      case round =>
        obtain ⟨k, m, hk, hm, rfl, rfl, HO⟩ := hrel
        have c0 := HO.out.keeps HB.out.2.2.1
        by_cases hlt : k < g.nd.length
        · obtain ⟨d, hd⟩ : ∃ x, g.nd[k]? = some x := ⟨_, List.getElem?_eq_getElem hlt⟩
          obtain ⟨bb, o, fv, rv, hA, hbb, hh', g0, g1, g2, hnd⟩ := HR.out.at_ ((HB.out.1.trans HO.out).below hB fun _ h => h.elim) hd
          obtain ⟨Af, cf, hfv, hafc, hcfm⟩ := hnd.fields.form
          obtain ⟨Arw, crw, hrv, harw, hcrw⟩ := hnd.raws.form
          simp only at hfv hrv
          subst hfv hrv
          obtain ⟨rfl, -⟩ : A = some ⟨bb, o, none⟩ ∧ True := by simpa using hA
          obtain ⟨a1, ha1, ea1⟩ := cap16 d.fs.length
          obtain ⟨a2, ha2, ea2⟩ := cap16 d.rs.length
          clear hd hh' hnd hA g0 hafc harw
          go_wp2
          go_quiet (fail)
          go_wp2
          go_roundw
          case rel => exact ⟨k + 1, m + (a1 + a2), by omega, by omega, by go_num, by go_num, Lib.hid (HO.out.drewN _)⟩
          case measure => simp [intOf]; omega
        · obtain rfl : k = g.nd.length := by omega
          go_wp2
          go_ret
          exact ⟨_, ret_bool rfl, fun _ => HS.out, HB.out.1.trans HO.out⟩
end Go.Proofs.Ytmnehonmbjnnaaa
