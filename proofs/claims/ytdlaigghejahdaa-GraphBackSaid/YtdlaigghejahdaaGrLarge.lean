/- The law's Large: an answer of either kind; false only for a graph of few nodes and roots. -/
import Derived.Test.YtdlaigghejahdaaRef16
import Derived.Test.YtdlaigghejahdaaGrTell
import Derived.Lib.SliceRun
import Derived.WalkKit
import Derived.BigQuiet
import Derived.Laws.Small
namespace Go.Proofs.Ytdlaigghejahdaa
open Go.RowKit Go.Lib
set_option maxRecDepth 100000
set_option linter.unusedSimpArgs false
set_option linter.unusedVariables false

def LargeP (g : Gr) (w : World) (e : Ending) (w' : World) : Prop := ∃ b : Bool, e = .returned (.bool b) ∧ (b = false → g.nd.length ≤ 60 ∧ g.rt.length ≤ 100) ∧ Only nob w w'
def LargeGC (f : FuncId) : Prop := ∀ (g : Gr) (vn vr : Value) (hs : List (Value × Value)) (B : Nat) (w : World), RdG w B g vn vr hs → B ≤ w.heap.size →
  Calls Try.prog f #[.agg #[vn, vr]] w (LargeP g w)
theorem cap16 (n : Nat) : ∃ a : Nat, a ≤ 5000 ∧ (if (5000 : Int) < (n : Int) then (5000 : Int) else (n : Int)) = (a : Int) := by
  by_cases h : (5000 : Int) < n
  · exact ⟨5000, Nat.le_refl _, by rw [if_pos h]; rfl⟩
  · exact ⟨n, by omega, by rw [if_neg h]⟩
set_option maxHeartbeats 4000000 in
theorem large_any16 : LargeGC 6 := by
  intro g vn vr hs B w h hB
  have HR := Lib.hid h
  obtain ⟨A, c, rfl, hac, hcm⟩ := h.nodes.form
  obtain ⟨Ar, cr, rfl, harc, hcrm⟩ := h.roots.form
  unfold maxLen at hcm hcrm
  obtain ⟨W, hW, HB⟩ := box_graph w (.slice A g.nd.length c) (.slice Ar g.rt.length cr)
  have HW := Lib.hid hW
  obtain ⟨p, hp⟩ : ∃ p, p = w.heap.size := ⟨_, rfl⟩
  have HP := Lib.hid hp
  rw [← hp] at HB
  have c0 := HB.out.2.2.1
  have c1 := HB.out.2.2.2
  clear hW hp h
  by_cases h60 : (60 : Int) < (g.nd.length : Int)
  · go_enter Try.func6, Try.ntmps6
    go_upto_region 1 with fail
    rw [HW.out, ← HP.out]
    go_wp2
    go_ret
    exact ⟨_, ret_bool rfl, fun h => (by cases h), HB.out.1⟩
  · by_cases h100 : (100 : Int) < (g.rt.length : Int)
    · go_enter Try.func6, Try.ntmps6
      go_upto_region 1 with fail
      rw [HW.out, ← HP.out]
      go_wp2
      go_ret
      exact ⟨_, ret_bool rfl, fun h => (by cases h), HB.out.1⟩
    · have HS := Lib.hid (show g.nd.length ≤ 60 ∧ g.rt.length ≤ 100 by omega)
      have hl60 : g.nd.length ≤ 60 := HS.out.1
      go_enter Try.func6, Try.ntmps6
      go_upto_region 1 with fail
      rw [HW.out, ← HP.out]
      go_wp2_with fail
      clear h60 h100 c0 c1
      go_loopw [3, 4] (fun a i wr => ∃ k m : Nat, k ≤ g.nd.length ∧ m ≤ k * 10000 ∧ i = .int .i64 k ∧ a = .int .i64 m ∧ Hid (Only nob W wr)) (fun _ i _ => g.nd.length - (intOf i).toNat)
      case atStart => exact ⟨0, 0, Nat.zero_le _, Nat.zero_le _, rfl, rfl, Lib.hid (Only.refl _ _)⟩
      case round =>
        obtain ⟨k, m, hk, hm, rfl, rfl, HO⟩ := hrel
        have c0 := HO.out.keeps HB.out.2.2.1
        by_cases hlt : k < g.nd.length
        · obtain ⟨d, hd⟩ : ∃ x, g.nd[k]? = some x := ⟨_, List.getElem?_eq_getElem hlt⟩
          obtain ⟨bb, o, fv, rv, hA, hbb, hh', g0, g1, g2, hnd⟩ := HR.out.at_ ((HB.out.1.trans HO.out).below hB fun _ h => h.elim) hd
          obtain ⟨Af, cf, hfv, hafc, hcfm⟩ := hnd.fields.form
          obtain ⟨Arw, crw, hrv, harw, hcrw⟩ := hnd.raws.form
          simp only at hfv hrv
          subst hfv hrv
          obtain ⟨rfl, -⟩ : A = some ⟨bb, o, none⟩ ∧ True := by simpa using hA
          obtain ⟨a1, ha1, ea1⟩ := cap16 d.fs.length
          obtain ⟨a2, ha2, ea2⟩ := cap16 d.rs.length
          clear hd hh' hnd hA g0 hafc harw
          go_wp2
          go_quiet (fail)
          go_wp2
          go_roundw
          case rel => exact ⟨k + 1, m + (a1 + a2), by omega, by omega, by go_num, by go_num, Lib.hid (HO.out.drewN _)⟩
          case measure => simp [intOf]; omega
        · obtain rfl : k = g.nd.length := by omega
          go_wp2
          go_ret
          exact ⟨_, ret_bool rfl, fun _ => HS.out, HB.out.1.trans HO.out⟩
end Go.Proofs.Ytdlaigghejahdaa
