/- Chapter 18's example: its graphs, in plain words. (Written ahead of stage 18's code.) -/
import Derived.Test.YtmnehonmbjnnaaaCaMatch
import Derived.Test.YtmnehonmbjnnaaaGrProgB
namespace Go.Proofs.Ytmnehonmbjnnaaa
open Go.RowKit Go.Lib
set_option maxRecDepth 100000
set_option linter.unusedSimpArgs false
set_option linter.unusedVariables false

def gP : Gr := ⟨[⟨0, [(2, 1)], []⟩, ⟨1, [(2, 2)], []⟩, ⟨0, [(2, 0)], []⟩], [(2, 1)]⟩
def gQ : Gr := ⟨[⟨0, [(2, 1)], []⟩, ⟨0, [(2, 2)], []⟩, ⟨1, [(2, 0)], []⟩], [(2, 2)]⟩
def gR : Gr := ⟨[⟨1, [(2, 1)], []⟩, ⟨0, [(2, 2)], []⟩, ⟨0, [(2, 0)], []⟩], [(2, 0)]⟩
def gS : Gr := ⟨[⟨0, [(2, 1)], []⟩, ⟨1, [(2, 2)], []⟩, ⟨5, [(2, 0)], []⟩], [(2, 1)]⟩
def gT : Gr := ⟨[⟨1, [(2, 1)], []⟩, ⟨5, [(2, 2)], []⟩, ⟨0, [(2, 0)], []⟩], [(2, 0)]⟩
theorem gP_ok : grOk gP = true := by decide
theorem gQ_ok : grOk gQ = true := by decide
theorem gS_ok : grOk gS = true := by decide
theorem gP_rn : rnE gP [2, 0, 1] = 0 ∧ rnG gP [2, 0, 1] = gQ := ⟨by decide, by unfold rnG; rw [if_pos (by decide)]; rfl⟩
theorem gP_l : flatL gP 0 = [1, 2, 0] := by
  unfold flatL
  rw [if_pos gP_ok]
  decide +kernel
theorem gQ_l : flatL gQ 0 = [2, 0, 1] := by
  unfold flatL
  rw [if_pos gQ_ok]
  decide +kernel
theorem gS_l : flatL gS 0 = [1, 2, 0] := by
  unfold flatL
  rw [if_pos gS_ok]
  decide +kernel
theorem gP_c : canG gP = gR := by rw [canG_is gP_ok, gP_l]; rfl
theorem gQ_c : canG gQ = gR := by rw [canG_is gQ_ok, gQ_l]; rfl
theorem gS_c : canG gS = gT := by rw [canG_is gS_ok, gS_l]; rfl
theorem gPQ : alikeB gP gQ = true := alike_iff.2 ⟨gP_ok, gQ_ok, gP_c.trans gQ_c.symm⟩
theorem gPS : alikeB gP gS = false := by
  cases h : alikeB gP gS with
  | false => rfl
  | true =>
    have := (alike_iff.1 h).2.2
    rw [gP_c, gS_c] at this
    have h2 := congrArg (fun g : Gr => g.nd.map (·.kd)) this
    revert h2
    decide
theorem gPQ_m : matchL gP gQ = [1, 2, 0] := by
  unfold matchL
  rw [gPQ, if_pos rfl]
  unfold toL
  rw [gP_l, gQ_l]
  decide +kernel
theorem gPS_m : matchL gP gS = [] := by
  unfold matchL
  rw [gPS]; rfl
theorem gQ_e : flatE gQ = 0 := if_pos gQ_ok
theorem gP_fit : GrFit gP := ⟨fun d hd => by simp [gP] at hd; rcases hd with rfl | rfl | rfl <;> simp, fun d hd v hv => by simp [gP] at hd; rcases hd with rfl | rfl | rfl <;> (simp at hv; subst hv; simp), fun d hd v hv => by simp [gP] at hd; rcases hd with rfl | rfl | rfl <;> simp at hv, fun v hv => by simp [gP] at hv; subst hv; simp⟩
theorem gQ_fit : GrFit gQ := ⟨fun d hd => by simp [gQ] at hd; rcases hd with rfl | rfl | rfl <;> simp, fun d hd v hv => by simp [gQ] at hd; rcases hd with rfl | rfl | rfl <;> (simp at hv; subst hv; simp), fun d hd v hv => by simp [gQ] at hd; rcases hd with rfl | rfl | rfl <;> simp at hv, fun v hv => by simp [gQ] at hv; subst hv; simp⟩
theorem gS_fit : GrFit gS := ⟨fun d hd => by simp [gS] at hd; rcases hd with rfl | rfl | rfl <;> simp, fun d hd v hv => by simp [gS] at hd; rcases hd with rfl | rfl | rfl <;> (simp at hv; subst hv; simp), fun d hd v hv => by simp [gS] at hd; rcases hd with rfl | rfl | rfl <;> simp at hv, fun v hv => by simp [gS] at hv; subst hv; simp⟩

/-! ### A node's Kind is written -/
theorem ndc_setK : ∀ (l : List Nd) (hs : List (Value × Value)) (i : Nat) (d : Nd) (k : Int), l[i]? = some d → hs.length = l.length → (ndc l hs).set (i * 3) (.int .i64 k) = ndc (l.set i ⟨k, d.fs, d.rs⟩) hs
  | [], _, _, _, _, hd, _ => by cases hd
  | _ :: _, [], _, _, _, _, e => by cases e
  | x :: l, y :: hs, 0, d, k, hd, _ => by
    obtain rfl : x = d := by simpa using hd
    rfl
  | x :: l, y :: hs, i + 1, d, k, hd, e => by
    have := ndc_setK l hs i d k (by simpa using hd) (by simpa using e)
    rw [show (i + 1) * 3 = i * 3 + 3 by omega]
    show (ndE x y ++ ndc l hs).set (i * 3 + 3) _ = ndE x y ++ ndc (l.set i ⟨k, d.fs, d.rs⟩) hs
    rw [← this]
    rfl
theorem OwG.putK {w : World} {base bb n c : Nat} {g : Gr} {vr : Value} {hs : List (Value × Value)} (h : OwG w base g (.slice (some ⟨bb, 0, none⟩) n c) vr hs) {i : Nat} {d : Nd} (hd : g.nd[i]? = some d) (k : Int) :
    OwG (w.setCell ⟨bb, i * 3, none⟩ (.int .i64 k)) base ⟨g.nd.set i ⟨k, d.fs, d.rs⟩, g.rt⟩ (.slice (some ⟨bb, 0, none⟩) n c) vr hs := by
  have hlt := (List.getElem?_eq_some_iff.1 hd).1
  obtain ⟨cs, hb⟩ := own_blk16 h.nodes (k := bb) rfl
  have hn : n = g.nd.length := by
    obtain ⟨A, c', e, -⟩ := own_len h.nodes
    simp only [Value.slice.injEq] at e
    exact e.2.1
  have q1 := own_set16 (hn ▸ h.nodes : w.ownsRow base 41 3 (.slice (some ⟨bb, 0, none⟩) n c) n (ndc g.nd hs)) (i * 3) (by omega) (.int .i64 k)
  rw [ndc_setK _ _ _ _ k hd h.len] at q1
  have hne : ∀ {E s m v x}, w.ownsRow base E s v m x → 41 ≠ E → ∀ j, v.ownBlock = some j → ¬ isb bb j := fun hw hE j e e2 => by
    unfold isb at e2
    subst e2
    exact blk_own_ne16 hb hw hE e
  refine ⟨by simpa using h.len, by simpa [hn] using q1, fun j d' x hd' hx => ?_, h.apart, own_only h.roots (only_set w bb _ _) (hne h.roots (by decide)), h.far⟩
  by_cases e : i = j
  · subst e
    have hd2 : d' = ⟨k, d.fs, d.rs⟩ := by
      have : (g.nd.set i ⟨k, d.fs, d.rs⟩)[i]? = some d' := hd'
      rw [List.getElem?_set_self hlt] at this
      exact (Option.some.inj this).symm
    subst hd2
    have hr := h.rows i d x hd hx
    exact ⟨own_only hr.fs (only_set w bb _ _) (hne hr.fs (by decide)), own_only hr.rs (only_set w bb _ _) (hne hr.rs (by decide))⟩
  · have hd2 : g.nd[j]? = some d' := by
      have : (g.nd.set i ⟨k, d.fs, d.rs⟩)[j]? = some d' := hd'
      rwa [List.getElem?_set_ne e] at this
    have hr := h.rows j d' x hd2 hx
    exact ⟨own_only hr.fs (only_set w bb _ _) (hne hr.fs (by decide)), own_only hr.rs (only_set w bb _ _) (hne hr.rs (by decide))⟩
end Go.Proofs.Ytmnehonmbjnnaaa
