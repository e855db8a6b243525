/- The document's own answer for graphs: nodes in another order. -/
import Derived.Test.YtkjdnccnfnhkoaaHeldX
import Derived.Test.YtkjdnccnfnhkoaaRefGr
import Derived.Test.YtkjdnccnfnhkoaaGrProgB
import Derived.Test.YtkjdnccnfnhkoaaGrProgA
import Derived.Test.YtkjdnccnfnhkoaaMem
import Derived.Deep.RegionHeld3
import Derived.OrdersHeld
namespace Go.Proofs.Ytkjdnccnfnhkoaa
open Go.RowKit Go.Lib
set_option maxRecDepth 100000
set_option linter.unusedSimpArgs false
set_option linter.unusedVariables false

theorem plc_here {o : List Int} {k : Nat} {x : Int} (hx : o[k]? = some x) : plc o x = k ↔ x ∉ o.take k := by
  constructor
  · intro e hm
    obtain ⟨j, hj⟩ := List.getElem?_of_mem hm
    have hjk : j < k := by have := (List.getElem?_eq_some_iff.1 hj).1; rw [List.length_take] at this; omega
    rw [List.getElem?_take, if_pos hjk] at hj
    have hmem : x ∈ o := List.mem_of_getElem? hx
    rw [plc_in hmem] at e
    have hle : o.idxOf x ≤ j := by
      rcases Nat.lt_or_ge j (o.idxOf x) with h | h
      · have h3 := List.not_of_lt_findIdx (p := (· == x)) (xs := o) (i := j) h
        obtain ⟨hjl, h4⟩ := List.getElem?_eq_some_iff.1 hj
        rw [h4] at h3
        simp at h3
      · exact h
    omega
  · intro hn
    exact plc_first hx fun j y hj hy e => hn (by
      subst e
      have : (o.take k)[j]? = some y := by rw [List.getElem?_take, if_pos hj]; exact hy
      exact List.mem_of_getElem? this)
theorem two_boxes16 (w : World) (vn vr : Value) : ∃ V, ((w.alloc (.cells #[vn, vr] 25)).alloc (.cells #[.slice none 0 0, .slice none 0 0] 25)) = V ∧ Hid (Only nob w V ∧ Blk V w.heap.size 25 #[vn, vr] ∧ Blk V (w.heap.size + 1) 25 #[.slice none 0 0, .slice none 0 0]) :=
  ⟨_, rfl, Lib.hid ⟨((Only.refl nob w).alloc _).alloc _, (Blk.new w _ _).alloc _, Blk.newAt _ _ _ _ (by simp)⟩⟩
theorem put_graph16 {W : World} {b : Nat} {a0 a1 : Value} (B1 : Blk W b 25 #[a0, a1]) (x0 x1 : Value) : ∃ U, ((W.setCell ⟨b, 0, none⟩ x0).setCell ⟨b, 1, none⟩ x1) = U ∧ Only (isb b) W U ∧ Blk U b 25 #[x0, x1] :=
  ⟨_, rfl, (only_set _ _ _ _).trans (only_set _ _ _ _), by simpa using (B1.put 0 x0).put 1 x1⟩
/-- What the document's second loop holds. -/
structure Nds (w : World) (base B : Nat) (l : List Nd) (js : List (Value × Value)) : Prop where
  len : js.length = l.length
  each : ∀ (i : Nat) d h, l[i]? = some d → js[i]? = some h → w.ownsRow base 45 2 h.1 d.fs.length (spc d.fs) ∧ Sl w B 1 h.2 d.rs.length (u64s d.rs)
theorem Nds.snoc {w : World} {base B : Nat} {l : List Nd} {js : List (Value × Value)} (H : Nds w base B l js) {d : Nd} {h : Value × Value} (h1 : w.ownsRow base 45 2 h.1 d.fs.length (spc d.fs)) (h2 : Sl w B 1 h.2 d.rs.length (u64s d.rs)) : Nds w base B (l ++ [d]) (js ++ [h]) := by
  refine ⟨by simp [H.len], fun i d' h' hd hh => ?_⟩
  rcases Nat.lt_or_ge i l.length with hi | hi
  · rw [List.getElem?_append_left hi] at hd
    rw [List.getElem?_append_left (by rw [H.len]; omega)] at hh
    exact H.each i d' h' hd hh
  · have hi2 : i = l.length := by
      have := (List.getElem?_eq_some_iff.1 hd).1
      simp at this
      omega
    rw [hi2, List.getElem?_append_right (Nat.le_refl _), Nat.sub_self] at hd
    rw [hi2, List.getElem?_append_right (by rw [H.len]; omega), H.len, Nat.sub_self] at hh
    obtain rfl : d = d' := by simpa using hd
    obtain rfl : h = h' := by simpa using hh
    exact ⟨h1, h2⟩
theorem Nds.keep {F : Nat → Prop} {w w' : World} {base B : Nat} {l : List Nd} {js : List (Value × Value)} (H : Nds w base B l js) (o : Only F w w') (hB : B ≤ w.heap.size) (h1 : ∀ k, F k → B ≤ k) (h2 : ∀ s n v x, w.ownsRow base 45 s v n x → ∀ k, v.ownBlock = some k → ¬ F k) : Nds w' base B l js :=
  ⟨H.len, fun i d h hd hh => ⟨own_only (H.each i d h hd hh).1 o (h2 _ _ _ _ (H.each i d h hd hh).1), (H.each i d h hd hh).2.only o hB h1⟩⟩
theorem Nds.nob {w w' : World} {base B : Nat} {l : List Nd} {js : List (Value × Value)} (H : Nds w base B l js) (o : Only nob w w') (hB : B ≤ w.heap.size) : Nds w' base B l js :=
  H.keep o hB (fun _ h => h.elim) fun _ _ _ _ _ _ _ h => h
theorem ndc_map16 {o : List Int} : ∀ (l : List Nd) (js : List (Value × Value)), ndc (l.map (ndT o)) js = ndc l js
  | [], _ => by simp [ndc]
  | _ :: _, [] => by simp [ndc]
  | d :: l, h :: js => by
    have := ndc_map16 (o := o) l js
    simp only [List.map_cons, ndc, this]
    rfl
end Go.Proofs.Ytkjdnccnfnhkoaa

/- The document's own answer for graphs: two graphs held against one another. -/
namespace Go.Proofs.Ytkjdnccnfnhkoaa
open Go.RowKit Go.Lib
set_option maxRecDepth 100000
set_option linter.unusedSimpArgs false
set_option linter.unusedVariables false

theorem sameG_rt {a b : Gr} (h : decide (a.rt = b.rt) = false) : sameG a b = false := by
  cases e : sameG a b with
  | false => rfl
  | true => exact absurd (sameG_iff.1 e).2 (of_decide_eq_false h)
theorem sameG_len {a b : Gr} (h : a.nd.length ≠ b.nd.length) : sameG a b = false := by
  cases e : sameG a b with
  | false => rfl
  | true => exact absurd (by rw [(sameG_iff.1 e).1]) h
theorem sameG_at {a b : Gr} {k : Nat} {x y : Nd} (hx : a.nd[k]? = some x) (hy : b.nd[k]? = some y) (h : sameN x y = false) : sameG a b = false := by
  cases e : sameG a b with
  | false => rfl
  | true =>
    have e2 := (sameG_iff.1 e).1
    rw [e2, hy] at hx
    rw [sameN_iff.2 (Option.some.inj hx).symm] at h
    cases h
theorem sameG_all {a b : Gr} (hl : a.nd.length = b.nd.length) (hr : decide (a.rt = b.rt) = true) (h : ∀ (j : Nat) x, j < a.nd.length → a.nd[j]? = some x → b.nd[j]? = some x) : sameG a b = true :=
  sameG_iff.2 ⟨eq_all16 hl h, of_decide_eq_true hr⟩
theorem two_nodes16 (w : World) (k k' : Int) (fv rv fv' rv' : Value) : ∃ V, ((w.alloc (.cells #[.int .i64 k, fv, rv] 43)).alloc (.cells #[.int .i64 k', fv', rv'] 43)).drew = V ∧ Only nob w V ∧ Blk V w.heap.size 43 #[.int .i64 k, fv, rv] ∧ Blk V (w.heap.size + 1) 43 #[.int .i64 k', fv', rv'] := by
  have h1 := (Blk.new w 43 #[.int .i64 k, fv, rv]).alloc (.cells #[.int .i64 k', fv', rv'] 43)
  have h2 := Blk.newAt (w.alloc (.cells #[.int .i64 k, fv, rv] 43)) 43 #[.int .i64 k', fv', rv'] (w.heap.size + 1) (by simp)
  exact ⟨_, rfl, (((Only.refl nob w).alloc _).alloc _).drewN 1, h1, h2⟩
end Go.Proofs.Ytkjdnccnfnhkoaa



/- The document's own answer for graphs: a copy. (Printed by wip/tools/gen_copy16.py.) -/
namespace Go.Proofs.Ytkjdnccnfnhkoaa
open Go.RowKit Go.Lib
set_option maxRecDepth 100000
set_option linter.unusedSimpArgs false
set_option linter.unusedVariables false

theorem lit16 (w : World) (T : TypeId) (sz : Nat) : ∃ X, w.alloc (.cells #[] T) = X ∧ Only nob w X ∧ X.ownsRow w.heap.size T sz (.slice (some ⟨w.heap.size, 0, none⟩) 0 0) 0 [] := ⟨_, rfl, (Only.refl nob w).alloc _, lit_own w T sz⟩
/-- What the loop of Copy holds when k nodes are copied. -/
def CpI (w : World) (g : Gr) (vn vr ur : Value) (xb : Nat) (wx : World) (k : Nat) : Prop := ∃ Ax cx js, js.length = (g.nd.take k).length ∧ wx.ownsRow w.heap.size 43 3 (.slice Ax k cx) k (ndc (g.nd.take k) js) ∧ RwO wx w.heap.size (g.nd.take k) js ∧ wx.ownsRow w.heap.size 45 2 ur g.rt.length (spc g.rt) ∧
  Blk wx xb 25 #[.slice Ax k cx, ur] ∧ Blk wx w.heap.size 25 #[vn, vr] ∧ Blk wx (w.heap.size + 1) 25 #[.slice none 0 0, .slice none 0 0] ∧ Only nob w wx
end Go.Proofs.Ytkjdnccnfnhkoaa
