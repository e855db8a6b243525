/- The document's own plans in memory: a row of the state grows by one. -/
import Derived.Test.YtkjdnccnfnhkoaaRef17B
namespace Go.Proofs.Ytkjdnccnfnhkoaa
open Go.RowKit Go.Lib
set_option maxRecDepth 100000
set_option linter.unusedSimpArgs false
set_option linter.unusedVariables false

theorem blk_ne17 {w : World} {b2 g : Nat} {t E2 : TypeId} {cs : Array Value} {s2 n2 : Nat} {v2 : Value} {x2 : List Value} (h1 : Blk w g t cs) (h2 : w.ownsRow b2 E2 s2 v2 n2 x2) (hE : t ≠ E2) : ¬ v2.ownBlock = some g := by
  intro e2
  rcases h2.2 with ⟨rfl, -⟩ | ⟨g2, c2, cur2, rfl, _, hg2, -⟩
  · cases e2
  · have h2 : g2 = g := Option.some.inj e2
    unfold Blk at h1
    rw [h2, h1] at hg2
    have := Option.some.inj hg2
    injection this with _ e
    exact hE e
theorem own_ne17 {w : World} {b1 b2 : Nat} {E1 E2 : TypeId} {s1 s2 n1 n2 : Nat} {v1 v2 : Value} {x1 x2 : List Value} (h1 : w.ownsRow b1 E1 s1 v1 n1 x1) (h2 : w.ownsRow b2 E2 s2 v2 n2 x2) (hE : E1 ≠ E2) : ∀ k, v1.ownBlock = some k → ¬ v2.ownBlock = some k := by
  intro k e1
  rcases h1.2 with ⟨rfl, -⟩ | ⟨g1, c1, cur1, rfl, _, hg1, -⟩
  · cases e1
  · have h3 : g1 = k := Option.some.inj e1
    rw [h3] at hg1
    exact blk_ne17 (t := E1) hg1 h2 hE
theorem apart_new17 {u v v' : Value} {N : Nat} (h : ∀ k, u.ownBlock = some k → ¬ v.ownBlock = some k) (hu : ∀ k, u.ownBlock = some k → k < N) (hv : v'.ownBlock = v.ownBlock ∨ v'.ownBlock = some N) : ∀ k, u.ownBlock = some k → ¬ v'.ownBlock = some k := by
  intro k e1 e2
  rcases hv with hv | hv
  · exact h k e1 (hv ▸ e2)
  · have := hu k e1
    rw [hv] at e2
    have := Option.some.inj e2
    omega
theorem apart_flip17 {u v : Value} (h : ∀ k, u.ownBlock = some k → ¬ v.ownBlock = some k) : ∀ k, v.ownBlock = some k → ¬ u.ownBlock = some k := fun k e1 e2 => h k e2 e1
section
variable {W Wa W6 : World} {b base : Nat} {vn vr v6 : Value} {lim blk : Int} {v : PV} {s : PSt}
theorem pm_app_s (h : Pm W b base vn vr lim blk v s) (oa : Only nob W Wa) (x : Int) (H6 : W6.ownsRow base 3 1 v6 (s.small.length + 1) (i64s s.small ++ i64s [x])) (o6 : Only (fun k => v.s.ownBlock = some k) Wa W6) (hv : v6.ownBlock = v.s.ownBlock ∨ v6.ownBlock = some Wa.heap.size) :
    Pm (W6.setCell ⟨b, 4, none⟩ v6) b base vn vr lim blk { v with s := v6 } { s with small := s.small ++ [x] } := by
  have A := h.nob oa
  have HB := A.box.keep o6 (blk_ne17 A.box A.sm (by decide))
  have ho := only_set W6 b 4 v6
  have he : i64s (s.small ++ [x]) = i64s s.small ++ i64s [x] := by simp [i64s]
  have kb := own_only A.bg o6 (apart_flip17 A.sb)
  have kl := own_only A.lk o6 (own_ne17 A.lk A.sm (by decide))
  have kg := own_only A.lg o6 (apart_flip17 A.sg)
  have kp := own_only A.pl o6 (apart_flip17 A.sp)
  have ne : ∀ {E : TypeId} {n : Nat} {u : Value} {xs : List Value}, W6.ownsRow base E 1 u n xs → 61 ≠ E → ∀ k, u.ownBlock = some k → ¬ isb b k := fun hw hE k e e2 => by
    unfold isb at e2
    subst e2
    exact blk_ne17 HB hw hE e
  exact ⟨(by simpa using HB.put 4 v6), h.new, (by rw [he, List.length_append]; exact own_only H6 ho (ne H6 (by decide))), (own_only kb ho (ne kb (by decide))), (own_only kl ho (ne kl (by decide))), (own_only kg ho (ne kg (by decide))), (own_only kp ho (ne kp (by decide))), (apart_flip17 (apart_new17 (apart_flip17 A.sb) (fun k e => (own_lt A.bg e).2) hv)), (apart_flip17 (apart_new17 (apart_flip17 A.sg) (fun k e => (own_lt A.lg e).2) hv)), (apart_flip17 (apart_new17 (apart_flip17 A.sp) (fun k e => (own_lt A.pl e).2) hv)), A.bgx, A.bp, A.gp⟩
theorem pm_app_b (h : Pm W b base vn vr lim blk v s) (oa : Only nob W Wa) (x : Int) (H6 : W6.ownsRow base 3 1 v6 (s.begins.length + 1) (i64s s.begins ++ i64s [x])) (o6 : Only (fun k => v.b.ownBlock = some k) Wa W6) (hv : v6.ownBlock = v.b.ownBlock ∨ v6.ownBlock = some Wa.heap.size) :
    Pm (W6.setCell ⟨b, 5, none⟩ v6) b base vn vr lim blk { v with b := v6 } { s with begins := s.begins ++ [x] } := by
  have A := h.nob oa
  have HB := A.box.keep o6 (blk_ne17 A.box A.bg (by decide))
  have ho := only_set W6 b 5 v6
  have he : i64s (s.begins ++ [x]) = i64s s.begins ++ i64s [x] := by simp [i64s]
  have ks := own_only A.sm o6 A.sb
  have kl := own_only A.lk o6 (own_ne17 A.lk A.bg (by decide))
  have kg := own_only A.lg o6 (apart_flip17 A.bgx)
  have kp := own_only A.pl o6 (apart_flip17 A.bp)
  have ne : ∀ {E : TypeId} {n : Nat} {u : Value} {xs : List Value}, W6.ownsRow base E 1 u n xs → 61 ≠ E → ∀ k, u.ownBlock = some k → ¬ isb b k := fun hw hE k e e2 => by
    unfold isb at e2
    subst e2
    exact blk_ne17 HB hw hE e
  exact ⟨(by simpa using HB.put 5 v6), h.new, (own_only ks ho (ne ks (by decide))), (by rw [he, List.length_append]; exact own_only H6 ho (ne H6 (by decide))), (own_only kl ho (ne kl (by decide))), (own_only kg ho (ne kg (by decide))), (own_only kp ho (ne kp (by decide))), (apart_new17 A.sb (fun k e => (own_lt A.sm e).2) hv), A.sg, A.sp, (apart_flip17 (apart_new17 (apart_flip17 A.bgx) (fun k e => (own_lt A.lg e).2) hv)), (apart_flip17 (apart_new17 (apart_flip17 A.bp) (fun k e => (own_lt A.pl e).2) hv)), A.gp⟩
theorem pm_app_l (h : Pm W b base vn vr lim blk v s) (oa : Only nob W Wa) (x : Bool) (H6 : W6.ownsRow base 4 1 v6 (s.looked.length + 1) (boos s.looked ++ boos [x])) (o6 : Only (fun k => v.l.ownBlock = some k) Wa W6) (hv : v6.ownBlock = v.l.ownBlock ∨ v6.ownBlock = some Wa.heap.size) :
    Pm (W6.setCell ⟨b, 6, none⟩ v6) b base vn vr lim blk { v with l := v6 } { s with looked := s.looked ++ [x] } := by
  have A := h.nob oa
  have HB := A.box.keep o6 (blk_ne17 A.box A.lk (by decide))
  have ho := only_set W6 b 6 v6
  have he : boos (s.looked ++ [x]) = boos s.looked ++ boos [x] := by simp [boos]
  have ks := own_only A.sm o6 (own_ne17 A.sm A.lk (by decide))
  have kb := own_only A.bg o6 (own_ne17 A.bg A.lk (by decide))
  have kg := own_only A.lg o6 (own_ne17 A.lg A.lk (by decide))
  have kp := own_only A.pl o6 (own_ne17 A.pl A.lk (by decide))
  have ne : ∀ {E : TypeId} {n : Nat} {u : Value} {xs : List Value}, W6.ownsRow base E 1 u n xs → 61 ≠ E → ∀ k, u.ownBlock = some k → ¬ isb b k := fun hw hE k e e2 => by
    unfold isb at e2
    subst e2
    exact blk_ne17 HB hw hE e
  exact ⟨(by simpa using HB.put 6 v6), h.new, (own_only ks ho (ne ks (by decide))), (own_only kb ho (ne kb (by decide))), (by rw [he, List.length_append]; exact own_only H6 ho (ne H6 (by decide))), (own_only kg ho (ne kg (by decide))), (own_only kp ho (ne kp (by decide))), A.sb, A.sg, A.sp, A.bgx, A.bp, A.gp⟩
theorem pm_app_g (h : Pm W b base vn vr lim blk v s) (oa : Only nob W Wa) (x : Int) (H6 : W6.ownsRow base 3 1 v6 (s.large.length + 1) (i64s s.large ++ i64s [x])) (o6 : Only (fun k => v.g.ownBlock = some k) Wa W6) (hv : v6.ownBlock = v.g.ownBlock ∨ v6.ownBlock = some Wa.heap.size) :
    Pm (W6.setCell ⟨b, 7, none⟩ v6) b base vn vr lim blk { v with g := v6 } { s with large := s.large ++ [x] } := by
  have A := h.nob oa
  have HB := A.box.keep o6 (blk_ne17 A.box A.lg (by decide))
  have ho := only_set W6 b 7 v6
  have he : i64s (s.large ++ [x]) = i64s s.large ++ i64s [x] := by simp [i64s]
  have ks := own_only A.sm o6 A.sg
  have kb := own_only A.bg o6 A.bgx
  have kl := own_only A.lk o6 (own_ne17 A.lk A.lg (by decide))
  have kp := own_only A.pl o6 (apart_flip17 A.gp)
  have ne : ∀ {E : TypeId} {n : Nat} {u : Value} {xs : List Value}, W6.ownsRow base E 1 u n xs → 61 ≠ E → ∀ k, u.ownBlock = some k → ¬ isb b k := fun hw hE k e e2 => by
    unfold isb at e2
    subst e2
    exact blk_ne17 HB hw hE e
  exact ⟨(by simpa using HB.put 7 v6), h.new, (own_only ks ho (ne ks (by decide))), (own_only kb ho (ne kb (by decide))), (own_only kl ho (ne kl (by decide))), (by rw [he, List.length_append]; exact own_only H6 ho (ne H6 (by decide))), (own_only kp ho (ne kp (by decide))), A.sb, (apart_new17 A.sg (fun k e => (own_lt A.sm e).2) hv), A.sp, (apart_new17 A.bgx (fun k e => (own_lt A.bg e).2) hv), A.bp, (apart_flip17 (apart_new17 (apart_flip17 A.gp) (fun k e => (own_lt A.pl e).2) hv))⟩
theorem pm_app_p (h : Pm W b base vn vr lim blk v s) (oa : Only nob W Wa) (x : Int) (H6 : W6.ownsRow base 3 1 v6 (s.pile.length + 1) (i64s s.pile ++ i64s [x])) (o6 : Only (fun k => v.p.ownBlock = some k) Wa W6) (hv : v6.ownBlock = v.p.ownBlock ∨ v6.ownBlock = some Wa.heap.size) :
    Pm (W6.setCell ⟨b, 8, none⟩ v6) b base vn vr lim blk { v with p := v6 } { s with pile := s.pile ++ [x] } := by
  have A := h.nob oa
  have HB := A.box.keep o6 (blk_ne17 A.box A.pl (by decide))
  have ho := only_set W6 b 8 v6
  have he : i64s (s.pile ++ [x]) = i64s s.pile ++ i64s [x] := by simp [i64s]
  have ks := own_only A.sm o6 A.sp
  have kb := own_only A.bg o6 A.bp
  have kl := own_only A.lk o6 (own_ne17 A.lk A.pl (by decide))
  have kg := own_only A.lg o6 A.gp
  have ne : ∀ {E : TypeId} {n : Nat} {u : Value} {xs : List Value}, W6.ownsRow base E 1 u n xs → 61 ≠ E → ∀ k, u.ownBlock = some k → ¬ isb b k := fun hw hE k e e2 => by
    unfold isb at e2
    subst e2
    exact blk_ne17 HB hw hE e
  exact ⟨(by simpa using HB.put 8 v6), h.new, (own_only ks ho (ne ks (by decide))), (own_only kb ho (ne kb (by decide))), (own_only kl ho (ne kl (by decide))), (own_only kg ho (ne kg (by decide))), (by rw [he, List.length_append]; exact own_only H6 ho (ne H6 (by decide))), A.sb, A.sg, (apart_new17 A.sp (fun k e => (own_lt A.sm e).2) hv), A.bgx, (apart_new17 A.bp (fun k e => (own_lt A.bg e).2) hv), (apart_new17 A.gp (fun k e => (own_lt A.lg e).2) hv)⟩
end
end Go.Proofs.Ytkjdnccnfnhkoaa
