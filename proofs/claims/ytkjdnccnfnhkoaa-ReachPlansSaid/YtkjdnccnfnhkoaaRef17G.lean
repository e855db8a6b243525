/- The document's own plans: looking at fields, at once or later. -/
import Derived.Test.YtkjdnccnfnhkoaaRef17F
import Derived.Test.YtkjdnccnfnhkoaaRef17M
namespace Go.Proofs.Ytkjdnccnfnhkoaa
open Go.RowKit Go.Lib
set_option maxRecDepth 100000
set_option linter.unusedSimpArgs false
set_option linter.unusedVariables false

/-- A value meets. -/
theorem rMeet17 (W : World) (b base B : Nat) (g : Gr) (vn vr : Value) (hs : List (Value × Value)) (lim blk : Int) (v : PV) (s : PSt) (x : Sp) (h : Pm W b base vn vr lim blk v s) (hr : RdG W B g vn vr hs) (hB : B ≤ W.heap.size) (hbase : base ≤ W.heap.size) (hw : Wf g s) (hbg : Bg s) (hN : g.nd.length ≤ 1000)
    (hx : x.1 = 2 → 0 ≤ x.2 ∧ x.2 < (g.nd.length : Int)) :
    Calls Try.prog 57 #[.pointer (some ⟨b, 0, none⟩), .agg #[.int .i64 x.1, .int .i64 x.2]] W fun e w' => e = .returned (.bool (meetB g lim x s)) ∧ ∃ v', Pm w' b base vn vr lim blk v' (meetS g lim x s) ∧ Only (nb17 base) W w' := by
  have hr1 := hw.room
  rw [met_len] at hr1
  have hp := hw.pile_le
  have hk := hw.lk
  have hb := hw.bg
  have ht := hbg.tn
  cases hn : newS x s with
  | false =>
    obtain ⟨e1, e2⟩ := meet_old17 (g := g) (lim := lim) hn
    rw [e1, e2]
    refine (rMeetOld17 W b base vn vr lim blk v s x h hn).mono ?_
    rintro e w' ⟨rfl, o⟩
    exact ⟨rfl, v, h.nob o, nb_nob o⟩
  | true =>
    have hx2 := hx (new_yes17 hn).1
    by_cases hbig : lim < ndSz (ndAt g x.2)
    · rw [(meet_big17 hn hbig).2]
      exact rMeetBig17 W b base B g vn vr hs lim blk v s x h hr hB hbase hn hx2 hbig (by omega) (by omega)
    · rw [(meet_small17 hn hbig).2]
      exact rMeetSmall17 W b base B g vn vr hs lim blk v s x h hr hB hbase hn hx2 hbig (by omega) (by omega) (by omega) (by omega)
/-- A flag of a plan's state. -/
theorem pm_mark {W : World} {b base : Nat} {vn vr : Value} {lim blk : Int} {v : PV} {s : PSt} (h : Pm W b base vn vr lim blk v s) {gl n c : Nat} (hv : v.l = .slice (some ⟨gl, 0, none⟩) n c) {k : Nat} (hk : k < s.looked.length) :
    Pm (W.setCell ⟨gl, k, none⟩ (.bool true)) b base vn vr lim blk v (s.mark k) ∧ Only (nb17 base) W (W.setCell ⟨gl, k, none⟩ (.bool true)) := by
  have hown : v.l.ownBlock = some gl := by rw [hv]; rfl
  have ho := only_set W gl k (.bool true)
  have hne : ∀ {E : TypeId} {n : Nat} {u : Value} {xs : List Value}, W.ownsRow base E 1 u n xs → E ≠ 4 → ∀ j, u.ownBlock = some j → ¬ isb gl j := fun hw hE j e e2 => by
    unfold isb at e2
    subst e2
    exact own_ne17 hw h.lk hE j e hown
  refine ⟨⟨h.box.keep ho fun e => by unfold isb at e; subst e; exact blk_ne17 h.box h.lk (by decide) hown, h.new, own_only h.sm ho (hne h.sm (by decide)), own_only h.bg ho (hne h.bg (by decide)), ?_, own_only h.lg ho (hne h.lg (by decide)), own_only h.pl ho (hne h.pl (by decide)), h.sb, h.sg, h.sp, h.bgx, h.bp, h.gp⟩, ho.mono fun j _ e => by unfold isb at e; rw [e]; exact (own_lt h.lk hown).1⟩
  have hl := h.lk
  refine ⟨by unfold PSt.mark boos; simp, ?_⟩
  rcases hl.2 with ⟨h0, _⟩ | ⟨g2, cap, cur, e, hb, hg, h1, h2, h3, h4⟩
  · rw [hv] at h0; cases h0
  · rw [hv] at e
    simp only [Value.slice.injEq, Option.some.injEq, Addr.mk.injEq] at e
    obtain ⟨⟨rfl, -, -⟩, rfl, rfl⟩ := e
    have hB : Blk W gl 4 cur := hg
    refine .inr ⟨gl, c, _, ?_, hb, hB.put k (.bool true), ?_, h2, by simpa using h3, ?_⟩
    · rw [hv]; unfold PSt.mark; simp
    · unfold PSt.mark; simpa using h1
    · unfold PSt.mark
      simp only [List.length_set, Nat.mul_one] at h4 ⊢
      rw [Array.toList_setIfInBounds, List.take_set, h4]
      unfold boos
      rw [List.map_set]
structure LookP (b base B : Nat) (g : Gr) (vn vr : Value) (hs : List (Value × Value)) (lim blk : Int) (deep : Bool) (F : List Sp → PSt → PSt) (M : Nat) : Prop where
  call : ∀ (W : World) (v : PV) (s : PSt) (A : Option Addr) (c : Nat) (l : List Sp), Pm W b base vn vr lim blk v s → RdG W B g vn vr hs → B ≤ base → base ≤ W.heap.size → Wf g s → Bg s → Okl g l → g.nd.length ≤ M + s.met.length → Sl W B 2 (.slice A l.length c) l.length (spc l) →
    Calls Try.prog 44 #[.pointer (some ⟨b, 0, none⟩), .slice A l.length c, .bool deep] W fun e w' => e = .returned (.tuple #[]) ∧ ∃ v', Pm w' b base vn vr lim blk v' (F l s) ∧ Only (nb17 base) W w'
set_option maxHeartbeats 8000000 in
theorem lookW17 (b base B : Nat) (g : Gr) (vn vr : Value) (hs : List (Value × Value)) (lim blk : Int) (hg : grOk g = true) (hN : g.nd.length ≤ 1000) : LookP b base B g vn vr hs lim blk false (lookW g lim) 1000000 := by
  refine ⟨?_⟩
  intro W v s A c l h hr hB hbase hw hbg ho hM hl
  have HM := Lib.hid (fun (W' : World) (v' : PV) (k : Nat) (x : Sp) (h' : Pm W' b base vn vr lim blk v' (lookW g lim (l.take k) s)) (o : Only (nb17 base) W W') (hx : l[k]? = some x) =>
    have w1 := lookW_wf (lim := lim) (l.take k) s hw fun u hu => ho u (List.mem_of_mem_take hu)
    rMeet17 W' b base B g vn vr hs lim blk v' _ x h' (hr.below (o.below (Nat.le_trans hB hbase) fun _ hk => Nat.le_trans hB hk)) (Nat.le_trans (Nat.le_trans hB hbase) o.size) (Nat.le_trans hbase o.size) w1.1 (Bg.lookW hg (by omega) (l.take k) s hbg hw fun u hu => ho u (List.mem_of_mem_take hu)) hN fun h2 => (ho x (List.mem_of_getElem? hx) h2).1)
  have HS := Lib.hid (fun (k : Nat) (x : Sp) (hx : l[k]? = some x) => show meetS g lim x (lookW g lim (l.take k) s) = lookW g lim (l.take (k + 1)) s by rw [List.take_add_one, hx]; exact (lookW_snoc x _ s).symm)
  have HP := Lib.hid h
  have HL := Lib.hid hl
  have HBB := Lib.hid (And.intro hB hbase)
  obtain ⟨-, -, -, hac, hcm, -⟩ := id hl
  obtain ⟨n, hn⟩ : ∃ n, n = l.length := ⟨_, rfl⟩
  have HN := Lib.hid hn
  rw [← hn] at HL ⊢
  obtain ⟨F, hF⟩ : ∃ F, F = lookW g lim l s := ⟨_, rfl⟩
  have HF := Lib.hid hF
  rw [← hF]
  have hnb : n ≤ 9223372036854775807 := by
    have := hl.form
    obtain ⟨A', c', e, h1, h2⟩ := this
    unfold maxLen at h2
    simp only [Value.slice.injEq] at e
    omega
  clear h hr hB hbase hw hbg ho hM hl hn hF
  go_enter Try.func44, Try.ntmps44
  go_wp2_with fail
  go_loopw [6, 7] (fun i _ wr => ∃ (k : Nat) (v' : PV), k ≤ n ∧ i = .int .i64 k ∧ Hid (Pm wr b base vn vr lim blk v' (lookW g lim (l.take k) s)) ∧ Hid (Only (nb17 base) W wr)) (fun i _ _ => n - (intOf i).toNat)
  case atStart => exact ⟨0, v, Nat.zero_le _, rfl, HP, Lib.hid (Only.refl _ _)⟩
  case round =>
    obtain ⟨k, v', hk, rfl, HPk, HO⟩ := hrel
    by_cases hlt : k < n
    · obtain ⟨x, hx⟩ : ∃ x, l[k]? = some x := ⟨_, List.getElem?_eq_getElem (by rw [← HN.out]; exact hlt)⟩
      have HMk := Lib.hid (HM.out wr v' k x HPk.out HO.out hx)
      rw [HS.out k x hx] at HMk
      obtain ⟨vs, vb, vl, vg, vp⟩ := v'
      obtain ⟨A1, k1, e1, hc1, hm1, -⟩ := Pm.sl HPk.out.sm
      simp only at e1
      subst e1
      have c4 : wr.cell? ⟨b, 4, none⟩ = some (.slice A1 (lookW g lim (l.take k) s).small.length k1) := HPk.out.box.cell 4
      obtain ⟨ns, hns⟩ : ∃ m, m = (lookW g lim (l.take k) s).small.length := ⟨_, rfl⟩
      rw [← hns] at c4
      obtain ⟨bs, os, c2, es, _, _, hbs, hcs⟩ := (HL.out.only HO.out (Nat.le_trans HBB.out.1 HBB.out.2) fun _ hk => Nat.le_trans HBB.out.1 hk).at_ (by omega)
      obtain ⟨rfl, rfl⟩ : A = some ⟨bs, os, none⟩ ∧ c = c2 := by simpa using es
      obtain ⟨q0, q1⟩ := spc_at hx
      have g0 := hcs _ _ q0
      have g1 := hcs _ _ q1
      rw [← Nat.add_assoc] at g1
      obtain ⟨x1, x2⟩ := x
      simp only at HMk g0 g1
      obtain ⟨mb, hmb⟩ : ∃ mb, mb = meetB g lim (x1, x2) (lookW g lim (l.take k) s) := ⟨_, rfl⟩
      rw [← hmb] at HMk
      clear hns hcs q0 q1 es hx hmb
      go_wp2_with fail
      go_at_call 57
      refine HMk.out.mono ?_
      rintro e w2 ⟨rfl, v2, P2, o2⟩
      have HP2 := Lib.hid P2
      have HO2 := Lib.hid (HO.out.trans o2)
      clear P2 o2 c4 g0 g1
      cases mb <;>
      · go_wp2
        go_roundw
        case rel => exact ⟨k + 1, v2, by omega, by go_num, HP2, HO2⟩
        case measure => simp [intOf]; omega
    · obtain rfl : k = n := by omega
      have HE := Lib.hid (show lookW g lim (l.take k) s = F by rw [HF.out, List.take_of_length_le (by rw [HN.out]; exact Nat.le_refl _)])
      rw [HE.out] at HPk
      go_wp2
      go_end0
      exact ⟨rfl, v', HPk.out, HO.out⟩
end Go.Proofs.Ytkjdnccnfnhkoaa
