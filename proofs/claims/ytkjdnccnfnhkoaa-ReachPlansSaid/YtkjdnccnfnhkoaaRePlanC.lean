/- Package reach: Plan. -/
import Derived.Test.YtkjdnccnfnhkoaaRePlanT
namespace Go.Proofs.Ytkjdnccnfnhkoaa
open Go.RowKit Go.Lib
set_option maxRecDepth 100000
set_option linter.unusedSimpArgs false
set_option linter.unusedVariables false

section
variable {W w' : World} {b mb tb mp base B : Nat} {g : Gr} {vn vr : Value} {hs : List (Value × Value)} {lim blk : Int}
/-- A plan in memory, and the graph. -/
def RB (b mb base B : Nat) (g : Gr) (vn vr : Value) (hs : List (Value × Value)) (lim : Int) (W : World) (q : QSt) : Prop := RdG W B g vn vr hs ∧ ∃ V, Qp W b mb base vn vr lim g.nd.length V q.s.met q
def RT (b mb tb mp base B : Nat) (g : Gr) (vn vr : Value) (hs : List (Value × Value)) (lim blk : Int) (W : World) (q : QSt) : Prop := RdG W B g vn vr hs ∧ ∃ V, Qp W b mb base vn vr lim g.nd.length V q.s.met q ∧ Tq W tb mp base b blk V q
theorem rows_mark {q : QSt} {i : Nat} : rowsQ { q with s := q.s.mark i } = rowsQ q := rfl
theorem rdg_ge (h : RdG W B g vn vr hs) (hB : B ≤ base) (hb : base ≤ W.heap.size) (o : Only (geB base) W w') : RdG w' B g vn vr hs := h.below (o.below (Nat.le_trans hB hb) fun _ hk => Nat.le_trans hB hk)
theorem Stp.ge {V V' : Int → Value} {M : List Int} {q : QSt} {n : Nat} (s : Stp b mb V V' W w') (h : Qp W b mb base vn vr lim n V M q) : Only (geB base) W w' := s.only.mono fun k _ hk => h.ge hk
theorem runC_first (hB : B ≤ base) (hN : g.nd.length ≤ 1000000) : RunC b base B g vn vr 22 ⟨b, 0, none⟩ (nxB g lim) (GB g) (RB b mb base B g vn vr hs lim) where
  enters := enters_of Try.func22 (by kernel_rfl) rfl
  next := fun W q hb ⟨hr, V, h⟩ hG => by
    refine (first17 W b mb base B g vn vr hs lim V q h hr hB hb hG.ok hN hG.lk.le).mono ?_
    rintro e w' ⟨V', rfl, h', s'⟩
    have o := s'.ge h
    refine ⟨?_, ⟨rdg_ge hr hB hb o, V', ?_⟩, o⟩
    · unfold nxB
      cases hf : firstQ g lim q with
      | mk o q' => cases o <;> rfl
    · unfold nxB
      revert h'
      cases hf : firstQ g lim q with
      | mk o q' =>
        intro h'
        cases o with
        | none => exact h'
        | some i => exact h'.says rfl rfl
  off := fun W q hb ⟨hr, V, h⟩ => by
    refine (offPile17 W b mb base _ vn vr lim V q h).mono ?_
    rintro e w' ⟨V', rfl, h', s'⟩
    have o := s'.ge h
    exact ⟨rfl, ⟨rdg_ge hr hB hb o, V', h'⟩, o⟩
  fol := fun W q A c l hb ⟨hr, V, h⟩ hl hn => by
    refine (follow17 W b mb base _ vn vr lim V _ q A c B l h hl hB hb hn).mono ?_
    rintro e w' ⟨V', rfl, h', s'⟩
    have o := s'.ge h
    exact ⟨rfl, ⟨rdg_ge hr hB hb o, V', h'⟩, o⟩
  cn := fun W q ⟨_, V, h⟩ => ⟨h.box.cell 0, h.box.cell 1⟩
theorem runC_fresh (hB : B ≤ base) (hN : g.nd.length ≤ 1000000) : RunC b base B g vn vr 23 ⟨b, 0, none⟩ (nxD g lim) (GD g) (RB b mb base B g vn vr hs lim) where
  enters := enters_of Try.func23 (by kernel_rfl) rfl
  next := fun W q hb ⟨hr, V, h⟩ hG => by
    refine (fresh17 W b mb base B g vn vr hs lim V q h hr hB hb hG.ok hN).mono ?_
    rintro e w' ⟨V', rfl, h', s'⟩
    have o := s'.ge h
    refine ⟨?_, ⟨rdg_ge hr hB hb o, V', ?_⟩, o⟩
    · unfold nxD
      cases hf : freshQ g lim q.ah q.s with
      | mk o r => cases o <;> rfl
    · unfold nxD
      revert h'
      cases hf : freshQ g lim q.ah q.s with
      | mk o r =>
        intro h'
        cases o with
        | none => exact h'
        | some i => exact h'.says rfl rfl
  off := (runC_first (lim := lim) (mb := mb) (hs := hs) hB hN).off
  fol := (runC_first (lim := lim) (mb := mb) (hs := hs) hB hN).fol
  cn := (runC_first (lim := lim) (mb := mb) (hs := hs) hB hN).cn
theorem runC_near (hB : B ≤ base) (hN : g.nd.length ≤ 1000000) (hg : grOk g = true) (hblk : 1 ≤ blk ∧ blk ≤ 9223372036854775807) : RunC b base B g vn vr 24 ⟨tb, 0, none⟩ (nxT g lim blk) (GT g blk) (RT b mb tb mp base B g vn vr hs lim blk) where
  enters := enters_of Try.func24 (by kernel_rfl) rfl
  next := fun W q hb ⟨hr, V, h, t⟩ hG => by
    have hroom := hG.ok.wf.room
    rw [met_len] at hroom
    have hcn : q.s.looked.countP id ≤ 1000000 := by
      have h1 : q.s.looked.countP id ≤ q.s.looked.length := List.countP_le_length
      rw [hG.ok.wf.lk] at h1
      omega
    refine (near17 W b mb tb mp base B g vn vr hs lim blk V q _ hg h t hr hB hb hG.ok hN hblk (hG.tb hblk.1 hN) (by omega)).mono ?_
    rintro e w' ⟨V', rfl, h', t', o⟩
    refine ⟨?_, ⟨rdg_ge hr hB hb o, V', ?_⟩, o⟩
    · unfold nxT
      cases hf : nearQ g lim blk q with
      | mk o q' => cases o <;> rfl
    · unfold nxT
      revert h' t'
      cases hf : nearQ g lim blk q with
      | mk o q' =>
        intro h' t'
        cases o with
        | none => exact ⟨h', t'⟩
        | some i => exact ⟨h'.says rfl rfl, ⟨t'.box, t'.map, t'.nt, t'.np⟩⟩
  off := fun W q hb ⟨hr, V, h, t⟩ => by
    refine (offPile17 W b mb base _ vn vr lim V q h).mono ?_
    rintro e w' ⟨V', rfl, h', s'⟩
    have o := s'.ge h
    exact ⟨rfl, ⟨rdg_ge hr hB hb o, V', h', t.plan h s' rfl rfl rfl⟩, o⟩
  fol := fun W q A c l hb ⟨hr, V, h, t⟩ hl hn => by
    refine (follow17 W b mb base _ vn vr lim V _ q A c B l h hl hB hb hn).mono ?_
    rintro e w' ⟨V', rfl, h', s'⟩
    have o := s'.ge h
    exact ⟨rfl, ⟨rdg_ge hr hB hb o, V', h', t.plan h s' rfl rfl rfl⟩, o⟩
  cn := fun W q ⟨_, V, h, _⟩ => ⟨h.box.cell 0, h.box.cell 1⟩
end

/-! ### Plan -/
def planE (g : Gr) (lim order block : Int) : Int := if grOk g = true then (if lim < 1 ∨ block < 1 ∨ (order ≠ 0 ∧ order ≠ 1 ∧ order ≠ 2) then 1 else 0) else 4
def planSm (g : Gr) (lim order block : Int) : List Int := if planE g lim order block = 0 then (planS g lim order block).small else []
def planLg (g : Gr) (lim order block : Int) : List Int := if planE g lim order block = 0 then (planS g lim order block).large else []
/-- A graph that is looked at: its bounds. -/
structure GrBd (g : Gr) : Prop where
  nd : g.nd.length ≤ 1000
  rt : g.rt.length ≤ 1000
def PlanGC (f : FuncId) : Prop := ∀ (g : Gr) (vn vr : Value) (hs : List (Value × Value)) (B : Nat) (W : World) (lim order block : Int), RdG W B g vn vr hs → B ≤ W.heap.size → GrFit g → GrBd g → block ≤ 9223372036854775807 →
  Calls Try.prog f #[.agg #[vn, vr], .int .i64 lim, .int .i64 order, .int .i64 block] W fun e w' => ∃ v1 v2, e = .returned (.tuple #[v1, v2, .int .i64 (planE g lim order block)]) ∧
    OwR w' W.heap.size 3 v1 (planSm g lim order block).length (i64s (planSm g lim order block)) ∧ OwR w' W.heap.size 3 v2 (planLg g lim order block).length (i64s (planLg g lim order block)) ∧ Only nob W w'
theorem rows_q0 : rowsQ q0 = fun _ => [] := by
  funext i
  unfold rowsQ q0 PSt.none
  simp
theorem qp_start {W0 W1 : World} {b mb base : Nat} {vn vr : Value} {lim : Int} {n : Nat} (hb : Blk W1 b 51 #[vn, vr, .int .i64 lim, .slice (some ⟨mb, 0, none⟩) n n, .slice none 0 0, .slice none 0 0, .int .i64 0, .slice none 0 0, .slice none 0 0]) (hm : Blk W1 mb 4 (flQ n [])) (h1 : base ≤ b) (h2 : base ≤ mb) :
    Qp W1 b mb base vn vr lim n (fun _ => nilV) [] q0 :=
  ⟨hb, hm, by rw [rows_q0]; exact ⟨fun _ => OwR.nil_, fun i j k _ h => by cases h⟩, h1, h2⟩
end Go.Proofs.Ytkjdnccnfnhkoaa
