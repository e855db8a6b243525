/- Contracts of package walk: a step at a place, and may a walk go up to top. -/
import Derived.Test.YtlejicbnobfldaaDoorWalkMath
import Derived.Test.YtlejicbnobfldaaDoorObj
import Derived.Test.YtlejicbnobfldaaDoorSpanAB
import Derived.Test.YtlejicbnobfldaaDoorSpanMN
namespace Go.Proofs.YtlejicbnobfldaaDoor
open Go.RowKit
set_option maxRecDepth 100000

theorem Below.onlyF {n0 : Nat} {w w' : World} (h : Below n0 w w') : Only (fun k => n0 ≤ k) w w' := ⟨h.os, h.tape, h.output, h.size, fun k _ hn => h.block k (Nat.lt_of_not_le hn)⟩
theorem Below.trans_only {n0 : Nat} {a b c : World} (h : Below n0 a b) (o : Only nob b c) (hn : n0 ≤ a.heap.size) : Below n0 a c := h.trans (o.below (Nat.le_trans hn h.size) fun _ hf => hf.elim)
theorem Par.below {n0 : Nat} {w w' : World} (h : Par w) (hb : Below n0 w w') (hn : 0 < n0) : Par w' := by
  obtain ⟨t, fr, hh⟩ := h
  exact ⟨t, fr, (hb.block _ hn).trans hh⟩

/-- What Head tells of the places of v's words is h, as long as what lies below n0 stays. -/
structure Heads (v : Value) (n0 : Nat) (h : Int → Hd) (w : World) : Prop where
  ok : HdOk h
  par : ∀ w', Below n0 w w' → Par w'
  head : ∀ (w' : World) (a : Int), Below n0 w w' → a ≤ 9223372036854775807 →
    Calls Tryd.prog 16 #[v, .int .i64 a] w' fun e w'' => e = .returned (.tuple #[.agg #[.int .i64 (h a).k, .int .i64 (h a).f, .int .i64 (h a).r, .bool (h a).m, .int .i64 (h a).c], .int .i64 (h a).e]) ∧ Only nob w' w''
theorem Heads.later {v : Value} {n0 n1 : Nat} {h : Int → Hd} {w w' : World} (H : Heads v n0 h w) (hb : Below n0 w w') (hn : n0 ≤ n1) : Heads v n1 h w' :=
  ⟨H.ok, fun _ h2 => H.par _ (hb.trans (h2.mono hn)), fun w2 a h2 ha => H.head w2 a (hb.trans (h2.mono hn)) ha⟩
/-- Of the words of an arena; of none. -/
def hAr (l : List Nat) (a : Int) : Hd := ⟨ohE l a, ohK l a, ohF l a, ohR l a, ohM l a, ohC l a⟩
def hNo (_ : Int) : Hd := ⟨10, 0, 0, 0, false, 0⟩
theorem hAr_ok (l : List Nat) : HdOk (hAr l) := fun _ ha => (oh_bounds ha).2.2.2.2.2.2
theorem hNo_ok : HdOk hNo := fun _ ha => absurd (show (10 : Int) = 0 from ha) (by decide)
theorem heads_ar {b g n0 : Nat} {l : List Nat} {w : World} (h : Ar w b g l) (hb : b < n0) (hg : g < n0) (hp : Par w) (ht : 0 < n0) : Heads (.pointer (some ⟨b, 0, none⟩)) n0 (hAr l) w :=
  ⟨hAr_ok l, fun _ h2 => hp.below h2 ht, fun w2 a h2 ha => oHead_any b g l a w2 (h.keep (Below.onlyF h2) (Nat.not_le_of_lt hb) (Nat.not_le_of_lt hg)) (hp.below h2 ht) ha⟩
theorem heads_no {n0 : Nat} {w : World} (hp : Par w) (ht : 0 < n0) : Heads (.pointer none) n0 hNo w :=
  ⟨hNo_ok, fun _ h2 => hp.below h2 ht, fun w2 a _ _ => oHead_none (.pointer none) a w2 (.inl rfl)⟩

/-- A step as a value. -/
def itv (y : It) : Value := .agg #[.int .i64 y.at_, .int .i64 y.k, .int .i64 y.f, .int .i64 y.r, .bool y.m, .int .i64 y.c]
theorem box_step (w : World) (a k f r : Int) (m : Bool) (c : Int) : ∃ W, w.alloc (.cells #[.int .i64 a, .int .i64 k, .int .i64 f, .int .i64 r, .bool m, .int .i64 c] 61) = W ∧
    Hid (Only nob w W ∧ Blk W w.heap.size 61 #[.int .i64 a, .int .i64 k, .int .i64 f, .int .i64 r, .bool m, .int .i64 c]) := ⟨_, rfl, Lib.hid ⟨(Only.refl nob w).alloc _, Blk.new _ _ _⟩⟩

set_option maxHeartbeats 2000000 in
theorem stepAt_any (v : Value) (n0 : Nat) (h : Int → Hd) (w0 : World) (H : Heads v n0 h w0) (hn0 : n0 ≤ w0.heap.size) (a top : Int) (w : World) (hb : Below n0 w0 w) (ha : 0 ≤ a) (hat : a < top) (ht : top ≤ 1099511627776) :
    Calls Tryd.prog 37 #[v, .int .i64 a, .int .i64 top] w fun e w' => e = .returned (.tuple #[itv (item h top a), .int .i64 (item h top a).e]) ∧ Only nob w w' := by
  obtain ⟨W, hW0, HB⟩ := box_step w 0 0 0 0 false 0
  have HWE := Lib.hid hW0
  have hb1 := Below.trans_only hb HB.out.1 hn0
  have HP := Lib.hid (H.par _ hb1)
  have HH := Lib.hid (H.head W a hb1 (by omega))
  have HOK := Lib.hid (H.ok a)
  rcases hh : h a with ⟨he, k, f, r, m, c⟩
  have HI := Lib.hid (show (swE h top a = if he = 0 then (if 1 + f + r ≤ top - a then 0 else 2) else he) from by unfold swE osz; rw [hh])
  have HT := Lib.hid (@item_ok h top a)
  have HF := Lib.hid (@item_no h top a)
  rw [hh] at HH HOK HT
  clear hh hb hb1 H hW0 hn0
  by_cases h0 : he = 0
  · subst h0
    have hm : hmay k f r c = true := HOK.out rfl
    have hbd := hmay_iff.1 hm
    obtain ⟨s, hs⟩ : ∃ s : Int, s = 1 + f + r := ⟨_, rfl⟩
    have HS := Lib.hid ((hSz_yes hm).trans hs.symm)
    have hs2 : 1 ≤ s ∧ s ≤ 8193 := by omega
    have HI2 := Lib.hid (show swE h top a = if s ≤ top - a then 0 else 2 by rw [HI.out, if_pos rfl, hs])
    clear hm hbd hs HOK HI
    by_cases hf : top - a < s
    · have hsw : swE h top a = 2 := by rw [HI2.out, if_neg (by omega)]
      have HIT := Lib.hid (show item h top a = ⟨a, 0, 0, 0, false, 0, 2⟩ by rw [HF.out (by rw [hsw]; decide), hsw])
      rw [HIT.out]
      clear HI2 HT HF hsw
      go_enter Tryd.func37, Tryd.ntmps37
      go_wp2_with fail
      rw [HWE.out]
      go_at_call 16
      refine HH.out.mono ?_
      rintro e w2 ⟨rfl, o⟩
      obtain ⟨W3, hW3, HB3⟩ := box_head w2 k f r m c
      have HW3 := Lib.hid hW3
      have O3 := Lib.hid (HB.out.1.trans (o.trans HB3.out.1))
      have B3 := Lib.hid (HB.out.2.keep (o.trans HB3.out.1) id)
      have HP3 := Lib.hid (HP.out.old (o.trans HB3.out.1))
      clear hW3 o
      go_upto_region 4 with fail
      rw [HW3.out]
      obtain ⟨c0, c1, c2, c3, c4⟩ := cells5 HB3.out.2
      go_wp2_with fail
      go_at_call 26
      refine (hSize_any _ _ _ _ _ _ HP3.out).mono ?_
      rw [HS.out]
      rintro e w4 ⟨rfl, o⟩
      have O4 := Lib.hid (O3.out.trans o)
      have B4 := Lib.hid (B3.out.keep o id)
      clear o c0 c1 c2 c3 c4
      obtain ⟨s0, s1, s2, s3, s4, s5⟩ := cells6 B4.out
      obtain ⟨r0, r1, r2, r3, r4, r5⟩ := frees6 B4.out
      go_wp2
      clear s0 s1 s2 s3 s4 s5 r0 r1 r2 r3 r4 r5
      obtain ⟨W6, hW6, O6, B6⟩ := puts6 O4.out (Nat.le_refl _) B4.out (.int .i64 a) (.int .i64 0) (.int .i64 0) (.int .i64 0) (.bool false) (.int .i64 0)
      with_reducible rw [hW6]
      obtain ⟨h0, h1, h2, h3, h4, h5⟩ := cells6 B6
      exact bodyPost_ret (v := .tuple #[itv ⟨a, 0, 0, 0, false, 0, 2⟩, .int .i64 2]) (by simp [results, Tryd.results37, go_sem, itv, h0, h1, h2, h3, h4, h5]) rfl ⟨rfl, O6⟩
    · have hsw : swE h top a = 0 := by rw [HI2.out, if_pos (by omega)]
      have HIT := Lib.hid (show item h top a = ⟨a, k, f, r, m, c, 0⟩ from HT.out hsw)
      rw [HIT.out]
      clear HI2 HT HF hsw
      go_enter Tryd.func37, Tryd.ntmps37
      go_wp2_with fail
      rw [HWE.out]
      go_at_call 16
      refine HH.out.mono ?_
      rintro e w2 ⟨rfl, o⟩
      obtain ⟨W3, hW3, HB3⟩ := box_head w2 k f r m c
      have HW3 := Lib.hid hW3
      have O3 := Lib.hid (HB.out.1.trans (o.trans HB3.out.1))
      have B3 := Lib.hid (HB.out.2.keep (o.trans HB3.out.1) id)
      have HP3 := Lib.hid (HP.out.old (o.trans HB3.out.1))
      clear hW3 o
      go_upto_region 4 with fail
      rw [HW3.out]
      obtain ⟨c0, c1, c2, c3, c4⟩ := cells5 HB3.out.2
      go_wp2_with fail
      go_at_call 26
      refine (hSize_any _ _ _ _ _ _ HP3.out).mono ?_
      rw [HS.out]
      rintro e w4 ⟨rfl, o⟩
      have O4 := Lib.hid (O3.out.trans o)
      have B4 := Lib.hid (B3.out.keep o id)
      have C4 := Lib.hid (HB3.out.2.keep o id)
      clear o c0 c1 c2 c3 c4
      obtain ⟨c0, c1, c2, c3, c4⟩ := cells5 C4.out
      obtain ⟨s0, s1, s2, s3, s4, s5⟩ := cells6 B4.out
      obtain ⟨r0, r1, r2, r3, r4, r5⟩ := frees6 B4.out
      go_wp2
      clear s0 s1 s2 s3 s4 s5 r0 r1 r2 r3 r4 r5
      obtain ⟨W6, hW6, O6, B6⟩ := puts6 O4.out (Nat.le_refl _) B4.out (.int .i64 a) (.int .i64 k) (.int .i64 f) (.int .i64 r) (.bool m) (.int .i64 c)
      with_reducible rw [hW6]
      obtain ⟨h0, h1, h2, h3, h4, h5⟩ := cells6 B6
      exact bodyPost_ret (v := .tuple #[itv ⟨a, k, f, r, m, c, 0⟩, .int .i64 0]) (by simp [results, Tryd.results37, go_sem, itv, h0, h1, h2, h3, h4, h5]) rfl ⟨rfl, O6⟩
  · have hsw : swE h top a = he := by rw [HI.out, if_neg h0]
    have HIT := Lib.hid (show item h top a = ⟨a, 0, 0, 0, false, 0, he⟩ by rw [HF.out (by rw [hsw]; exact h0), hsw])
    have h0' : (he == 0) = false := by simpa using h0
    rw [HIT.out]
    clear HI HT HF hsw h0 HOK
    go_enter Tryd.func37, Tryd.ntmps37
    go_wp2_with fail
    rw [HWE.out]
    go_at_call 16
    refine HH.out.mono ?_
    rintro e w2 ⟨rfl, o⟩
    obtain ⟨W3, hW3, HB3⟩ := box_head w2 k f r m c
    have HW3 := Lib.hid hW3
    have O3 := Lib.hid (HB.out.1.trans (o.trans HB3.out.1))
    have B3 := Lib.hid (HB.out.2.keep (o.trans HB3.out.1) id)
    clear hW3 o
    go_upto_region 3 with fail
    rw [HW3.out]
    obtain ⟨s0, s1, s2, s3, s4, s5⟩ := cells6 B3.out
    obtain ⟨r0, r1, r2, r3, r4, r5⟩ := frees6 B3.out
    go_wp2
    clear s0 s1 s2 s3 s4 s5 r0 r1 r2 r3 r4 r5
    obtain ⟨W6, hW6, O6, B6⟩ := puts6 O3.out (Nat.le_refl _) B3.out (.int .i64 a) (.int .i64 0) (.int .i64 0) (.int .i64 0) (.bool false) (.int .i64 0)
    with_reducible rw [hW6]
    obtain ⟨h0, h1, h2, h3, h4, h5⟩ := cells6 B6
    exact bodyPost_ret (v := .tuple #[itv ⟨a, 0, 0, 0, false, 0, he⟩, .int .i64 he]) (by simp [results, Tryd.results37, go_sem, itv, h0, h1, h2, h3, h4, h5]) rfl ⟨rfl, O6⟩

set_option maxHeartbeats 2000000 in
theorem mayEnd_any (x : Sp) (hx : Fit x) (top : Int) (w : World) :
    Calls Tryd.prog 36 #[.agg #[.int .i64 x.1, .int .i64 x.2], .int .i64 top] w fun e w' => e = .returned (.bool (decide (may9 x top))) ∧ Only nob w w' := by
  obtain ⟨w1, hw1, HB⟩ : ∃ w1, w.alloc (.cells #[.int .i64 x.1, .int .i64 x.2] 24) = w1 ∧ Hid (Only nob w w1 ∧ Blk w1 w.heap.size 24 #[.int .i64 x.1, .int .i64 x.2]) := ⟨_, rfl, Lib.hid ⟨(Only.refl nob w).alloc _, Blk.new _ _ _⟩⟩
  have HW1 := Lib.hid hw1
  have HX := Lib.hid hx
  have c0 := HB.out.2.cell 0
  have c1 := HB.out.2.cell 1
  simp at c0 c1
  clear hw1 hx
  by_cases h1 : x.ok
  · have hxo := h1
    unfold Sp.ok most at hxo
    have HD := Lib.hid (show decide x.ok = true from decide_eq_true h1)
    by_cases h2 : x.1 ≤ top
    · by_cases h3 : top ≤ x.1 + x.2
      · have HM := Lib.hid (show decide (may9 x top) = true from decide_eq_true ⟨h1, h2, h3⟩)
        rw [HM.out]
        clear h1
        go_enter Tryd.func36, Tryd.ntmps36
        go_wp2_with fail
        rw [HW1.out]
        go_at_call 18
        refine (may_any x HX.out _).mono ?_
        rw [HD.out]
        rintro e w2 ⟨rfl, o⟩
        have O2 := Lib.hid (HB.out.1.trans o.only)
        have c0' := o.only.keeps c0
        have c1' := o.only.keeps c1
        clear o c0 c1
        go_wp2
        go_ret
        exact ⟨rfl, O2.out⟩
      · have HM := Lib.hid (show decide (may9 x top) = false from decide_eq_false fun h => h3 h.2.2)
        rw [HM.out]
        clear h1
        go_enter Tryd.func36, Tryd.ntmps36
        go_wp2_with fail
        rw [HW1.out]
        go_at_call 18
        refine (may_any x HX.out _).mono ?_
        rw [HD.out]
        rintro e w2 ⟨rfl, o⟩
        have O2 := Lib.hid (HB.out.1.trans o.only)
        have c0' := o.only.keeps c0
        have c1' := o.only.keeps c1
        clear o c0 c1
        go_wp2
        go_ret
        exact ⟨ret_bool (decide_eq_false (by omega)), O2.out⟩
    · have HM := Lib.hid (show decide (may9 x top) = false from decide_eq_false fun h => h2 h.2.1)
      rw [HM.out]
      clear h1
      go_enter Tryd.func36, Tryd.ntmps36
      go_wp2_with fail
      rw [HW1.out]
      go_at_call 18
      refine (may_any x HX.out _).mono ?_
      rw [HD.out]
      rintro e w2 ⟨rfl, o⟩
      have O2 := Lib.hid (HB.out.1.trans o.only)
      have c0' := o.only.keeps c0
      have c1' := o.only.keeps c1
      clear o c0 c1
      go_wp2
      go_ret
      exact ⟨rfl, O2.out⟩
  · have HD := Lib.hid (show decide x.ok = false from decide_eq_false h1)
    have HM := Lib.hid (show decide (may9 x top) = false from decide_eq_false fun h => h1 h.1)
    rw [HM.out]
    clear h1
    go_enter Tryd.func36, Tryd.ntmps36
    go_wp2_with fail
    rw [HW1.out]
    go_at_call 18
    refine (may_any x HX.out _).mono ?_
    rw [HD.out]
    rintro e w2 ⟨rfl, o⟩
    have O2 := Lib.hid (HB.out.1.trans o.only)
    clear o c0 c1
    go_wp2
    go_ret
    exact ⟨rfl, O2.out⟩
end Go.Proofs.YtlejicbnobfldaaDoor

/- Contract of package walk's iterator over the steps of a walk. -/
namespace Go.Proofs.YtlejicbnobfldaaDoor
open Go.RowKit Go.Shelf Go.Sort
attribute [local go_sem] Oper.semAt_some
set_option maxRecDepth 100000

/-- The row in box b, if there is one, is of this world. -/
def Sane (b : Nat) (W : World) : Prop := ∀ u k, W.cell? ⟨b, 0, none⟩ = some u → u.ownBlock = some k → k < W.heap.size
theorem Sane.only {b : Nat} {W W' : World} (h : Sane b W) (o : Only nob W W') (hb : b < W.heap.size) : Sane b W' := fun u k h1 h2 =>
  Nat.lt_of_lt_of_le (h u k (by rw [← h1]; exact (World.cell?_of_block (a := ⟨b, 0, none⟩) (o.block b hb id)).symm) h2) o.size
theorem Sane.new {b : Nat} {W : World} (h : Sane b W) (hb : b < W.heap.size) (o : Obj) : ¬ mine b (W.alloc o) W.heap.size := by
  rintro ⟨_, u, h1, h2⟩
  have := h u _ (by rw [← h1]; exact (World.cell?_of_block (a := ⟨b, 0, none⟩) (((Only.refl nob W).alloc o).block b hb id)).symm) h2
  omega
/-- What a round keeps, and that the row in box b is of the world behind it. -/
structure KeepsS (b N0 n0 : Nat) (W W' : World) : Prop where
  k : KeepsB b N0 n0 W W'
  sane : Sane b W → Sane b W'
theorem KeepsS.trans {b N0 n0 : Nat} {A B C : World} (h : KeepsS b N0 n0 A B) (g : KeepsS b N0 n0 B C) : KeepsS b N0 n0 A C := ⟨h.k.trans g.k, fun s => g.sane (h.sane s)⟩
theorem KeepsS.only {b N0 n0 : Nat} {W W' : World} (h : Only nob W W') (hb : b < W.heap.size) (hn : n0 ≤ W.heap.size) : KeepsS b N0 n0 W W' := ⟨KeepsB.only h hb hn, fun s => s.only h hb⟩
theorem KeepsS.putObj {b N0 n0 : Nat} (W : World) (l : Nat) (o o' : Obj) (hb : b < l) (hn : n0 ≤ l) (hl : W.heap[l]? = some o) (ho : o.isCells = false) : KeepsS b N0 n0 W (W.putObj l o') := by
  refine ⟨KeepsB.putObj W l o o' hb hn hl ho, fun s u k h1 h2 => ?_⟩
  have hlt : l < W.heap.size := (Array.getElem?_eq_some_iff.1 hl).1
  have hs : (W.putObj l o').heap.size = W.heap.size := by simp [World.putObj]
  rw [hs]
  refine s u k ?_ h2
  rw [← h1]
  exact (World.cell?_of_block (a := ⟨b, 0, none⟩) ((grownBy_putObj' W l o').block b (by omega) (fun e => by have := Option.some.inj e; omega))).symm
/-- A number in box b owns nothing. -/
theorem sane_int {b : Nat} {W : World} {q : IntKind} {z : Int} (h : W.cell? ⟨b, 0, none⟩ = some (.int q z)) : Sane b W := fun u k h1 h2 => by
  rw [h] at h1; cases h1; cases h2

/-- The iterator's own boxes: the span, the top, the arena. -/
structure Three (N0 b bs bt ba : Nat) (x : Sp) (top : Int) (v : Value) (W : World) : Prop where
  s : Blk W bs 24 #[.int .i64 x.1, .int .i64 x.2]
  t : Blk W bt 3 #[.int .i64 top]
  a : Blk W ba 27 #[v]
  ns : N0 ≤ bs ∧ ¬ mine b W bs
  nt : N0 ≤ bt ∧ ¬ mine b W bt
  na : N0 ≤ ba ∧ ¬ mine b W ba
theorem Three.only {N0 b bs bt ba : Nat} {x : Sp} {top : Int} {v : Value} {W W' : World} (h : Three N0 b bs bt ba x top v W) (o : Only nob W W') (hb : b < W.heap.size) : Three N0 b bs bt ba x top v W' :=
  ⟨h.s.keep o id, h.t.keep o id, h.a.keep o id, ⟨h.ns.1, fun m => h.ns.2 (mine_only o hb h.s.lt m)⟩, ⟨h.nt.1, fun m => h.nt.2 (mine_only o hb h.t.lt m)⟩, ⟨h.na.1, fun m => h.na.2 (mine_only o hb h.a.lt m)⟩⟩
theorem Three.keeps {N0 b n0 bs bt ba : Nat} {x : Sp} {top : Int} {v : Value} {W W' : World} (h : Three N0 b bs bt ba x top v W) (k : KeepsB b N0 n0 W W') : Three N0 b bs bt ba x top v W' := by
  obtain ⟨s1, s2⟩ := k.blk h.s h.ns.1 h.ns.2
  obtain ⟨t1, t2⟩ := k.blk h.t h.nt.1 h.nt.2
  obtain ⟨a1, a2⟩ := k.blk h.a h.na.1 h.na.2
  exact ⟨s1, t1, a1, ⟨h.ns.1, s2⟩, ⟨h.nt.1, t2⟩, ⟨h.na.1, a2⟩⟩

def encs (y : It) : Array Value := #[itv y, .int .i64 y.e]
def ivl : Value → Int
  | .int _ z => z
  | _ => 0

set_option maxHeartbeats 4000000 in
theorem steps1_in (lp b n₀ N0 bs bt ba : Nat) (v : Value) (h : Int → Hd) (x : Sp) (top : Int) (J Jx : List It → World → Prop) (W : World)
    (H : Heads v n₀ h W) (hn : n₀ ≤ N0) (hN0 : N0 ≤ W.heap.size) (hb : b < N0) (hx : Fit x) (h3 : Three N0 b bs bt ba x top v W) (hsane : Sane b W)
    (hJ : AbidesFrom W.heap.size J)
    (hY : ∀ pre y W1, J pre W1 → pre.length < (walkL h x top).length → YieldAt Fence.wide 1 Tryd.prog lp (encs y) W1 fun e W' =>
      (e = .returned (.bool true) ∧ J (pre ++ [y]) W' ∧ KeepsS b N0 n₀ W1 W') ∨ (e = .returned (.bool false) ∧ Jx (pre ++ [y]) W'))
    (h0 : J [] W) :
    CallsIn Fence.wide 2 Tryd.prog 35 #[.func (.yield lp) #[] #[], .pointer (some ⟨bs, 0, none⟩), .pointer (some ⟨bt, 0, none⟩), .pointer (some ⟨ba, 0, none⟩)] W fun e W' => (∃ v, e = .returned v) ∧
      ((∃ xs, xs = walkL h x top ∧ J xs W') ∨ (∃ pre, pre <+: walkL h x top ∧ Jx pre W')) := by
  have HH := Lib.hid H
  have HX := Lib.hid hx
  have H3 := Lib.hid h3
  have HSA := Lib.hid hsane
  have HJ := Lib.hid hJ
  have HY := Lib.hid hY
  have H0 := Lib.hid h0
  have s0 := h3.s.cell 0
  have s1 := h3.s.cell 1
  have t0 := h3.t.cell 0
  simp at s0 s1 t0
  clear H hx h3 hsane hJ hY h0
  refine callsIn_of_wp Tryd.func35 rfl trivial ?_ rfl
  simp only [Tryd.ntmps35, List.size_toArray, List.length_cons, List.length_nil, Nat.reduceAdd, Nat.reduceSub, Array.replicate_succ, Array.replicate_zero, List.push_toArray, List.append_toArray, List.nil_append, List.cons_append]
  by_cases hm : may9 x top
  · have HM := Lib.hid (show decide (may9 x top) = true from decide_eq_true hm)
    have HWL := Lib.hid (show walkL h x top = tr h top x.1 from if_pos hm)
    obtain ⟨hm1, hm2, hm3⟩ := hm
    unfold Sp.ok most at hm1
    gi_wp2_with fail
    refine ⟨trivial, ?_⟩
    gi_at_call 36
    refine (callsIn_wide.2 (mayEnd_any x HX.out top W)).mono ?_
    rw [HM.out]
    rintro e W1 ⟨rfl, o1⟩
    have O1 := Lib.hid o1
    have T1 := Lib.hid (H3.out.only o1 (by omega))
    have u0 := T1.out.s.cell 0
    simp at u0
    have HJ1 := Lib.hid (HJ.out [] W W1 none H0.out (grown_of_only o1) (fun _ h => by cases h))
    have SA1 := Lib.hid (HSA.out.only o1 (by omega))
    clear s0 s1 t0 o1
    gi_wp2
    gi_loopw [5] (fun s wr => ∃ (a : Int) (pre : List It), s = .int .i64 a ∧ x.1 ≤ a ∧ a ≤ top ∧ Hid (pre ++ tr h top a = tr h top x.1) ∧ Hid (Three N0 b bs bt ba x top v wr) ∧ Hid (Below n₀ W wr) ∧ Hid (Sane b wr) ∧ Hid (J pre wr)) (fun s _ => (top - ivl s).toNat)
    case atStart => exact ⟨x.1, [], rfl, Int.le_refl _, hm2, rfl, T1, O1.out.below (by omega) (fun _ hf => hf.elim), SA1, HJ1⟩
    case round =>
      clear T1 u0 HJ1 SA1
      obtain ⟨a, pre, rfl, ha1, ha2, HP, T2, HB, SA, HJ2⟩ := hrel
      have t0 := T2.out.t.cell 0
      have a0 := T2.out.a.cell 0
      simp at t0 a0
      have hbr : b < wr.heap.size := by have := HB.out.size; omega
      by_cases hat : a < top
      · have HST := Lib.hid (stepAt_any v n₀ h W HH.out (by omega) a top wr HB.out (by omega) hat (by omega))
        rcases hy : item h top a with ⟨p, k, f, r, m, c, q⟩
        obtain rfl : a = p := by have := @item_at h top a; rw [hy] at this; exact this.symm
        have hq : q = swE h top a := by have := @item_e h top a; rw [hy] at this; exact this
        rw [hy] at HST
        have HIY := Lib.hid hy
        have HQ := Lib.hid hq
        clear hy hq
        have HST2 := Lib.hid (show Calls Tryd.prog 37 #[v, .int .i64 a, .int .i64 top] wr fun e w' => e = .returned (.tuple #[.agg #[.int .i64 a, .int .i64 k, .int .i64 f, .int .i64 r, .bool m, .int .i64 c], .int .i64 q]) ∧ Only nob wr w' from HST.out)
        clear HST
        gi_wp2_with fail
        refine ⟨trivial, ?_⟩
        gi_at_call 37
        refine (callsIn_wide.2 HST2.out).mono ?_
        rintro e W2 ⟨rfl, o2⟩
        obtain ⟨W4, hW4, HB4⟩ := box_step W2 a k f r m c
        have HW4 := Lib.hid hW4
        have O4 := Lib.hid (o2.trans HB4.out.1)
        have T4 := Lib.hid (T2.out.only O4.out hbr)
        have SA4 := Lib.hid (SA.out.only O4.out hbr)
        have NM4 := Lib.hid (show ¬ mine b W4 W2.heap.size from hW4 ▸ (SA.out.only o2 hbr).new (Nat.lt_of_lt_of_le hbr o2.size) _)
        have hN2 : N0 ≤ W2.heap.size := by have := HB.out.size; have := o2.size; omega
        have hJ4 : J pre W4 := HJ.out pre wr W4 none HJ2.out (grown_of_only O4.out) (fun _ h => by cases h)
        have hle : pre.length < (walkL h x top).length := by
          rw [HWL.out, ← HP.out, List.length_append]
          by_cases hs : swE h top a = 0
          · rw [tr_ok HH.out.ok hat hs]; simp
          · rw [tr_err hat hs]; simp
        obtain ⟨fn, tmps, assign, body, hy, hR⟩ := HY.out pre ⟨a, k, f, r, m, c, q⟩ W4 hJ4 hle
        dsimp only [encs, itv] at hy
        obtain ⟨c0, c1, c2, c3, c4, c5⟩ := cells6 HB4.out.2
        clear hJ4 hle o2 hW4 t0 a0
        by_cases hs : q = 0
        · have hs' : (q == 0) = true := by simpa using hs
          have HS0 := Lib.hid (show swE h top a = 0 by rw [← HQ.out]; exact hs)
          have HPO := Lib.hid (show (pre ++ [⟨a, k, f, r, m, c, q⟩]) ++ tr h top (a + osz h a) = tr h top x.1 by
            rw [← HP.out, tr_ok HH.out.ok hat HS0.out, HIY.out, List.append_assoc]; rfl)
          have hz := sw_zero HS0.out
          have hzo := osz_pos HH.out.ok hz.1
          have hit := (item_ok HS0.out).symm.trans HIY.out
          simp only [It.mk.injEq] at hit
          obtain ⟨-, hk1, hf1, hr1, hm1', hc1, -⟩ := hit
          have HSZ := Lib.hid (show hSz k f r c = osz h a by rw [hSz_yes (by rw [← hk1, ← hf1, ← hr1, ← hc1]; exact HH.out.ok a hz.1), ← hf1, ← hr1]; rfl)
          obtain ⟨z, hzz⟩ : ∃ z : Int, z = osz h a := ⟨_, rfl⟩
          rw [← hzz] at HSZ HPO hz hzo
          obtain ⟨-, hz2⟩ := hz
          clear hk1 hf1 hr1 hm1' hc1 hs hzz
          gi_wp2_with (with_reducible rw [HW4.out])
          refine hR.mono ?_
          rintro e W5 (⟨rfl, hJ5, hk5⟩ | ⟨rfl, hJx5⟩)
          · have HJ5 := Lib.hid hJ5
            have T5 := Lib.hid (T4.out.keeps hk5.k)
            have HB5 := Lib.hid (show Below n₀ W W5 from (Below.trans_only HB.out O4.out (by omega)).trans hk5.k.below)
            have SA5 := Lib.hid (hk5.sane SA4.out)
            obtain ⟨B5, -⟩ := hk5.k.blk HB4.out.2 hN2 NM4.out
            clear c0 c1 c2 c3 c4 c5
            obtain ⟨c0, c1, c2, c3, c4, c5⟩ := cells6 B5
            clear hJ5 hk5 hy hR B5
            gi_wp2_with fail
            refine ⟨trivial, ?_⟩
            gi_at_call 26
            refine (callsIn_wide.2 (hSize_any k f r m c W5 (HH.out.par _ HB5.out))).mono ?_
            rw [HSZ.out]
            rintro e W6 ⟨rfl, o6⟩
            have hb5 : b < W5.heap.size := by have := HB5.out.size; omega
            have T6 := Lib.hid (T5.out.only o6 hb5)
            have HB6 := Lib.hid (Below.trans_only HB5.out o6 (by omega))
            have SA6 := Lib.hid (SA5.out.only o6 hb5)
            have HJ6 := Lib.hid (HJ.out _ W5 W6 none HJ5.out (grown_of_only o6) (fun _ h => by cases h))
            clear o6 c0 c1 c2 c3 c4 c5
            gi_wp2
            go_roundw
            case rel => exact ⟨a + z, _, rfl, by omega, by omega, HPO, T6, HB6, SA6, HJ6⟩
            case measure => simp [ivl]; omega
          · have HJx := Lib.hid hJx5
            clear hJx5 hy hR
            gi_wp2
            refine bodyPost_ret (results_none rfl _ _ _) rfl ?_
            exact ⟨⟨_, rfl⟩, .inr ⟨_, ⟨_, HPO.out.trans HWL.out.symm⟩, HJx.out⟩⟩
        · have hs' : (q == 0) = false := by simpa using hs
          have HPO := Lib.hid (show pre ++ [⟨a, k, f, r, m, c, q⟩] = walkL h x top by
            rw [HWL.out, ← HP.out, tr_err hat (by rw [← HQ.out]; exact hs), HIY.out])
          clear hs
          gi_wp2_with (with_reducible rw [HW4.out])
          refine hR.mono ?_
          rintro e W5 (⟨rfl, hJ5, hk5⟩ | ⟨rfl, hJx5⟩)
          · have HJ5 := Lib.hid hJ5
            clear hJ5 hk5 hy hR c0 c1 c2 c3 c4 c5
            gi_wp2
            refine bodyPost_ret (results_none rfl _ _ _) rfl ?_
            exact ⟨⟨_, rfl⟩, .inl ⟨_, HPO.out, HJ5.out⟩⟩
          · have HJx := Lib.hid hJx5
            clear hJx5 hy hR c0 c1 c2 c3 c4 c5
            gi_wp2
            refine bodyPost_ret (results_none rfl _ _ _) rfl ?_
            exact ⟨⟨_, rfl⟩, .inr ⟨_, ⟨[], by rw [List.append_nil]; exact HPO.out⟩, HJx.out⟩⟩
      · have HE := Lib.hid (show pre = walkL h x top by have := HP.out; rw [tr_end hat, List.append_nil] at this; rw [HWL.out]; exact this)
        gi_wp2
        go_end0
        exact ⟨⟨_, rfl⟩, .inl (HE.out ▸ HJ2.out)⟩
  · have HM := Lib.hid (show decide (may9 x top) = false from decide_eq_false hm)
    have HWL := Lib.hid (show walkL h x top = [badIt] from if_neg hm)
    clear hm
    gi_wp2_with fail
    refine ⟨trivial, ?_⟩
    gi_at_call 36
    refine (callsIn_wide.2 (mayEnd_any x HX.out top W)).mono ?_
    rw [HM.out]
    rintro e W1 ⟨rfl, o1⟩
    have hJ1 := HJ.out [] W W1 none H0.out (grown_of_only o1) (fun _ h => by cases h)
    obtain ⟨fn, tmps, assign, body, hy, hR⟩ := HY.out [] badIt W1 hJ1 (by rw [HWL.out]; exact Nat.zero_lt_one)
    dsimp only [encs, itv, badIt] at hy
    clear s0 s1 t0 o1 hJ1
    gi_wp2
    refine hR.mono ?_
    rintro e W5 (⟨rfl, hJ5, hk5⟩ | ⟨rfl, hJx5⟩)
    · have HJ5 := Lib.hid hJ5
      clear hJ5 hk5 hy hR
      gi_wp2
      refine bodyPost_ret (results_none rfl _ _ _) rfl ?_
      exact ⟨⟨_, rfl⟩, .inl ⟨_, HWL.out.symm, HJ5.out⟩⟩
    · have HJx := Lib.hid hJx5
      clear hJx5 hy hR
      gi_wp2
      refine bodyPost_ret (results_none rfl _ _ _) rfl ?_
      exact ⟨⟨_, rfl⟩, .inr ⟨_, ⟨[], by rw [HWL.out]; rfl⟩, HJx.out⟩⟩

/-- The iterator's contract. -/
theorem itSteps (b n₀ N0 bs bt ba : Nat) (v : Value) (h : Int → Hd) (x : Sp) (top : Int) (w : World) (H : Heads v n₀ h w) (hn : n₀ ≤ N0) (hN0 : N0 ≤ w.heap.size) (hb : b < N0) (hx : Fit x) (h3 : Three N0 b bs bt ba x top v w) (hsane : Sane b w) :
    SeqStopsK Fence.wide 2 Tryd.prog 35 #[.pointer (some ⟨bs, 0, none⟩), .pointer (some ⟨bt, 0, none⟩), .pointer (some ⟨ba, 0, none⟩)] encs (KeepsS b N0 n₀) (fun xs => xs = walkL h x top) (fun pre => pre <+: walkL h x top) (walkL h x top).length w := by
  intro lp J Jx W hW hJ hJx hY h0
  have ho : Only nob w W := Below.only hW
  have hbw : b < w.heap.size := by omega
  exact steps1_in lp b n₀ N0 bs bt ba v h x top J Jx W (H.later (hW.mono (by omega)) (Nat.le_refl _)) hn (Nat.le_trans hN0 hW.size) hb hx (h3.only ho hbw) (hsane.only ho hbw) hJ hY h0
end Go.Proofs.YtlejicbnobfldaaDoor

/- Contract of package walk: Stop. -/
namespace Go.Proofs.YtlejicbnobfldaaDoor
open Go.RowKit Go.Shelf Go.Sort
attribute [local go_sem] Oper.semAt_some
set_option maxRecDepth 100000

set_option maxHeartbeats 2000000 in
theorem steps_in (n : Nat) (A : Option Addr) (x : Sp) (top : Int) (w : World) : CallsIn Fence.wide n Tryd.prog 22 #[.pointer A, .agg #[.int .i64 x.1, .int .i64 x.2], .int .i64 top] w fun e w' =>
    e = .returned (.func (.func 35) #[] #[.pointer (some ⟨w.heap.size + 1, 0, none⟩), .pointer (some ⟨w.heap.size + 1 + 1, 0, none⟩), .pointer (some ⟨w.heap.size, 0, none⟩)]) ∧
    w' = ((w.alloc (.cells #[.pointer A] 27)).alloc (.cells #[.int .i64 x.1, .int .i64 x.2] 24)).alloc (.cells #[.int .i64 top] 3) := by
  refine callsIn_wide.2 ?_
  go_enter Tryd.func22, Tryd.ntmps22
  go_wp2_with fail
  go_ret
  exact ⟨rfl, rfl⟩
/-- The world in which the iterator's boxes are laid. -/
theorem three_laid (b : Nat) (V : World) (A : Option Addr) (x : Sp) (top : Int) (hb : b < V.heap.size) (hs : Sane b V) :
    ∃ W, ((V.alloc (.cells #[.pointer A] 27)).alloc (.cells #[.int .i64 x.1, .int .i64 x.2] 24)).alloc (.cells #[.int .i64 top] 3) = W ∧ Only nob V W ∧ W.heap.size = V.heap.size + 3 ∧
      Three V.heap.size b (V.heap.size + 1) (V.heap.size + 1 + 1) V.heap.size x top (.pointer A) W ∧ Sane b W := by
  have o : Only nob V (((V.alloc (.cells #[.pointer A] 27)).alloc (.cells #[.int .i64 x.1, .int .i64 x.2] 24)).alloc (.cells #[.int .i64 top] 3)) := (((Only.refl nob V).alloc _).alloc _).alloc _
  have no : ∀ k, V.heap.size ≤ k → ¬ mine b (((V.alloc (.cells #[.pointer A] 27)).alloc (.cells #[.int .i64 x.1, .int .i64 x.2] 24)).alloc (.cells #[.int .i64 top] 3)) k := by
    rintro k hk ⟨_, u, h1, h2⟩
    have := hs u k (by rw [← h1]; exact (World.cell?_of_block (a := ⟨b, 0, none⟩) (o.block b hb id)).symm) h2
    omega
  refine ⟨_, rfl, o, by simp, ⟨(Blk.newAt _ _ _ _ (by simp)).alloc _, Blk.newAt _ _ _ _ (by simp), ((Blk.new V _ _).alloc _).alloc _, ⟨by omega, no _ (by omega)⟩, ⟨by omega, no _ (by omega)⟩, ⟨Nat.le_refl _, no _ (Nat.le_refl _)⟩⟩, hs.only o hb⟩

theorem blk_kept {X Y : World} {g : Nat} {t : TypeId} {cs : Array Value} {row : Option Nat} (h : Blk X g t cs) (hg : X.grownBy Y row) (hr : ∀ r, row = some r → ∃ o : Obj, X.heap[r]? = some o ∧ o.isCells = false) : Blk Y g t cs :=
  (hg.block g h.lt (fun e => by obtain ⟨o, ho, hc⟩ := hr g e.symm; rw [show X.heap[g]? = _ from h] at ho; cases ho; cases hc)).trans h
theorem blk_putObj {X : World} {g D : Nat} {t : TypeId} {cs : Array Value} {o : Obj} (h : Blk X g t cs) (o' : Obj) (hk : X.heap[D]? = some o) (hc : o.isCells = false) : Blk (X.putObj D o') g t cs :=
  blk_kept h (grownBy_putObj' X D o') fun r e => by cases e; exact ⟨o, hk, hc⟩
/-- A store into a box of the caller's that is not b. -/
theorem keepsB_put {W : World} {n0 N0 b p : Nat} (u : Value) (hp : p < N0) (hn : n0 ≤ p) (hpb : p ≠ b) : KeepsB b N0 n0 W (W.setCell ⟨p, 0, none⟩ u) := by
  have hb : (W.setCell ⟨p, 0, none⟩ u).heap[b]? = W.heap[b]? := Below.heap_setCell W ⟨p, 0, none⟩ u b (fun e => hpb e.symm)
  refine ⟨(Below.refl n0 W).setCell (p := ⟨p, 0, none⟩) hn u, fun k q hk hq _ _ => ?_, fun k hm => .inl ?_⟩
  · rw [Below.heap_setCell W ⟨p, 0, none⟩ u k (by show k ≠ p; omega)]; exact hq
  · obtain ⟨h1, v, h2, h3⟩ := hm
    have hs : (W.setCell ⟨p, 0, none⟩ u).heap.size = W.heap.size := by simp [World.setCell]
    rw [hs] at h1
    exact ⟨h1, v, by rw [← h2]; exact (World.cell?_of_block (a := ⟨b, 0, none⟩) hb).symm, h3⟩
theorem others_only {W W' : World} (h : Only nob W W') : KeepsOthers W W' := ⟨h.size, fun k _ ho _ => (h.block k (Array.getElem?_eq_some_iff.1 ho).1 id).trans ho⟩
/-- The world behind the deferred calls' end. -/
theorem below_done {w W : World} {D : Nat} (h : Below w.heap.size w W) (hD : w.heap.size ≤ D) (hK : W.heap[D]? = some (.deferred (some []))) : Only nob w (W.putObj D (.deferred none)) :=
  Below.only (h.trans (belowK_b (w := w) (Nat.le_refl _) W D _ (.deferred none) hD hK rfl rfl))

set_option maxHeartbeats 4000000 in
theorem wStop (A : Option Addr) (h : Int → Hd) (x : Sp) (top : Int) (w : World) (H : Heads (.pointer A) w.heap.size h w) (hx : Fit x) :
    Calls Tryd.prog 9 #[.pointer A, .agg #[.int .i64 x.1, .int .i64 x.2], .int .i64 top] w fun e w' => e = .returned (.tuple #[.int .i64 (wkP (walkL h x top) top), .int .i64 (wkE (walkL h x top))]) ∧ Only nob w w' := by
  have HH := Lib.hid H
  have HX := Lib.hid hx
  clear H hx
  obtain ⟨V, hV, HV⟩ : ∃ V, ((w.alloc (.cells #[.int .i64 x.1, .int .i64 x.2] 24)).alloc (.cells #[.int .i64 0] 3)).alloc (.cells #[.int .i64 0] 28) = V ∧ Hid (Only nob w V ∧ V.heap.size = w.heap.size + 3 ∧ Blk V w.heap.size 24 #[.int .i64 x.1, .int .i64 x.2] ∧ Blk V (w.heap.size + 1) 3 #[.int .i64 0] ∧ Blk V (w.heap.size + 1 + 1) 28 #[.int .i64 0]) :=
    ⟨_, rfl, Lib.hid ⟨(((Only.refl nob w).alloc _).alloc _).alloc _, by simp, ((Blk.new w _ _).alloc _).alloc _, (Blk.newAt _ _ _ _ (by simp)).alloc _, Blk.newAt _ _ _ _ (by simp)⟩⟩
  have HVE := Lib.hid hV
  have v0 := HV.out.2.2.1.cell 0
  have v1 := HV.out.2.2.1.cell 1
  simp at v0 v1
  clear hV
  refine (callsIn_wide (n := 3)).1 ?_
  refine callsIn_of_wp_marks Tryd.func9 rfl trivial ?_ rfl
  simp only [Tryd.ntmps9, List.size_toArray, List.length_cons, List.length_nil, Nat.reduceAdd, Nat.reduceSub, Array.replicate_succ, Array.replicate_zero, List.push_toArray, List.append_toArray, List.nil_append, List.cons_append]
  gi_wp2_with (first | (with_reducible rw [HVE.out]) | (refine ⟨trivial, ?_⟩; gi_at_call 22; refine (steps_in _ _ _ _ _).mono ?_; rintro e w' ⟨rfl, rfl⟩))
  have bR0 := HV.out.2.2.2.1.cell 0
  simp at bR0
  obtain ⟨W0, hW0, o0, hsz, h3, hsa⟩ := three_laid (w.heap.size + 1) V A x top (by have := HV.out.2.1; omega) (sane_int bR0)
  rw [hW0]
  have hvs1 : w.heap.size + 3 ≤ V.heap.size := Nat.le_of_eq HV.out.2.1.symm
  have hvs2 : V.heap.size ≤ w.heap.size + 3 := Nat.le_of_eq HV.out.2.1
  have hsz1 : V.heap.size + 3 ≤ W0.heap.size := Nat.le_of_eq hsz.symm
  have HD1 := Lib.hid (HH.out.later (HV.out.1.whole.trans (o0.whole.mono (by omega))) (Nat.le_refl _))
  have hB0 : Below w.heap.size w W0 := HV.out.1.whole.trans (o0.whole.mono (by omega))
  clear hW0 v0 v1 bR0 hsz
  refine wpIn_rangeFunc_ownH rfl (by decide) (gf := 35) (lb := #[.pointer (some ⟨V.heap.size + 1, 0, none⟩), .pointer (some ⟨V.heap.size + 1 + 1, 0, none⟩), .pointer (some ⟨V.heap.size, 0, none⟩)]) rfl trivial (enters_of Tryd.func35 (by kernel_rfl) rfl)
    (itSteps (w.heap.size + 1) w.heap.size V.heap.size (V.heap.size + 1) (V.heap.size + 1 + 1) V.heap.size (.pointer A) h x top W0 HD1.out (by omega) (by omega) (by omega) HX.out h3 hsa) KeepsS.trans (fun W l o o' h1 h2 h3 _ => KeepsS.putObj W l o o' (by omega) (by omega) h2 h3) (Below.refl _ _) (fun _ => rfl)
    (fun pre W => (∀ y ∈ pre, y.e = 0) ∧ Blk W (w.heap.size + 1) 3 #[.int .i64 0] ∧ Blk W (w.heap.size + 1 + 1) 28 #[.int .i64 0] ∧ Below w.heap.size w W ∧ W0.heap.size ≤ W.heap.size)
    (fun c pre W => c = .ret ∧ ∃ pre0 y, pre = pre0 ++ [y] ∧ (∀ z ∈ pre0, z.e = 0) ∧ y.e ≠ 0 ∧ Blk W (w.heap.size + 1) 3 #[.int .i64 y.at_] ∧ Blk W (w.heap.size + 1 + 1) 28 #[.int .i64 y.e] ∧ Below w.heap.size w W)
    ?hI ?hIx ⟨(fun _ h => by cases h), HV.out.2.2.2.1.keep o0 id, HV.out.2.2.2.2.keep o0 id, hB0, Nat.le_refl _⟩
    (fun y a' W => ∃ Bx, V.heap.size + 2 < Bx ∧ Blk W Bx 61 #[.int .i64 y.at_, .int .i64 y.k, .int .i64 y.f, .int .i64 y.r, .bool y.m, .int .i64 y.c] ∧ a' = { tmps := #[.pointer A, .agg #[.int .i64 x.1, .int .i64 x.2], .int .i64 top, undef, .pointer (some ⟨w.heap.size, 0, none⟩), undef, .pointer (some ⟨w.heap.size + 1, 0, none⟩), .pointer (some ⟨w.heap.size + 1 + 1, 0, none⟩), .pointer (some ⟨Bx, 0, none⟩), .int .i64 y.e, .pointer A, .agg #[.int .i64 x.1, .int .i64 x.2], .int .i64 top, .func (.func 35) #[] #[.pointer (some ⟨V.heap.size + 1, 0, none⟩), .pointer (some ⟨V.heap.size + 1 + 1, 0, none⟩), .pointer (some ⟨V.heap.size, 0, none⟩)], itv y, .int .i64 y.e, undef, undef, undef, undef, undef, undef], defers := [] })
    (fun y a' _ X Y row hs hg hr => by
      obtain ⟨Bx, h1, h2, h3⟩ := hs
      exact ⟨Bx, h1, blk_kept h2 hg fun r e => (hr r e).2, h3⟩)
    ?assign ?body ?done ?stop
  case hI =>
    rintro pre W W' row ⟨hy, b0, b1, hb, hz⟩ hg hr
    exact ⟨hy, blk_kept b0 hg fun r e => (hr r e).2, blk_kept b1 hg fun r e => (hr r e).2, hb.grown hg hb.size (fun k e => by have := (hr k e).1; omega), Nat.le_trans hz hg.size⟩
  case hIx =>
    rintro c pre W W' row ⟨rfl, pre0, y, hp, hy0, hy, b0, b1, hb⟩ hg hr
    exact ⟨rfl, pre0, y, hp, hy0, hy, blk_kept b0 hg fun r e => (hr r e).2, blk_kept b1 hg fun r e => (hr r e).2, hb.grown hg hb.size (fun k e => by have := (hr k e).1; omega)⟩
  case assign =>
    rintro lp pre y W K ⟨hy, b0, b1, hb, hz⟩ hK
    rcases y with ⟨p, k, f, r, m, c, q⟩
    dsimp only [encs, itv]
    gi_wp2
    have ho : Only nob W (W.alloc (.cells #[.int .i64 p, .int .i64 k, .int .i64 f, .int .i64 r, .bool m, .int .i64 c] 61)) := (Only.refl nob W).alloc _
    exact hK _ _ ((KeepsOthers.alloc _ _).from _) (KeepsS.only ho (by omega) hb.size) ⟨hy, b0.keep ho id, b1.keep ho id, hb.alloc hb.size _, Nat.le_trans hz (by simp)⟩ ⟨W.heap.size, by omega, Blk.new W 61 _, rfl⟩
  case body =>
    rintro lp pre y a' W hl ⟨r, hr⟩ ⟨hy, b0, b1, hb, hz⟩ ⟨Bx, hBx, bX, rfl⟩ hlt
    have x0 := bX.cell 0
    have r0 := b0.cell 0
    have r1 := b1.cell 0
    have f0 := b0.free 0
    have f1 := b1.free 0
    simp at x0 r0 r1
    by_cases he : y.e = 0
    · have he' : (y.e == 0) = true := by simpa using he
      have HY := Lib.hid (show ∀ z ∈ pre ++ [y], z.e = 0 from fun z hz => by
        rcases List.mem_append.1 hz with h | h
        · exact hy z h
        · rw [List.mem_singleton.1 h]; exact he)
      clear he hy
      gi_wp2
      exact ⟨(KeepsOthers.refl _).from _, ⟨KeepsB.refl _ _ _ _, id⟩, HY.out, b0, b1, hb, hz⟩
    · have he' : (y.e == 0) = false := by simpa using he
      have HE := Lib.hid he
      have HY := Lib.hid hy
      clear he hy
      gi_wp2
      refine ⟨((KeepsOthers.setCell _ _ _).trans (KeepsOthers.setCell _ _ _)).from _, rfl, pre, y, rfl, HY.out, HE.out, ?_, ?_, ?_⟩
      · exact (by simpa using b0.put 0 (.int .i64 y.at_) : Blk (W.setCell ⟨w.heap.size + 1, 0, none⟩ (.int .i64 y.at_)) (w.heap.size + 1) 3 #[.int .i64 y.at_]).other (p := ⟨w.heap.size + 1 + 1, 0, none⟩) (by show w.heap.size + 1 + 1 ≠ w.heap.size + 1; omega) _
      · simpa using (b1.other (p := ⟨w.heap.size + 1, 0, none⟩) (by show w.heap.size + 1 ≠ w.heap.size + 1 + 1; omega) (.int .i64 y.at_)).put 0 (.int .i64 y.e)
      · exact (hb.setCell (p := ⟨w.heap.size + 1, 0, none⟩) (by show w.heap.size ≤ w.heap.size + 1; omega) _).setCell (p := ⟨w.heap.size + 1 + 1, 0, none⟩) (by show w.heap.size ≤ w.heap.size + 1 + 1; omega) _
  case done =>
    rintro D ys W hD rfl ⟨hy, b0, b1, hb, hz⟩ hK
    have r0 := b0.cell 0
    have r1 := b1.cell 0
    have f0 := b0.free 0
    have f1 := b1.free 0
    simp at r0 r1
    obtain ⟨k1, k2, -⟩ := wk_ok hy top
    have HK1 := Lib.hid k1
    have HK2 := Lib.hid k2
    have HKD := Lib.hid hK
    clear hy k1 k2 hK
    gi_wp2
    have hK' := ((KeepsOthers.setCell W ⟨w.heap.size + 1, 0, none⟩ (.int .i64 top)).trans (KeepsOthers.setCell _ ⟨w.heap.size + 1 + 1, 0, none⟩ (.int .i64 0))).same D _ HKD.out rfl
    refine ⟨by simp, .inl ⟨_, _, rfl, run_takeDeferred hK', ?_⟩⟩
    have q0 := (blk_putObj (o' := .deferred none) ((by simpa using b0.put 0 (.int .i64 top) : Blk (W.setCell ⟨w.heap.size + 1, 0, none⟩ (.int .i64 top)) (w.heap.size + 1) 3 #[.int .i64 top]).other (p := ⟨w.heap.size + 1 + 1, 0, none⟩) (by show w.heap.size + 1 + 1 ≠ w.heap.size + 1; omega) (.int .i64 0)) hK' rfl).cell 0
    have q1 := (blk_putObj (o' := .deferred none) ((b1.other (p := ⟨w.heap.size + 1, 0, none⟩) (by show w.heap.size + 1 ≠ w.heap.size + 1 + 1; omega) (.int .i64 top)).put 0 (.int .i64 0)) hK' rfl).cell 0
    simp at q0 q1
    have ob := below_done ((hb.setCell (p := ⟨w.heap.size + 1, 0, none⟩) (by show w.heap.size ≤ w.heap.size + 1; omega) (.int .i64 top)).setCell (p := ⟨w.heap.size + 1 + 1, 0, none⟩) (by show w.heap.size ≤ w.heap.size + 1 + 1; omega) (.int .i64 0)) (by omega) hK'
    refine ⟨.tuple #[.int .i64 top, .int .i64 0], ?_, by rw [HK1.out, HK2.out], ob⟩
    simp [results, Tryd.results9, go_sem, q0, q1]
  case stop =>
    rintro D c pre W hD ⟨rest, hrest⟩ ⟨rfl, pre0, y, rfl, hy0, hy, b0, b1, hb⟩ hK
    obtain ⟨k1, k2, -⟩ := wk_no (R := rest) hy0 hy top
    rw [List.append_assoc, List.singleton_append] at hrest
    rw [hrest] at k1 k2
    have HK1 := Lib.hid k1
    have HK2 := Lib.hid k2
    clear k1 k2 hrest
    gi_wp2
    refine ⟨by simp, .inl ⟨_, _, rfl, run_takeDeferred hK, ?_⟩⟩
    have q0 := (blk_putObj (o' := .deferred none) b0 hK rfl).cell 0
    have q1 := (blk_putObj (o' := .deferred none) b1 hK rfl).cell 0
    simp at q0 q1
    refine ⟨.tuple #[.int .i64 y.at_, .int .i64 y.e], ?_, by rw [HK1.out, HK2.out], below_done hb (by omega) hK⟩
    simp [results, Tryd.results9, go_sem, q0, q1]
end Go.Proofs.YtlejicbnobfldaaDoor
