/- What the statements of layer 13 answer where sizes are too big; the deeds with a part, with its mathematics. -/
import Derived.Test.YtoeccbbjncgmlaaDoorLos
namespace Go.Proofs.YtoeccbbjncgmlaaDoor
open Go.RowKit
set_option maxRecDepth 100000

theorem took_eq {all : Sp} {T F a : List Sp} {n s : Int} (h : TableP all T F) (ht : takeT F n = (a, s, 0)) : Took all F n a s := by
  rcases take_right (n := n) (table_right h) with ⟨-, e, h1, h2⟩ | ⟨-, -, a', s', h1, h2⟩
  · rw [ht] at h1
    have := (Prod.mk.inj (Prod.mk.inj h1).2).2
    omega
  · rw [ht] at h1
    obtain ⟨rfl, h3⟩ := Prod.mk.inj h1
    obtain ⟨rfl, -⟩ := Prod.mk.inj h3
    exact h2
/-- A part with what is told of it. -/
structure LoS (all : Sp) (w : World) (p b g : Nat) (T F : List Sp) (ms : Nat → Bool) (qs : List Nat) (l : List Nat) (vt vf : Value) : Prop where
  lo : Lo w p b g l T F (topS qs) vt vf
  los : LosS all l T F ms qs
section
variable {all : Sp} {w w' : World} {p b g : Nat} {T F : List Sp} {ms : Nat → Bool} {qs : List Nat} {l : List Nat} {vt vf : Value}
theorem LoS.keep (h : LoS all w p b g T F ms qs l vt vf) (o : Only nob w w') : LoS all w' p b g T F ms qs l vt vf := ⟨h.lo.keep o, h.los⟩
theorem LosS.fitsT (h : LosS all l T F ms qs) : Fits T := fun x hx => .of_ok (h.tab.2.2.1.1 x hx)
theorem LosS.fitsF (h : LosS all l T F ms qs) : Fits F := Fits.joined h.tab.2.2.2.1
theorem LosS.lenF (h : LosS all l T F ms qs) : F.length ≤ T.length + 1 := table_len h.tab
end
/-- Put, where there is room. -/
theorem sPut_ok {all : Sp} {p b g : Nat} {T F a : List Sp} {l : List Nat} {vt vf : Value} {w : World} (h : LoS all w p b g T F (fun _ => false) [] l vt vf) (hp : Par w) (hT : T.length ≤ 1000) {k f r c s : Int} (hm : hmay k f r c = true) (ht : takeT F (1 + f + r) = (a, s, 0)) :
    Calls Tryd.prog 5 #[.pointer (some ⟨p, 0, none⟩), .agg #[.int .i64 k, .int .i64 f, .int .i64 r, .bool false, .int .i64 c]] w fun e w' => e = .returned (.tuple #[.int .i64 s, .int .i64 0]) ∧ (∃ l' vt' vf', LoS all w' p b g (insAt T (placeT T s) (s, 1 + f + r)) a (fun _ => false) [] l' vt' vf') ∧ Only (pgb p g) w w' := by
  have hk := took_eq h.los.tab ht
  obtain ⟨e1, e2⟩ := h.los.put hm hk
  have hs : s ≤ 9223372036854775807 := by have := hk.ok; unfold Sp.ok most at this; omega
  have hF := h.los.lenF
  refine (lPut_ok p b g l T F _ vt vf k f r false c a s _ w h.lo hp h.los.fitsT h.los.fitsF (by omega) (by omega) hm ht hs e1 (table_took h.los.tab hk).1).mono ?_
  rintro e w' ⟨rfl, ⟨vt', vf', h1⟩, h2⟩
  exact ⟨rfl, ⟨_, vt', vf', h1, e2⟩, h2⟩
/-- Mark of an object that is not marked. -/
theorem sMark_ok {all : Sp} {p b g : Nat} {T F : List Sp} {ms : Nat → Bool} {qs l : List Nat} {vt vf : Value} {w : World} (h : LoS all w p b g T F ms qs l vt vf) (hp : Par w) (hT : T.length ≤ 1000) {k : Nat} {x : Sp} (hx : T[k]? = some x) (hm : ms k = false) :
    Calls Tryd.prog 6 #[.pointer (some ⟨p, 0, none⟩), .int .i64 x.1] w fun e w' => e = .returned (.tuple #[.bool true, .int .i64 0]) ∧ (∃ l', LoS all w' p b g T F (fun j => if j = k then true else ms j) (k :: qs) l' vt vf) ∧ Only (pgb p g) w w' := by
  obtain ⟨q, e1, e2, e3, e4⟩ := h.los.ob k x hx
  rw [hm] at e4
  rw [e1]
  refine (lMark_ok p b g l T F (topS qs) vt vf k q x w h.lo hp h.los.fitsT hx e1 (find_at h.los.tab hx) e2 e4 (h.los.top hT)).mono ?_
  rintro e w' ⟨rfl, h1, h2⟩
  exact ⟨rfl, ⟨_, h1, h.los.mark hT hx e1 hm⟩, h2⟩
theorem sMark_twice {all : Sp} {p b g : Nat} {T F : List Sp} {ms : Nat → Bool} {qs l : List Nat} {vt vf : Value} {w : World} (h : LoS all w p b g T F ms qs l vt vf) (hp : Par w) {k : Nat} {x : Sp} (hx : T[k]? = some x) (hm : ms k = true) :
    Calls Tryd.prog 6 #[.pointer (some ⟨p, 0, none⟩), .int .i64 x.1] w fun e w' => e = .returned (.tuple #[.bool false, .int .i64 0]) ∧ Only nob w w' := by
  obtain ⟨q, e1, e2, e3, e4⟩ := h.los.ob k x hx
  rw [hm] at e4
  rw [e1]
  exact lMark_twice p b g l T F (topS qs) vt vf k q x w h.lo hp h.los.fitsT e1 (find_at h.los.tab hx) e2 e4
/-- Pop. -/
theorem sPop_ok {all : Sp} {p b g : Nat} {T F : List Sp} {ms : Nat → Bool} {k : Nat} {qs l : List Nat} {vt vf : Value} {w : World} (h : LoS all w p b g T F ms (k :: qs) l vt vf) (hp : Par w) :
    Calls Tryd.prog 7 #[.pointer (some ⟨p, 0, none⟩)] w fun e w' => (∃ x, T[k]? = some x ∧ e = .returned (.tuple #[.int .i64 x.1, .bool true])) ∧ (∃ l', LoS all w' p b g T F ms qs l' vt vf) ∧ Only (pgb p g) w w' := by
  obtain ⟨x, hx, -⟩ := h.los.list.2.1
  obtain ⟨q, e1, e2, e3, e4⟩ := h.los.ob k x hx
  obtain ⟨c1, c2⟩ := h.los.pop hx e1
  refine (lPop_ok p b g l T F vt vf k q x w h.lo hp hx e1 e2).mono ?_
  rintro e w' ⟨rfl, h1, h2⟩
  rw [c1] at h1
  exact ⟨⟨x, hx, by rw [e1]⟩, ⟨_, h1, c2⟩, h2⟩
theorem sPop_none {all : Sp} {p b g : Nat} {T F : List Sp} {ms : Nat → Bool} {l : List Nat} {vt vf : Value} {w : World} (h : LoS all w p b g T F ms [] l vt vf) :
    Calls Tryd.prog 7 #[.pointer (some ⟨p, 0, none⟩)] w fun e w' => e = .returned (.tuple #[.int .i64 0, .bool false]) ∧ Only nob w w' := lPop_none p b g l T F vt vf w h.lo
/-- Sweep. -/
theorem sSweep {all : Sp} {p b g : Nat} {T F : List Sp} {ms : Nat → Bool} {l : List Nat} {vt vf : Value} {w : World} (h : LoS all w p b g T F ms [] l vt vf) (hp : Par w) (hT : T.length ≤ 1000) :
    Calls Tryd.prog 8 #[.pointer (some ⟨p, 0, none⟩)] w fun e w' => ∃ vg, e = .returned (.tuple #[vg, .int .i64 0]) ∧ Sl w' w'.heap.size 2 vg (picks (fun j => !ms j) T T.length).length (spc (picks (fun j => !ms j) T T.length)) ∧
      (∃ l' O vt' vf', LoS all w' p b g (picks ms T T.length) O (fun _ => false) [] l' vt' vf') ∧ Only (pgb p g) w w' := by
  refine (lSweep_ok all p b g l T F ms _ vt vf w h.lo hp h.los hT).mono ?_
  rintro e w' ⟨vg, rfl, h1, ⟨l', O, vt', vf', h2, h3⟩, h4⟩
  exact ⟨vg, rfl, h1, ⟨l', O, vt', vf', h2, h3⟩, h4⟩
/-- New. -/
theorem sNew {b g : Nat} {l : List Nat} {all : Sp} {v : Value} {w : World} (h : Ar w b g l) (ha : all.ok) (hl : all.1 + all.2 ≤ (l.length : Int)) (hv : Sl w w.heap.size 2 v 1 (spc [all])) :
    Calls Tryd.prog 4 #[.pointer (some ⟨b, 0, none⟩), .agg #[.int .i64 all.1, .int .i64 all.2], .slice none 0 0, v] w fun e w' => ∃ p vt vf, e = .returned (.tuple #[.pointer (some ⟨p, 0, none⟩), .int .i64 0]) ∧ w.heap.size ≤ p ∧ LoS all w' p b g [] [all] (fun _ => false) [] l vt vf ∧ Only nob w w' :=
  (lNew_ok b g l all v w h ha hl hv).mono fun _ _ ⟨p, vt, vf, h1, h2, h3, h4⟩ => ⟨p, vt, vf, h1, h2, ⟨h3, los_new ha hl⟩, h4⟩
/-- Blocks that a call has made are its own. -/
theorem Only.pgb_new {p g : Nat} {a w w' : World} (h : Only nob a w) (hp : a.heap.size ≤ p) (hg : a.heap.size ≤ g) (o : Only (Go.Proofs.YtoeccbbjncgmlaaDoor.pgb p g) w w') : Only nob a w' := h.andThen o fun i hi e => by
  rcases e with rfl | rfl
  · omega
  · omega

def all13 : Sp := (2, 10)
def m13 (j : Nat) : Bool := if j = 1 then true else false
theorem free13 {O : List Sp} (h : TableP all13 [(5, 4)] O) : O = [(2, 3), (9, 3)] := by
  have hok : ∀ x : Sp, x = (2, 3) ∨ x = (9, 3) → x.ok := by rintro x (rfl | rfl) <;> decide
  have hJ : Joined [((2 : Int), (3 : Int)), (9, 3)] := ⟨fun x hx => hok x (by simpa using hx), by simp⟩
  refine joined_unique h.2.2.2.1 hJ fun p => (h.2.2.2.2 p).trans ?_
  rw [cov_one, cov_cons, cov_one]
  have o1 : Sp.ok (5, 4) := by decide
  have o2 : Sp.ok (2, 3) := by decide
  have o3 : Sp.ok (9, 3) := by decide
  have o4 : Sp.ok all13 := by decide
  unfold Sp.has all13
  unfold all13 at o4
  simp only [o1, o2, o3, o4, true_and]
  omega
theorem take13a : takeT [all13] (1 + 0 + 2) = ([(5, 7)], 2, 0) := by decide
theorem take13b : takeT [((5 : Int), (7 : Int))] (1 + 3 + 0) = ([(9, 3)], 5, 0) := by decide
theorem put13 : putE [((2 : Int), (3 : Int)), (9, 3)] (hSz 0 0 9 0) = 9 := by decide

set_option maxHeartbeats 8000000 in
theorem awake13_any (w : World) (ht : Par w) : Calls Tryd.prog 11 #[] w fun e w' => e = .returned (.bool true) ∧ Only nob w w' := by
  have HP := Lib.hid ht
  clear ht
  go_enter Tryd.func11, Tryd.ntmps11
  go_wp2_with fail
  go_at_call 31
  refine (new_any 12 _ (by decide)).mono ?_
  rintro e w1 ⟨b, g, rfl, hb, hg, hA, o⟩
  have HG := Lib.hid hg
  obtain ⟨W1, hW1, HB1⟩ : ∃ W1, w1.alloc (.cells #[.int .i64 2, .int .i64 10] 25) = W1 ∧ Hid (Only nob w W1 ∧ Blk W1 w1.heap.size 25 #[.int .i64 2, .int .i64 10] ∧ Ar W1 b g (List.replicate 12 0)) :=
    ⟨_, rfl, Lib.hid ⟨o.alloc _, Blk.new _ _ _, hA.keep ((Only.refl nob w1).alloc _) id id⟩⟩
  have HW1 := Lib.hid hW1
  obtain ⟨W2, hW2, HB2⟩ : ∃ W2, W1.alloc (.cells #[.int .i64 2, .int .i64 10] 25) = W2 ∧ Hid (Only nob w W2 ∧ Blk W2 W1.heap.size 25 #[.int .i64 2, .int .i64 10] ∧ Ar W2 b g (List.replicate 12 0)) :=
    ⟨_, rfl, Lib.hid ⟨HB1.out.1.alloc _, Blk.new _ _ _, HB1.out.2.2.keep ((Only.refl nob W1).alloc _) id id⟩⟩
  have HW2 := Lib.hid hW2
  have SV := Lib.hid (show Sl W2 W2.heap.size 2 (.slice (some ⟨W1.heap.size, 0, none⟩) 1 1) 1 (spc [all13]) from by
    have := Sl.of_blk (size := 2) (n := 1) (c := 1) HB2.out.2.1 (by simp) (Nat.le_refl _) (by decide)
    simpa [spc, all13] using this)
  have s0 := HB1.out.2.1.cell 0
  have s1 := HB1.out.2.1.cell 1
  simp at s0 s1
  clear hb hg hA o hW1 hW2
  go_upto_region 3 with fail
  rw [HW1.out]
  go_wp2_with fail
  rw [HW2.out]
  clear s0 s1
  go_at_call 4
  refine (sNew (all := all13) HB2.out.2.2 (by decide) (by decide) SV.out).mono ?_
  rintro e w3 ⟨p, vt, vf, rfl, hp, hL, o⟩
  have HPW := Lib.hid (Nat.le_trans HB2.out.1.size hp)
  have O3 := Lib.hid (HB2.out.1.trans o)
  have L3 := Lib.hid hL
  clear hp hL o
  go_wp2_with fail
  go_at_call 5
  refine (sPut_ok (k := 0) (f := 0) (r := 2) (c := 0) L3.out (HP.out.old O3.out) (by decide) (by decide) take13a).mono ?_
  rintro e w4 ⟨rfl, ⟨l4, vt4, vf4, hL⟩, o⟩
  have O4 := Lib.hid (O3.out.pgb_new HPW.out HG.out o)
  have L4 := Lib.hid (show LoS all13 w4 p b g [(2, 3)] [(5, 7)] (fun _ => false) [] l4 vt4 vf4 from hL)
  clear hL o
  go_wp2_with fail
  go_at_call 5
  refine (sPut_ok (k := 0) (f := 3) (r := 0) (c := 0) L4.out (HP.out.old O4.out) (by decide) (by decide) take13b).mono ?_
  rintro e w5 ⟨rfl, ⟨l5, vt5, vf5, hL⟩, o⟩
  have O5 := Lib.hid (O4.out.pgb_new HPW.out HG.out o)
  have L5 := Lib.hid (show LoS all13 w5 p b g [(2, 3), (5, 4)] [(9, 3)] (fun _ => false) [] l5 vt5 vf5 from hL)
  clear hL o
  go_wp2_with fail
  go_at_call 6
  refine (sMark_ok (k := 1) (x := (5, 4)) L5.out (HP.out.old O5.out) (by decide) rfl rfl).mono ?_
  rintro e w6 ⟨rfl, ⟨l6, hL⟩, o⟩
  have O6 := Lib.hid (O5.out.pgb_new HPW.out HG.out o)
  have L6 := Lib.hid (show LoS all13 w6 p b g [(2, 3), (5, 4)] [(9, 3)] m13 [1] l6 vt5 vf5 from hL)
  clear hL o
  go_wp2_with fail
  go_at_call 6
  refine (sMark_twice (k := 1) (x := (5, 4)) L6.out (HP.out.old O6.out) rfl rfl).mono ?_
  rintro e w7 ⟨rfl, o⟩
  have O7 := Lib.hid (O6.out.trans o)
  have L7 := Lib.hid (L6.out.keep o)
  clear o
  go_wp2_with fail
  go_at_call 7
  refine (sPop_ok L7.out (HP.out.old O7.out)).mono ?_
  rintro e w8 ⟨⟨x, hx, rfl⟩, ⟨l8, hL⟩, o⟩
  obtain rfl : ((5 : Int), (4 : Int)) = x := Option.some.inj hx
  have O8 := Lib.hid (O7.out.pgb_new HPW.out HG.out o)
  have L8 := Lib.hid hL
  clear hx hL o
  go_wp2_with fail
  go_at_call 7
  refine (sPop_none L8.out).mono ?_
  rintro e w9 ⟨rfl, o⟩
  have O9 := Lib.hid (O8.out.trans o)
  have L9 := Lib.hid (L8.out.keep o)
  clear o
  go_wp2_with fail
  go_at_call 8
  refine (sSweep L9.out (HP.out.old O9.out) (by decide)).mono ?_
  rintro e w10 ⟨vg, rfl, hg, ⟨l10, O, vt10, vf10, hL⟩, o⟩
  have O10 := Lib.hid (O9.out.pgb_new HPW.out HG.out o)
  obtain rfl := free13 hL.los.tab
  have L10 := Lib.hid (show LoS all13 w10 p b g [(5, 4)] [(2, 3), (9, 3)] (fun _ => false) [] l10 vt10 vf10 from hL)
  obtain ⟨bg, og, cg, rfl, -, -, hbg, hcg⟩ := (show Sl w10 w10.heap.size 2 vg 1 (spc [(2, 3)]) from hg).at_ (by decide)
  have G10 := Lib.hid (show w10.cell? ⟨bg, og, none⟩ = some (.int .i64 2) from hcg 0 (.int .i64 2) rfl)
  clear hL o hg hcg
  go_wp2_with fail
  go_at_call 6
  refine (lMark_no p b g _ _ _ _ _ _ 2 _ L10.out.lo L10.out.los.fitsT (by decide)).mono ?_
  rintro e w11 ⟨rfl, o⟩
  have O11 := Lib.hid (O10.out.trans o)
  have L11 := Lib.hid (L10.out.keep o)
  have G11 := Lib.hid (o.keeps G10.out)
  clear o
  go_wp2_with fail
  go_at_call 5
  refine (lPut_no p b g _ _ _ _ _ _ 0 0 9 false 0 _ L11.out.lo (HP.out.old O11.out) L11.out.los.fitsF (by decide) (by rw [put13]; decide)).mono ?_
  rw [put13]
  rintro e w12 ⟨rfl, o⟩
  have O12 := Lib.hid (O11.out.trans o)
  have L12 := Lib.hid (L11.out.keep o)
  have G12 := Lib.hid (o.keeps G11.out)
  clear o
  go_wp2_with fail
  go_at_call 5
  refine (lPut_none (.pointer none) 0 0 0 false 0 _ (.inl rfl)).mono ?_
  rintro e w13 ⟨rfl, o⟩
  have O13 := Lib.hid (O12.out.trans o)
  have L13 := Lib.hid (L12.out.keep o)
  have G13 := Lib.hid (o.keeps G12.out)
  clear o
  have d0 := G13.out
  go_wp2_with fail
  go_at_call 9
  refine (lTable_any p b g _ _ _ _ _ _ _ L13.out.lo (by decide)).mono ?_
  rintro e w14 ⟨v14, rfl, own14, o⟩
  obtain ⟨A14, c14, rfl, -, -⟩ := own_len own14
  have O14 := Lib.hid (O13.out.trans o)
  have L14 := Lib.hid (L13.out.keep o)
  clear own14 o d0
  go_wp2_with fail
  go_at_call 10
  refine (lFree_any p b g _ _ _ _ _ _ _ L14.out.lo (by decide)).mono ?_
  rintro e w15 ⟨v15, rfl, own15, o⟩
  obtain ⟨bf, of, cf, rfl, -, -, hbf, hcf⟩ := (show Sl w15 w15.heap.size 2 v15 2 (spc [(2, 3), (9, 3)]) from Sl.of_own own15 rfl).at_ (by decide)
  have O15 := Lib.hid (O14.out.trans o)
  have d0 := show w15.cell? ⟨bf, of, none⟩ = some (.int .i64 2) from hcf 0 (.int .i64 2) rfl
  have d1 := show w15.cell? ⟨bf, of + 1, none⟩ = some (.int .i64 3) from hcf 1 (.int .i64 3) rfl
  clear own15 o hcf
  go_wp2
  go_ret
  exact ⟨rfl, O15.out⟩
end Go.Proofs.YtoeccbbjncgmlaaDoor
