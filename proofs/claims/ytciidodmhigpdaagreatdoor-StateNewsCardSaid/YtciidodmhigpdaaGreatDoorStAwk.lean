/- awake of the statements of layer 15, out of the contracts. -/
import Derived.Test.YtciidodmhigpdaaGreatDoorStCop
import Derived.Deep.DeepCutAuto
namespace Go.Proofs.YtciidodmhigpdaaGreatDoor
open Go.RowKit
set_option maxRecDepth 100000

theorem a_ok : StOk aS ∧ StOk aT ∧ StOk aU ∧ StOk aV ∧ StOk noSt := by
  have cf : CFit aC := by constructor <;> (unfold I64 aC; simp)
  have cf0 : CFit (⟨0, 0, 0, 0⟩ : Cf) := by constructor <;> (unfold I64; simp)
  have w1 : Words (List.replicate 11 0) := fun x hx => by rw [(List.mem_replicate.1 hx).2]; decide
  have w2 : Words [3, 38, 0, 0, 0, 0, 0, 0, 0, 0, 0] := by unfold Words; decide
  have fr : SpOk [(8, 3)] := fun x hx => by rw [List.mem_singleton.1 hx]; unfold I64; simp
  have s1 : SlOk [(false, 0, 0), (false, 0, 0)] := fun x hx => by
    simp at hx; rw [hx]; exact ⟨by simp, by simp, by decide⟩
  have s2 : SlOk [(true, 0, 18), (false, 0, 0)] := fun x hx => by
    simp at hx
    rcases hx with rfl | rfl
    · exact ⟨by simp, by simp, by decide⟩
    · exact ⟨by simp, by simp, by decide⟩
  have t0 : I64 0 := by unfold I64; simp
  have t1 : I64 1 := by unfold I64; simp
  have e0 : SpOk [] := fun _ h => by cases h
  exact ⟨⟨cf, w1, t0, e0, fr, s1, by unfold aS; simp⟩, ⟨cf, w1, t1, e0, fr, s1, by unfold aT aS; simp⟩, ⟨cf, w2, t1, e0, fr, s1, by unfold aU aS; simp⟩, ⟨cf, w2, t1, e0, fr, s2, by unfold aV aU aS; simp⟩, ⟨cf0, (fun _ h => by cases h), t0, e0, e0, (fun _ h => by cases h), by unfold noSt; simp⟩⟩
theorem eqSp (a b c d : Int) (w : World) : (Op.equalIn 10000 50 (.agg #[.int .i64 a, .int .i64 b]) (.agg #[.int .i64 c, .int .i64 d])).run Tryz.prog w = .ok (decide (a = c ∧ b = d)) w := by
  have hS : Tryz.prog.underlying 50 = some (.struct (Tryz.prog.fieldsOf 50)) := by kernel_rfl
  rw [show (10000 : Nat) = 9999 + 1 from rfl, run_equalIn_agg w 9999 50 _ _ hS (by kernel_rfl)]
  simp only [Program.fieldsOf, Tryz.underlying50]
  go_simp
  by_cases h1 : a = c <;> by_cases h2 : b = d <;> simp [h1, h2]
/-- The words of a copy, two of them written; its slots, one of them written. -/
theorem own_u {w : World} {base : Nat} {v : Value} (h : w.ownsRow base 48 1 v 11 (u64s (List.replicate 11 0))) :
    ∃ g c, v = .slice (some ⟨g, 0, none⟩) 11 c ∧ 11 ≤ c ∧ c ≤ maxLen ∧ base ≤ g ∧ (∃ z, w.cell? ⟨g, 0, none⟩ = some (.int .u64 z)) ∧ w.frozen? ⟨g, 0, none⟩ = false ∧
      ∃ W, w.setCell ⟨g, 0, none⟩ (.int .u64 3) = W ∧ (∃ z, W.cell? ⟨g, 1, none⟩ = some (.int .u64 z)) ∧ W.frozen? ⟨g, 1, none⟩ = false ∧ Only (isb g) w W ∧
      ∃ W2, W.setCell ⟨g, 1, none⟩ (.int .u64 38) = W2 ∧ Only (isb g) W W2 ∧ W2.ownsRow base 48 1 v 11 (u64s [3, 38, 0, 0, 0, 0, 0, 0, 0, 0, 0]) := by
  obtain ⟨g, c, rfl, hc, hm, hf, hcl, hu⟩ := own_set h (i := 0) (by decide)
  obtain ⟨h2, -⟩ := hu (.int .u64 3)
  obtain ⟨g', c', e', -, -, hf2, hcl2, hu2⟩ := own_set h2 (i := 1) (by decide)
  obtain ⟨rfl, rfl⟩ : g = g' ∧ c = c' := by simpa using e'
  obtain ⟨h3, -⟩ := hu2 (.int .u64 38)
  refine ⟨g, c, rfl, hc, hm, (own_lt h (k := g) rfl).1, ⟨0, hcl.trans rfl⟩, hf, _, rfl, ⟨0, hcl2.trans rfl⟩, hf2, only_set w g 0 _, _, rfl, only_set _ g 1 _, h3⟩
theorem own_v {w : World} {base : Nat} {v : Value} (h : w.ownsRow base 52 3 v 2 (slc [(false, 0, 0), (false, 0, 0)])) :
    ∃ g c, v = .slice (some ⟨g, 0, none⟩) 2 c ∧ 2 ≤ c ∧ c ≤ maxLen ∧ base ≤ g ∧ (w.cell? ⟨g, 0, none⟩ = some (.bool false) ∧ w.cell? ⟨g, 1, none⟩ = some (.int .i64 0) ∧ w.cell? ⟨g, 2, none⟩ = some (.int .u64 0)) ∧ (w.frozen? ⟨g, 0, none⟩ = false ∧ w.frozen? ⟨g, 1, none⟩ = false ∧ w.frozen? ⟨g, 2, none⟩ = false) ∧
      ∃ W, ((w.setCell ⟨g, 0, none⟩ (.bool true)).setCell ⟨g, 1, none⟩ (.int .i64 0)).setCell ⟨g, 2, none⟩ (.int .u64 18) = W ∧ Only (isb g) w W ∧ W.ownsRow base 52 3 v 2 (slc [(true, 0, 18), (false, 0, 0)]) := by
  obtain ⟨g, c, rfl, hc, hm, hf0, hcl0, hu⟩ := own_set h (i := 0) (by decide)
  obtain ⟨_, _, e1, -, -, hf1, hcl1, -⟩ := own_set h (i := 1) (by decide)
  obtain ⟨_, _, e2, -, -, hf2, hcl2, -⟩ := own_set h (i := 2) (by decide)
  obtain ⟨rfl, rfl⟩ : g = _ ∧ c = _ := by simpa using e1
  obtain ⟨rfl, rfl⟩ : g = _ ∧ c = _ := by simpa using e2
  obtain ⟨h1, o1⟩ := hu (.bool true)
  obtain ⟨g', c', e', -, -, -, -, hu2⟩ := own_set h1 (i := 1) (by decide)
  obtain ⟨rfl, rfl⟩ : g = g' ∧ c = c' := by simpa using e'
  obtain ⟨h2, -⟩ := hu2 (.int .i64 0)
  obtain ⟨g', c', e', -, -, -, -, hu3⟩ := own_set h2 (i := 2) (by decide)
  obtain ⟨rfl, rfl⟩ : g = g' ∧ c = c' := by simpa using e'
  obtain ⟨h3, -⟩ := hu3 (.int .u64 18)
  exact ⟨g, c, rfl, hc, hm, (own_lt h (k := g) rfl).1, ⟨hcl0.trans rfl, hcl1.trans rfl, hcl2.trans rfl⟩, ⟨hf0, hf1, hf2⟩, _, rfl, ((only_set w g 0 _).trans (only_set _ g 1 _)).trans (only_set _ g 2 _), h3⟩
end Go.Proofs.YtciidodmhigpdaaGreatDoor

/- awake of the statements of layer 15, its walk. -/
namespace Go.Proofs.YtciidodmhigpdaaGreatDoor
open Go.RowKit
set_option maxRecDepth 100000

/-- A heap in a box, all of it below block N. -/
structure At15 (N p : Nat) (s : St) (vw vt vf vs : Value) (w : World) : Prop where
  rd : Rd w N s vw vt vf vs
  box : SBox w p s vw vt vf vs
  lt : p < N
  le : N ≤ w.heap.size
theorem At15.keep {N p : Nat} {s : St} {vw vt vf vs : Value} {w w' : World} {F : Nat → Prop} (h : At15 N p s vw vt vf vs w) (o : Only F w w') (hF : ∀ k, F k → N ≤ k) : At15 N p s vw vt vf vs w' :=
  ⟨h.rd.below (o.below h.le hF), h.box.keepF o fun f => by have := hF _ f; have := h.lt; omega, h.lt, Nat.le_trans h.le o.size⟩
theorem At15.old {N p : Nat} {s : St} {vw vt vf vs : Value} {w w' : World} (h : At15 N p s vw vt vf vs w) (o : Only nob w w') : At15 N p s vw vt vf vs w' := h.keep o fun _ f => f.elim
theorem box_and {W : World} {b : Nat} {s : St} {vw vt vf vs : Value} (h : SBox W b s vw vt vf vs) : W.cell? ⟨b, 0, none⟩ = some (.int .i64 s.cf.semi) ∧ W.cell? ⟨b, 1, none⟩ = some (.int .i64 s.cf.large) ∧ W.cell? ⟨b, 2, none⟩ = some (.int .i64 s.cf.slots) ∧ W.cell? ⟨b, 3, none⟩ = some (.int .i64 s.cf.limit) ∧ W.cell? ⟨b, 4, none⟩ = some (.bool s.sec) ∧ W.cell? ⟨b, 5, none⟩ = some vw ∧ W.cell? ⟨b, 6, none⟩ = some (.int .i64 s.top) ∧ W.cell? ⟨b, 7, none⟩ = some vt ∧ W.cell? ⟨b, 8, none⟩ = some vf ∧ W.cell? ⟨b, 9, none⟩ = some vs := ⟨h.c0, h.c1, h.c2, h.c3, h.c4, h.c5, h.c6, h.c7, h.c8, h.c9⟩
theorem only_own {a b c : World} {g : Nat} (h : Only nob a b) (o : Only (isb g) b c) (hg : a.heap.size ≤ g) : Only nob a c := h.andThen o fun i hi e => by unfold isb at e; omega

section
variable (C : StateC)
include C
theorem new_aS (w : World) : Calls Tryz.prog 18 #[.agg #[.int .i64 4, .int .i64 3, .int .i64 2, .int .i64 3]] w fun e w' => ∃ (sw : Option Addr) (sa : Nat) (st : Option Addr) (sb : Nat) (sf : Option Addr) (sc : Nat) (ss : Option Addr) (sd : Nat), e = .returned (.tuple #[.agg #[.int .i64 4, .int .i64 3, .int .i64 2, .int .i64 3, .bool false, .slice sw 11 sa, .int .i64 0, .slice st 0 sb, .slice sf 1 sc, .slice ss 2 sd], .int .i64 0]) ∧ Rd w' w'.heap.size aS (.slice sw 11 sa) (.slice st 0 sb) (.slice sf 1 sc) (.slice ss 2 sd) ∧ Only nob w w' := by
  refine (C.new aC w a_ok.1.cf).mono ?_
  rintro e w' ⟨s, vw, vt, vf, vs, hs, rfl, hr, o⟩
  obtain rfl : s = aS := hs.trans aS_new
  obtain ⟨sw, sa, rfl, -, -⟩ := hr.words.form
  obtain ⟨st, sb, rfl, -, -⟩ := hr.tab.form
  obtain ⟨sf, sc, rfl, -, -⟩ := hr.free.form
  obtain ⟨ss, sd, rfl, -, -⟩ := hr.slots.form
  have h0 : nwE aC = 0 := if_pos aC_ok
  exact ⟨sw, sa, st, sb, sf, sc, ss, sd, by rw [h0]; rfl, hr, o⟩
theorem copy_a {s : St} {tp : Int} (h7 : s.top = tp) (h1 : s.cf = aC) (h2 : s.sec = false) (h3 : s.ws.length = 11) (h4 : s.tb.length = 0) (h5 : s.fr.length = 1) (h6 : s.sl.length = 2) (hok : StOk s) (vw vt vf vs : Value) (N : Nat) (w : World) (h : Rd w N s vw vt vf vs) (hN : N ≤ w.heap.size) : Calls Tryz.prog 21 #[.agg #[.int .i64 4, .int .i64 3, .int .i64 2, .int .i64 3, .bool false, vw, .int .i64 tp, vt, vf, vs]] w fun e w' => ∃ (qw : Option Addr) (qa : Nat) (qt : Option Addr) (qb : Nat) (qf : Option Addr) (qc : Nat) (qs : Option Addr) (qd : Nat), e = .returned (.agg #[.int .i64 4, .int .i64 3, .int .i64 2, .int .i64 3, .bool false, .slice qw 11 qa, .int .i64 tp, .slice qt 0 qb, .slice qf 1 qc, .slice qs 2 qd]) ∧ Own4 w' w.heap.size s (.slice qw 11 qa) (.slice qt 0 qb) (.slice qf 1 qc) (.slice qs 2 qd) ∧ Only nob w w' := by
  subst h7
  have hc := C.copy s vw vt vf vs N w h hN hok
  rw [h1, h2] at hc
  refine Calls.mono (show Calls Tryz.prog 21 #[.agg #[.int .i64 4, .int .i64 3, .int .i64 2, .int .i64 3, .bool false, vw, .int .i64 s.top, vt, vf, vs]] w _ from hc) ?_
  rintro e w' ⟨uw, ut, uf, us, rfl, hO, o⟩
  obtain ⟨qw, qa, rfl, -, -⟩ := own_len hO.words
  obtain ⟨qt, qb, rfl, -, -⟩ := own_len hO.tab
  obtain ⟨qf, qc, rfl, -, -⟩ := own_len hO.free
  obtain ⟨qs, qd, rfl, -, -⟩ := own_len hO.slots
  rw [h3, h4, h5, h6] at hO ⊢
  exact ⟨qw, qa, qt, qb, qf, qc, qs, qd, rfl, hO, o⟩
end

set_option maxHeartbeats 16000000 in
theorem awake15 (C : StateC) : AwC := by
  intro w hpar
  have HPAR := Lib.hid hpar
  clear hpar
  go_enter Tryz.func8, Tryz.ntmps8
  go_wp2_with fail
  go_at_call 18
  refine (new_aS C w).mono ?_
  rintro e w1 ⟨sw, sa, st, sb, sf, sc, ss, sd, rfl, hr, o⟩
  obtain ⟨W1, hW1, HB1⟩ : ∃ W1, w1.alloc (.cells #[.int .i64 4, .int .i64 3, .int .i64 2, .int .i64 3, .bool false, .slice sw 11 sa, .int .i64 0, .slice st 0 sb, .slice sf 1 sc, .slice ss 2 sd] 28) = W1 ∧ Hid (Only nob w1 W1 ∧ Blk W1 w1.heap.size 28 #[.int .i64 4, .int .i64 3, .int .i64 2, .int .i64 3, .bool false, .slice sw 11 sa, .int .i64 0, .slice st 0 sb, .slice sf 1 sc, .slice ss 2 sd]) := ⟨_, rfl, Lib.hid ⟨(Only.refl nob w1).alloc _, Blk.new _ _ _⟩⟩
  have HW1 := Lib.hid hW1
  have O1 := Lib.hid (o.trans HB1.out.1)
  obtain ⟨p1, hp1⟩ : ∃ p, p = w1.heap.size := ⟨_, rfl⟩
  have HP1 := Lib.hid hp1
  have AS1 := Lib.hid (show At15 W1.heap.size p1 aS (.slice sw 11 sa) (.slice st 0 sb) (.slice sf 1 sc) (.slice ss 2 sd) W1 from ⟨(hr.only HB1.out.1 (Nat.le_refl _)).more HB1.out.1.size, by rw [hp1]; exact SBox.of HB1.out.2, by rw [hp1]; exact HB1.out.2.lt, Nat.le_refl _⟩)
  obtain ⟨N1, hN1⟩ : ∃ N, N = W1.heap.size := ⟨_, rfl⟩
  rw [← hN1] at AS1
  have HN1 := Lib.hid hN1
  clear o hr hW1 hp1 hN1
  go_upto_region 2 with fail
  rw [HW1.out, ← HP1.out]
  obtain ⟨c0, c1, c2, c3, c4, c5, c6, c7, c8, c9⟩ := AS1.out.box
  go_wp2_with fail
  go_at_call 21
  refine (copy_a C (s := aS) (tp := 0) rfl rfl rfl rfl rfl rfl rfl a_ok.1 _ _ _ _ _ W1 AS1.out.rd AS1.out.le).mono ?_
  rintro e w2 ⟨tw, ta, tt, tb, tf, tc, ts, td, rfl, hO, o⟩
  obtain ⟨W2, hW2, HB2⟩ : ∃ W2, w2.alloc (.cells #[.int .i64 4, .int .i64 3, .int .i64 2, .int .i64 3, .bool false, .slice tw 11 ta, .int .i64 0, .slice tt 0 tb, .slice tf 1 tc, .slice ts 2 td] 28) = W2 ∧ Hid (Only nob w2 W2 ∧ Blk W2 w2.heap.size 28 #[.int .i64 4, .int .i64 3, .int .i64 2, .int .i64 3, .bool false, .slice tw 11 ta, .int .i64 0, .slice tt 0 tb, .slice tf 1 tc, .slice ts 2 td]) := ⟨_, rfl, Lib.hid ⟨(Only.refl nob w2).alloc _, Blk.new _ _ _⟩⟩
  have HW2 := Lib.hid hW2
  obtain ⟨p2, hp2⟩ : ∃ p, p = w2.heap.size := ⟨_, rfl⟩
  have HP2 := Lib.hid hp2
  have O2 := Lib.hid (O1.out.trans (o.trans HB2.out.1))
  have AS2 := Lib.hid (AS1.out.old (o.trans HB2.out.1))
  have RT2 := Lib.hid (hO.keep HB2.out.1).rd
  have BX2 := HB2.out.2
  rw [← hp2] at BX2
  have HN12 : N1 ≤ p2 := by rw [hp2, HN1.out]; exact o.size
  have fz := BX2.free 6
  obtain ⟨W3, hW3⟩ : ∃ W3, W2.setCell ⟨p2, 6, none⟩ (.int .i64 1) = W3 := ⟨_, rfl⟩
  have HW3 := Lib.hid hW3
  have BX3 : Blk W3 p2 28 #[.int .i64 4, .int .i64 3, .int .i64 2, .int .i64 3, .bool false, .slice tw 11 ta, .int .i64 1, .slice tt 0 tb, .slice tf 1 tc, .slice ts 2 td] := hW3 ▸ BX2.put 6 (.int .i64 1)
  have oo : Only (isb p2) W2 W3 := hW3 ▸ only_set W2 p2 6 _
  have hw2 : w.heap.size ≤ p2 := Nat.le_trans (Nat.le_trans O1.out.size (by rw [HN1.out] at HN12; exact HN12)) (Nat.le_refl _)
  have O3 := Lib.hid (only_own O2.out oo hw2)
  have AS3 := Lib.hid (AS2.out.keep oo fun k e => by unfold isb at e; omega)
  have HRT3 : Rd W3 W3.heap.size aT (.slice tw 11 ta) (.slice tt 0 tb) (.slice tf 1 tc) (.slice ts 2 td) := by
    have h0 := (hO.keep HB2.out.1)
    have n : ∀ {E : TypeId} {size n : Nat} {v : Value} {xs : List Value}, w2.ownsRow W1.heap.size E size v n xs → ∀ k, v.ownBlock = some k → ¬ isb p2 k := fun h k e f => by
      have h1 := (own_lt h e).2
      unfold isb at f
      omega
    exact Own4.rd (s := aT) (base := W1.heap.size) ⟨own_only h0.words oo (n hO.words), own_only h0.tab oo (n hO.tab), own_only h0.free oo (n hO.free), own_only h0.slots oo (n hO.slots), h0.apart⟩
  have AT3 := Lib.hid (show At15 W3.heap.size p2 aT (.slice tw 11 ta) (.slice tt 0 tb) (.slice tf 1 tc) (.slice ts 2 td) W3 from ⟨HRT3, SBox.of BX3, BX3.lt, Nat.le_refl _⟩)
  obtain ⟨N3, hN3⟩ : ∃ N, N = W3.heap.size := ⟨_, rfl⟩
  rw [← hN3] at AT3
  have HN3 := Lib.hid hN3
  have hN13 : N1 ≤ N3 := by rw [hN3]; exact AS3.out.le
  have k26 : ∃ z, W2.cell? ⟨p2, 6, none⟩ = some (.int .i64 z) := ⟨0, BX2.cell 6⟩
  obtain ⟨z6, k26⟩ := k26
  have HFR := Lib.hid (show ∃ b o, sf = some ⟨b, o, none⟩ ∧ b < N1 from by
    obtain ⟨b, o, h1, h2, -⟩ := sl_span (l := [(8, 3)]) (k := 0) AS1.out.rd.free (Below.refl _ _) rfl
    exact ⟨b, o, h1, h2⟩)
  clear o hO hW2 hp2 hW3 BX2 BX3 oo hN3 HRT3 c0 c1 c2 c3 c4 c5 c6 c7 c8 c9
  go_upto_region 5 with fail
  rw [HW2.out, ← HP2.out]
  go_upto_region 6 with fail
  rw [HW3.out]
  clear fz k26
  obtain ⟨c0, c1, c2, c3, c4, c5, c6, c7, c8, c9⟩ := AS3.out.box
  go_wp2_with fail
  go_at_call 9
  refine (C.objects aS _ _ _ _ _ W3 AS3.out.rd AS3.out.le a_ok.1 (HPAR.out.old O3.out)).mono ?_
  rw [a_lists.1, a_lists.2.1]
  rintro e w4 ⟨v4, rfl, hs4, o⟩
  obtain ⟨l4, m4, rfl, -, -⟩ := hs4.form
  have O4 := Lib.hid (O3.out.trans o)
  have AS4 := Lib.hid (AS3.out.old o)
  have AT4 := Lib.hid (AT3.out.old o)
  clear o hs4 c0 c1 c2 c3 c4 c5 c6 c7 c8 c9
  obtain ⟨c0, c1, c2, c3, c4, c5, c6, c7, c8, c9⟩ := AS4.out.box
  go_wp2_with fail
  go_at_call 21
  refine (copy_a C (s := aS) (tp := 0) rfl rfl rfl rfl rfl rfl rfl a_ok.1 _ _ _ _ _ w4 AS4.out.rd AS4.out.le).mono ?_
  rintro e w5 ⟨uw, ua, ut, ub, uf, uc, us, ud, rfl, hO, o⟩
  obtain ⟨W5, hW5, HB5⟩ : ∃ W5, w5.alloc (.cells #[.int .i64 4, .int .i64 3, .int .i64 2, .int .i64 3, .bool false, .slice uw 11 ua, .int .i64 0, .slice ut 0 ub, .slice uf 1 uc, .slice us 2 ud] 28) = W5 ∧ Hid (Only nob w5 W5 ∧ Blk W5 w5.heap.size 28 #[.int .i64 4, .int .i64 3, .int .i64 2, .int .i64 3, .bool false, .slice uw 11 ua, .int .i64 0, .slice ut 0 ub, .slice uf 1 uc, .slice us 2 ud]) := ⟨_, rfl, Lib.hid ⟨(Only.refl nob w5).alloc _, Blk.new _ _ _⟩⟩
  have HW5 := Lib.hid hW5
  obtain ⟨p5, hp5⟩ : ∃ p, p = w5.heap.size := ⟨_, rfl⟩
  have HP5 := Lib.hid hp5
  have O5 := Lib.hid (O4.out.trans (o.trans HB5.out.1))
  have AS5 := Lib.hid (AS4.out.old (o.trans HB5.out.1))
  have AT5 := Lib.hid (AT4.out.old (o.trans HB5.out.1))
  have BX5 := HB5.out.2
  rw [← hp5] at BX5
  have OW5 := hO.keep HB5.out.1
  obtain ⟨gu, cu, eu, hcu, hmu, hgu, hx0, hf0, W6, hW6, hx1, hf1, o6, W7, hW7, o7, hrow⟩ := own_u OW5.words
  obtain ⟨rfl, rfl⟩ : uw = some ⟨gu, 0, none⟩ ∧ ua = cu := by simpa using eu
  have hw4 : w.heap.size ≤ w4.heap.size := O4.out.size
  have hN34 : N3 ≤ w4.heap.size := AT4.out.le
  have hgp : gu < p5 := by rw [hp5]; exact (own_lt hO.words (k := gu) rfl).2
  have hp5' : w4.heap.size ≤ p5 := by omega
  have o67 : Only (isb gu) W5 W7 := o6.trans o7
  have BX7 := BX5.keep o67 (fun e => by unfold isb at e; omega)
  have BX6 := BX5.keep o6 (fun e => by unfold isb at e; omega)
  obtain ⟨W8, hW8⟩ : ∃ W8, W7.setCell ⟨p5, 6, none⟩ (.int .i64 1) = W8 := ⟨_, rfl⟩
  have o8 : Only (isb p5) W7 W8 := hW8 ▸ only_set W7 p5 6 _
  have BX8 : Blk W8 p5 28 #[.int .i64 4, .int .i64 3, .int .i64 2, .int .i64 3, .bool false, .slice (some ⟨gu, 0, none⟩) 11 ua, .int .i64 1, .slice ut 0 ub, .slice uf 1 uc, .slice us 2 ud] := hW8 ▸ BX7.put 6 (.int .i64 1)
  have hrow8 := own_only hrow o8 (fun k e f => by
    have h1 : gu = k := by simpa [Value.ownBlock] using e
    unfold isb at f
    omega)
  have nT : ∀ {E : TypeId} {size n : Nat} {v : Value} {xs : List Value}, W5.ownsRow w4.heap.size E size v n xs → (∀ k, v.ownBlock = some k → k ≠ gu) → (∀ k, v.ownBlock = some k → k ≠ p5) → W8.ownsRow w4.heap.size E size v n xs := fun h h1 h2 => own_only (own_only h o67 fun k e f => h1 k e f) o8 fun k e f => h2 k e f
  have nP : ∀ {E : TypeId} {size n : Nat} {v : Value} {xs : List Value}, w5.ownsRow w4.heap.size E size v n xs → ∀ k, v.ownBlock = some k → k ≠ p5 := fun h k e f => by
    have h1 := (own_lt h e).2
    omega
  have hneq : ∀ {E : TypeId} {size n : Nat} {v : Value} {xs : List Value}, w5.ownsRow w4.heap.size E size v n xs → 48 ≠ E → ∀ k, v.ownBlock = some k → k ≠ gu := fun h hne k e f => own_neq hO.words h hne gu rfl (f ▸ e)
  have OU8 : Own4 W8 w4.heap.size aU (.slice (some ⟨gu, 0, none⟩) 11 ua) (.slice ut 0 ub) (.slice uf 1 uc) (.slice us 2 ud) :=
    ⟨hrow8, nT OW5.tab (hneq hO.tab (by decide)) (nP hO.tab), nT OW5.free (hneq hO.free (by decide)) (nP hO.free), nT OW5.slots (hneq hO.slots (by decide)) (nP hO.slots), OW5.apart⟩
  have HW6 := Lib.hid hW6
  have HW7 := Lib.hid hW7
  have HW8 := Lib.hid hW8
  have O8 := Lib.hid (only_own (only_own O5.out o67 (by omega)) o8 (by omega))
  have AS8 := Lib.hid ((AS5.out.keep o67 fun k e => by unfold isb at e; omega).keep o8 fun k e => by unfold isb at e; omega)
  have AT8 := Lib.hid ((AT5.out.keep o67 fun k e => by unfold isb at e; omega).keep o8 fun k e => by unfold isb at e; omega)
  have AU8 := Lib.hid (show At15 W8.heap.size p5 aU (.slice (some ⟨gu, 0, none⟩) 11 ua) (.slice ut 0 ub) (.slice uf 1 uc) (.slice us 2 ud) W8 from ⟨OU8.rd, SBox.of BX8, BX8.lt, Nat.le_refl _⟩)
  obtain ⟨N8, hN8⟩ : ∃ N, N = W8.heap.size := ⟨_, rfl⟩
  rw [← hN8] at AU8
  have HN8 := Lib.hid hN8
  have hN38 : N3 ≤ N8 := by rw [hN8]; exact AT8.out.le
  have X5 := SBox.of (s := aS) BX5
  have X6 := SBox.of (s := aS) BX6
  have X7 := SBox.of (s := aS) BX7
  have fz7 := BX7.free 6
  have HX := Lib.hid (And.intro X5 (And.intro X6 X7))
  have hcm : ua ≤ 9223372036854775807 := by unfold maxLen at hmu; omega
  clear o hO hW5 hp5 hW6 hW7 hW8 BX5 BX6 BX7 BX8 OW5 o6 o7 o67 o8 hrow hrow8 OU8 nT nP hneq hN8 X5 X6 X7 hmu eu c0 c1 c2 c3 c4 c5 c6 c7 c8 c9
  go_upto_region 8 with fail
  rw [HW5.out, ← HP5.out]
  obtain ⟨d0, d1, d2, d3, d4, d5, d6, d7, d8, d9⟩ := HX.out.1
  obtain ⟨y0, hx0⟩ := hx0
  go_upto_region 9 with fail
  rw [HW6.out]
  clear d0 d1 d2 d3 d4 d5 d6 d7 d8 d9 hx0 hf0
  obtain ⟨d0, d1, d2, d3, d4, d5, d6, d7, d8, d9⟩ := HX.out.2.1
  obtain ⟨y1, hx1⟩ := hx1
  go_upto_region 10 with fail
  rw [HW7.out]
  clear d0 d1 d2 d3 d4 d5 d6 d7 d8 d9 hx1 hf1
  obtain ⟨d0, d1, d2, d3, d4, d5, d6, d7, d8, d9⟩ := HX.out.2.2
  go_upto_region 11 with fail
  rw [HW8.out]
  clear d0 d1 d2 d3 d4 d5 d6 d7 d8 d9 fz7 HX
  obtain ⟨c0, c1, c2, c3, c4, c5, c6, c7, c8, c9⟩ := AU8.out.box
  go_wp2_with fail
  go_at_call 21
  refine (copy_a C (s := aU) (tp := 1) rfl rfl rfl rfl rfl rfl rfl a_ok.2.2.1 _ _ _ _ _ W8 AU8.out.rd AU8.out.le).mono ?_
  rintro e w9 ⟨vw, va, vt, vb, vf, vc, vs, vd, rfl, hO, o⟩
  obtain ⟨W9, hW9, HB9⟩ : ∃ W9, w9.alloc (.cells #[.int .i64 4, .int .i64 3, .int .i64 2, .int .i64 3, .bool false, .slice vw 11 va, .int .i64 1, .slice vt 0 vb, .slice vf 1 vc, .slice vs 2 vd] 28) = W9 ∧ Hid (Only nob w9 W9 ∧ Blk W9 w9.heap.size 28 #[.int .i64 4, .int .i64 3, .int .i64 2, .int .i64 3, .bool false, .slice vw 11 va, .int .i64 1, .slice vt 0 vb, .slice vf 1 vc, .slice vs 2 vd]) := ⟨_, rfl, Lib.hid ⟨(Only.refl nob w9).alloc _, Blk.new _ _ _⟩⟩
  have HW9 := Lib.hid hW9
  obtain ⟨p9, hp9⟩ : ∃ p, p = w9.heap.size := ⟨_, rfl⟩
  have HP9 := Lib.hid hp9
  have O9 := Lib.hid (O8.out.trans (o.trans HB9.out.1))
  have AS9 := Lib.hid (AS8.out.old (o.trans HB9.out.1))
  have AT9 := Lib.hid (AT8.out.old (o.trans HB9.out.1))
  have AU9 := Lib.hid (AU8.out.old (o.trans HB9.out.1))
  have BX9 := HB9.out.2
  rw [← hp9] at BX9
  have OW9 := hO.keep HB9.out.1
  obtain ⟨gv, cv, ev, hcv, hmv, hgv, ⟨hx0, hx1, hx2⟩, ⟨hf0, hf1, hf2⟩, W10, hW10, o10, hrow⟩ := own_v OW9.slots
  obtain ⟨rfl, rfl⟩ : vs = some ⟨gv, 0, none⟩ ∧ vd = cv := by simpa using ev
  have hw8 : w.heap.size ≤ W8.heap.size := O8.out.size
  have hN8' : N8 = W8.heap.size := HN8.out
  have hgp : gv < p9 := by rw [hp9]; exact (own_lt hO.slots (k := gv) rfl).2
  have BX10 := BX9.keep o10 (fun e => by unfold isb at e; omega)
  have nV : ∀ {E : TypeId} {size n : Nat} {v : Value} {xs : List Value}, W9.ownsRow W8.heap.size E size v n xs → 52 ≠ E → W10.ownsRow W8.heap.size E size v n xs := fun h hne => own_only h o10 fun k e f => own_neq OW9.slots h hne gv rfl ((show k = gv from f) ▸ e)
  have OV10 : Own4 W10 W8.heap.size aV (.slice vw 11 va) (.slice vt 0 vb) (.slice vf 1 vc) (.slice (some ⟨gv, 0, none⟩) 2 vd) :=
    ⟨nV OW9.words (by decide), nV OW9.tab (by decide), nV OW9.free (by decide), hrow, OW9.apart⟩
  have HW10 := Lib.hid hW10
  have O10 := Lib.hid (only_own O9.out o10 (by omega))
  have AS10 := Lib.hid (AS9.out.keep o10 fun k e => by unfold isb at e; omega)
  have AT10 := Lib.hid (AT9.out.keep o10 fun k e => by unfold isb at e; omega)
  have AU10 := Lib.hid (AU9.out.keep o10 fun k e => by unfold isb at e; omega)
  have AV10 := Lib.hid (show At15 W10.heap.size p9 aV (.slice vw 11 va) (.slice vt 0 vb) (.slice vf 1 vc) (.slice (some ⟨gv, 0, none⟩) 2 vd) W10 from ⟨OV10.rd, SBox.of (s := aV) BX10, BX10.lt, Nat.le_refl _⟩)
  obtain ⟨N10, hN10⟩ : ∃ N, N = W10.heap.size := ⟨_, rfl⟩
  rw [← hN10] at AV10
  have X9 := SBox.of (s := aU) BX9
  have hcm2 : vd ≤ 9223372036854775807 := by unfold maxLen at hmv; omega
  have HX := Lib.hid X9
  clear o hO hW9 hp9 hW10 BX9 BX10 OW9 o10 hrow OV10 nV hN10 X9 hmv ev hN8' c0 c1 c2 c3 c4 c5 c6 c7 c8 c9
  go_upto_region 12 with fail
  rw [HW9.out, ← HP9.out]
  obtain ⟨d0, d1, d2, d3, d4, d5, d6, d7, d8, d9⟩ := HX.out
  go_upto_region 13 with fail
  rw [HW10.out]
  clear d0 d1 d2 d3 d4 d5 d6 d7 d8 d9 hx0 hx1 hx2 hf0 hf1 hf2 HX
  obtain ⟨c0, c1, c2, c3, c4, c5, c6, c7, c8, c9⟩ := AU10.out.box
  go_wp2_with fail
  go_at_call 11
  refine (C.head aU 0 _ _ _ _ _ W10 AU10.out.rd AU10.out.le a_ok.2.2.1 (HPAR.out.old O10.out)).mono ?_
  rw [a_head.1, a_head.2]
  rintro e w11 ⟨rfl, o⟩
  obtain ⟨W11, hW11, HB11⟩ := box_head w11 (ohK aU.ws 0) 0 (ohR aU.ws 0) (ohM aU.ws 0) (ohC aU.ws 0)
  have HW11 := Lib.hid hW11
  have o11 := o.trans HB11.out.1
  have O11 := Lib.hid (O10.out.trans o11)
  have AS11 := Lib.hid (AS10.out.old o11)
  have AT11 := Lib.hid (AT10.out.old o11)
  have AU11 := Lib.hid (AU10.out.old o11)
  have AV11 := Lib.hid (AV10.out.old o11)
  clear o o11 hW11 c0 c1 c2 c3 c4 c5 c6 c7 c8 c9
  go_upto_region 14 with fail
  rw [HW11.out]
  obtain ⟨c0, c1, c2, c3, c4, c5, c6, c7, c8, c9⟩ := AU11.out.box
  go_wp2_with fail
  go_at_call 9
  refine (C.objects aU _ _ _ _ _ W11 AU11.out.rd AU11.out.le a_ok.2.2.1 (HPAR.out.old O11.out)).mono ?_
  rw [a_lists.2.2.1, a_lists.2.2.2]
  rintro e w12 ⟨v12, rfl, hs12, o⟩
  obtain ⟨l12, m12, rfl, -, -⟩ := hs12.form
  have O12 := Lib.hid (O11.out.trans o)
  have AS12 := Lib.hid (AS11.out.old o)
  have AT12 := Lib.hid (AT11.out.old o)
  have AU12 := Lib.hid (AU11.out.old o)
  have AV12 := Lib.hid (AV11.out.old o)
  have H12 := Lib.hid (HB11.out.2.keep o id)
  clear o hs12 c0 c1 c2 c3 c4 c5 c6 c7 c8 c9
  have HCS := Lib.hid (show ∀ W', Only nob w12 W' → Calls Tryz.prog 13 #[.agg #[.int .i64 4, .int .i64 3, .int .i64 2, .int .i64 3, .bool false, .slice sw 11 sa, .int .i64 0, .slice st 0 sb, .slice sf 1 sc, .slice ss 2 sd]] W' fun e w' => e = .returned (.int .i64 0) ∧ Only nob W' w' from fun W' o => by
    have hc := C.check aS _ _ _ _ _ W' (AS12.out.old o).rd (AS12.out.old o).le a_ok.1 (HPAR.out.old (O12.out.trans o))
    rw [aS_chk] at hc; exact hc)
  have HCT := Lib.hid (show ∀ W', Only nob w12 W' → Calls Tryz.prog 13 #[.agg #[.int .i64 4, .int .i64 3, .int .i64 2, .int .i64 3, .bool false, .slice tw 11 ta, .int .i64 1, .slice tt 0 tb, .slice tf 1 tc, .slice ts 2 td]] W' fun e w' => e = .returned (.int .i64 4) ∧ Only nob W' w' from fun W' o => by
    have hc := C.check aT _ _ _ _ _ W' (AT12.out.old o).rd (AT12.out.old o).le a_ok.2.1 (HPAR.out.old (O12.out.trans o))
    rw [aT_chk] at hc; exact hc)
  have HCU := Lib.hid (show ∀ W', Only nob w12 W' → Calls Tryz.prog 13 #[.agg #[.int .i64 4, .int .i64 3, .int .i64 2, .int .i64 3, .bool false, .slice (some ⟨gu, 0, none⟩) 11 ua, .int .i64 1, .slice ut 0 ub, .slice uf 1 uc, .slice us 2 ud]] W' fun e w' => e = .returned (.int .i64 0) ∧ Only nob W' w' from fun W' o => by
    have hc := C.check aU _ _ _ _ _ W' (AU12.out.old o).rd (AU12.out.old o).le a_ok.2.2.1 (HPAR.out.old (O12.out.trans o))
    rw [aU_chk] at hc; exact hc)
  have HCV := Lib.hid (show ∀ W', Only nob w12 W' → Calls Tryz.prog 13 #[.agg #[.int .i64 4, .int .i64 3, .int .i64 2, .int .i64 3, .bool false, .slice vw 11 va, .int .i64 1, .slice vt 0 vb, .slice vf 1 vc, .slice (some ⟨gv, 0, none⟩) 2 vd]] W' fun e w' => e = .returned (.int .i64 9) ∧ Only nob W' w' from fun W' o => by
    have hc := C.check aV _ _ _ _ _ W' (AV12.out.old o).rd (AV12.out.old o).le a_ok.2.2.2.1 (HPAR.out.old (O12.out.trans o))
    rw [aV_chk] at hc; exact hc)
  have HUU := Lib.hid (show ∀ W', Only nob w12 W' → Calls Tryz.prog 16 #[.agg #[.int .i64 4, .int .i64 3, .int .i64 2, .int .i64 3, .bool false, .slice (some ⟨gu, 0, none⟩) 11 ua, .int .i64 1, .slice ut 0 ub, .slice uf 1 uc, .slice us 2 ud]] W' fun e w' => e = .returned (.int .i64 1) ∧ Only nob W' w' from fun W' o => by
    have hc := C.used aU _ _ _ _ _ W' (AU12.out.old o).rd (AU12.out.old o).le a_ok.2.2.1
    rw [a_used] at hc; exact hc)
  have HSM := Lib.hid (show ∀ W', Only nob w12 W' → Calls Tryz.prog 22 #[.agg #[.int .i64 4, .int .i64 3, .int .i64 2, .int .i64 3, .bool false, .slice sw 11 sa, .int .i64 0, .slice st 0 sb, .slice sf 1 sc, .slice ss 2 sd], .agg #[.int .i64 4, .int .i64 3, .int .i64 2, .int .i64 3, .bool false, .slice tw 11 ta, .int .i64 1, .slice tt 0 tb, .slice tf 1 tc, .slice ts 2 td]] W' fun e w' => e = .returned (.bool false) ∧ Only nob W' w' from fun W' o => by
    have hc := C.same aS aT _ _ _ _ _ _ _ _ _ _ W' (AS12.out.old o).rd (AT12.out.old o).rd (AS12.out.old o).le (AT12.out.old o).le
    rw [a_same] at hc; exact hc)
  obtain ⟨c0, c1, c2, c3, c4, c5, c6, c7, c8, c9⟩ := (show (w12.cell? ⟨p1, 0, none⟩ = some (.int .i64 4)) ∧ (w12.cell? ⟨p1, 1, none⟩ = some (.int .i64 3)) ∧ (w12.cell? ⟨p1, 2, none⟩ = some (.int .i64 2)) ∧ (w12.cell? ⟨p1, 3, none⟩ = some (.int .i64 3)) ∧ (w12.cell? ⟨p1, 4, none⟩ = some (.bool false)) ∧ (w12.cell? ⟨p1, 5, none⟩ = some (.slice sw 11 sa)) ∧ (w12.cell? ⟨p1, 6, none⟩ = some (.int .i64 0)) ∧ (w12.cell? ⟨p1, 7, none⟩ = some (.slice st 0 sb)) ∧ (w12.cell? ⟨p1, 8, none⟩ = some (.slice sf 1 sc)) ∧ (w12.cell? ⟨p1, 9, none⟩ = some (.slice ss 2 sd)) from (box_and AS12.out.box))
  obtain ⟨d0, d1, d2, d3, d4, d5, d6, d7, d8, d9⟩ := (show (w12.cell? ⟨p2, 0, none⟩ = some (.int .i64 4)) ∧ (w12.cell? ⟨p2, 1, none⟩ = some (.int .i64 3)) ∧ (w12.cell? ⟨p2, 2, none⟩ = some (.int .i64 2)) ∧ (w12.cell? ⟨p2, 3, none⟩ = some (.int .i64 3)) ∧ (w12.cell? ⟨p2, 4, none⟩ = some (.bool false)) ∧ (w12.cell? ⟨p2, 5, none⟩ = some (.slice tw 11 ta)) ∧ (w12.cell? ⟨p2, 6, none⟩ = some (.int .i64 1)) ∧ (w12.cell? ⟨p2, 7, none⟩ = some (.slice tt 0 tb)) ∧ (w12.cell? ⟨p2, 8, none⟩ = some (.slice tf 1 tc)) ∧ (w12.cell? ⟨p2, 9, none⟩ = some (.slice ts 2 td)) from (box_and AT12.out.box))
  obtain ⟨e0, e1, e2, e3, e4, e5, e6, e7, e8, e9⟩ := (show (w12.cell? ⟨p5, 0, none⟩ = some (.int .i64 4)) ∧ (w12.cell? ⟨p5, 1, none⟩ = some (.int .i64 3)) ∧ (w12.cell? ⟨p5, 2, none⟩ = some (.int .i64 2)) ∧ (w12.cell? ⟨p5, 3, none⟩ = some (.int .i64 3)) ∧ (w12.cell? ⟨p5, 4, none⟩ = some (.bool false)) ∧ (w12.cell? ⟨p5, 5, none⟩ = some (.slice (some ⟨gu, 0, none⟩) 11 ua)) ∧ (w12.cell? ⟨p5, 6, none⟩ = some (.int .i64 1)) ∧ (w12.cell? ⟨p5, 7, none⟩ = some (.slice ut 0 ub)) ∧ (w12.cell? ⟨p5, 8, none⟩ = some (.slice uf 1 uc)) ∧ (w12.cell? ⟨p5, 9, none⟩ = some (.slice us 2 ud)) from (box_and AU12.out.box))
  obtain ⟨f0, f1, f2, f3, f4, f5, f6, f7, f8, f9⟩ := (show (w12.cell? ⟨p9, 0, none⟩ = some (.int .i64 4)) ∧ (w12.cell? ⟨p9, 1, none⟩ = some (.int .i64 3)) ∧ (w12.cell? ⟨p9, 2, none⟩ = some (.int .i64 2)) ∧ (w12.cell? ⟨p9, 3, none⟩ = some (.int .i64 3)) ∧ (w12.cell? ⟨p9, 4, none⟩ = some (.bool false)) ∧ (w12.cell? ⟨p9, 5, none⟩ = some (.slice vw 11 va)) ∧ (w12.cell? ⟨p9, 6, none⟩ = some (.int .i64 1)) ∧ (w12.cell? ⟨p9, 7, none⟩ = some (.slice vt 0 vb)) ∧ (w12.cell? ⟨p9, 8, none⟩ = some (.slice vf 1 vc)) ∧ (w12.cell? ⟨p9, 9, none⟩ = some (.slice (some ⟨gv, 0, none⟩) 2 vd)) from (box_and AV12.out.box))
  obtain ⟨-, h1, -, -, -⟩ := cells5 H12.out
  obtain ⟨bf, of, hsf, -⟩ := HFR.out
  subst hsf
  obtain ⟨bf2, of2, e2, -, g0, g1⟩ := sl_span (l := [(8, 3)]) (k := 0) AS12.out.rd.free (Below.refl _ _) rfl
  obtain ⟨rfl, rfl⟩ : bf = bf2 ∧ of = of2 := by simpa using e2
  simp only [Nat.zero_mul, Nat.add_zero] at g0 g1
  have heq := eqSp 8 3 8 3
  rw [show decide ((8 : Int) = 8 ∧ (3 : Int) = 3) = true from rfl] at heq
  clear e2
  go_wp2_with fail
  simp only [List.append_eq, List.cons_append, List.nil_append]
  have HNO := Lib.hid (show ∀ W', Only nob w12 W' → Calls Tryz.prog 13 #[.agg #[.int .i64 0, .int .i64 0, .int .i64 0, .int .i64 0, .bool false, .slice none 0 0, .int .i64 0, .slice none 0 0, .slice none 0 0, .slice none 0 0]] W' fun e w' => e = .returned (.int .i64 1) ∧ Only nob W' w' from fun W' o => by
    have hc := C.check noSt (.slice none 0 0) (.slice none 0 0) (.slice none 0 0) (.slice none 0 0) W'.heap.size W' ⟨Sl.nil_, Sl.nil_, Sl.nil_, Sl.nil_⟩ (Nat.le_refl _) a_ok.2.2.2.2 (HPAR.out.old (O12.out.trans o))
    rw [noSt_chk] at hc; exact hc)
  have HCP := Lib.hid (show ∀ W', Only nob w12 W' → Calls Tryz.prog 21 #[.agg #[.int .i64 4, .int .i64 3, .int .i64 2, .int .i64 3, .bool false, .slice sw 11 sa, .int .i64 0, .slice st 0 sb, .slice (some ⟨bf, of, none⟩) 1 sc, .slice ss 2 sd]] W' fun e w' => ∃ (xw : Option Addr) (xa : Nat) (xt : Option Addr) (xb : Nat) (xf : Option Addr) (xc : Nat) (xs : Option Addr) (xd : Nat), e = .returned (.agg #[.int .i64 4, .int .i64 3, .int .i64 2, .int .i64 3, .bool false, .slice xw 11 xa, .int .i64 0, .slice xt 0 xb, .slice xf 1 xc, .slice xs 2 xd]) ∧ Rd w' w'.heap.size aS (.slice xw 11 xa) (.slice xt 0 xb) (.slice xf 1 xc) (.slice xs 2 xd) ∧ Only nob W' w' from fun W' o => by
    refine (copy_a C (s := aS) (tp := 0) rfl rfl rfl rfl rfl rfl rfl a_ok.1 _ _ _ _ _ W' (AS12.out.old o).rd (AS12.out.old o).le).mono ?_
    rintro e w' ⟨xw, xa, xt, xb, xf, xc, xs, xd, rfl, hO, o2⟩
    exact ⟨xw, xa, xt, xb, xf, xc, xs, xd, rfl, hO.rd, o2⟩)
  have HSX := Lib.hid (show ∀ (W' : World) (xw : Option Addr) (xa : Nat) (xt : Option Addr) (xb : Nat) (xf : Option Addr) (xc : Nat) (xs : Option Addr) (xd : Nat), Only nob w12 W' → Rd W' W'.heap.size aS (.slice xw 11 xa) (.slice xt 0 xb) (.slice xf 1 xc) (.slice xs 2 xd) → Calls Tryz.prog 22 #[.agg #[.int .i64 4, .int .i64 3, .int .i64 2, .int .i64 3, .bool false, .slice sw 11 sa, .int .i64 0, .slice st 0 sb, .slice (some ⟨bf, of, none⟩) 1 sc, .slice ss 2 sd], .agg #[.int .i64 4, .int .i64 3, .int .i64 2, .int .i64 3, .bool false, .slice xw 11 xa, .int .i64 0, .slice xt 0 xb, .slice xf 1 xc, .slice xs 2 xd]] W' fun e w' => e = .returned (.bool true) ∧ Only nob W' w' from fun W' xw xa xt xb xf xc xs xd o hr => by
    have hc := C.same aS aS _ _ _ _ _ _ _ _ _ _ W' (AS12.out.old o).rd hr (AS12.out.old o).le (Nat.le_refl _)
    rw [sameS_yes (show aS = aS from rfl)] at hc; exact hc)
  have OC := Lib.hid (show Only nob w12 w12.drew from (Only.refl nob w12).drewN 1)
  have mixed := mixedSt
  go_region_held3 (fun w' => w'.cell? ⟨p1, 0, none⟩ = some (.int .i64 4) ∧ w'.cell? ⟨p1, 1, none⟩ = some (.int .i64 3) ∧ w'.cell? ⟨p1, 2, none⟩ = some (.int .i64 2) ∧ w'.cell? ⟨p1, 3, none⟩ = some (.int .i64 3) ∧ w'.cell? ⟨p1, 4, none⟩ = some (.bool false) ∧ w'.cell? ⟨p1, 5, none⟩ = some (.slice sw 11 sa) ∧ w'.cell? ⟨p1, 6, none⟩ = some (.int .i64 0) ∧ w'.cell? ⟨p1, 7, none⟩ = some (.slice st 0 sb) ∧ w'.cell? ⟨p1, 8, none⟩ = some (.slice (some ⟨bf, of, none⟩) 1 sc) ∧ w'.cell? ⟨p1, 9, none⟩ = some (.slice ss 2 sd) ∧ w'.cell? ⟨p2, 0, none⟩ = some (.int .i64 4) ∧ w'.cell? ⟨p2, 1, none⟩ = some (.int .i64 3) ∧ w'.cell? ⟨p2, 2, none⟩ = some (.int .i64 2) ∧ w'.cell? ⟨p2, 3, none⟩ = some (.int .i64 3) ∧ w'.cell? ⟨p2, 4, none⟩ = some (.bool false) ∧ w'.cell? ⟨p2, 5, none⟩ = some (.slice tw 11 ta) ∧ w'.cell? ⟨p2, 6, none⟩ = some (.int .i64 1) ∧ w'.cell? ⟨p2, 7, none⟩ = some (.slice tt 0 tb) ∧ w'.cell? ⟨p2, 8, none⟩ = some (.slice tf 1 tc) ∧ w'.cell? ⟨p2, 9, none⟩ = some (.slice ts 2 td) ∧ w'.cell? ⟨p5, 0, none⟩ = some (.int .i64 4) ∧ w'.cell? ⟨p5, 1, none⟩ = some (.int .i64 3) ∧ w'.cell? ⟨p5, 2, none⟩ = some (.int .i64 2) ∧ w'.cell? ⟨p5, 3, none⟩ = some (.int .i64 3) ∧ w'.cell? ⟨p5, 4, none⟩ = some (.bool false) ∧ w'.cell? ⟨p5, 5, none⟩ = some (.slice (some ⟨gu, 0, none⟩) 11 ua) ∧ w'.cell? ⟨p5, 6, none⟩ = some (.int .i64 1) ∧ w'.cell? ⟨p5, 7, none⟩ = some (.slice ut 0 ub) ∧ w'.cell? ⟨p5, 8, none⟩ = some (.slice uf 1 uc) ∧ w'.cell? ⟨p5, 9, none⟩ = some (.slice us 2 ud) ∧ w'.cell? ⟨p9, 0, none⟩ = some (.int .i64 4) ∧ w'.cell? ⟨p9, 1, none⟩ = some (.int .i64 3) ∧ w'.cell? ⟨p9, 2, none⟩ = some (.int .i64 2) ∧ w'.cell? ⟨p9, 3, none⟩ = some (.int .i64 3) ∧ w'.cell? ⟨p9, 4, none⟩ = some (.bool false) ∧ w'.cell? ⟨p9, 5, none⟩ = some (.slice vw 11 va) ∧ w'.cell? ⟨p9, 6, none⟩ = some (.int .i64 1) ∧ w'.cell? ⟨p9, 7, none⟩ = some (.slice vt 0 vb) ∧ w'.cell? ⟨p9, 8, none⟩ = some (.slice vf 1 vc) ∧ w'.cell? ⟨p9, 9, none⟩ = some (.slice (some ⟨gv, 0, none⟩) 2 vd) ∧ w'.cell? ⟨w11.heap.size, 1, none⟩ = some (.int .i64 0) ∧ w'.cell? ⟨bf, of, none⟩ = some (.int .i64 8) ∧ w'.cell? ⟨bf, of + 1, none⟩ = some (.int .i64 3)) (first | (with_reducible exact And.intro (OC.out.keeps c0) (And.intro (OC.out.keeps c1) (And.intro (OC.out.keeps c2) (And.intro (OC.out.keeps c3) (And.intro (OC.out.keeps c4) (And.intro (OC.out.keeps c5) (And.intro (OC.out.keeps c6) (And.intro (OC.out.keeps c7) (And.intro (OC.out.keeps c8) (And.intro (OC.out.keeps c9) (And.intro (OC.out.keeps d0) (And.intro (OC.out.keeps d1) (And.intro (OC.out.keeps d2) (And.intro (OC.out.keeps d3) (And.intro (OC.out.keeps d4) (And.intro (OC.out.keeps d5) (And.intro (OC.out.keeps d6) (And.intro (OC.out.keeps d7) (And.intro (OC.out.keeps d8) (And.intro (OC.out.keeps d9) (And.intro (OC.out.keeps e0) (And.intro (OC.out.keeps e1) (And.intro (OC.out.keeps e2) (And.intro (OC.out.keeps e3) (And.intro (OC.out.keeps e4) (And.intro (OC.out.keeps e5) (And.intro (OC.out.keeps e6) (And.intro (OC.out.keeps e7) (And.intro (OC.out.keeps e8) (And.intro (OC.out.keeps e9) (And.intro (OC.out.keeps f0) (And.intro (OC.out.keeps f1) (And.intro (OC.out.keeps f2) (And.intro (OC.out.keeps f3) (And.intro (OC.out.keeps f4) (And.intro (OC.out.keeps f5) (And.intro (OC.out.keeps f6) (And.intro (OC.out.keeps f7) (And.intro (OC.out.keeps f8) (And.intro (OC.out.keeps f9) (And.intro (OC.out.keeps h1) (And.intro (OC.out.keeps g0) ((OC.out.keeps g1)))))))))))))))))))))))))))))))))))))))))))) | go_keep)
    (first
      | (go_at_call 13
         first
         | (with_reducible refine (HCS.out _ OC.out).mono ?_
            rintro e wz ⟨rfl, o⟩
            have OC := Lib.hid (OC.out.trans o)
            clear o)
         | (with_reducible refine (HCT.out _ OC.out).mono ?_
            rintro e wz ⟨rfl, o⟩
            have OC := Lib.hid (OC.out.trans o)
            clear o)
         | (with_reducible refine (HCU.out _ OC.out).mono ?_
            rintro e wz ⟨rfl, o⟩
            have OC := Lib.hid (OC.out.trans o)
            clear o)
         | (with_reducible refine (HCV.out _ OC.out).mono ?_
            rintro e wz ⟨rfl, o⟩
            have OC := Lib.hid (OC.out.trans o)
            clear o)
         | (with_reducible refine (HNO.out _ OC.out).mono ?_
            rintro e wz ⟨rfl, o⟩
            have OC := Lib.hid (OC.out.trans o)
            clear o))
      | (go_at_call 16
         with_reducible refine (HUU.out _ OC.out).mono ?_
         rintro e wz ⟨rfl, o⟩
         have OC := Lib.hid (OC.out.trans o)
         clear o)
      | (go_at_call 21
         with_reducible refine (HCP.out _ OC.out).mono ?_
         rintro e wz ⟨xw, xa, xt, xb, xf, xc, xs, xd, rfl, hrx, o⟩
         have RX := Lib.hid hrx
         have OC := Lib.hid (OC.out.trans o)
         clear hrx o)
      | (go_at_call 22
         first
         | (with_reducible refine (HSM.out _ OC.out).mono ?_
            rintro e wz ⟨rfl, o⟩
            have OC := Lib.hid (OC.out.trans o)
            clear o)
         | (with_reducible refine (HSX.out _ _ _ _ _ _ _ _ _ OC.out RX.out).mono ?_
            rintro e wz ⟨rfl, o⟩
            have OC := Lib.hid (OC.out.trans o)
            clear o)))
  all_goals
    have OF := Lib.hid (O12.out.trans OC.out)
    clear c0 c1 c2 c3 c4 c5 c6 c7 c8 c9 d0 d1 d2 d3 d4 d5 d6 d7 d8 d9 e0 e1 e2 e3 e4 e5 e6 e7 e8 e9 f0 f1 f2 f3 f4 f5 f6 f7 f8 f9 h1 g0 g1
    go_wp2
    go_ret
    exact ⟨rfl, OF.out⟩
end Go.Proofs.YtciidodmhigpdaaGreatDoor
