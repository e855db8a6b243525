/- StateCopies: out of the contracts. -/
import Derived.Test.YtciidodmhigpdaaGreatDoorStLaw2
namespace Go.Proofs.YtciidodmhigpdaaGreatDoor
open Go.RowKit
set_option maxRecDepth 100000

/-- A cell of a row of the call's own is written. -/
theorem own_set {w : World} {base : Nat} {E : TypeId} {size n : Nat} {v : Value} {xs : List Value} (h : w.ownsRow base E size v n xs) {i : Nat} (hi : i < n * size) :
    ∃ g c, v = .slice (some ⟨g, 0, none⟩) n c ∧ n ≤ c ∧ c ≤ maxLen ∧ w.frozen? ⟨g, i, none⟩ = false ∧ w.cell? ⟨g, i, none⟩ = xs[i]? ∧ ∀ u, (w.setCell ⟨g, i, none⟩ u).ownsRow base E size v n (xs.set i u) ∧ Only (fun k => v.ownBlock = some k) w (w.setCell ⟨g, i, none⟩ u) := by
  obtain ⟨h0, h⟩ := h
  rcases h with ⟨_, h1⟩ | ⟨g, cap, cur, rfl, hb, hg, h1, h2, h3, h4⟩
  · rw [h1, Nat.zero_mul] at hi; omega
  · have hB : Blk w g E cur := hg
    refine ⟨g, cap, rfl, h1, h2, hB.free i, ?_, fun u => ⟨⟨by rw [List.length_set]; exact h0, .inr ⟨g, cap, cur.setIfInBounds i u, rfl, hb, hB.put i u, h1, h2, by simpa using h3, ?_⟩⟩, (only_set w g i u).mono fun k _ e => ?_⟩⟩
    · rw [hB.cell, ← Array.getElem?_toList, ← h4, List.getElem?_take, if_pos hi]
    · rw [Array.toList_setIfInBounds, List.take_set, h4]
    · unfold isb at e
      rw [e]; rfl
theorem own_neq {w : World} {b b' : Nat} {E E' : TypeId} {size size' n n' : Nat} {v v' : Value} {xs xs' : List Value} (h : w.ownsRow b E size v n xs) (h' : w.ownsRow b' E' size' v' n' xs') (hne : E ≠ E') : ∀ k, v.ownBlock = some k → v'.ownBlock ≠ some k := by
  intro k e e'
  rcases h.2 with ⟨h0, _⟩ | ⟨g, cap, cur, h1, _, hg, _⟩
  · rw [h0] at e; cases e
  · rcases h'.2 with ⟨h0, _⟩ | ⟨g', cap', cur', h1', _, hg', _⟩
    · rw [h0] at e'; cases e'
    · rw [h1] at e; rw [h1'] at e'
      have e1 : g = k := by simpa [Value.ownBlock] using e
      have e2 : g' = k := by simpa [Value.ownBlock] using e'
      exact Blk.ne (show Blk w g E cur from hg) (show Blk w g' E' cur' from hg') hne (e1.trans e2.symm)

/-- A row whose cells at these places are integers. -/
def RowI (w : World) (base : Nat) (E : TypeId) (size : Nat) (v : Value) (n : Nat) (q : IntKind) (f : Nat) : Prop := ∃ xs, w.ownsRow base E size v n xs ∧ ∀ i, i < n → ∃ z, xs[i * size + f]? = some (.int q z)
theorem RowI.only {w w' : World} {base : Nat} {E : TypeId} {size : Nat} {v : Value} {n : Nat} {q : IntKind} {f : Nat} {F : Nat → Prop} (h : RowI w base E size v n q f) (o : Only F w w') (hn : ∀ k, v.ownBlock = some k → ¬ F k) : RowI w' base E size v n q f := by
  obtain ⟨xs, h1, h2⟩ := h
  exact ⟨xs, own_only h1 o hn, h2⟩
theorem RowI.put {w : World} {base : Nat} {E : TypeId} {size : Nat} {v : Value} {n : Nat} {q : IntKind} {f : Nat} (h : RowI w base E size v n q f) (hf : f < size) {i : Nat} (hi : i < n) :
    ∃ g c z0, v = .slice (some ⟨g, 0, none⟩) n c ∧ n ≤ c ∧ c ≤ maxLen ∧ w.frozen? ⟨g, i * size + f, none⟩ = false ∧ w.cell? ⟨g, i * size + f, none⟩ = some (.int q z0) ∧ ∀ z, RowI (w.setCell ⟨g, i * size + f, none⟩ (.int q z)) base E size v n q f ∧ Only (fun k => v.ownBlock = some k) w (w.setCell ⟨g, i * size + f, none⟩ (.int q z)) := by
  obtain ⟨xs, h1, h2⟩ := h
  have hlt : i * size + f < n * size := by
    have : (i + 1) * size ≤ n * size := Nat.mul_le_mul_right _ hi
    rw [Nat.add_mul, Nat.one_mul] at this
    omega
  obtain ⟨g, c, e, hc, hm, hfz, hcl, hu⟩ := own_set h1 hlt
  obtain ⟨z0, hz0⟩ := h2 i hi
  refine ⟨g, c, z0, e, hc, hm, hfz, hcl.trans hz0, fun z => ⟨⟨xs.set (i * size + f) (.int q z), (hu _).1, fun j hj => ?_⟩, (hu _).2⟩⟩
  by_cases he : i * size + f = j * size + f
  · refine ⟨z, ?_⟩
    rw [← he, List.getElem?_set_self]
    rw [h1.1]; exact hlt
  · obtain ⟨z', hz'⟩ := h2 j hj
    exact ⟨z', by rw [List.getElem?_set_ne he]; exact hz'⟩

/-- What holds while the lists of the first copy turn. -/
structure L15 (wS : World) (B1 B2 pc pd : Nat) (a : St) (cw ct cf cs dw dt df ds : Value) (wr : World) : Prop where
  below : Below B1 wS wr
  xc : SBox wr pc a cw ct cf cs
  xd : SBox wr pd a dw dt df ds
  d : Own4 wr B2 a dw dt df ds
  rw : RowI wr B1 48 1 cw a.ws.length .u64 0
  rt : RowI wr B1 50 2 ct a.tb.length .i64 0
  rf : RowI wr B1 50 2 cf a.fr.length .i64 0
  rs : RowI wr B1 52 3 cs a.sl.length .i64 1
/-- Where the blocks lie. -/
structure Ap15 (wS : World) (B1 B2 Z pc pd : Nat) (cw ct cf cs : Value) : Prop where
  base : B1 ≤ wS.heap.size
  lw : ∀ k, cw.ownBlock = some k → B1 ≤ k ∧ k < Z
  lt : ∀ k, ct.ownBlock = some k → B1 ≤ k ∧ k < Z
  lf : ∀ k, cf.ownBlock = some k → B1 ≤ k ∧ k < Z
  ls : ∀ k, cs.ownBlock = some k → B1 ≤ k ∧ k < Z
  Zc : Z ≤ pc
  Zd : Z ≤ pd
  ZB : Z ≤ B2
  wt : ∀ k, cw.ownBlock = some k → ct.ownBlock ≠ some k
  wf : ∀ k, cw.ownBlock = some k → cf.ownBlock ≠ some k
  ws : ∀ k, cw.ownBlock = some k → cs.ownBlock ≠ some k
  tf : ∀ k, ct.ownBlock = some k → cf.ownBlock ≠ some k
  ts : ∀ k, ct.ownBlock = some k → cs.ownBlock ≠ some k
  fs : ∀ k, cf.ownBlock = some k → cs.ownBlock ≠ some k
section
variable {wS wr wz : World} {B1 B2 Z pc pd : Nat} {a : St} {cw ct cf cs dw dt df ds : Value}
theorem Own4.onlyF {F : Nat → Prop} (h : Own4 wr B2 a dw dt df ds) (o : Only F wr wz) (hF : ∀ k, F k → k < B2) : Own4 wz B2 a dw dt df ds :=
  have n : ∀ {v : Value} {E : TypeId} {size n : Nat} {xs : List Value}, wr.ownsRow B2 E size v n xs → ∀ k, v.ownBlock = some k → ¬ F k := fun h k e f => by have := (own_lt h e).1; have := hF k f; omega
  ⟨own_only h.words o (n h.words), own_only h.tab o (n h.tab), own_only h.free o (n h.free), own_only h.slots o (n h.slots), h.apart⟩
/-- A block of the first copy's has turned. -/
theorem L15.turn (h : L15 wS B1 B2 pc pd a cw ct cf cs dw dt df ds wr) (A : Ap15 wS B1 B2 Z pc pd cw ct cf cs) {F : Nat → Prop} (o : Only F wr wz) (hF : ∀ k, F k → B1 ≤ k ∧ k < Z) :
    Below B1 wS wz ∧ SBox wz pc a cw ct cf cs ∧ SBox wz pd a dw dt df ds ∧ Own4 wz B2 a dw dt df ds := by
  have := A.Zc
  have := A.Zd
  have := A.ZB
  exact ⟨h.below.trans (o.below (Nat.le_trans A.base h.below.size) fun k f => (hF k f).1), h.xc.keepF o fun f => by have := hF _ f; omega, h.xd.keepF o fun f => by have := hF _ f; omega, h.d.onlyF o fun k f => by have := hF k f; omega⟩
theorem L15.words (h : L15 wS B1 B2 pc pd a cw ct cf cs dw dt df ds wr) (A : Ap15 wS B1 B2 Z pc pd cw ct cf cs) {i : Nat} (hi : i < a.ws.length) :
    ∃ g c z0, cw = .slice (some ⟨g, 0, none⟩) a.ws.length c ∧ a.ws.length ≤ c ∧ c ≤ maxLen ∧ wr.frozen? ⟨g, i, none⟩ = false ∧ wr.cell? ⟨g, i, none⟩ = some (.int .u64 z0) ∧ ∀ z, Hid (L15 wS B1 B2 pc pd a cw ct cf cs dw dt df ds (wr.setCell ⟨g, i, none⟩ (.int .u64 z))) := by
  obtain ⟨g, c, z0, e, hc, hm, h1, h2, h3⟩ := h.rw.put (by decide) hi
  simp only [Nat.mul_one, Nat.add_zero] at h1 h2 h3
  refine ⟨g, c, z0, e, hc, hm, h1, h2, fun z => ?_⟩
  obtain ⟨hr, o⟩ := h3 z
  obtain ⟨q1, q2, q3, q4⟩ := h.turn A o A.lw
  exact ⟨q1, q2, q3, q4, hr, h.rt.only o fun k e f => A.wt k f e, h.rf.only o fun k e f => A.wf k f e, h.rs.only o fun k e f => A.ws k f e⟩
theorem L15.table (h : L15 wS B1 B2 pc pd a cw ct cf cs dw dt df ds wr) (A : Ap15 wS B1 B2 Z pc pd cw ct cf cs) {i : Nat} (hi : i < a.tb.length) :
    ∃ g c z0, ct = .slice (some ⟨g, 0, none⟩) a.tb.length c ∧ a.tb.length ≤ c ∧ c ≤ maxLen ∧ wr.frozen? ⟨g, i * 2, none⟩ = false ∧ wr.cell? ⟨g, i * 2, none⟩ = some (.int .i64 z0) ∧ ∀ z, Hid (L15 wS B1 B2 pc pd a cw ct cf cs dw dt df ds (wr.setCell ⟨g, i * 2, none⟩ (.int .i64 z))) := by
  obtain ⟨g, c, z0, e, hc, hm, h1, h2, h3⟩ := h.rt.put (by decide) hi
  simp only [Nat.add_zero] at h1 h2 h3
  refine ⟨g, c, z0, e, hc, hm, h1, h2, fun z => ?_⟩
  obtain ⟨hr, o⟩ := h3 z
  obtain ⟨q1, q2, q3, q4⟩ := h.turn A o A.lt
  exact ⟨q1, q2, q3, q4, h.rw.only o fun k e f => A.wt k e f, hr, h.rf.only o fun k e f => A.tf k f e, h.rs.only o fun k e f => A.ts k f e⟩
theorem L15.free (h : L15 wS B1 B2 pc pd a cw ct cf cs dw dt df ds wr) (A : Ap15 wS B1 B2 Z pc pd cw ct cf cs) {i : Nat} (hi : i < a.fr.length) :
    ∃ g c z0, cf = .slice (some ⟨g, 0, none⟩) a.fr.length c ∧ a.fr.length ≤ c ∧ c ≤ maxLen ∧ wr.frozen? ⟨g, i * 2, none⟩ = false ∧ wr.cell? ⟨g, i * 2, none⟩ = some (.int .i64 z0) ∧ ∀ z, Hid (L15 wS B1 B2 pc pd a cw ct cf cs dw dt df ds (wr.setCell ⟨g, i * 2, none⟩ (.int .i64 z))) := by
  obtain ⟨g, c, z0, e, hc, hm, h1, h2, h3⟩ := h.rf.put (by decide) hi
  simp only [Nat.add_zero] at h1 h2 h3
  refine ⟨g, c, z0, e, hc, hm, h1, h2, fun z => ?_⟩
  obtain ⟨hr, o⟩ := h3 z
  obtain ⟨q1, q2, q3, q4⟩ := h.turn A o A.lf
  exact ⟨q1, q2, q3, q4, h.rw.only o fun k e f => A.wf k e f, h.rt.only o fun k e f => A.tf k e f, hr, h.rs.only o fun k e f => A.fs k f e⟩
theorem L15.slot (h : L15 wS B1 B2 pc pd a cw ct cf cs dw dt df ds wr) (A : Ap15 wS B1 B2 Z pc pd cw ct cf cs) {i : Nat} (hi : i < a.sl.length) :
    ∃ g c z0, cs = .slice (some ⟨g, 0, none⟩) a.sl.length c ∧ a.sl.length ≤ c ∧ c ≤ maxLen ∧ wr.frozen? ⟨g, i * 3 + 1, none⟩ = false ∧ wr.cell? ⟨g, i * 3 + 1, none⟩ = some (.int .i64 z0) ∧ ∀ z, Hid (L15 wS B1 B2 pc pd a cw ct cf cs dw dt df ds (wr.setCell ⟨g, i * 3 + 1, none⟩ (.int .i64 z))) := by
  obtain ⟨g, c, z0, e, hc, hm, h1, h2, h3⟩ := h.rs.put (by decide) hi
  refine ⟨g, c, z0, e, hc, hm, h1, h2, fun z => ?_⟩
  obtain ⟨hr, o⟩ := h3 z
  obtain ⟨q1, q2, q3, q4⟩ := h.turn A o A.ls
  exact ⟨q1, q2, q3, q4, h.rw.only o fun k e f => A.ws k e f, h.rt.only o fun k e f => A.ts k e f, h.rf.only o fun k e f => A.fs k e f, hr⟩
end
/-- The lists of a copy read. -/
theorem Own4.rd {w : World} {base : Nat} {s : St} {vw vt vf vs : Value} (h : Own4 w base s vw vt vf vs) : Rd w w.heap.size s vw vt vf vs :=
  ⟨Sl.of_own h.words (by rw [u64s_len, Nat.mul_one]), Sl.of_own h.tab (by rw [spc_len]), Sl.of_own h.free (by rw [spc_len]), Sl.of_own h.slots (by rw [slc_len])⟩
theorem Own4.keep {w w' : World} {base : Nat} {s : St} {vw vt vf vs : Value} (h : Own4 w base s vw vt vf vs) (o : Only nob w w') : Own4 w' base s vw vt vf vs :=
  ⟨own_only h.words o fun _ _ => id, own_only h.tab o fun _ _ => id, own_only h.free o fun _ _ => id, own_only h.slots o fun _ _ => id, h.apart⟩
theorem Own4.rows {w : World} {base : Nat} {s : St} {vw vt vf vs : Value} (h : Own4 w base s vw vt vf vs) :
    RowI w base 48 1 vw s.ws.length .u64 0 ∧ RowI w base 50 2 vt s.tb.length .i64 0 ∧ RowI w base 50 2 vf s.fr.length .i64 0 ∧ RowI w base 52 3 vs s.sl.length .i64 1 := by
  refine ⟨⟨_, h.words, fun i hi => ?_⟩, ⟨_, h.tab, fun i hi => ?_⟩, ⟨_, h.free, fun i hi => ?_⟩, ⟨_, h.slots, fun i hi => ?_⟩⟩
  · exact ⟨_, by rw [Nat.mul_one, Nat.add_zero]; exact u64s_get _ i hi⟩
  · exact ⟨_, (spc_get _ i hi).1⟩
  · exact ⟨_, (spc_get _ i hi).1⟩
  · exact ⟨_, (slc_get _ i _ (List.getElem?_eq_getElem hi)).2.1⟩
end Go.Proofs.YtciidodmhigpdaaGreatDoor

/- The walk of StateCopies. -/
namespace Go.Proofs.YtciidodmhigpdaaGreatDoor
open Go.RowKit
set_option maxRecDepth 100000

theorem par_belowS {W W' : World} (h : Par W) (b : Below W.heap.size W W') : Par W' := by
  obtain ⟨t, fr, hh⟩ := h
  exact ⟨t, fr, (b.block _ (Array.getElem?_eq_some_iff.1 hh).1).trans hh⟩
theorem SBox.belowS {W W' : World} {b B : Nat} {s : St} {vw vt vf vs : Value} (h : SBox W b s vw vt vf vs) (o : Below B W W') (hb : b < B) : SBox W' b s vw vt vf vs :=
  have k : ∀ {i : Nat} {v : Value}, W.cell? ⟨b, i, none⟩ = some v → W'.cell? ⟨b, i, none⟩ = some v := fun {i _} hc => (o.cell (p := ⟨b, i, none⟩) hb).trans hc
  ⟨k h.c0, k h.c1, k h.c2, k h.c3, k h.c4, k h.c5, k h.c6, k h.c7, k h.c8, k h.c9⟩
set_option maxHeartbeats 16000000 in
theorem stateCopies_walk (C : StateC) (AW : AwC) (a b : St) (vw vt vf vs uw ut uf us : Value) (w : World) (ha : Rd w w.heap.size a vw vt vf vs) (hb : Rd w w.heap.size b uw ut uf us) (hoa : Wide15 a) (hpar : Par w) :
    Calls Tryz.prog 5 #[.agg #[.int .i64 a.cf.semi, .int .i64 a.cf.large, .int .i64 a.cf.slots, .int .i64 a.cf.limit, .bool a.sec, vw, .int .i64 a.top, vt, vf, vs], .agg #[.int .i64 b.cf.semi, .int .i64 b.cf.large, .int .i64 b.cf.slots, .int .i64 b.cf.limit, .bool b.sec, uw, .int .i64 b.top, ut, uf, us]] w fun e w' => e = .returned (.bool true) ∧ Below w.heap.size w w' := by
  obtain ⟨W0, hW0, HA1⟩ := box_state w a vw vt vf vs
  obtain ⟨W, hW, HA2⟩ := box_state W0 b uw ut uf us
  have HWB := Lib.hid (show (w.alloc (.cells #[.int .i64 a.cf.semi, .int .i64 a.cf.large, .int .i64 a.cf.slots, .int .i64 a.cf.limit, .bool a.sec, vw, .int .i64 a.top, vt, vf, vs] 28)).alloc (.cells #[.int .i64 b.cf.semi, .int .i64 b.cf.large, .int .i64 b.cf.slots, .int .i64 b.cf.limit, .bool b.sec, uw, .int .i64 b.top, ut, uf, us] 28) = W by rw [hW0, hW])
  have HB := Lib.hid (And.intro (HA1.out.1.trans HA2.out.1) True.intro)
  have hz : W0.heap.size = w.heap.size + 1 := by rw [← hW0]; simp
  have XA0 := Lib.hid (HA1.out.2.2.keep HA2.out.1)
  have XB0 := Lib.hid HA2.out.2.2
  rw [hz] at XB0
  obtain ⟨pa, hpa⟩ : ∃ pa, pa = w.heap.size := ⟨_, rfl⟩
  rw [← hpa] at XA0 XB0
  have HPA := Lib.hid hpa
  have HRA := Lib.hid ha
  have HRB := Lib.hid hb
  have HPAR := Lib.hid hpar
  have HAW := Lib.hid (show ∀ W', Below w.heap.size w W' → Calls Tryz.prog 8 #[] W' fun e w' => e = .returned (.bool true) ∧ Only nob W' w' from fun W' o => AW W' (par_belowS HPAR.out o))
  have HLA := Lib.hid (fun W' (o : Only nob w W') => largeL a vw vt vf vs w.heap.size W' (HRA.out.only o (Nat.le_refl _)))
  have HLB := Lib.hid (fun W' (o : Only nob w W') => largeL b uw ut uf us w.heap.size W' (HRB.out.only o (Nat.le_refl _)))
  obtain ⟨c0, c1, c2, c3, c4, c5, c6, c7, c8, c9⟩ := XA0.out
  obtain ⟨d0, d1, d2, d3, d4, d5, d6, d7, d8, d9⟩ := XB0.out
  clear hW0 hW hz hpa ha hb hpar
  go_enter Tryz.func5, Tryz.ntmps5
  go_upto_region 1 with fail
  rw [HWB.out, ← HPA.out]
  go_wp2_with fail
  go_at_call 7
  refine (HLA.out _ HB.out.1).mono ?_
  cases hL : largeS a
  case true =>
    rintro e w1 ⟨rfl, o⟩
    have O1 := Lib.hid (HB.out.1.trans o)
    clear o hL hoa c0 c1 c2 c3 c4 c5 c6 c7 c8 c9 d0 d1 d2 d3 d4 d5 d6 d7 d8 d9
    go_wp2_with fail
    go_at_call 8
    refine (HAW.out _ O1.out.whole).mono ?_
    rintro e w2 ⟨rfl, o⟩
    have O2 := Lib.hid (O1.out.trans o)
    clear o
    go_wp2
    go_ret
    exact ⟨rfl, O2.out.whole⟩
  case false =>
  have HOA := Lib.hid (hoa.ok hL)
  rintro e w1 ⟨rfl, o⟩
  have O1 := Lib.hid (HB.out.1.trans o)
  have XA1 := Lib.hid (XA0.out.keep o)
  have XB1 := Lib.hid (XB0.out.keep o)
  clear o hL hoa c0 c1 c2 c3 c4 c5 c6 c7 c8 c9 d0 d1 d2 d3 d4 d5 d6 d7 d8 d9
  obtain ⟨c0, c1, c2, c3, c4, c5, c6, c7, c8, c9⟩ := XA1.out
  obtain ⟨d0, d1, d2, d3, d4, d5, d6, d7, d8, d9⟩ := XB1.out
  go_wp2_with fail
  go_at_call 7
  refine (HLB.out _ O1.out).mono ?_
  cases hL : largeS b
  case true =>
    rintro e w2 ⟨rfl, o⟩
    have O2 := Lib.hid (O1.out.trans o)
    clear o hL c0 c1 c2 c3 c4 c5 c6 c7 c8 c9 d0 d1 d2 d3 d4 d5 d6 d7 d8 d9
    go_wp2_with fail
    go_at_call 8
    refine (HAW.out _ O2.out.whole).mono ?_
    rintro e w3 ⟨rfl, o⟩
    have O3 := Lib.hid (O2.out.trans o)
    clear o
    go_wp2
    go_ret
    exact ⟨rfl, O3.out.whole⟩
  case false =>
  rintro e w2 ⟨rfl, o⟩
  have O2 := Lib.hid (O1.out.trans o)
  have XA2 := Lib.hid (XA1.out.keep o)
  have XB2 := Lib.hid (XB1.out.keep o)
  clear o hL c0 c1 c2 c3 c4 c5 c6 c7 c8 c9 d0 d1 d2 d3 d4 d5 d6 d7 d8 d9
  obtain ⟨c0, c1, c2, c3, c4, c5, c6, c7, c8, c9⟩ := XA2.out
  obtain ⟨d0, d1, d2, d3, d4, d5, d6, d7, d8, d9⟩ := XB2.out
  go_wp2_with fail
  go_at_call 21
  refine (C.copy a _ _ _ _ _ w2 (HRA.out.only O2.out (Nat.le_refl _)) O2.out.size HOA.out).mono ?_
  obtain ⟨B1, hB1⟩ : ∃ B1, B1 = w2.heap.size := ⟨_, rfl⟩
  rw [← hB1]
  rintro e w3 ⟨cw, ct, cf, cs, rfl, hown, o⟩
  obtain ⟨Cw, nw, rfl, -, -⟩ := own_len hown.words
  obtain ⟨Ct, nt, rfl, -, -⟩ := own_len hown.tab
  obtain ⟨Cf, nf, rfl, -, -⟩ := own_len hown.free
  obtain ⟨Cs, ns, rfl, -, -⟩ := own_len hown.slots
  obtain ⟨W3, hW3, HB3⟩ := box_state w3 a (.slice Cw a.ws.length nw) (.slice Ct a.tb.length nt) (.slice Cf a.fr.length nf) (.slice Cs a.sl.length ns)
  have HW3 := Lib.hid hW3
  have o3 := o.trans HB3.out.1
  have O3 := Lib.hid (O2.out.trans o3)
  have XA3 := Lib.hid (XA2.out.keep o3)
  have XB3 := Lib.hid (XB2.out.keep o3)
  obtain ⟨pc, hpc⟩ : ∃ pc, pc = w3.heap.size := ⟨_, rfl⟩
  have XC3 := Lib.hid HB3.out.2.2
  rw [← hpc] at XC3
  have HPC := Lib.hid hpc
  have OW3 := Lib.hid (hown.keep HB3.out.1)
  have OWN := Lib.hid hown
  have HB1 := Lib.hid hB1
  have HW23 := Lib.hid o.size
  have HPAB := Lib.hid (show pa < B1 by rw [hB1]; exact World.block_lt_of_cell? w2 _ XA2.out.c0)
  clear o o3 hW3 hpc hown hB1 c0 c1 c2 c3 c4 c5 c6 c7 c8 c9 d0 d1 d2 d3 d4 d5 d6 d7 d8 d9
  go_upto_region 4 with fail
  rw [HW3.out, ← HPC.out]
  obtain ⟨c0, c1, c2, c3, c4, c5, c6, c7, c8, c9⟩ := XA3.out.all
  obtain ⟨d0, d1, d2, d3, d4, d5, d6, d7, d8, d9⟩ := XB3.out.all
  obtain ⟨e0, e1, e2, e3, e4, e5, e6, e7, e8, e9⟩ := XC3.out.all
  have HSC := Lib.hid (show ∀ W', Only nob W3 W' → Calls Tryz.prog 20 #[.agg #[.int .i64 a.cf.semi, .int .i64 a.cf.large, .int .i64 a.cf.slots, .int .i64 a.cf.limit, .bool a.sec, .slice Cw a.ws.length nw, .int .i64 a.top, .slice Ct a.tb.length nt, .slice Cf a.fr.length nf, .slice Cs a.sl.length ns], .agg #[.int .i64 a.cf.semi, .int .i64 a.cf.large, .int .i64 a.cf.slots, .int .i64 a.cf.limit, .bool a.sec, vw, .int .i64 a.top, vt, vf, vs]] W' fun e w' => e = .returned (.bool true) ∧ Only nob W' w' from fun W' o => by
    have hy := sameS_yes (show a = a from rfl)
    rw [← hy]
    exact rSame15 a a _ _ _ _ _ _ _ _ _ _ W' (OW3.out.rd.only o (Nat.le_refl _)) (HRA.out.only (O3.out.trans o) (Nat.le_refl _)) o.size (O3.out.trans o).size)
  obtain ⟨sm, hsm⟩ : ∃ sm, sm = sameS a b := ⟨_, rfl⟩
  have HSP := Lib.hid (show ∀ W', Only nob W3 W' → Calls Tryz.prog 22 #[.agg #[.int .i64 a.cf.semi, .int .i64 a.cf.large, .int .i64 a.cf.slots, .int .i64 a.cf.limit, .bool a.sec, vw, .int .i64 a.top, vt, vf, vs], .agg #[.int .i64 b.cf.semi, .int .i64 b.cf.large, .int .i64 b.cf.slots, .int .i64 b.cf.limit, .bool b.sec, uw, .int .i64 b.top, ut, uf, us]] W' fun e w' => e = .returned (.bool sm) ∧ Only nob W' w' from fun W' o => by
    rw [hsm]
    exact C.same a b _ _ _ _ _ _ _ _ _ _ W' (HRA.out.only (O3.out.trans o) (Nat.le_refl _)) (HRB.out.only (O3.out.trans o) (Nat.le_refl _)) (O3.out.trans o).size (O3.out.trans o).size)
  have HSR := Lib.hid (show ∀ W', Only nob W3 W' → Calls Tryz.prog 20 #[.agg #[.int .i64 a.cf.semi, .int .i64 a.cf.large, .int .i64 a.cf.slots, .int .i64 a.cf.limit, .bool a.sec, vw, .int .i64 a.top, vt, vf, vs], .agg #[.int .i64 b.cf.semi, .int .i64 b.cf.large, .int .i64 b.cf.slots, .int .i64 b.cf.limit, .bool b.sec, uw, .int .i64 b.top, ut, uf, us]] W' fun e w' => e = .returned (.bool sm) ∧ Only nob W' w' from fun W' o => by
    rw [hsm]
    exact rSame15 a b _ _ _ _ _ _ _ _ _ _ W' (HRA.out.only (O3.out.trans o) (Nat.le_refl _)) (HRB.out.only (O3.out.trans o) (Nat.le_refl _)) (O3.out.trans o).size (O3.out.trans o).size)
  clear hsm
  refine wp_region_only mixedSt (by kernel_rfl) ?_
  repeat (with_reducible refine wpQuiet_step ?_; intro K hK; go_simp; first | (with_reducible refine hK _ ?_; clear hK K) | (apply Exists.intro; with_reducible refine ⟨fun _ => ?_, hK _ ?_⟩; (first | (go_at_call 20; first | (with_reducible refine wat_call (HSC.out _ (only_wat _ _ _))) | (with_reducible refine wat_call (HSR.out _ (only_wat _ _ _)))) | (go_at_call 22; with_reducible refine wat_call (HSP.out _ (only_wat _ _ _)))); clear hK K))
  refine wpQuiet_nil ?_
  rintro w' ⟨⟨nq, osq⟩, rfl⟩
  obtain ⟨W4, hW4, O4⟩ := wat_name W3 nq osq
  rw [hW4]
  have OO4 := Lib.hid (O3.out.trans O4.out)
  have XA4 := Lib.hid (XA3.out.keep O4.out)
  have XC4 := Lib.hid (XC3.out.keep O4.out)
  have OW4 := Lib.hid (OW3.out.keep O4.out)
  have HG4 := Lib.hid O4.out.size
  clear hW4 O4 c0 c1 c2 c3 c4 c5 c6 c7 c8 c9 d0 d1 d2 d3 d4 d5 d6 d7 d8 d9 e0 e1 e2 e3 e4 e5 e6 e7 e8 e9
  have hbb : (sm != sm) = false := by simp
  obtain ⟨c0, c1, c2, c3, c4, c5, c6, c7, c8, c9⟩ := XA4.out
  go_wp2_with fail
  go_at_call 21
  refine (C.copy a _ _ _ _ _ W4 (HRA.out.only OO4.out (Nat.le_refl _)) OO4.out.size HOA.out).mono ?_
  obtain ⟨B2, hB2⟩ : ∃ B2, B2 = W4.heap.size := ⟨_, rfl⟩
  rw [← hB2]
  rintro e w5 ⟨dw, dt, df, ds, rfl, hown, o⟩
  obtain ⟨Dw, mw, rfl, -, -⟩ := own_len hown.words
  obtain ⟨Dt, mt, rfl, -, -⟩ := own_len hown.tab
  obtain ⟨Df, mf, rfl, -, -⟩ := own_len hown.free
  obtain ⟨Ds, ms, rfl, -, -⟩ := own_len hown.slots
  obtain ⟨wS, hwS, HB5⟩ := box_state w5 a (.slice Dw a.ws.length mw) (.slice Dt a.tb.length mt) (.slice Df a.fr.length mf) (.slice Ds a.sl.length ms)
  have HWS := Lib.hid hwS
  have o5 := o.trans HB5.out.1
  have O5 := Lib.hid (OO4.out.trans o5)
  have XA5 := Lib.hid (XA4.out.keep o5)
  have XC5 := Lib.hid (XC4.out.keep o5)
  obtain ⟨pd, hpd⟩ : ∃ pd, pd = w5.heap.size := ⟨_, rfl⟩
  have XD5 := Lib.hid HB5.out.2.2
  rw [← hpd] at XD5
  have HPD := Lib.hid hpd
  have OC5 := OW4.out.keep o5
  have OD5 := hown.keep HB5.out.1
  have hw3W3 : w3.heap.size ≤ W3.heap.size := HB3.out.1.size
  have HAP := Lib.hid (show Ap15 wS B1 B2 pc pc pd (.slice Cw a.ws.length nw) (.slice Ct a.tb.length nt) (.slice Cf a.fr.length nf) (.slice Cs a.sl.length ns) from by
    have hZ : ∀ {E : TypeId} {size n : Nat} {v : Value} {xs : List Value}, w3.ownsRow B1 E size v n xs → ∀ k, v.ownBlock = some k → B1 ≤ k ∧ k < pc := fun h k e => by have := own_lt h e; rw [HPC.out]; exact this
    have h1 : pc ≤ B2 := by rw [HPC.out, hB2]; exact Nat.le_trans hw3W3 HG4.out
    have h2 : B2 ≤ pd := by rw [hB2, hpd]; exact o.size
    have h3 : B1 ≤ wS.heap.size := by rw [HB1.out]; exact Nat.le_trans (Nat.le_trans (Nat.le_trans HW23.out hw3W3) HG4.out) o5.size
    exact ⟨h3, hZ OWN.out.words, hZ OWN.out.tab, hZ OWN.out.free, hZ OWN.out.slots, Nat.le_refl _, Nat.le_trans h1 h2, h1, own_neq OWN.out.words OWN.out.tab (by decide), own_neq OWN.out.words OWN.out.free (by decide), own_neq OWN.out.words OWN.out.slots (by decide), OWN.out.apart, own_neq OWN.out.tab OWN.out.slots (by decide), own_neq OWN.out.free OWN.out.slots (by decide)⟩)
  obtain ⟨g1, g2, g3, g4⟩ := OC5.rows
  have HL1 := Lib.hid (show L15 wS B1 B2 pc pd a (.slice Cw a.ws.length nw) (.slice Ct a.tb.length nt) (.slice Cf a.fr.length nf) (.slice Cs a.sl.length ns) (.slice Dw a.ws.length mw) (.slice Dt a.tb.length mt) (.slice Df a.fr.length mf) (.slice Ds a.sl.length ms) wS from ⟨Below.refl _ _, XC5.out, XD5.out, OD5, g1, g2, g3, g4⟩)
  have HBW := Lib.hid (show w.heap.size ≤ B1 by rw [HB1.out]; exact O2.out.size)
  have HPB := Lib.hid (show pa < B1 from HPAB.out)
  clear o o5 hwS hpd hown hB2 OC5 OD5 g1 g2 g3 g4 hw3W3 c0 c1 c2 c3 c4 c5 c6 c7 c8 c9
  go_upto_region 7 with fail
  rw [HWS.out, ← HPD.out]
  go_wp2_with fail
  go_loopw [7] (fun i wr => ∃ k : Nat, k ≤ a.ws.length ∧ i = .int .i64 k ∧ Hid (L15 wS B1 B2 pc pd a (.slice Cw a.ws.length nw) (.slice Ct a.tb.length nt) (.slice Cf a.fr.length nf) (.slice Cs a.sl.length ns) (.slice Dw a.ws.length mw) (.slice Dt a.tb.length mt) (.slice Df a.fr.length mf) (.slice Ds a.sl.length ms) wr)) (fun i _ => a.ws.length - (intOf i).toNat)
  case atStart => exact ⟨0, Nat.zero_le _, rfl, HL1⟩
  case round =>
  obtain ⟨k, hk, rfl, HR⟩ := hrel
  obtain ⟨c0, c1, c2, c3, c4, c5, c6, c7, c8, c9⟩ := HR.out.xc
  by_cases hlt : k < a.ws.length
  case pos =>
    obtain ⟨g, cc, z0, e, hc, hm, hfz, hcl, hput⟩ := HR.out.words HAP.out hlt
    obtain ⟨rfl, rfl⟩ : Cw = some ⟨g, 0, none⟩ ∧ nw = cc := by simpa using e
    have HPUT := Lib.hid hput
    have hcm : nw ≤ 9223372036854775807 := by unfold maxLen at hm; omega
    clear e hput hm
    go_wp2
    go_roundw
    case rel => exact ⟨k + 1, by omega, by go_num, HPUT.out _⟩
    case measure => simp [intOf]; omega
  case neg =>
  obtain rfl : k = a.ws.length := by omega
  clear hlt hk
  obtain ⟨w1z, rfl⟩ : ∃ wz : World, wz = wr := ⟨_, rfl⟩
  have HL2 := Lib.hid HR.out
  clear HR
  go_wp2_with fail
  clear c0 c1 c2 c3 c4 c5 c6 c7 c8 c9
  go_loopw [8] (fun i wr => ∃ k : Nat, k ≤ a.tb.length ∧ i = .int .i64 k ∧ Hid (L15 wS B1 B2 pc pd a (.slice Cw a.ws.length nw) (.slice Ct a.tb.length nt) (.slice Cf a.fr.length nf) (.slice Cs a.sl.length ns) (.slice Dw a.ws.length mw) (.slice Dt a.tb.length mt) (.slice Df a.fr.length mf) (.slice Ds a.sl.length ms) wr)) (fun i _ => a.tb.length - (intOf i).toNat)
  case atStart => exact ⟨0, Nat.zero_le _, rfl, HL2⟩
  case round =>
  obtain ⟨k, hk, rfl, HR⟩ := hrel
  obtain ⟨c0, c1, c2, c3, c4, c5, c6, c7, c8, c9⟩ := HR.out.xc
  by_cases hlt : k < a.tb.length
  case pos =>
    obtain ⟨g, cc, z0, e, hc, hm, hfz, hcl, hput⟩ := HR.out.table HAP.out hlt
    obtain ⟨rfl, rfl⟩ : Ct = some ⟨g, 0, none⟩ ∧ nt = cc := by simpa using e
    have HPUT := Lib.hid hput
    have hcm : nt ≤ 9223372036854775807 := by unfold maxLen at hm; omega
    clear e hput hm
    go_wp2
    go_roundw
    case rel => exact ⟨k + 1, by omega, by go_num, HPUT.out _⟩
    case measure => simp [intOf]; omega
  case neg =>
  obtain rfl : k = a.tb.length := by omega
  clear hlt hk
  obtain ⟨w2z, rfl⟩ : ∃ wz : World, wz = wr := ⟨_, rfl⟩
  have HL3 := Lib.hid HR.out
  clear HR
  go_wp2_with fail
  clear c0 c1 c2 c3 c4 c5 c6 c7 c8 c9
  go_loopw [9] (fun i wr => ∃ k : Nat, k ≤ a.fr.length ∧ i = .int .i64 k ∧ Hid (L15 wS B1 B2 pc pd a (.slice Cw a.ws.length nw) (.slice Ct a.tb.length nt) (.slice Cf a.fr.length nf) (.slice Cs a.sl.length ns) (.slice Dw a.ws.length mw) (.slice Dt a.tb.length mt) (.slice Df a.fr.length mf) (.slice Ds a.sl.length ms) wr)) (fun i _ => a.fr.length - (intOf i).toNat)
  case atStart => exact ⟨0, Nat.zero_le _, rfl, HL3⟩
  case round =>
  obtain ⟨k, hk, rfl, HR⟩ := hrel
  obtain ⟨c0, c1, c2, c3, c4, c5, c6, c7, c8, c9⟩ := HR.out.xc
  by_cases hlt : k < a.fr.length
  case pos =>
    obtain ⟨g, cc, z0, e, hc, hm, hfz, hcl, hput⟩ := HR.out.free HAP.out hlt
    obtain ⟨rfl, rfl⟩ : Cf = some ⟨g, 0, none⟩ ∧ nf = cc := by simpa using e
    have HPUT := Lib.hid hput
    have hcm : nf ≤ 9223372036854775807 := by unfold maxLen at hm; omega
    clear e hput hm
    go_wp2
    go_roundw
    case rel => exact ⟨k + 1, by omega, by go_num, HPUT.out _⟩
    case measure => simp [intOf]; omega
  case neg =>
  obtain rfl : k = a.fr.length := by omega
  clear hlt hk
  obtain ⟨w3z, rfl⟩ : ∃ wz : World, wz = wr := ⟨_, rfl⟩
  have HL4 := Lib.hid HR.out
  clear HR
  go_wp2_with fail
  clear c0 c1 c2 c3 c4 c5 c6 c7 c8 c9
  go_loopw [10] (fun i wr => ∃ k : Nat, k ≤ a.sl.length ∧ i = .int .i64 k ∧ Hid (L15 wS B1 B2 pc pd a (.slice Cw a.ws.length nw) (.slice Ct a.tb.length nt) (.slice Cf a.fr.length nf) (.slice Cs a.sl.length ns) (.slice Dw a.ws.length mw) (.slice Dt a.tb.length mt) (.slice Df a.fr.length mf) (.slice Ds a.sl.length ms) wr)) (fun i _ => a.sl.length - (intOf i).toNat)
  case atStart => exact ⟨0, Nat.zero_le _, rfl, HL4⟩
  case round =>
  obtain ⟨k, hk, rfl, HR⟩ := hrel
  obtain ⟨c0, c1, c2, c3, c4, c5, c6, c7, c8, c9⟩ := HR.out.xc
  by_cases hlt : k < a.sl.length
  case pos =>
    obtain ⟨g, cc, z0, e, hc, hm, hfz, hcl, hput⟩ := HR.out.slot HAP.out hlt
    obtain ⟨rfl, rfl⟩ : Cs = some ⟨g, 0, none⟩ ∧ ns = cc := by simpa using e
    have HPUT := Lib.hid hput
    have hcm : ns ≤ 9223372036854775807 := by unfold maxLen at hm; omega
    clear e hput hm
    go_wp2
    go_roundw
    case rel => exact ⟨k + 1, by omega, by go_num, HPUT.out _⟩
    case measure => simp [intOf]; omega
  case neg =>
  obtain rfl : k = a.sl.length := by omega
  clear hlt hk
  obtain ⟨w4z, rfl⟩ : ∃ wz : World, wz = wr := ⟨_, rfl⟩
  have HL5 := Lib.hid HR.out
  clear HR
  obtain ⟨e0, e1, e2, e3, e4, e5, e6, e7, e8, e9⟩ := HL5.out.xc
  have BW5 := Lib.hid (show Below w.heap.size w w4z from (O5.out.whole).trans (HL5.out.below.mono HBW.out))
  have RA5 := Lib.hid (HRA.out.below BW5.out)
  have XA6 := Lib.hid (SBox.belowS XA5.out HL5.out.below HPB.out)
  obtain ⟨c0, c1, c2, c3, c4, c5, c6, c7, c8, c9⟩ := XA6.out
  obtain ⟨d0, d1, d2, d3, d4, d5, d6, d7, d8, d9⟩ := HL5.out.xd
  go_wp2_with fail
  go_at_call 20
  refine (rSame15 a a _ _ _ _ _ _ _ _ _ _ w4z RA5.out HL5.out.d.rd BW5.out.size (Nat.le_refl _)).mono ?_
  rw [sameS_yes (show a = a from rfl)]
  rintro e w6 ⟨rfl, o⟩
  have BW6 := Lib.hid (BW5.out.trans (o.below BW5.out.size fun _ h => h.elim))
  clear o c0 c1 c2 c3 c4 c5 c6 c7 c8 c9 d0 d1 d2 d3 d4 d5 d6 d7 d8 d9 e0 e1 e2 e3 e4 e5 e6 e7 e8 e9
  go_wp2_with fail
  go_at_call 8
  refine (HAW.out _ BW6.out).mono ?_
  rintro e w7 ⟨rfl, o⟩
  have BW7 := Lib.hid (BW6.out.trans (o.below BW6.out.size fun _ h => h.elim))
  clear o
  go_wp2
  go_ret
  exact ⟨rfl, BW7.out⟩
end Go.Proofs.YtciidodmhigpdaaGreatDoor
