/- StateNews: out of the contracts. -/
import Derived.Test.YtciidodmhigpdaaGreatDoorStAwa
namespace Go.Proofs.YtciidodmhigpdaaGreatDoor
open Go.RowKit
set_option maxRecDepth 100000

theorem CBox15 {W : World} {b : Nat} {t : TypeId} {c : Cf} (h : Blk W b t #[.int .i64 c.semi, .int .i64 c.large, .int .i64 c.slots, .int .i64 c.limit]) : CBox W b c := ⟨h.cell 0, h.cell 1, h.cell 2, h.cell 3⟩
set_option maxHeartbeats 8000000 in
theorem stateNews_walk (C : StateC) (AW : AwC) (RN : NewC15 19) (c : Cf) (w : World) (hc : CFit c) (hpar : Par w) :
    Calls Tryz.prog 4 #[.agg #[.int .i64 c.semi, .int .i64 c.large, .int .i64 c.slots, .int .i64 c.limit]] w fun e w' => e = .returned (.bool true) ∧ Below w.heap.size w w' := by
  have HPAR := Lib.hid hpar
  have HC := Lib.hid hc
  obtain ⟨W, hW, HB⟩ : ∃ W, (w.alloc (.cells #[.int .i64 c.semi, .int .i64 c.large, .int .i64 c.slots, .int .i64 c.limit] 23)) = W ∧ Hid (Only nob w W ∧ CBox W w.heap.size c) := ⟨_, rfl, only_box w c, CBox.new w c⟩
  have HW := Lib.hid hW
  obtain ⟨p, hp⟩ : ∃ p, p = w.heap.size := ⟨_, rfl⟩
  rw [← hp] at HB
  have HP := Lib.hid hp
  obtain ⟨c0, c1, c2, c3⟩ := HB.out.2
  have HAW := Lib.hid (show ∀ W', Only nob w W' → Calls Tryz.prog 8 #[] W' fun e w' => e = .returned (.bool true) ∧ Only nob W' w' from fun W' o => AW W' (HPAR.out.old o))
  clear hW hp hpar hc
  go_enter Tryz.func4, Tryz.ntmps4
  go_upto_region 1 with fail
  rw [HW.out, ← HP.out]
  go_wp2_with fail
  go_at_call 18
  refine (C.new c W HC.out).mono ?_
  rintro e w1 ⟨s, vw, vt, vf, vs, hs, rfl, hr1, o⟩
  obtain ⟨Aw, cw, rfl, -, -⟩ := hr1.words.form
  obtain ⟨At, ct, rfl, -, -⟩ := hr1.tab.form
  obtain ⟨Af, cf, rfl, -, -⟩ := hr1.free.form
  obtain ⟨As, cs, rfl, -, -⟩ := hr1.slots.form
  obtain ⟨W1, hW1, HB1⟩ := box_state w1 s (.slice Aw s.ws.length cw) (.slice At s.tb.length ct) (.slice Af s.fr.length cf) (.slice As s.sl.length cs)
  have HW1 := Lib.hid hW1
  have o1 := o.trans HB1.out.1
  have O1 := Lib.hid (HB.out.1.trans o1)
  have X1 := Lib.hid (HB.out.2.keep o1)
  have R1 := Lib.hid ((hr1.only HB1.out.1 (Nat.le_refl _)).more HB1.out.1.size)
  have HS := Lib.hid hs
  obtain ⟨p1, hp1⟩ : ∃ p1, p1 = w1.heap.size := ⟨_, rfl⟩
  have Y1 := Lib.hid HB1.out.2.2
  rw [← hp1] at Y1
  have HP1 := Lib.hid hp1
  clear o o1 hW1 hr1 hs hp1 c0 c1 c2 c3
  go_upto_region 2 with fail
  rw [HW1.out, ← HP1.out]
  obtain ⟨c0, c1, c2, c3⟩ := X1.out
  go_wp2_with fail
  go_at_call 19
  refine (RN c W1 HC.out).mono ?_
  rintro e w2 ⟨t, uw, ut, uf, us, ht, rfl, hr2, o⟩
  obtain ⟨Bw, bw, rfl, -, -⟩ := hr2.words.form
  obtain ⟨Bt, bt, rfl, -, -⟩ := hr2.tab.form
  obtain ⟨Bf, bf, rfl, -, -⟩ := hr2.free.form
  obtain ⟨Bs, bs, rfl, -, -⟩ := hr2.slots.form
  obtain ⟨W2, hW2, HB2⟩ := box_state w2 t (.slice Bw t.ws.length bw) (.slice Bt t.tb.length bt) (.slice Bf t.fr.length bf) (.slice Bs t.sl.length bs)
  have HW2 := Lib.hid hW2
  have o1 := o.trans HB2.out.1
  have O2 := Lib.hid (O1.out.trans o1)
  have X2 := Lib.hid (X1.out.keep o1)
  have Y2 := Lib.hid (Y1.out.keep o1)
  have R1' := Lib.hid ((R1.out.only o1 (Nat.le_refl _)).more o1.size)
  have R2 := Lib.hid ((hr2.only HB2.out.1 (Nat.le_refl _)).more HB2.out.1.size)
  have HT := Lib.hid ht
  obtain ⟨p2, hp2⟩ : ∃ p2, p2 = w2.heap.size := ⟨_, rfl⟩
  have Z2 := Lib.hid HB2.out.2.2
  rw [← hp2] at Z2
  have HP2 := Lib.hid hp2
  clear o o1 hW2 hr2 ht hp2 c0 c1 c2 c3
  go_upto_region 3 with fail
  rw [HW2.out, ← HP2.out]
  have HST := Lib.hid (show sameS s t = true from sameS_yes (by rw [HS.out, HT.out]))
  obtain ⟨a0, a1, a2, a3, a4, a5, a6, a7, a8, a9⟩ := Y2.out
  obtain ⟨d0, d1, d2, d3, d4, d5, d6, d7, d8, d9⟩ := Z2.out
  go_wp2_with fail
  go_at_call 20
  refine (rSame15 s t _ _ _ _ _ _ _ _ _ _ W2 R1'.out R2.out (Nat.le_refl _) (Nat.le_refl _)).mono ?_
  rw [HST.out]
  rintro e w3 ⟨rfl, o⟩
  have O3 := Lib.hid (O2.out.trans o)
  have X3 := Lib.hid (X2.out.keep o)
  have Y3 := Lib.hid (Y2.out.keep o)
  have R3 := Lib.hid ((R1'.out.only o (Nat.le_refl _)).more o.size)
  clear o a0 a1 a2 a3 a4 a5 a6 a7 a8 a9 d0 d1 d2 d3 d4 d5 d6 d7 d8 d9
  obtain ⟨c0, c1, c2, c3⟩ := X3.out
  obtain ⟨a0, a1, a2, a3, a4, a5, a6, a7, a8, a9⟩ := Y3.out
  obtain ⟨E, hE⟩ : ∃ E, E = nwE c := ⟨_, rfl⟩
  have HE := Lib.hid hE
  rw [← hE]
  clear hE
  by_cases hok : c.ok
  case neg =>
    have he1 : E = 1 := HE.out.trans (show nwE c = 1 from if_neg hok)
    subst he1
    clear hok
    go_wp2_with fail
    go_at_call 8
    refine (HAW.out _ O3.out).mono ?_
    rintro e w4 ⟨rfl, o⟩
    have O4 := Lib.hid (O3.out.trans o)
    clear o c0 c1 c2 c3 a0 a1 a2 a3 a4 a5 a6 a7 a8 a9
    go_wp2
    go_ret
    exact ⟨rfl, O4.out.whole⟩
  case pos =>
  have he1 : E = 0 := HE.out.trans (show nwE c = 0 from if_pos hok)
  subst he1
  have HCH := Lib.hid (show chkS s = 0 by rw [HS.out]; exact chkS_new hok)
  have HSO := Lib.hid (show StOk s by rw [HS.out]; exact stOk_new c HC.out)
  clear hok
  by_cases h1 : 200 < c.semi
  case pos =>
    go_wp2_with fail
    go_at_call 8
    refine (HAW.out _ O3.out).mono ?_
    rintro e w4 ⟨rfl, o⟩
    have O4 := Lib.hid (O3.out.trans o)
    clear o c0 c1 c2 c3 a0 a1 a2 a3 a4 a5 a6 a7 a8 a9
    go_wp2
    go_ret
    exact ⟨rfl, O4.out.whole⟩
  case neg =>
  by_cases h2 : 200 < c.large
  case pos =>
    go_wp2_with fail
    go_at_call 8
    refine (HAW.out _ O3.out).mono ?_
    rintro e w4 ⟨rfl, o⟩
    have O4 := Lib.hid (O3.out.trans o)
    clear o c0 c1 c2 c3 a0 a1 a2 a3 a4 a5 a6 a7 a8 a9
    go_wp2
    go_ret
    exact ⟨rfl, O4.out.whole⟩
  case neg =>
  go_wp2_with fail
  go_at_call 13
  refine (C.check s _ _ _ _ _ w3 R3.out (Nat.le_refl _) HSO.out (HPAR.out.old O3.out)).mono ?_
  rw [HCH.out]
  rintro e w4 ⟨rfl, o⟩
  have O4 := Lib.hid (O3.out.trans o)
  clear o c0 c1 c2 c3 a0 a1 a2 a3 a4 a5 a6 a7 a8 a9
  go_wp2_with fail
  go_at_call 8
  refine (HAW.out _ O4.out).mono ?_
  rintro e w5 ⟨rfl, o⟩
  have O5 := Lib.hid (O4.out.trans o)
  clear o
  go_wp2
  go_ret
  exact ⟨rfl, O5.out.whole⟩
end Go.Proofs.YtciidodmhigpdaaGreatDoor
