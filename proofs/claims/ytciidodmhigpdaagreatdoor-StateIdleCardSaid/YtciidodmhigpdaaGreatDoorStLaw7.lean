/- The walk of StateIdle. -/
import Derived.Test.YtciidodmhigpdaaGreatDoorStAwk
namespace Go.Proofs.YtciidodmhigpdaaGreatDoor
open Go.RowKit
set_option maxRecDepth 100000

set_option maxHeartbeats 16000000 in
theorem stateIdle_walk (C : StateC) (AW : AwC) (s : St) (at_ : Int) (y : Nat) (vw vt vf vs : Value) (w : World) (h : Rd w w.heap.size s vw vt vf vs) (hok : Wide15 s) (hy : y < full) (hpar : Par w) :
    Calls Tryz.prog 6 #[.agg #[.int .i64 s.cf.semi, .int .i64 s.cf.large, .int .i64 s.cf.slots, .int .i64 s.cf.limit, .bool s.sec, vw, .int .i64 s.top, vt, vf, vs], .int .i64 at_, .int .u64 (y : Nat)] w fun e w' => e = .returned (.bool true) ∧ Below w.heap.size w w' := by
  obtain ⟨Aw, cw, rfl, haw, hcw⟩ := h.words.form
  unfold maxLen at hcw
  obtain ⟨W, hW, HB⟩ := box_state w s (.slice Aw s.ws.length cw) vt vf vs
  have HW := Lib.hid hW
  obtain ⟨p, hp⟩ : ∃ p, p = w.heap.size := ⟨_, rfl⟩
  have HBX := Lib.hid HB.out.2.2
  rw [← hp] at HBX
  have HP := Lib.hid hp
  have HR := Lib.hid h
  have HY := Lib.hid hy
  have HPAR := Lib.hid hpar
  have HLG := Lib.hid (largeL s _ vt vf vs w.heap.size W (h.only HB.out.1 (Nat.le_refl _)))
  have HAW := Lib.hid (show ∀ W', Below w.heap.size w W' → Calls Tryz.prog 8 #[] W' fun e w' => e = .returned (.bool true) ∧ Only nob W' w' from fun W' o => AW W' (par_belowS HPAR.out o))
  obtain ⟨c0, c1, c2, c3, c4, c5, c6, c7, c8, c9⟩ := HBX.out
  clear hW hp h hpar hy
  go_enter Tryz.func6, Tryz.ntmps6
  go_upto_region 1 with fail
  rw [HW.out, ← HP.out]
  go_wp2_with fail
  go_at_call 7
  refine HLG.out.mono ?_
  cases hL : largeS s
  case true =>
    rintro e w1 ⟨rfl, o⟩
    have O1 := Lib.hid (HB.out.1.trans o)
    clear o hL hok c0 c1 c2 c3 c4 c5 c6 c7 c8 c9
    go_wp2_with fail
    go_at_call 8
    refine (HAW.out _ O1.out.whole).mono ?_
    rintro e w2 ⟨rfl, o⟩
    have O2 := Lib.hid (O1.out.trans o)
    clear o
    go_wp2
    go_ret
    exact ⟨rfl, O2.out.whole⟩
  case false =>
  have HOK := Lib.hid (hok.ok hL)
  have hfew := (large_no hL).1
  rintro e w1 ⟨rfl, o⟩
  have O1 := Lib.hid (HB.out.1.trans o)
  have X1 := Lib.hid (HBX.out.keep o)
  clear o hL hok c0 c1 c2 c3 c4 c5 c6 c7 c8 c9
  obtain ⟨c0, c1, c2, c3, c4, c5, c6, c7, c8, c9⟩ := X1.out
  go_wp2_with fail
  go_at_call 13
  refine (C.check s _ _ _ _ _ w1 (HR.out.only O1.out (Nat.le_refl _)) O1.out.size HOK.out (HPAR.out.old O1.out)).mono ?_
  obtain ⟨q, hq⟩ : ∃ q, q = chkS s := ⟨_, rfl⟩
  have HQ := Lib.hid hq
  rw [← hq]
  rintro e w2 ⟨rfl, o⟩
  have O2 := Lib.hid (O1.out.trans o)
  have X2 := Lib.hid (X1.out.keep o)
  clear o hq c0 c1 c2 c3 c4 c5 c6 c7 c8 c9
  by_cases hq0 : q = 0
  case neg =>
    have hbq : (q != 0) = true := by simpa using hq0
    clear hq0
    go_wp2_with fail
    go_at_call 8
    refine (HAW.out _ O2.out.whole).mono ?_
    rintro e w3 ⟨rfl, o⟩
    have O3 := Lib.hid (O2.out.trans o)
    clear o
    go_wp2
    go_ret
    exact ⟨rfl, O3.out.whole⟩
  case pos =>
  subst hq0
  have HM := Lib.hid (chkS_iff.1 HQ.out.symm)
  by_cases ha : at_ < 0
  case pos =>
    go_wp2_with fail
    go_at_call 8
    refine (HAW.out _ O2.out.whole).mono ?_
    rintro e w3 ⟨rfl, o⟩
    have O3 := Lib.hid (O2.out.trans o)
    clear o
    go_wp2
    go_ret
    exact ⟨rfl, O3.out.whole⟩
  case neg =>
  obtain ⟨a, rfl⟩ : ∃ a : Nat, at_ = a := ⟨at_.toNat, by omega⟩
  obtain ⟨c0, c1, c2, c3, c4, c5, c6, c7, c8, c9⟩ := X2.out
  by_cases hb : a < s.ws.length
  case neg =>
    go_wp2_with fail
    go_at_call 8
    refine (HAW.out _ O2.out.whole).mono ?_
    rintro e w3 ⟨rfl, o⟩
    have O3 := Lib.hid (O2.out.trans o)
    clear o c0 c1 c2 c3 c4 c5 c6 c7 c8 c9
    go_wp2
    go_ret
    exact ⟨rfl, O3.out.whole⟩
  case pos =>
  go_wp2_with fail
  go_at_call 9
  refine (C.objects s _ _ _ _ _ w2 (HR.out.only O2.out (Nat.le_refl _)) O2.out.size HOK.out (HPAR.out.old O2.out)).mono ?_
  rw [(obL_yes HQ.out.symm).1, (obL_yes HQ.out.symm).2]
  rintro e w3 ⟨v3, rfl, hs3, o⟩
  have O3 := Lib.hid (O2.out.trans o)
  have X3 := Lib.hid (X2.out.keep o)
  have S3 := Lib.hid hs3
  obtain ⟨A3, c33, rfl, hc3, hm3⟩ := hs3.form
  unfold maxLen at hm3
  clear o hs3 c0 c1 c2 c3 c4 c5 c6 c7 c8 c9
  go_wp2_with fail
  go_loopw [9] (fun i wr => ∃ k : Nat, k ≤ s.objs.length ∧ i = .int .i64 k ∧ Hid (∀ (j : Nat) x, j < k → s.objs[j]? = some x → ¬ (x ≤ a ∧ (a : Int) < x + 1 + ohF s.ws x + ohR s.ws x)) ∧ Hid (Only nob w3 wr)) (fun i _ => s.objs.length - (intOf i).toNat)
  case atStart => exact ⟨0, Nat.zero_le _, rfl, Lib.hid (fun j _ hj _ => absurd hj (Nat.not_lt_zero j)), Lib.hid (Only.refl _ _)⟩
  case round =>
  obtain ⟨k, hk, rfl, HNO, HO⟩ := hrel
  have OW := Lib.hid (O3.out.trans HO.out)
  have XW := Lib.hid (X3.out.keep HO.out)
  by_cases hlt : k < s.objs.length
  case pos =>
    obtain ⟨x0, hx⟩ : ∃ x, s.objs[k]? = some x := ⟨_, List.getElem?_eq_getElem hlt⟩
    obtain ⟨bt, ot, rfl, hbt, t0⟩ := sl_int S3.out HO.out.whole hx
    have HX := Lib.hid hx
    have hbn := oh_bounds (HM.out.head (List.mem_of_getElem? hx)).1
    obtain ⟨K, hK⟩ : ∃ K, K = ohK s.ws x0 := ⟨_, rfl⟩
    obtain ⟨F, hF⟩ : ∃ F, F = ohF s.ws x0 := ⟨_, rfl⟩
    obtain ⟨R, hR⟩ : ∃ R, R = ohR s.ws x0 := ⟨_, rfl⟩
    obtain ⟨M, hM⟩ : ∃ M, M = ohM s.ws x0 := ⟨_, rfl⟩
    obtain ⟨E, hE⟩ : ∃ E, E = ohC s.ws x0 := ⟨_, rfl⟩
    obtain ⟨Y, hYe⟩ : ∃ Y, Y = ohE s.ws x0 := ⟨_, rfl⟩
    have HHD := Lib.hid (show ∀ W', Only nob wr W' → Calls Tryz.prog 11 #[.agg #[.int .i64 s.cf.semi, .int .i64 s.cf.large, .int .i64 s.cf.slots, .int .i64 s.cf.limit, .bool s.sec, .slice Aw s.ws.length cw, .int .i64 s.top, vt, vf, vs], .int .i64 x0] W' fun e w' => e = .returned (.tuple #[.agg #[.int .i64 K, .int .i64 F, .int .i64 R, .bool M, .int .i64 E], .int .i64 Y]) ∧ Only nob W' w' from fun W' o => by
      have o2 := OW.out.trans o
      rw [hK, hF, hR, hM, hE, hYe]
      exact C.head s x0 _ _ _ _ _ W' (HR.out.only o2 (Nat.le_refl _)) o2.size HOK.out (HPAR.out.old o2))
    have HNK := Lib.hid (show ∀ (j : Nat) x, j < k + 1 → s.objs[j]? = some x → (¬ (x0 ≤ a ∧ (a : Int) < x0 + 1 + F + R)) → ¬ (x ≤ a ∧ (a : Int) < x + 1 + ohF s.ws x + ohR s.ws x) from fun j x hj hxx hn => by
      rcases Nat.lt_or_ge j k with h' | h'
      · exact HNO.out j x h' hxx
      · obtain rfl : j = k := by omega
        rw [HX.out] at hxx
        obtain rfl := Option.some.inj hxx
        rw [← hF, ← hR]
        exact hn)
    rw [← hF, ← hR] at hbn
    obtain ⟨hb1, hb2, hb3, hb4, hb5, hb6, -⟩ := hbn
    clear hx hK hF hR hM hE hYe
    obtain ⟨c0, c1, c2, c3, c4, c5, c6, c7, c8, c9⟩ := XW.out
    have HN0 := Lib.hid (show Only nob wr wr.drew from (Only.refl nob wr).drewN 1)
    have HN1 := Lib.hid (show Only nob wr (wr.alloc (.cells #[.int .i64 0, .int .i64 0, .int .i64 0, .bool false, .int .i64 0] 36)).drew from ((Only.refl nob wr).alloc _).drewN 1)
    go_upto_region 7 with fail
    go_cut [10] (fun sp wx => ∃ bq : Nat, sp = .pointer (some ⟨bq, 0, none⟩) ∧ Hid (Only nob wr wx ∧ Blk wx bq 36 #[.int .i64 K, .int .i64 F, .int .i64 R, .bool M, .int .i64 E]))
    case first =>
      go_region_held3 (fun w' => w'.cell? ⟨p, 0, none⟩ = some (.int .i64 s.cf.semi) ∧ w'.cell? ⟨p, 1, none⟩ = some (.int .i64 s.cf.large) ∧ w'.cell? ⟨p, 2, none⟩ = some (.int .i64 s.cf.slots) ∧ w'.cell? ⟨p, 3, none⟩ = some (.int .i64 s.cf.limit) ∧ w'.cell? ⟨p, 4, none⟩ = some (.bool s.sec) ∧ w'.cell? ⟨p, 5, none⟩ = some (.slice Aw s.ws.length cw) ∧ w'.cell? ⟨p, 6, none⟩ = some (.int .i64 s.top) ∧ w'.cell? ⟨p, 7, none⟩ = some (vt) ∧ w'.cell? ⟨p, 8, none⟩ = some (vf) ∧ w'.cell? ⟨p, 9, none⟩ = some (vs) ∧ w'.cell? ⟨bt, ot + k, none⟩ = some (.int .i64 x0)) (first | (with_reducible exact C1.out) | (with_reducible exact And.intro ((O5.out.alloc _).keeps c0) (And.intro ((O5.out.alloc _).keeps c1) (And.intro ((O5.out.alloc _).keeps c2) (And.intro ((O5.out.alloc _).keeps c3) (And.intro ((O5.out.alloc _).keeps c4) (And.intro ((O5.out.alloc _).keeps c5) (And.intro ((O5.out.alloc _).keeps c6) (And.intro ((O5.out.alloc _).keeps c7) (And.intro ((O5.out.alloc _).keeps c8) (And.intro ((O5.out.alloc _).keeps c9) (((O5.out.alloc _).keeps t0)))))))))))) | (with_reducible exact And.intro (HN0.out.keeps c0) (And.intro (HN0.out.keeps c1) (And.intro (HN0.out.keeps c2) (And.intro (HN0.out.keeps c3) (And.intro (HN0.out.keeps c4) (And.intro (HN0.out.keeps c5) (And.intro (HN0.out.keeps c6) (And.intro (HN0.out.keeps c7) (And.intro (HN0.out.keeps c8) (And.intro (HN0.out.keeps c9) ((HN0.out.keeps t0)))))))))))) | (with_reducible exact And.intro (((Only.refl nob wr).alloc _).keeps c0) (And.intro (((Only.refl nob wr).alloc _).keeps c1) (And.intro (((Only.refl nob wr).alloc _).keeps c2) (And.intro (((Only.refl nob wr).alloc _).keeps c3) (And.intro (((Only.refl nob wr).alloc _).keeps c4) (And.intro (((Only.refl nob wr).alloc _).keeps c5) (And.intro (((Only.refl nob wr).alloc _).keeps c6) (And.intro (((Only.refl nob wr).alloc _).keeps c7) (And.intro (((Only.refl nob wr).alloc _).keeps c8) (And.intro (((Only.refl nob wr).alloc _).keeps c9) ((((Only.refl nob wr).alloc _).keeps t0)))))))))))) | go_keep | with_reducible exact And.intro ((only_five O5.out (Nat.le_refl _) _ _ _ _ _).keeps c0) (And.intro ((only_five O5.out (Nat.le_refl _) _ _ _ _ _).keeps c1) (And.intro ((only_five O5.out (Nat.le_refl _) _ _ _ _ _).keeps c2) (And.intro ((only_five O5.out (Nat.le_refl _) _ _ _ _ _).keeps c3) (And.intro ((only_five O5.out (Nat.le_refl _) _ _ _ _ _).keeps c4) (And.intro ((only_five O5.out (Nat.le_refl _) _ _ _ _ _).keeps c5) (And.intro ((only_five O5.out (Nat.le_refl _) _ _ _ _ _).keeps c6) (And.intro ((only_five O5.out (Nat.le_refl _) _ _ _ _ _).keeps c7) (And.intro ((only_five O5.out (Nat.le_refl _) _ _ _ _ _).keeps c8) (And.intro ((only_five O5.out (Nat.le_refl _) _ _ _ _ _).keeps c9) (((only_five O5.out (Nat.le_refl _) _ _ _ _ _).keeps t0))))))))))))
        ((go_at_call 11
          first
          | (with_reducible refine (HHD.out wr.drew HN0.out).mono ?_
             rintro e w5 ⟨rfl, o⟩
             have O5 := Lib.hid o.drewL
             have TA := True.intro
             have C1 := Lib.hid (And.intro (O5.out.keeps c0) (And.intro (O5.out.keeps c1) (And.intro (O5.out.keeps c2) (And.intro (O5.out.keeps c3) (And.intro (O5.out.keeps c4) (And.intro (O5.out.keeps c5) (And.intro (O5.out.keeps c6) (And.intro (O5.out.keeps c7) (And.intro (O5.out.keeps c8) (And.intro (O5.out.keeps c9) ((O5.out.keeps t0))))))))))))
             clear o)
          | (with_reducible refine (HHD.out (wr.alloc (.cells #[.int .i64 0, .int .i64 0, .int .i64 0, .bool false, .int .i64 0] 36)).drew HN1.out).mono ?_
             rintro e w5 ⟨rfl, o⟩
             have O5 := Lib.hid (((Only.refl nob wr).alloc (.cells #[.int .i64 0, .int .i64 0, .int .i64 0, .bool false, .int .i64 0] 36)).trans o.drewL)
             have BZ := Lib.hid ((Blk.new wr 36 #[.int .i64 0, .int .i64 0, .int .i64 0, .bool false, .int .i64 0]).keep o.drewL id)
             have TB := True.intro
             obtain ⟨y0, y1, y2, y3, y4⟩ := cells5 BZ.out
             obtain ⟨z0, z1, z2, z3, z4⟩ := frees5 BZ.out
             have C1 := Lib.hid (And.intro (O5.out.keeps c0) (And.intro (O5.out.keeps c1) (And.intro (O5.out.keeps c2) (And.intro (O5.out.keeps c3) (And.intro (O5.out.keeps c4) (And.intro (O5.out.keeps c5) (And.intro (O5.out.keeps c6) (And.intro (O5.out.keeps c7) (And.intro (O5.out.keeps c8) (And.intro (O5.out.keeps c9) ((O5.out.keeps t0))))))))))))
             clear o)))
      all_goals
        first
        | (clear TA
           obtain ⟨W5, hW5, HBX2⟩ := box_head w5 K F R M E
           have HW5 := Lib.hid hW5
           clear hW5
           rw [HW5.out]
           go_wp2
           go_meet
           exact ⟨_, rfl, Lib.hid ⟨O5.out.trans HBX2.out.1, HBX2.out.2⟩⟩)
        | (clear TB y0 y1 y2 y3 y4 z0 z1 z2 z3 z4
           obtain ⟨W5, hW5, OX, BX⟩ := puts5 O5.out (Nat.le_refl _) BZ.out (.int .i64 K) (.int .i64 F) (.int .i64 R) (.bool M) (.int .i64 E)
           rw [hW5]
           go_wp2
           go_meet
           exact ⟨_, rfl, Lib.hid ⟨OX, BX⟩⟩)
    case rest =>
    obtain ⟨bq, rfl, HC5⟩ := hcut
    obtain ⟨W5, rfl⟩ : ∃ W5 : World, W5 = wc := ⟨_, rfl⟩
    have O5 := Lib.hid (HO.out.trans HC5.out.1)
    obtain ⟨-, h1, h2, -, -⟩ := head_all HC5.out.2
    have T0 := wat_cell (HC5.out.1.keeps t0)
    have m1 : IntKind.i64.wrap (x0 + 1) = x0 + 1 := by rw [IntKind.wrap_i64]; omega
    have m2 : IntKind.i64.wrap (x0 + 1 + F) = x0 + 1 + F := by rw [IntKind.wrap_i64]; omega
    have m3 : IntKind.i64.wrap (x0 + 1 + F + R) = x0 + 1 + F + R := by rw [IntKind.wrap_i64]; omega
    clear t0 c0 c1 c2 c3 c4 c5 c6 c7 c8 c9
    go_wp2_with fail
    by_cases g1 : x0 ≤ a
    case pos =>
      by_cases g2 : (a : Int) < x0 + 1 + F + R
      case pos =>
        refine wp_region_only mixedSt (by kernel_rfl) ?_
        repeat (with_reducible refine wpQuiet_step ?_; intro K' hK'; go_simp; first | (with_reducible refine hK' _ ?_; clear hK' K') | (apply Exists.intro; with_reducible refine ⟨fun _ => ?_, hK' _ ?_⟩; (fail); clear hK' K'))
        refine wpQuiet_nil ?_
        rintro w' ⟨⟨nq, osq⟩, rfl⟩
        obtain ⟨W6, hW6, Q6⟩ := wat_name W5 nq osq
        rw [hW6]
        have O6 := Lib.hid (O5.out.trans Q6.out)
        clear hW6 Q6 h1 h2 T0
        clear m1 m2 m3
        go_wp2_with fail
        go_at_call 8
        refine (HAW.out _ (O3.out.trans O6.out).whole).mono ?_
        rintro e w7 ⟨rfl, o⟩
        have O7 := Lib.hid ((O3.out.trans O6.out).trans o)
        clear o
        go_wp2
        go_ret
        exact ⟨rfl, O7.out.whole⟩
      case neg =>
        refine wp_region_only mixedSt (by kernel_rfl) ?_
        repeat (with_reducible refine wpQuiet_step ?_; intro K' hK'; go_simp; first | (with_reducible refine hK' _ ?_; clear hK' K') | (apply Exists.intro; with_reducible refine ⟨fun _ => ?_, hK' _ ?_⟩; (fail); clear hK' K'))
        refine wpQuiet_nil ?_
        rintro w' ⟨⟨nq, osq⟩, rfl⟩
        obtain ⟨W6, hW6, Q6⟩ := wat_name W5 nq osq
        rw [hW6]
        have O6 := Lib.hid (O5.out.trans Q6.out)
        clear hW6 Q6 h1 h2 T0
        clear m1 m2 m3
        go_wp2
        go_roundw
        case rel => exact ⟨k + 1, by omega, by go_num, Lib.hid (fun j x hj hxx => HNK.out j x hj hxx fun h => g2 h.2), O6⟩
        case measure => simp [intOf]; omega
    case neg =>
      refine wp_region_only mixedSt (by kernel_rfl) ?_
      repeat (with_reducible refine wpQuiet_step ?_; intro K' hK'; go_simp; first | (with_reducible refine hK' _ ?_; clear hK' K') | (apply Exists.intro; with_reducible refine ⟨fun _ => ?_, hK' _ ?_⟩; (fail); clear hK' K'))
      refine wpQuiet_nil ?_
      rintro w' ⟨⟨nq, osq⟩, rfl⟩
      obtain ⟨W6, hW6, Q6⟩ := wat_name W5 nq osq
      rw [hW6]
      have O6 := Lib.hid (O5.out.trans Q6.out)
      clear hW6 Q6 h1 h2 T0
      clear m1 m2 m3
      go_wp2
      go_roundw
      case rel => exact ⟨k + 1, by omega, by go_num, Lib.hid (fun j x hj hxx => HNK.out j x hj hxx fun h => g1 h.1), O6⟩
      case measure => simp [intOf]; omega
  case neg =>
  obtain rfl : k = s.objs.length := by omega
  have HMAY := Lib.hid (HM.out.idle (a := a) y fun x hx => by
    obtain ⟨j, hj⟩ := List.getElem?_of_mem hx
    exact HNO.out j x (List.getElem?_eq_some_iff.1 hj).1 hj)
  obtain ⟨w4, rfl⟩ : ∃ w4 : World, w4 = wr := ⟨_, rfl⟩
  obtain ⟨c0, c1, c2, c3, c4, c5, c6, c7, c8, c9⟩ := XW.out
  clear HNO hlt hk
  go_wp2_with fail
  go_at_call 21
  refine (C.copy s _ _ _ _ _ w4 (HR.out.only OW.out (Nat.le_refl _)) OW.out.size HOK.out).mono ?_
  rintro e w5 ⟨dw, dt, df, ds, rfl, hown, o⟩
  obtain ⟨Dw, mw, rfl, -, -⟩ := own_len hown.words
  obtain ⟨Dt, mt, rfl, -, -⟩ := own_len hown.tab
  obtain ⟨Df, mf, rfl, -, -⟩ := own_len hown.free
  obtain ⟨Ds, ms, rfl, -, -⟩ := own_len hown.slots
  obtain ⟨W5, hW5, HB5⟩ := box_state w5 s (.slice Dw s.ws.length mw) (.slice Dt s.tb.length mt) (.slice Df s.fr.length mf) (.slice Ds s.sl.length ms)
  have HW5 := Lib.hid hW5
  have o5 := o.trans HB5.out.1
  have O5 := Lib.hid (OW.out.trans o5)
  have X5 := Lib.hid (XW.out.keep o5)
  obtain ⟨pd, hpd⟩ : ∃ pd, pd = w5.heap.size := ⟨_, rfl⟩
  have XD5 := Lib.hid HB5.out.2.2
  rw [← hpd] at XD5
  have HPD := Lib.hid hpd
  have OD5 := hown.keep HB5.out.1
  obtain ⟨g, cc, eg, hgc, hgm, hfz, hcl, hput⟩ := own_set OD5.words (i := a) (by omega)
  obtain ⟨rfl, rfl⟩ : Dw = some ⟨g, 0, none⟩ ∧ mw = cc := by simpa using eg
  obtain ⟨W6, hW6⟩ : ∃ W6, W5.setCell ⟨g, a, none⟩ (.int .u64 (y : Nat)) = W6 := ⟨_, rfl⟩
  have HW6 := Lib.hid hW6
  obtain ⟨hr6, o6⟩ := hput (.int .u64 (y : Nat))
  rw [hW6, u64s_set] at hr6
  rw [hW6] at o6
  have hgl := own_lt hown.words (k := g) rfl
  have hwl : w.heap.size ≤ w4.heap.size := OW.out.size
  have nV : ∀ {T : TypeId} {size n : Nat} {v : Value} {xs : List Value}, W5.ownsRow w4.heap.size T size v n xs → 48 ≠ T → W6.ownsRow w4.heap.size T size v n xs := fun h hne => own_only h o6 fun k e f => own_neq OD5.words h hne k f e
  have OD6 := Lib.hid (show Own4 W6 w4.heap.size { s with ws := s.ws.set a y } (.slice (some ⟨g, 0, none⟩) s.ws.length mw) (.slice Dt s.tb.length mt) (.slice Df s.fr.length mf) (.slice Ds s.sl.length ms) from
    ⟨by show W6.ownsRow _ _ _ _ (s.ws.set a y).length _; rw [List.length_set]; exact hr6, nV OD5.tab (by decide), nV OD5.free (by decide), nV OD5.slots (by decide), OD5.apart⟩)
  have B6 := Lib.hid (show Below w.heap.size w W6 from (O5.out.whole).trans (o6.below O5.out.size fun k e => by
    have : g = k := by simpa [Value.ownBlock] using e
    omega))
  have XD6 := Lib.hid (XD5.out.keepF o6 fun e => by
    have : g = pd := by simpa [Value.ownBlock] using e
    rw [HPD.out] at this
    omega)
  have HSO := Lib.hid (show StOk { s with ws := s.ws.set a y } from ⟨HOK.out.cf, HOK.out.ws.set a y HY.out, HOK.out.top, HOK.out.tb, HOK.out.fr, HOK.out.sl, by
    have := HOK.out.few
    show (s.ws.set a y).length ≤ _ ∧ _
    rw [List.length_set]; exact this⟩)
  have hcm : mw ≤ 9223372036854775807 := by unfold maxLen at hgm; omega
  obtain ⟨z0, hz0⟩ : ∃ z, W5.cell? ⟨g, a, none⟩ = some (.int .u64 z) := ⟨_, hcl.trans (u64s_get _ a hb)⟩
  have HCK := Lib.hid (show Calls Tryz.prog 13 #[.agg #[.int .i64 s.cf.semi, .int .i64 s.cf.large, .int .i64 s.cf.slots, .int .i64 s.cf.limit, .bool s.sec, .slice (some ⟨g, 0, none⟩) s.ws.length mw, .int .i64 s.top, .slice Dt s.tb.length mt, .slice Df s.fr.length mf, .slice Ds s.sl.length ms]] W6 fun e w' => e = .returned (.int .i64 0) ∧ Only nob W6 w' from by
    have hc := C.check { s with ws := s.ws.set a y } _ _ _ _ _ W6 OD6.out.rd (Nat.le_refl _) HSO.out (par_belowS HPAR.out B6.out)
    rw [chkS_iff.2 HMAY.out] at hc
    exact hc)
  clear o o5 hW5 hpd hown OD5 eg hgm hcl hput hW6 hr6 o6 hgl nV c0 c1 c2 c3 c4 c5 c6 c7 c8 c9
  obtain ⟨c0, c1, c2, c3, c4, c5, c6, c7, c8, c9⟩ := X5.out
  obtain ⟨d0, d1, d2, d3, d4, d5, d6, d7, d8, d9⟩ := XD5.out
  go_upto_region 11 with fail
  rw [HW5.out, ← HPD.out]
  go_upto_region 14 with fail
  rw [HW6.out]
  clear d0 d1 d2 d3 d4 d5 d6 d7 d8 d9 hz0 hfz c0 c1 c2 c3 c4 c5 c6 c7 c8 c9
  obtain ⟨d0, d1, d2, d3, d4, d5, d6, d7, d8, d9⟩ := XD6.out
  go_wp2_with fail
  go_at_call 13
  refine HCK.out.mono ?_
  rintro e w7 ⟨rfl, o⟩
  have B7 := Lib.hid (B6.out.trans (o.below B6.out.size fun _ h => h.elim))
  clear o d0 d1 d2 d3 d4 d5 d6 d7 d8 d9
  go_wp2_with fail
  go_at_call 8
  refine (HAW.out _ B7.out).mono ?_
  rintro e w8 ⟨rfl, o⟩
  have B8 := Lib.hid (B7.out.trans (o.below B7.out.size fun _ h => h.elim))
  clear o
  go_wp2
  go_ret
  exact ⟨rfl, B8.out⟩
end Go.Proofs.YtciidodmhigpdaaGreatDoor
