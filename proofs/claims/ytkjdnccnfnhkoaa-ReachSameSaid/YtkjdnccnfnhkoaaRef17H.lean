/- The document's own plans: looking at fields at once, and so on down. (Printed by wip/tools/gen17look.py.) -/
import Derived.Test.YtkjdnccnfnhkoaaRef17G
namespace Go.Proofs.Ytkjdnccnfnhkoaa
open Go.RowKit Go.Lib
set_option maxRecDepth 100000
set_option linter.unusedSimpArgs false
set_option linter.unusedVariables false

theorem fs_atR17 {g : Gr} {n : Nat} {d : Nd} (h : g.nd[n]? = some d) : fsAt g (n : Int) = d.fs := by
  unfold fsAt ndAt
  rw [Int.toNat_natCast, List.getD_eq_getElem?_getD, h]; rfl
set_option maxHeartbeats 16000000 in
theorem lookD17_of (b base B : Nat) (g : Gr) (vn vr : Value) (hs : List (Value × Value)) (lim blk : Int) (hg : grOk g = true) (hN : g.nd.length ≤ 1000) (N : Nat) (ih : ∀ n, N = n + 1 → LookP b base B g vn vr hs lim blk true (lookD g lim n) n) : LookP b base B g vn vr hs lim blk true (lookD g lim N) N := by
  refine ⟨?_⟩
  intro W v s A c l h hr hB hbase hw hbg ho hM hl
  have HWF := Lib.hid (fun (k : Nat) => lookD_wf (lim := lim) hg N (l.take k) s hw (fun u hu => ho u (List.mem_of_mem_take hu)) hM)
  have HBG := Lib.hid (fun (k : Nat) => Bg.lookD hg (by omega) (lim := lim) N (l.take k) s hbg hw (fun u hu => ho u (List.mem_of_mem_take hu)) hM)
  have HM := Lib.hid (fun (W' : World) (v' : PV) (k : Nat) (x : Sp) (h' : Pm W' b base vn vr lim blk v' (lookD g lim N (l.take k) s)) (o : Only (nb17 base) W W') (hx : l[k]? = some x) =>
    rMeet17 W' b base B g vn vr hs lim blk v' _ x h' (hr.below (o.below (Nat.le_trans hB hbase) fun _ hk => Nat.le_trans hB hk)) (Nat.le_trans (Nat.le_trans hB hbase) o.size) (Nat.le_trans hbase o.size) (HWF.out k).1 (HBG.out k) hN fun h2 => (ho x (List.mem_of_getElem? hx) h2).1)
  have HS := Lib.hid (fun (k : Nat) (x : Sp) (hx : l[k]? = some x) => show stepD g lim N x (lookD g lim N (l.take k) s) = lookD g lim N (l.take (k + 1)) s by rw [List.take_add_one, hx]; exact (lookD_snoc N x _ s).symm)
  have HRM := Lib.hid hM
  have HOL := Lib.hid ho
  have HGD := Lib.hid hr
  have HP := Lib.hid h
  have HL := Lib.hid hl
  have HBB := Lib.hid (And.intro hB hbase)
  have HGG := Lib.hid hg
  have HWW := Lib.hid hw
  obtain ⟨-, -, -, hac, hcm, -⟩ := id hl
  obtain ⟨n, hn⟩ : ∃ n, n = l.length := ⟨_, rfl⟩
  have HN := Lib.hid hn
  rw [← hn] at HL ⊢
  obtain ⟨F, hF⟩ : ∃ F, F = lookD g lim N l s := ⟨_, rfl⟩
  have HF := Lib.hid hF
  rw [← hF]
  have hnb : n ≤ 9223372036854775807 := by
    have := hl.form
    obtain ⟨A', c', e, h1, h2⟩ := this
    unfold maxLen at h2
    simp only [Value.slice.injEq] at e
    omega
  have HIH := Lib.hid ih
  obtain ⟨An, cn, hvn, hacn, hcmn⟩ := hr.nodes.form
  subst hvn
  unfold maxLen at hcmn
  clear h hr hB hbase hw hbg ho hM hl hn hF ih hg
  go_enter Try.func44, Try.ntmps44
  go_wp2_with fail
  go_loopw [6, 7] (fun i _ wr => ∃ (k : Nat) (v' : PV), k ≤ n ∧ i = .int .i64 k ∧ Hid (Pm wr b base (.slice An g.nd.length cn) vr lim blk v' (lookD g lim N (l.take k) s)) ∧ Hid (Only (nb17 base) W wr)) (fun i _ _ => n - (intOf i).toNat)
  case atStart => exact ⟨0, v, Nat.zero_le _, rfl, by cases N <;> (simp only [List.take_zero]; rw [lookD]; exact HP), Lib.hid (Only.refl _ _)⟩
  case round =>
    obtain ⟨k, v', hk, rfl, HPk, HO⟩ := hrel
    by_cases hlt : k < n
    · obtain ⟨x, hx⟩ : ∃ x, l[k]? = some x := ⟨_, List.getElem?_eq_getElem (by rw [← HN.out]; exact hlt)⟩
      have HMk := Lib.hid (HM.out wr v' k x HPk.out HO.out hx)
      have HSk := Lib.hid (HS.out k x hx)
      have HWk := Lib.hid (HWF.out k)
      have HBk := Lib.hid (HBG.out k)
      have HXk := Lib.hid (HOL.out x (List.mem_of_getElem? hx))
      obtain ⟨sk, hsk⟩ : ∃ sk, sk = lookD g lim N (l.take k) s := ⟨_, rfl⟩
      rw [← hsk] at HMk HSk HWk HBk HPk
      obtain ⟨vs, vb, vl, vg, vp⟩ := v'
      obtain ⟨A1, k1, e1, hc1, hm1, -⟩ := Pm.sl HPk.out.sm
      simp only at e1
      subst e1
      have c4 : wr.cell? ⟨b, 4, none⟩ = some (.slice A1 sk.small.length k1) := HPk.out.box.cell 4
      obtain ⟨ns, hns⟩ : ∃ m, m = sk.small.length := ⟨_, rfl⟩
      have HNS := Lib.hid hns
      rw [← hns] at c4
      obtain ⟨bs, os, c2, es, _, _, hbs, hcs⟩ := (HL.out.only HO.out (Nat.le_trans HBB.out.1 HBB.out.2) fun _ hk => Nat.le_trans HBB.out.1 hk).at_ (by omega)
      obtain ⟨rfl, rfl⟩ : A = some ⟨bs, os, none⟩ ∧ c = c2 := by simpa using es
      obtain ⟨q0, q1⟩ := spc_at hx
      have g0 := hcs _ _ q0
      have g1 := hcs _ _ q1
      rw [← Nat.add_assoc] at g1
      obtain ⟨x1, x2⟩ := x
      simp only at HMk g0 g1 HXk
      have HG1 := Lib.hid g1
      have HBS := Lib.hid hbs
      cases hmb : meetB g lim (x1, x2) sk with
      | false =>
        rw [hmb] at HMk
        have HST := Lib.hid (show meetS g lim (x1, x2) sk = lookD g lim N (l.take (k + 1)) s by
          rw [← HSk.out]
          cases N with
          | zero => rfl
          | succ N => rw [stepD, hmb, if_neg (by simp)])
        rw [HST.out] at HMk
        clear hns hcs q0 q1 es hx hmb hsk
        go_wp2_with fail
        go_at_call 57
        refine HMk.out.mono ?_
        rintro e w2 ⟨rfl, v2, P2, o2⟩
        have HP2 := Lib.hid P2
        have HO2 := Lib.hid (HO.out.trans o2)
        clear P2 o2 c4 g0 g1
        go_wp2
        go_roundw
        case rel => exact ⟨k + 1, v2, by omega, by go_num, HP2, HO2⟩
        case measure => simp [intOf]; omega
      | true =>
        rw [hmb] at HMk
        have hx1 : x1 = 2 := by
          unfold meetB newS at hmb
          simp at hmb
          exact hmb.1.1
        have hxr := HXk.out hx1
        obtain ⟨m1, m2, -, -, m5⟩ := meet_wf (lim := lim) (v := (x1, x2)) HWk.out.1 fun _ => hxr
        obtain ⟨e1, e2, -⟩ := m5 hmb
        have hl2 : sk.met.length + 1 ≤ (meetS g lim (x1, x2) sk).met.length := by
          have h3 := m2.lg.length_le
          have h5 : (sk.small ++ [x2]).length = sk.small.length + 1 := by simp
          rw [met_len, met_len, e1, h5]
          omega
        have hM := HRM.out
        have hsl := HWk.out.2.1.len
        have hroom := m1.room
        obtain ⟨N', rfl⟩ : ∃ N', N = N' + 1 := ⟨N - 1, by omega⟩
        have hbg1 : Bg (meetS g lim (x1, x2) sk) := HBk.out.meet HGG.out (by have := HWk.out.1.room; rw [met_len] at this; omega) fun _ => hxr.1
        have HCL := Lib.hid ((HIH.out N' rfl).call)
        have HST := Lib.hid (show lookD g lim N' (fsAt g x2) ((meetS g lim (x1, x2) sk).mark ns) = lookD g lim (N' + 1) (l.take (k + 1)) s by
          rw [← HSk.out, HNS.out]
          rw [stepD, hmb, if_pos rfl])
        have HW1 := Lib.hid (show Wf g ((meetS g lim (x1, x2) sk).mark ns) ∧ Bg ((meetS g lim (x1, x2) sk).mark ns) ∧ Okl g (fsAt g x2) ∧ g.nd.length ≤ N' + ((meetS g lim (x1, x2) sk).mark ns).met.length from
          ⟨m1.mark _, hbg1.mark _, fs_ok HGG.out hxr.2 hxr.1, by show _ ≤ N' + (meetS g lim (x1, x2) sk).met.length; omega⟩)
        have HLK := Lib.hid (show (meetS g lim (x1, x2) sk).looked.length = ns + 1 ∧ (meetS g lim (x1, x2) sk).looked[ns]? = some false by
          rw [e2, List.length_append, HWk.out.1.lk, HNS.out]
          refine ⟨rfl, ?_⟩
          rw [← HWk.out.1.lk]; simp)
        obtain ⟨xn, hxn⟩ : ∃ y : Nat, x2 = y := ⟨x2.toNat, by have := hxr.1; omega⟩
        subst hxn
        have hlt2 : xn < g.nd.length := by have := hxr.1; omega
        obtain ⟨d, hd⟩ : ∃ d, g.nd[xn]? = some d := ⟨_, List.getElem?_eq_getElem hlt2⟩
        have HFS := Lib.hid (fs_atR17 hd)
        have HD := Lib.hid hd
        clear hns hcs q0 q1 es hx hmb hsk m1 m2 m5 e1 e2 hl2 hM hsl hroom hbg1 hd hxr hx1
        go_wp2_with fail
        go_at_call 57
        refine HMk.out.mono ?_
        rintro e w2 ⟨rfl, v2, P2, o2⟩
        obtain ⟨us, ub, ul, ug, up⟩ := v2
        obtain ⟨g3, c3, hul, hc3, hm3, hb3⟩ := own_form P2.lk (by rw [HLK.out.1]; omega)
        simp only at hul
        subst hul
        rw [HLK.out.1] at hc3
        have c6 : w2.cell? ⟨b, 6, none⟩ = some (.slice (some ⟨g3, 0, none⟩) (ns + 1) c3) := by
          rw [P2.box.cell]
          show some (Value.slice (some ⟨g3, 0, none⟩) (meetS g lim (x1, (xn : Int)) sk).looked.length c3) = _
          rw [HLK.out.1]
        obtain ⟨b9, o9, c9, e9, -, -, -, h9⟩ := (Pm.sl P2.lk).at_ (by rw [HLK.out.1]; omega)
        obtain ⟨⟨rfl, rfl⟩, rfl⟩ : (g3 = b9 ∧ 0 = o9) ∧ c3 = c9 := by simpa using e9
        have k6 : w2.cell? ⟨g3, ns, none⟩ = some (.bool false) := by simpa using h9 ns _ (boos_at HLK.out.2)
        have f6 : w2.frozen? ⟨g3, ns, none⟩ = false := by
          rcases P2.lk.2 with ⟨h0, _⟩ | ⟨g4, cap, cur, e, _, hgg, _⟩
          · cases h0
          · simp only [Value.slice.injEq, Option.some.injEq, Addr.mk.injEq] at e
            obtain ⟨⟨rfl, -, -⟩, -, -⟩ := e
            exact Blk.free (w := w2) (t := 4) hgg ns
        obtain ⟨P3, o3⟩ := pm_mark P2 (k := ns) rfl (by rw [HLK.out.1]; omega)
        obtain ⟨W3, hW3⟩ : ∃ X, w2.setCell ⟨g3, ns, none⟩ (.bool true) = X := ⟨_, rfl⟩
        rw [hW3] at P3 o3
        have HW3 := Lib.hid hW3
        have HP3 := Lib.hid P3
        have HO3 := Lib.hid (HO.out.trans (o2.trans o3))
        obtain ⟨n3, hn3⟩ : ∃ m, m = ns + 1 := ⟨_, rfl⟩
        rw [← hn3] at c6 hc3
        have hnn : ns < n3 := by omega
        unfold maxLen at hm3
        have HBl := Lib.hid (HO3.out.below (Nat.le_trans HBB.out.1 HBB.out.2) fun _ hk => Nat.le_trans HBB.out.1 hk)
        obtain ⟨bb, oo, fv, rv, hA, hbb, hh', n0, n1, n2, hnd⟩ := HGD.out.at_ HBl.out HD.out
        subst hA
        obtain ⟨Af, cf, hfv, hafc, hcfm⟩ := hnd.fields.form
        simp only at hfv
        subst hfv
        have HFL := Lib.hid hnd.fields
        have hbb2 := hbb
        have d0 : W3.cell? ⟨b, 0, none⟩ = some (.slice (some ⟨bb, oo, none⟩) g.nd.length cn) := P3.box.cell 0
        have g1' : W3.cell? ⟨bs, os + k * 2 + 1, none⟩ = some (.int .i64 xn) := by
          have := (o2.trans o3).below (B := B) (Nat.le_trans (Nat.le_trans HBB.out.1 HBB.out.2) HO.out.size) fun _ hk => Nat.le_trans HBB.out.1 hk
          rw [this.cell HBS.out]; exact HG1.out
        clear P2 o2 P3 o3 hW3 e9 h9 hb3 n0 n2 hnd hh' hbb hn3 hafc hcfm c4 g0 g1
        go_upto_region 6 with fail
        with_reducible rw [HW3.out]
        clear c6 k6 f6
        have HCW := Lib.hid (fun (W' : World) (o : Only nob W3 W') => by
          have HOD := HO3.out.trans (nb_nob (base := base) o)
          have := HCL.out W' _ _ Af cf d.fs (HP3.out.nob o) (HGD.out.below (HOD.below (Nat.le_trans HBB.out.1 HBB.out.2) fun _ hk => Nat.le_trans HBB.out.1 hk)) HBB.out.1 (Nat.le_trans HBB.out.2 HOD.size) HW1.out.1 HW1.out.2.1 (by rw [← HFS.out]; exact HW1.out.2.2.1) HW1.out.2.2.2 (HFL.out.only o (Nat.le_trans (Nat.le_trans HBB.out.1 HBB.out.2) HO3.out.size) fun _ h => h.elim)
          rw [← HFS.out, HST.out, HFS.out] at this
          exact this)
        have mixed : Try.prog.follows .mixedOrders = true := by kernel_rfl
        have OC := Lib.hid (show Only nob W3 W3.drew from (Only.refl nob W3).drewN 1)
        have HBL3 := Lib.hid (show B ≤ W3.heap.size from Nat.le_trans (Nat.le_trans HBB.out.1 HBB.out.2) HO3.out.size)
        have HBB2 := Lib.hid hbb2
        go_region_held3 (fun w' => w'.cell? ⟨b, 0, none⟩ = some (.slice (some ⟨bb, oo, none⟩) g.nd.length cn) ∧ w'.cell? ⟨bs, os + k * 2 + 1, none⟩ = some (.int .i64 xn) ∧ w'.cell? ⟨bb, oo + xn * 3 + 1, none⟩ = some (.slice Af d.fs.length cf))
          (first | (with_reducible exact And.intro k0 (And.intro k1 k2)) | (with_reducible exact And.intro (OC.out.keeps d0) (And.intro (OC.out.keeps g1') (OC.out.keeps n1))) | go_keep)
          (first
            | (go_at_call 44
               with_reducible refine (HCW.out _ OC.out).mono ?_
               rintro e wt ⟨rfl, v5, P5, o5⟩
               have HP5 := Lib.hid P5
               have HO5 := Lib.hid ((HO3.out.trans (nb_nob OC.out)).trans o5)
               have k0 : wt.cell? ⟨b, 0, none⟩ = some (.slice (some ⟨bb, oo, none⟩) g.nd.length cn) := P5.box.cell 0
               have k1 : wt.cell? ⟨bs, os + k * 2 + 1, none⟩ = some (.int .i64 xn) := by rw [((OC.out.below HBL3.out fun _ h => h.elim).trans (o5.below (Nat.le_trans HBL3.out OC.out.size) fun _ hk => Nat.le_trans HBB.out.1 hk)).cell HBS.out]; exact g1'
               have k2 : wt.cell? ⟨bb, oo + xn * 3 + 1, none⟩ = some (.slice Af d.fs.length cf) := by rw [((OC.out.below HBL3.out fun _ h => h.elim).trans (o5.below (Nat.le_trans HBL3.out OC.out.size) fun _ hk => Nat.le_trans HBB.out.1 hk)).cell HBB2.out]; exact n1
               clear P5 o5))
        clear k0 k1 k2 d0 g1' n1
        go_wp2
        go_roundw
        case rel => exact ⟨k + 1, v5, by omega, by go_num, HP5, HO5⟩
        case measure => simp [intOf]; omega
    · obtain rfl : k = n := by omega
      have HE := Lib.hid (show lookD g lim N (l.take k) s = F by rw [HF.out, List.take_of_length_le (by rw [HN.out]; exact Nat.le_refl _)])
      rw [HE.out] at HPk
      go_wp2
      go_end0
      exact ⟨rfl, v', HPk.out, HO.out⟩
set_option maxHeartbeats 16000000 in
theorem lookD17 (b base B : Nat) (g : Gr) (vn vr : Value) (hs : List (Value × Value)) (lim blk : Int) (hg : grOk g = true) (hN : g.nd.length ≤ 1000) : ∀ N, LookP b base B g vn vr hs lim blk true (lookD g lim N) N := by
  intro N
  induction N with
  | zero => exact lookD17_of b base B g vn vr hs lim blk hg hN 0 (fun n h => by cases h)
  | succ N ih => exact lookD17_of b base B g vn vr hs lim blk hg hN (N + 1) (fun n h => by obtain rfl := Nat.succ.inj h; exact ih)
end Go.Proofs.Ytkjdnccnfnhkoaa
