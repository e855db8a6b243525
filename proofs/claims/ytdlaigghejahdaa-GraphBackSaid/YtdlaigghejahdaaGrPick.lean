/- Package graph: the nodes of an order. -/
import Derived.Test.YtdlaigghejahdaaGrCopy
namespace Go.Proofs.Ytdlaigghejahdaa
open Go.RowKit Go.Lib
set_option maxRecDepth 100000
set_option linter.unusedSimpArgs false
set_option linter.unusedVariables false

def hsP (hs : List (Value × Value)) (o : List Int) : List (Value × Value) := o.map fun i => hs.getD i.toNat (.slice none 0 0, .slice none 0 0)
theorem pick_snoc {g : Gr} {o : List Int} {k n : Nat} {d : Nd} (hk : o[k]? = some (n : Int)) (hd : g.nd[n]? = some d) : pick g (o.take (k + 1)) = pick g (o.take k) ++ [d] := by
  unfold pick
  rw [List.take_add_one, hk, List.map_append]
  simp [List.getD_eq_getElem?_getD, hd]
theorem hsP_snoc {hs : List (Value × Value)} {o : List Int} {k n : Nat} {h : Value × Value} (hk : o[k]? = some (n : Int)) (hd : hs[n]? = some h) : hsP hs (o.take (k + 1)) = hsP hs (o.take k) ++ [h] := by
  unfold hsP
  rw [List.take_add_one, hk, List.map_append]
  simp [List.getD_eq_getElem?_getD, hd]
theorem pick_len (g : Gr) (o : List Int) : (pick g o).length = o.length := by simp [pick]
theorem hsP_len (hs : List (Value × Value)) (o : List Int) : (hsP hs o).length = o.length := by simp [hsP]
/-- The nodes of an order, with the rows that they have. -/
theorem pick_each {w : World} {B : Nat} {g : Gr} {vn vr : Value} {hs : List (Value × Value)} (h : RdG w B g vn vr hs) {o : List Int} (ho : ∀ x ∈ o, 0 ≤ x ∧ x < (g.nd.length : Int)) (i : Nat) (d : Nd) (x : Value × Value) (hd : (pick g o)[i]? = some d) (hx : (hsP hs o)[i]? = some x) : NdR w B d x := by
  have hi : i < o.length := by have := (List.getElem?_eq_some_iff.1 hd).1; rwa [pick_len] at this
  obtain ⟨z, hz⟩ : ∃ z, o[i]? = some z := ⟨_, List.getElem?_eq_getElem hi⟩
  obtain ⟨h0, h1⟩ := ho z (List.mem_of_getElem? hz)
  obtain ⟨n, rfl⟩ : ∃ n : Nat, z = n := ⟨z.toNat, by omega⟩
  have hn : n < g.nd.length := by omega
  unfold pick at hd
  unfold hsP at hx
  rw [List.getElem?_map, hz] at hd hx
  simp only [Option.map_some, Option.some.injEq, Int.toNat_natCast, List.getD_eq_getElem?_getD] at hd hx
  rw [List.getElem?_eq_getElem hn, Option.getD_some] at hd
  rw [List.getElem?_eq_getElem (by rw [h.len]; exact hn), Option.getD_some] at hx
  exact h.each n d x (by rw [List.getElem?_eq_getElem hn, hd]) (by rw [List.getElem?_eq_getElem (by rw [h.len]; exact hn), hx])
set_option maxHeartbeats 8000000 in
theorem pick_any16 (g : Gr) (o : List Int) (vn vr v : Value) (hs : List (Value × Value)) (B : Nat) (w : World) (h : RdG w B g vn vr hs) (hv : Sl w B 1 v o.length (i64s o)) (hB : B ≤ w.heap.size) (hn : g.nd.length ≤ 1000) (hl : o.length ≤ 100) (ho : ∀ x ∈ o, 0 ≤ x ∧ x < (g.nd.length : Int)) :
    Calls Try.prog 33 #[.agg #[vn, vr], v] w fun e w' => ∃ un, e = .returned (.agg #[un, vr]) ∧ RdG w' w'.heap.size ⟨pick g o, g.rt⟩ un vr (hsP hs o) ∧ Only nob w w' := by
  obtain ⟨i0, hi0, hz0, hz1, hz2⟩ := info_parts info_node16
  have HR := Lib.hid h
  have HV := Lib.hid hv
  have HOO := Lib.hid ho
  obtain ⟨A, c, rfl, hac, hcm⟩ := h.nodes.form
  obtain ⟨Ar, cr, rfl, harc, hcrm⟩ := h.roots.form
  obtain ⟨Al, cl, rfl, hal, hcl⟩ := hv.form
  unfold maxLen at hcm hcrm hcl
  obtain ⟨V, hV, HBX⟩ := boxes_graph w (.slice A g.nd.length c) (.slice Ar g.rt.length cr)
  have HVE := Lib.hid hV
  obtain ⟨cs, hcs, hmk⟩ := make0_16 o.length (by omega)
  obtain ⟨V2, hV2, oV2, HM0⟩ : ∃ V2, V.alloc (.cells cs 34) = V2 ∧ Only nob V V2 ∧ V2.ownsRow w.heap.size 34 3 (.slice (some ⟨V.heap.size, 0, none⟩) 0 o.length) 0 [] :=
    ⟨_, rfl, (Only.refl nob V).alloc _, World.ownsRow_made V cs o.length HBX.out.1.size (by unfold maxLen; omega) hcs⟩
  have HV2 := Lib.hid hV2
  have OV2 := Lib.hid (HBX.out.1.trans oV2)
  have HM := Lib.hid HM0
  have HRB := Lib.hid (HBX.out.2.2.keep oV2 id)
  have HGB := Lib.hid (HBX.out.2.1.keep oV2 id)
  clear hV hV2 oV2 HM0 h hv ho
  go_enter Try.func33, Try.ntmps33
  go_upto_region 1 with fail
  rw [HVE.out]
  go_upto_region 2 with fail
  rw [HV2.out]
  clear hmk
  go_wp2_with fail
  go_loopw [5, 7, 13] (fun out _ i wr => ∃ k : Nat, k ≤ o.length ∧ i = .int .i64 k ∧ Hid (wr.ownsRow w.heap.size 34 3 out k (ndc (pick g (o.take k)) (hsP hs (o.take k)))) ∧ Hid (Only nob w wr) ∧ Hid (Blk wr w.heap.size 25 #[.slice A g.nd.length c, .slice Ar g.rt.length cr]) ∧ Hid (Blk wr (w.heap.size + 1) 25 #[.slice none 0 0, .slice none 0 0])) (fun _ _ i _ => o.length - (intOf i).toNat)
  case atStart => exact ⟨0, Nat.zero_le _, rfl, HM, OV2, HGB, HRB⟩
  case round =>
    clear HRB HGB
    obtain ⟨k, hk, rfl, HRW, OW, HGB, HRB⟩ := hrel
    obtain ⟨Ax, cx, rfl, hcx, hmx⟩ := own_len HRW.out
    unfold maxLen at hmx
    have u0 : wr.cell? ⟨w.heap.size, 0, none⟩ = some (.slice A g.nd.length c) := HGB.out.cell 0
    have u1 : wr.cell? ⟨w.heap.size, 1, none⟩ = some (.slice Ar g.rt.length cr) := HGB.out.cell 1
    by_cases hlt : k < o.length
    · obtain ⟨z, hz⟩ : ∃ z, o[k]? = some z := ⟨_, List.getElem?_eq_getElem hlt⟩
      obtain ⟨hz0', hz1'⟩ := HOO.out z (List.mem_of_getElem? hz)
      obtain ⟨n, rfl⟩ : ∃ n : Nat, z = n := ⟨z.toNat, by omega⟩
      have hn : n < g.nd.length := by omega
      obtain ⟨b1, o1, rfl, -, e0⟩ := sl_int HV.out (OW.out.below hB fun _ h => h.elim) hz
      obtain ⟨d, hd⟩ : ∃ x, g.nd[n]? = some x := ⟨_, List.getElem?_eq_getElem hn⟩
      obtain ⟨bb, oo, fv, rv, rfl, hbb, hh, g0, g1, g2, hnd⟩ := HR.out.at_ (OW.out.below hB fun _ h => h.elim) hd
      obtain ⟨Af, cf, hfv, -⟩ := hnd.fields.form
      obtain ⟨Ar2, cr2, hrv, -⟩ := hnd.raws.form
      simp only at hfv hrv
      subst hfv hrv
      have HTK := Lib.hid (pick_snoc hz hd)
      have HTH := Lib.hid (hsP_snoc hz hh)
      have HLN := Lib.hid (show (hsP hs (o.take k)).length = (pick g (o.take k)).length by rw [pick_len, hsP_len])
      obtain ⟨kd, hkd⟩ : ∃ kd, kd = d.kd := ⟨_, rfl⟩
      have HKD := Lib.hid hkd
      rw [← hkd] at g0
      have hwr : w.heap.size ≤ wr.heap.size := OW.out.size
      clear hz hd hh hnd hkd hz0' hz1'
      go_wp2_with (with_reducible refine wpList_append_sl (o := ⟨some 24, _, _, _, _, _⟩) _ rfl (.tmp 17) (.tmp 23) _ rfl w.heap.size 34 i0 _ 3 56 Try.underlying22 hi0 hz0 hz1 hz2 rfl (by decide) (.slice Ax k cx) k (ndc (pick g (o.take k)) (hsP hs (o.take k))) rfl ?c1 (wr.heap.size + 1) (.slice (some ⟨wr.heap.size, 0, none⟩) 1 1) 1 [.int .i64 kd, .slice Af d.fs.length cf, .slice Ar2 d.rs.length cr2] rfl ?c6 (one_node16 _ _ _ _ _ _ _) ?c2 ?c3 ?c4 ?c5)
      case c1 => exact own_only HRW.out ((Only.refl nob wr).alloc _) (fun _ _ h => h)
      case c6 => exact (Sl.of_blk (size := 3) (n := 1) (c := 1) (Blk.new wr 34 #[.int .i64 kd, .slice Af d.fs.length cf, .slice Ar2 d.rs.length cr2]) rfl (Nat.le_refl _) (by decide)).more (by simp)
      case c2 => unfold maxLen; omega
      case c3 => omega
      case c4 => simp; omega
      case c5 =>
        intro v6 w6 H6 o6 _
        have oA := (Only.refl nob wr).alloc (.cells #[.int .i64 kd, .slice Af d.fs.length cf, .slice Ar2 d.rs.length cr2] 34)
        have hox := own_only HRW.out oA fun _ _ => id
        have HR6 := Lib.hid (show w6.ownsRow w.heap.size 34 3 v6 (k + 1) (ndc (pick g (o.take (k + 1))) (hsP hs (o.take (k + 1)))) by
          rw [HTK.out, HTH.out, ndc_snoc _ _ _ _ HLN.out, ← HKD.out]; exact H6.out)
        have O6 := Lib.hid (own_nob (OW.out.trans oA) hox o6 (Nat.le_refl _))
        have HG6 := Lib.hid ((HGB.out.keep oA id).keep o6 (blk_own_ne16 (HGB.out.keep oA id) hox (by decide)))
        have HB6 := Lib.hid ((HRB.out.keep oA id).keep o6 (blk_own_ne16 (HRB.out.keep oA id) hox (by decide)))
        clear H6 o6 oA hox u0 u1 g0 g1 g2 e0
        go_wp2
        go_roundw
        case rel => exact ⟨k + 1, by omega, by go_num, HR6, O6, HG6, HB6⟩
        case measure => simp [intOf]; omega
    · obtain rfl : k = o.length := by omega
      have HE := Lib.hid (show o.take o.length = o from List.take_length)
      have b0 : wr.cell? ⟨w.heap.size + 1, 0, none⟩ = some (.slice none 0 0) := HRB.out.cell 0
      have b1 : wr.cell? ⟨w.heap.size + 1, 1, none⟩ = some (.slice none 0 0) := HRB.out.cell 1
      have f0 := HRB.out.free 0
      have f1 := HRB.out.free 1
      obtain ⟨U, hU, oU, bU⟩ : ∃ U, ((wr.setCell ⟨w.heap.size + 1, 0, none⟩ (.slice Ax o.length cx)).setCell ⟨w.heap.size + 1, 1, none⟩ (.slice Ar g.rt.length cr)) = U ∧ Only (isb (w.heap.size + 1)) wr U ∧ Blk U (w.heap.size + 1) 25 #[.slice Ax o.length cx, .slice Ar g.rt.length cr] :=
        ⟨_, rfl, (only_set _ _ _ _).trans (only_set _ _ _ _), by simpa using (HRB.out.put 0 (.slice Ax o.length cx)).put 1 (.slice Ar g.rt.length cr)⟩
      have HU := Lib.hid hU
      have OU := Lib.hid oU
      have BU := Lib.hid bU
      clear hU oU bU
      go_wp2
      rw [HU.out]
      have r0 : U.cell? ⟨w.heap.size + 1, 0, none⟩ = some (.slice Ax o.length cx) := BU.out.cell 0
      have r1 : U.cell? ⟨w.heap.size + 1, 1, none⟩ = some (.slice Ar g.rt.length cr) := BU.out.cell 1
      refine bodyPost_ret (v := .agg #[.slice Ax o.length cx, .slice Ar g.rt.length cr]) (by simp [results, Try.results33, go_sem, r0, r1]) rfl ?_
      have hrw := HRW.out
      rw [HE.out] at hrw
      have OF := OW.out.andThen OU.out fun i hi e => by unfold isb at e; omega
      have hrw2 := own_only hrw OU.out (fun k e e2 => by unfold isb at e2; subst e2; exact blk_own_ne16 HRB.out hrw (by decide) e)
      have RF := HR.out.only OF hB
      have hsz : B ≤ U.heap.size := Nat.le_trans hB OF.size
      refine ⟨_, rfl, ⟨by rw [hsP_len, pick_len], ?_, fun i d x hd hx => (pick_each RF HOO.out i d x hd hx).more hsz, RF.roots.more hsz⟩, OF⟩
      simp only [pick_len]
      exact Sl.of_own hrw2 hrw2.1
end Go.Proofs.Ytdlaigghejahdaa
