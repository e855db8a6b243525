/- Package graph: a node's size, where it leads, how many words and fields some nodes have. -/
import Derived.Test.YtdlaigghejahdaaGrRight
import Derived.Test.YtdlaigghejahdaaRef16F
namespace Go.Proofs.Ytdlaigghejahdaa
open Go.RowKit Go.Lib
set_option maxRecDepth 100000
set_option linter.unusedSimpArgs false
set_option linter.unusedVariables false

set_option maxHeartbeats 1000000 in
theorem size_any16 : SizeGC 9 := by
  intro d h B w hr
  obtain ⟨fv, rv⟩ := h
  obtain ⟨Af, cf, hfv, hafc, hcfm⟩ := hr.fields.form
  obtain ⟨Arw, crw, hrv, harw, hcrw⟩ := hr.raws.form
  simp only at hfv hrv
  subst hfv hrv
  obtain ⟨W, hW, HB⟩ := box_node w d.kd (.slice Af d.fs.length cf) (.slice Arw d.rs.length crw)
  have HW := Lib.hid hW
  obtain ⟨-, -, d0, d1, d2⟩ := HB.out
  have HZ := Lib.hid (show ndSz d = wrap64 (wrap64 (1 + (d.fs.length : Int)) + (d.rs.length : Int)) by rw [wrap_add16]; rfl)
  obtain ⟨z, hz⟩ : ∃ z, z = ndSz d := ⟨_, rfl⟩
  rw [← hz] at HZ ⊢
  simp only
  clear hW hr hz
  go_enter Try.func9, Try.ntmps9
  go_upto_region 1 with fail
  rw [HW.out]
  go_wp2
  go_ret
  exact ⟨ret_int (by rw [HZ.out]), HB.out.1⟩
set_option maxHeartbeats 1000000 in
theorem fields1_any16 (d : Nd) (h : Value × Value) (B : Nat) (w : World) (hr : NdR w B d h) :
    Calls Try.prog 31 #[.agg #[.int .i64 d.kd, h.1, h.2]] w fun e w' => e = .returned (.int .i64 (d.fs.length : Int)) ∧ Only nob w w' := by
  obtain ⟨fv, rv⟩ := h
  obtain ⟨Af, cf, hfv, hafc, hcfm⟩ := hr.fields.form
  obtain ⟨Arw, crw, hrv, harw, hcrw⟩ := hr.raws.form
  simp only at hfv hrv
  subst hfv hrv
  obtain ⟨W, hW, HB⟩ := box_node w d.kd (.slice Af d.fs.length cf) (.slice Arw d.rs.length crw)
  have HW := Lib.hid hW
  obtain ⟨-, -, d0, d1, d2⟩ := HB.out
  simp only
  clear hW hr
  go_enter Try.func31, Try.ntmps31
  go_upto_region 1 with fail
  rw [HW.out]
  go_wp2
  go_ret
  exact ⟨rfl, HB.out.1⟩
set_option maxHeartbeats 2000000 in
theorem nodeAt_yes (g : Gr) (n : Nat) (d : Nd) (vn vr : Value) (hs : List (Value × Value)) (h : Value × Value) (B : Nat) (w : World) (hr : RdG w B g vn vr hs) (hB : B ≤ w.heap.size) (hd : g.nd[n]? = some d) (hh : hs[n]? = some h) :
    Calls Try.prog 29 #[.agg #[vn, vr], .int .i64 n] w fun e w' => e = .returned (.tuple #[.agg #[.int .i64 d.kd, h.1, h.2], .bool true]) ∧ Only nob w w' := by
  obtain ⟨A, c, rfl, hac, hcm⟩ := hr.nodes.form
  unfold maxLen at hcm
  have hn : n < g.nd.length := (List.getElem?_eq_some_iff.1 hd).1
  obtain ⟨V, hV, oV, gV, zV⟩ : ∃ V, ((w.alloc (.cells #[.slice A g.nd.length c, vr] 25)).alloc (.cells #[.int .i64 0, .slice none 0 0, .slice none 0 0] 34)) = V ∧ Only nob w V ∧ Blk V w.heap.size 25 #[.slice A g.nd.length c, vr] ∧ Blk V (w.heap.size + 1) 34 #[.int .i64 0, .slice none 0 0, .slice none 0 0] :=
    ⟨_, rfl, ((Only.refl nob w).alloc _).alloc _, (Blk.new w _ _).alloc _, Blk.newAt _ _ _ _ (by simp)⟩
  have HV := Lib.hid hV
  obtain ⟨bb, o, fv, rv, rfl, hbb, hh', g0, g1, g2, hnd⟩ := hr.at_ (oV.below hB fun _ h => h.elim) hd
  obtain rfl : h = (fv, rv) := by rw [hh] at hh'; exact Option.some.inj hh'
  obtain ⟨Af, cf, hfv, hafc, hcfm⟩ := hnd.fields.form
  obtain ⟨Arw, crw, hrv, harw, hcrw⟩ := hnd.raws.form
  simp only at hfv hrv
  subst hfv hrv
  have v0 : V.cell? ⟨w.heap.size, 0, none⟩ = some (.slice (some ⟨bb, o, none⟩) g.nd.length c) := gV.cell 0
  have z0 : V.cell? ⟨w.heap.size + 1, 0, none⟩ = some (.int .i64 0) := zV.cell 0
  have z1 : V.cell? ⟨w.heap.size + 1, 1, none⟩ = some (.slice none 0 0) := zV.cell 1
  have z2 : V.cell? ⟨w.heap.size + 1, 2, none⟩ = some (.slice none 0 0) := zV.cell 2
  have f0 := zV.free 0
  have f1 := zV.free 1
  have f2 := zV.free 2
  obtain ⟨kd, hkd⟩ : ∃ kd, kd = d.kd := ⟨_, rfl⟩
  rw [← hkd] at g0 ⊢
  obtain ⟨U, hU, oU, zU⟩ : ∃ U, (((V.setCell ⟨w.heap.size + 1, 0, none⟩ (.int .i64 kd)).setCell ⟨w.heap.size + 1, 1, none⟩ (.slice Af d.fs.length cf)).setCell ⟨w.heap.size + 1, 2, none⟩ (.slice Arw d.rs.length crw)) = U ∧ Only nob w U ∧ Blk U (w.heap.size + 1) 34 #[.int .i64 kd, .slice Af d.fs.length cf, .slice Arw d.rs.length crw] :=
    ⟨_, rfl, ((oV.setCell (fun h => absurd h (by show ¬ w.heap.size + 1 < w.heap.size; omega)) _).setCell (fun h => absurd h (by show ¬ w.heap.size + 1 < w.heap.size; omega)) _).setCell (fun h => absurd h (by show ¬ w.heap.size + 1 < w.heap.size; omega)) _, by simpa using ((zV.put 0 (.int .i64 kd)).put 1 (.slice Af d.fs.length cf)).put 2 (.slice Arw d.rs.length crw)⟩
  have HU := Lib.hid hU
  have u0 : U.cell? ⟨w.heap.size + 1, 0, none⟩ = some (.int .i64 kd) := zU.cell 0
  have u1 : U.cell? ⟨w.heap.size + 1, 1, none⟩ = some (.slice Af d.fs.length cf) := zU.cell 1
  have u2 : U.cell? ⟨w.heap.size + 1, 2, none⟩ = some (.slice Arw d.rs.length crw) := zU.cell 2
  have OU := Lib.hid oU
  clear hr hd hh hh' hV hU oV gV zV hnd oU zU hkd
  go_enter Try.func29, Try.ntmps29
  go_upto_region 1 with fail
  rw [HV.out]
  go_wp2
  rw [HU.out]
  refine bodyPost_ret (v := .tuple #[.agg #[.int .i64 kd, .slice Af d.fs.length cf, .slice Arw d.rs.length crw], .bool true]) (by simp [results, Try.results29, go_sem, u0, u1, u2]) rfl ?_
  exact ⟨rfl, OU.out⟩
set_option maxHeartbeats 2000000 in
theorem nodeAt_no (g : Gr) (i : Int) (vn vr : Value) (hs : List (Value × Value)) (B : Nat) (w : World) (hr : RdG w B g vn vr hs) (hn : ¬ (0 ≤ i ∧ i < (g.nd.length : Int))) :
    Calls Try.prog 29 #[.agg #[vn, vr], .int .i64 i] w fun e w' => e = .returned (.tuple #[.agg #[.int .i64 0, .slice none 0 0, .slice none 0 0], .bool false]) ∧ Only nob w w' := by
  obtain ⟨A, c, rfl, hac, hcm⟩ := hr.nodes.form
  unfold maxLen at hcm
  obtain ⟨V, hV, oV, gV, zV⟩ : ∃ V, ((w.alloc (.cells #[.slice A g.nd.length c, vr] 25)).alloc (.cells #[.int .i64 0, .slice none 0 0, .slice none 0 0] 34)) = V ∧ Only nob w V ∧ Blk V w.heap.size 25 #[.slice A g.nd.length c, vr] ∧ Blk V (w.heap.size + 1) 34 #[.int .i64 0, .slice none 0 0, .slice none 0 0] :=
    ⟨_, rfl, ((Only.refl nob w).alloc _).alloc _, (Blk.new w _ _).alloc _, Blk.newAt _ _ _ _ (by simp)⟩
  have HV := Lib.hid hV
  have v0 : V.cell? ⟨w.heap.size, 0, none⟩ = some (.slice A g.nd.length c) := gV.cell 0
  have z0 : V.cell? ⟨w.heap.size + 1, 0, none⟩ = some (.int .i64 0) := zV.cell 0
  have z1 : V.cell? ⟨w.heap.size + 1, 1, none⟩ = some (.slice none 0 0) := zV.cell 1
  have z2 : V.cell? ⟨w.heap.size + 1, 2, none⟩ = some (.slice none 0 0) := zV.cell 2
  have f0 := zV.free 0
  have f1 := zV.free 1
  have f2 := zV.free 2
  obtain ⟨U, hU, oU, zU⟩ : ∃ U, (((V.setCell ⟨w.heap.size + 1, 0, none⟩ (.int .i64 0)).setCell ⟨w.heap.size + 1, 1, none⟩ (.slice none 0 0)).setCell ⟨w.heap.size + 1, 2, none⟩ (.slice none 0 0)) = U ∧ Only nob w U ∧ Blk U (w.heap.size + 1) 34 #[.int .i64 0, .slice none 0 0, .slice none 0 0] :=
    ⟨_, rfl, ((oV.setCell (fun h => absurd h (by show ¬ w.heap.size + 1 < w.heap.size; omega)) _).setCell (fun h => absurd h (by show ¬ w.heap.size + 1 < w.heap.size; omega)) _).setCell (fun h => absurd h (by show ¬ w.heap.size + 1 < w.heap.size; omega)) _, by simpa using ((zV.put 0 (.int .i64 0)).put 1 (.slice none 0 0)).put 2 (.slice none 0 0)⟩
  have HU := Lib.hid hU
  have u0 : U.cell? ⟨w.heap.size + 1, 0, none⟩ = some (.int .i64 0) := zU.cell 0
  have u1 : U.cell? ⟨w.heap.size + 1, 1, none⟩ = some (.slice none 0 0) := zU.cell 1
  have u2 : U.cell? ⟨w.heap.size + 1, 2, none⟩ = some (.slice none 0 0) := zU.cell 2
  have OU := Lib.hid oU
  clear hr hV hU oV gV zV oU zU
  go_enter Try.func29, Try.ntmps29
  go_upto_region 1 with fail
  rw [HV.out]
  by_cases h0 : i < 0
  · clear hn
    go_wp2
    rw [HU.out]
    refine bodyPost_ret (v := .tuple #[.agg #[.int .i64 0, .slice none 0 0, .slice none 0 0], .bool false]) (by simp [results, Try.results29, go_sem, u0, u1, u2]) rfl ?_
    exact ⟨rfl, OU.out⟩
  · have h1 : (g.nd.length : Int) ≤ i := by omega
    clear hn
    go_wp2
    rw [HU.out]
    refine bodyPost_ret (v := .tuple #[.agg #[.int .i64 0, .slice none 0 0, .slice none 0 0], .bool false]) (by simp [results, Try.results29, go_sem, u0, u1, u2]) rfl ?_
    exact ⟨rfl, OU.out⟩
end Go.Proofs.Ytdlaigghejahdaa
