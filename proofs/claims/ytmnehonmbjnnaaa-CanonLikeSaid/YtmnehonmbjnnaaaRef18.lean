/- The document's own answer for layer 18: rows of -1; a graph as it is seen from its roots. (Written ahead of stage 18's code.) -/
import Derived.Test.YtmnehonmbjnnaaaCaMatch
import Derived.Test.YtmnehonmbjnnaaaRefGr2
import Derived.Test.YtmnehonmbjnnaaaGrLaw
namespace Go.Proofs.Ytmnehonmbjnnaaa
open Go.RowKit Go.Lib
set_option maxRecDepth 100000
set_option linter.unusedSimpArgs false
set_option linter.unusedVariables false

theorem set_rep18 {n k : Nat} (h : k < n) : (List.replicate k (-1 : Int) ++ List.replicate (n - k) 0).set k (-1) = List.replicate (k + 1) (-1) ++ List.replicate (n - (k + 1)) 0 := by
  apply List.ext_getElem?
  intro i
  rw [List.getElem?_set]
  by_cases e : k = i
  · subst e
    rw [if_pos rfl, if_pos (by simp; omega), List.getElem?_append_left (by simp), List.getElem?_replicate, if_pos (by omega)]
  · rw [if_neg e]
    by_cases h1 : i < k
    · rw [List.getElem?_append_left (by simp; omega), List.getElem?_append_left (by simp; omega), List.getElem?_replicate, List.getElem?_replicate, if_pos h1, if_pos (by omega)]
    · rw [List.getElem?_append_right (by simp; omega), List.getElem?_append_right (by simp; omega), List.getElem?_replicate, List.getElem?_replicate, List.length_replicate, List.length_replicate]
      by_cases h2 : i < n
      · rw [if_pos (by omega), if_pos (by omega)]
      · rw [if_neg (by omega), if_neg (by omega)]
/-- A row of numbers, or of nodes, lies in no block that has slices alone. -/
theorem Sl.off18 {W U : World} {b sz n : Nat} {t : TypeId} {v : Value} {xs : List Value} (h : Sl W W.heap.size sz v n xs) (hB : Blk W b t #[.slice none 0 0, .slice none 0 0]) (o : Only (isb b) W U) (hi : 0 < n → ∃ k z, xs[0]? = some (.int k z)) : Sl U U.heap.size sz v n xs := by
  obtain ⟨A, c, e, h1, h2, h3, h4⟩ := h
  refine ⟨A, c, e, h1, h2, h3, fun hn => ?_⟩
  obtain ⟨b', o', e', hlt, hc⟩ := h4 hn
  obtain ⟨k, z, hz⟩ := hi hn
  have hne : b' ≠ b := by
    rintro rfl
    have := hc 0 _ hz
    rw [hB.cell] at this
    match o', this with
    | 0, this => simp at this
    | 1, this => simp at this
    | n + 2, this => simp at this
  exact ⟨b', o', e', Nat.lt_of_lt_of_le hlt o.size, fun j u hu => (o.cell (p := ⟨b', o' + j, none⟩) hlt (fun e => hne e)).trans (hc j u hu)⟩
theorem RdG.off18 {W U : World} {b : Nat} {t : TypeId} {g : Gr} {vn vr : Value} {hs : List (Value × Value)} (h : RdG W W.heap.size g vn vr hs) (hB : Blk W b t #[.slice none 0 0, .slice none 0 0]) (o : Only (isb b) W U) : RdG U U.heap.size g vn vr hs := by
  have hv : ∀ l : List Sp, 0 < l.length → ∃ k z, (spc l)[0]? = some (.int k z) := fun l hl => by
    cases l with
    | nil => simp at hl
    | cons x l => exact ⟨_, _, rfl⟩
  refine ⟨h.len, h.nodes.off18 hB o fun hn => ?_, fun i d hh h1 h2 => ⟨(h.each i d hh h1 h2).fields.off18 hB o (hv _), (h.each i d hh h1 h2).raws.off18 hB o fun hn => ?_⟩, h.roots.off18 hB o (hv _)⟩
  · have hl := h.len
    match g, hs, hn, hl with
    | ⟨d :: _, _⟩, x :: _, _, _ => exact ⟨_, _, rfl⟩
    | ⟨d :: _, _⟩, [], _, hl => simp at hl
    | ⟨[], _⟩, _, hn, _ => simp at hn
  · cases e : d.rs with
    | nil => rw [e] at hn; simp at hn
    | cons x l => exact ⟨_, _, rfl⟩
set_option maxHeartbeats 2000000 in
/-- So many times -1. -/
theorem none18 (n : Nat) (hn : n ≤ 1000000) (W : World) :
    Calls Try.prog 22 #[.int .i64 n] W fun e w' => e = .returned (.slice (some ⟨W.heap.size, 0, none⟩) n n) ∧ w'.ownsRow W.heap.size 3 1 (.slice (some ⟨W.heap.size, 0, none⟩) n n) n (i64s (List.replicate n (-1))) ∧ Only nob W w' := by
  obtain ⟨WM, hmk, om, hown⟩ := make_ints16 n hn W
  have OM := Lib.hid om
  have HOW := Lib.hid (show WM.ownsRow W.heap.size 3 1 (.slice (some ⟨W.heap.size, 0, none⟩) n n) n (i64s (List.replicate 0 (-1) ++ List.replicate (n - 0) 0)) from hown)
  obtain ⟨b, hb⟩ : ∃ b, b = W.heap.size := ⟨_, rfl⟩
  rw [← hb] at hmk HOW ⊢
  have HB := Lib.hid hb
  clear om hown hb
  go_enter Try.func22, Try.ntmps22
  go_wp2_with fail
  clear hmk
  go_loopw [4] (fun i wr => ∃ k : Nat, k ≤ n ∧ i = .int .i64 k ∧ Hid (wr.ownsRow b 3 1 (.slice (some ⟨b, 0, none⟩) n n) n (i64s (List.replicate k (-1) ++ List.replicate (n - k) 0))) ∧ Hid (Only nob W wr)) (fun i _ => n - (intOf i).toNat)
  case atStart => exact ⟨0, Nat.zero_le _, rfl, HOW, OM⟩
  case round =>
    obtain ⟨k, hk, rfl, HRW, HO⟩ := hrel
    by_cases hlt : k < n
    · obtain ⟨cs, hblk⟩ := own_blk16 HRW.out (k := b) rfl
      have f0 := hblk.free k
      obtain ⟨z, hz⟩ : ∃ z, (List.replicate k (-1 : Int) ++ List.replicate (n - k) 0)[k]? = some z := ⟨_, List.getElem?_eq_getElem (by simp; omega)⟩
      have g0 : wr.cell? ⟨b, k, none⟩ = some (.int .i64 z) := (HRW.out.cellAt k (by omega)).trans (i64s_at hz)
      have hset := own_set16 HRW.out k (by omega) (.int .i64 (-1))
      rw [i64s_set16, set_rep18 hlt] at hset
      have HSET := Lib.hid hset
      have ONX := Lib.hid (HO.out.setCell (p := ⟨b, k, none⟩) (fun h => absurd h (by rw [HB.out]; exact Nat.lt_irrefl _)) (.int .i64 (-1)))
      clear hset hblk hz
      go_wp2
      go_roundw
      case rel => exact ⟨k + 1, by omega, by go_num, HSET, ONX⟩
      case measure => simp [intOf]; omega
    · obtain rfl : k = n := by omega
      have HF := Lib.hid (show wr.ownsRow b 3 1 (.slice (some ⟨b, 0, none⟩) k k) k (i64s (List.replicate k (-1))) by have := HRW.out; rw [Nat.sub_self, List.replicate_zero, List.append_nil] at this; exact this)
      go_wp2
      go_ret
      exact ⟨rfl, HF.out, HO.out⟩

/-! ### A graph as it is seen from its roots -/
def CanGC (f : FuncId) : Prop := ∀ (g : Gr) (vn vr : Value) (hs : List (Value × Value)) (B : Nat) (W : World), RdG W B g vn vr hs → B ≤ W.heap.size → GrFit g → g.nd.length ≤ 60 → g.rt.length ≤ 100 →
  Calls Try.prog f #[.agg #[vn, vr]] W fun e w' => ∃ un ur js, e = .returned (.tuple #[.agg #[un, ur], .int .i64 (flatE g)]) ∧ RdG w' w'.heap.size (canG g) un ur js ∧ Only nob W w'
theorem can_e {g : Gr} : rnE g (flatL g 0) = flatE g := by
  unfold flatE
  by_cases h : grOk g = true
  · rw [if_pos h]; exact rnE_iff.2 (flat_ok h)
  · rw [if_neg h]; unfold rnE; rw [if_neg h]
theorem can_none {g : Gr} (h : flatE g ≠ 0) : canG g = ⟨[], []⟩ := by
  unfold canG rnG
  rw [if_neg (by rw [can_e]; exact h)]
theorem flat_b64 (g : Gr) (hn : g.nd.length ≤ 60) : ∀ x ∈ flatL g 0, -9223372036854775808 ≤ x ∧ x ≤ 9223372036854775807 := fun x hx => by
  have h : x ∈ reachL g := by
    rw [← flat_rising g]; exact List.mem_mergeSort.2 hx
  have := (upTo_mem.1 h).2
  omega
theorem flat_n60 (g : Gr) : (flatL g 0).length ≤ g.nd.length := by
  rw [← reach_len]; exact upTo_len _ _
set_option maxHeartbeats 4000000 in
theorem rCanon18 : CanGC 11 := by
  intro g vn vr hs B W hr hB hfit hn hrt
  obtain ⟨A, c, rfl, hac, hcm⟩ := hr.nodes.form
  obtain ⟨Ar, cr, rfl, hacr, hcmr⟩ := hr.roots.form
  obtain ⟨V, hV, HVB⟩ := two_boxes16 W (.slice A g.nd.length c) (.slice Ar g.rt.length cr)
  have HVE := Lib.hid hV
  have HG := Lib.hid (fun (W' : World) (o : Only nob W W') => hr.only o hB)
  have HBW := Lib.hid hB
  have HC := Lib.hid (rFlat17_0 g _ _ hs B V (HG.out V HVB.out.1) (Nat.le_trans hB HVB.out.1.size) hfit ⟨by omega, by omega⟩)
  have HP := Lib.hid (fun (v : Value) (W' : World) (o : Only nob W W') (h : Sl W' W'.heap.size 1 v (flatL g 0).length (i64s (flatL g 0))) => rRenumber16 g (flatL g 0) _ _ v hs W'.heap.size W' ((HG.out W' o).more (Nat.le_trans hB o.size)) h (Nat.le_refl _) hfit hn hrt (by have := flat_n60 g; omega) (flat_b64 g hn))
  obtain ⟨E, hE⟩ : ∃ E, E = flatE g := ⟨_, rfl⟩
  obtain ⟨L, hL⟩ : ∃ L, L = flatL g 0 := ⟨_, rfl⟩
  obtain ⟨K, hK⟩ : ∃ K, K = canG g := ⟨_, rfl⟩
  have HN := Lib.hid (show E ≠ 0 → K = ⟨[], []⟩ from fun h => by rw [hK]; exact can_none (by rw [← hE]; exact h))
  rw [can_e, show rnG g (flatL g 0) = canG g from rfl, ← hE, ← hL, ← hK] at HP
  rw [← hE, ← hL] at HC
  rw [← hE, ← hK]
  have c0 : V.cell? ⟨W.heap.size, 0, none⟩ = some (.slice A g.nd.length c) := HVB.out.2.1.cell 0
  have c1 : V.cell? ⟨W.heap.size, 1, none⟩ = some (.slice Ar g.rt.length cr) := HVB.out.2.1.cell 1
  clear hV hr hB hfit hn hrt hE hL hK
  go_enter Try.func11, Try.ntmps11
  go_upto_region 1 with fail
  rw [HVE.out]
  go_wp2_with fail
  go_at_call 24
  refine HC.out.mono ?_
  rintro e w2 ⟨v1, rfl, h1, o2⟩
  have H1 := Lib.hid h1.sl
  have O2 := Lib.hid (HVB.out.1.trans o2)
  have B2 := Lib.hid (HVB.out.2.2.keep o2 id)
  obtain ⟨A2, k2, rfl, -, -⟩ := h1.form
  have d0 := o2.keeps c0
  have d1 := o2.keeps c1
  clear h1 o2 c0 c1
  by_cases h0 : E = 0
  · subst h0
    go_wp2_with fail
    go_at_call 25
    refine (HP.out _ w2 O2.out H1.out).mono ?_
    rintro e w3 ⟨un, ur, js, rfl, rd, o3⟩
    have RD := Lib.hid rd
    obtain ⟨An, cn, rfl, -⟩ := rd.nodes.form
    obtain ⟨Br, dr, rfl, -⟩ := rd.roots.form
    have O3 := Lib.hid (O2.out.trans o3)
    have B3 := B2.out.keep o3 id
    have b0 : w3.cell? ⟨W.heap.size + 1, 0, none⟩ = some (.slice none 0 0) := B3.cell 0
    have b1 : w3.cell? ⟨W.heap.size + 1, 1, none⟩ = some (.slice none 0 0) := B3.cell 1
    have fb0 := B3.free 0
    have fb1 := B3.free 1
    obtain ⟨U, hU, oU, U1⟩ := put_graph16 B3 (.slice An K.nd.length cn) (.slice Br K.rt.length dr)
    have HU := Lib.hid hU
    have OU := Lib.hid (O3.out.andThen oU fun i hi e => by unfold isb at e; omega)
    have HRD := Lib.hid (show RdG U U.heap.size K (.slice An K.nd.length cn) (.slice Br K.rt.length dr) js from rd.off18 B3 oU)
    clear rd o3 B3 hU oU d0 d1
    go_wp2
    rw [HU.out]
    have r0 : U.cell? ⟨W.heap.size + 1, 0, none⟩ = some (.slice An K.nd.length cn) := U1.cell 0
    have r1 : U.cell? ⟨W.heap.size + 1, 1, none⟩ = some (.slice Br K.rt.length dr) := U1.cell 1
    refine bodyPost_ret (v := .tuple #[.agg #[.slice An K.nd.length cn, .slice Br K.rt.length dr], .int .i64 0]) (by simp [results, Try.results11, go_sem, r0, r1]) rfl ?_
    exact ⟨_, _, js, rfl, HRD.out, OU.out⟩
  · have hnb : (E != 0) = true := by simpa using h0
    have HK := Lib.hid (HN.out h0)
    have b0 : w2.cell? ⟨W.heap.size + 1, 0, none⟩ = some (.slice none 0 0) := B2.out.cell 0
    have b1 : w2.cell? ⟨W.heap.size + 1, 1, none⟩ = some (.slice none 0 0) := B2.out.cell 1
    have fb0 := B2.out.free 0
    have fb1 := B2.out.free 1
    obtain ⟨U, hU, oU, U1⟩ := put_graph16 B2.out (.slice none 0 0) (.slice none 0 0)
    have HU := Lib.hid hU
    have OU := Lib.hid (O2.out.andThen oU fun i hi e => by unfold isb at e; omega)
    clear hU oU d0 d1
    go_wp2
    rw [HU.out]
    have r0 : U.cell? ⟨W.heap.size + 1, 0, none⟩ = some (.slice none 0 0) := U1.cell 0
    have r1 : U.cell? ⟨W.heap.size + 1, 1, none⟩ = some (.slice none 0 0) := U1.cell 1
    refine bodyPost_ret (v := .tuple #[.agg #[.slice none 0 0, .slice none 0 0], .int .i64 E]) (by simp [results, Try.results11, go_sem, r0, r1]) rfl ?_
    exact ⟨_, _, [], rfl, by rw [HK.out]; exact rd_none _, OU.out⟩
end Go.Proofs.Ytmnehonmbjnnaaa
