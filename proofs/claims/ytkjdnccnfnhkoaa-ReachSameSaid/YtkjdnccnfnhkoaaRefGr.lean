/- The document's own answers for graphs: the same values, words, ints; a number's place; sizes; whether a graph may be. -/
import Derived.Test.YtkjdnccnfnhkoaaGrBase
import Derived.Test.YtkjdnccnfnhkoaaVal
import Derived.Test.YtkjdnccnfnhkoaaOpens
import Derived.StillTailTactics
import Derived.BigQuiet
import Derived.Deep.QuietTactic
import Derived.Lib.SliceRun
import Derived.WalkKit
namespace Go.Proofs.Ytkjdnccnfnhkoaa
open Go.RowKit
set_option maxRecDepth 100000
set_option linter.unusedSimpArgs false
set_option linter.unusedVariables false

theorem mixed16 : Try.prog.follows .mixedOrders = true := by kernel_rfl
theorem ne_len16 {α : Type} {l m : List α} (h : l.length ≠ m.length) : l ≠ m := fun e => h (by rw [e])
theorem ne_at16 {α : Type} {l m : List α} {k : Nat} {x y : α} (hx : l[k]? = some x) (hy : m[k]? = some y) (h : x ≠ y) : l ≠ m := fun e => h (by rw [e, hy] at hx; exact (Option.some.inj hx).symm)
theorem eq_all16 {α : Type} {l m : List α} (hl : l.length = m.length) (h : ∀ (j : Nat) x, j < l.length → l[j]? = some x → m[j]? = some x) : l = m := by
  refine List.ext_getElem? fun j => ?_
  rcases Nat.lt_or_ge j l.length with hj | hj
  · rw [h j _ hj (List.getElem?_eq_getElem hj)]
    exact List.getElem?_eq_getElem hj
  · rw [List.getElem?_eq_none hj, List.getElem?_eq_none (by omega)]
theorem all_no16 {α : Type} {p : α → Bool} {l : List α} {k : Nat} {x : α} (hx : l[k]? = some x) (hp : p x = false) : l.all p = false := by
  rw [List.all_eq_false]
  exact ⟨x, List.mem_of_getElem? hx, by rw [hp]; simp⟩
theorem all_yes16 {α : Type} {p : α → Bool} {l : List α} (h : ∀ (j : Nat) y, j < l.length → l[j]? = some y → p y = true) : l.all p = true := by
  rw [List.all_eq_true]
  intro y hy
  obtain ⟨j, hj⟩ := List.getElem?_of_mem hy
  exact h j y (List.getElem?_eq_some_iff.1 hj).1 hj
theorem all_next16 {α : Type} {p : α → Bool} {l : List α} {k : Nat} {x : α} (h : ∀ (j : Nat) y, j < k → l[j]? = some y → p y = true) (hx : l[k]? = some x) (hp : p x = true) : ∀ (j : Nat) y, j < k + 1 → l[j]? = some y → p y = true := fun j y hj hy => by
  rcases Nat.lt_or_ge j k with h' | h'
  · exact h j y h' hy
  · obtain rfl : j = k := by omega
    rw [hx] at hy
    obtain rfl := Option.some.inj hy
    exact hp
theorem sl_word16 {w w' : World} {B : Nat} {A : Option Addr} {c k : Nat} {l : List Nat} {x : Nat} (h : Sl w B 1 (.slice A l.length c) l.length (u64s l)) (hb : Below B w w') (hx : l[k]? = some x) :
    ∃ b o, A = some ⟨b, o, none⟩ ∧ b < B ∧ w'.cell? ⟨b, o + k, none⟩ = some (.int .u64 (x : Nat)) := by
  have hk : k < l.length := (List.getElem?_eq_some_iff.1 hx).1
  obtain ⟨b, o, c', e, _, _, hlt, hc⟩ := (h.below hb).at_ (by omega)
  obtain ⟨rfl, rfl⟩ : A = some ⟨b, o, none⟩ ∧ c = c' := by simpa using e
  refine ⟨b, o, rfl, hlt, hc _ _ ?_⟩
  simp [u64s, hx]

theorem box_graph (w : World) (vn vr : Value) : ∃ W, w.alloc (.cells #[vn, vr] 25) = W ∧ Hid (Only nob w W ∧ Blk W w.heap.size 25 #[vn, vr] ∧ W.cell? ⟨w.heap.size, 0, none⟩ = some vn ∧ W.cell? ⟨w.heap.size, 1, none⟩ = some vr) :=
  ⟨_, rfl, Lib.hid ⟨(Only.refl nob w).alloc _, Blk.new _ _ _, (Blk.new w 25 #[vn, vr]).cell 0, (Blk.new w 25 #[vn, vr]).cell 1⟩⟩
theorem box_node (w : World) (k : Int) (fv rv : Value) : ∃ W, w.alloc (.cells #[.int .i64 k, fv, rv] 43) = W ∧ Hid (Only nob w W ∧ Blk W w.heap.size 43 #[.int .i64 k, fv, rv] ∧ W.cell? ⟨w.heap.size, 0, none⟩ = some (.int .i64 k) ∧ W.cell? ⟨w.heap.size, 1, none⟩ = some fv ∧ W.cell? ⟨w.heap.size, 2, none⟩ = some rv) := by
  have h := Blk.new w 43 #[.int .i64 k, fv, rv]
  exact ⟨_, rfl, Lib.hid ⟨(Only.refl nob w).alloc _, h, h.cell 0, h.cell 1, h.cell 2⟩⟩

end Go.Proofs.Ytkjdnccnfnhkoaa

/- The document's own answer whether the values of a graph may be. -/
namespace Go.Proofs.Ytkjdnccnfnhkoaa
open Go.RowKit
set_option maxRecDepth 100000
set_option linter.unusedSimpArgs false
set_option linter.unusedVariables false

set_option maxHeartbeats 1000000 in
/-- May the values of a graph of n nodes be? -/
theorem rSound16 (A : Option Addr) (n c : Nat) (vr v : Value) (l : List Sp) (B : Nat) (w : World) (hn : n ≤ 9223372036854775807) (h : Sl w B 2 v l.length (spc l)) (hB : B ≤ w.heap.size) :
    Calls Try.prog 43 #[.agg #[.slice A n c, vr], v] w fun e w' => e = .returned (.bool (l.all (vOk n))) ∧ Only nob w w' := by
  have HA := Lib.hid h
  obtain ⟨Al, ca, rfl, hac, ham, -⟩ := h
  unfold maxLen at ham
  obtain ⟨W, hW, HB⟩ := box_graph w (.slice A n c) vr
  have HW := Lib.hid hW
  have HMY := Lib.hid (fun (k x : Int) (w : World) => refMay_any k x w)
  obtain ⟨q, hq⟩ : ∃ q, q = l.all (vOk n) := ⟨_, rfl⟩
  have HQ := Lib.hid hq
  rw [← hq]
  obtain ⟨p, hp⟩ : ∃ p, p = w.heap.size := ⟨_, rfl⟩
  have HP := Lib.hid hp
  rw [← hp] at HB
  clear hW hq hp
  go_enter Try.func43, Try.ntmps43
  go_upto_region 1 with fail
  rw [HW.out, ← HP.out]
  go_wp2_with fail
  go_loopw [5] (fun i wr => ∃ k : Nat, k ≤ l.length ∧ i = .int .i64 k ∧ Hid (∀ (j : Nat) y, j < k → l[j]? = some y → vOk n y = true) ∧ Hid (Only nob W wr)) (fun i _ => l.length - (intOf i).toNat)
  case atStart => exact ⟨0, Nat.zero_le _, rfl, fun j _ hj _ => absurd hj (Nat.not_lt_zero j), Lib.hid (Only.refl _ _)⟩
  case round =>
    obtain ⟨k, hk, rfl, hno, HO⟩ := hrel
    by_cases hlt : k < l.length
    · obtain ⟨⟨x, y⟩, hy⟩ : ∃ x, l[k]? = some x := ⟨_, List.getElem?_eq_getElem hlt⟩
      obtain ⟨b1, o1, rfl, -, c0, c1⟩ := sl_span HA.out ((HB.out.1.trans HO.out).below hB fun _ h => h.elim) hy
      have HY := Lib.hid hy
      have HV := Lib.hid (show vOk n (x, y) = (vmay x y && !(decide (x = 2) && decide ((n : Int) ≤ y))) from rfl)
      have HM := Lib.hid (fun w => HMY.out x y w)
      obtain ⟨m, hm⟩ : ∃ m, m = vmay x y := ⟨_, rfl⟩
      rw [← hm] at HV HM
      have d0 := wat_cell (HO.out.keeps HB.out.2.2.1)
      have e0 := wat_cell c0
      have e1 := wat_cell c1
      clear hy hm c0 c1
      go_upto_region 4 with fail
      refine wp_region_only mixed16 (by kernel_rfl) ?_
      cases m with
      | false =>
        have HN := Lib.hid (HQ.out.trans (all_no16 HY.out (by rw [HV.out]; rfl)))
        repeat (with_reducible refine wpQuiet_step ?_; intro K' hK'; go_simp; first | (with_reducible refine hK' _ ?_; clear hK' K') | (rw [if_neg]; rotate_left; (· simp [undef]); with_reducible refine hK' _ ?_; clear hK' K') | (apply Exists.intro; with_reducible refine ⟨fun _ => ?_, hK' _ ?_⟩; (go_at_call 56; with_reducible refine wat_call (HM.out _)); clear hK' K'))
        refine wpQuiet_nil ?_
        rintro w' ⟨⟨nq, osq⟩, rfl⟩
        obtain ⟨W7, hW7, O7⟩ := wat_name wr nq osq
        rw [hW7]
        clear hW7 d0 e0 e1
        go_wp2
        go_ret
        exact ⟨ret_bool (by rw [HN.out]), HB.out.1.trans (HO.out.trans O7.out)⟩
      | true =>
        by_cases h2 : x = 2
        · subst h2
          by_cases h3 : (n : Int) ≤ y
          · have HN := Lib.hid (HQ.out.trans (all_no16 HY.out (by rw [HV.out]; simp [h3])))
            repeat (with_reducible refine wpQuiet_step ?_; intro K' hK'; go_simp; first | (with_reducible refine hK' _ ?_; clear hK' K') | (rw [if_neg]; rotate_left; (· simp [undef]); with_reducible refine hK' _ ?_; clear hK' K') | (apply Exists.intro; with_reducible refine ⟨fun _ => ?_, hK' _ ?_⟩; (go_at_call 56; with_reducible refine wat_call (HM.out _)); clear hK' K'))
            refine wpQuiet_nil ?_
            rintro w' ⟨⟨nq, osq⟩, rfl⟩
            obtain ⟨W7, hW7, O7⟩ := wat_name wr nq osq
            rw [hW7]
            clear hW7 d0 e0 e1
            go_wp2
            go_ret
            exact ⟨ret_bool (by rw [HN.out]), HB.out.1.trans (HO.out.trans O7.out)⟩
          · have HN := Lib.hid (all_next16 hno.out HY.out (by rw [HV.out]; simp; omega))
            repeat (with_reducible refine wpQuiet_step ?_; intro K' hK'; go_simp; first | (with_reducible refine hK' _ ?_; clear hK' K') | (rw [if_neg]; rotate_left; (· simp [undef]); with_reducible refine hK' _ ?_; clear hK' K') | (apply Exists.intro; with_reducible refine ⟨fun _ => ?_, hK' _ ?_⟩; (go_at_call 56; with_reducible refine wat_call (HM.out _)); clear hK' K'))
            refine wpQuiet_nil ?_
            rintro w' ⟨⟨nq, osq⟩, rfl⟩
            obtain ⟨W7, hW7, O7⟩ := wat_name wr nq osq
            rw [hW7]
            have O8 := Lib.hid (HO.out.trans O7.out)
            clear hW7 d0 e0 e1
            go_wp2
            go_roundw
            case rel => exact ⟨k + 1, by omega, by go_num, HN, O8⟩
            case measure => simp [intOf]; omega
        · have hbq : (x == 2) = false := by simpa using h2
          have HN := Lib.hid (all_next16 hno.out HY.out (by rw [HV.out]; simp [h2]))
          clear h2
          repeat (with_reducible refine wpQuiet_step ?_; intro K' hK'; go_simp; first | (with_reducible refine hK' _ ?_; clear hK' K') | (rw [if_neg]; rotate_left; (· simp [undef]); with_reducible refine hK' _ ?_; clear hK' K') | (apply Exists.intro; with_reducible refine ⟨fun _ => ?_, hK' _ ?_⟩; (go_at_call 56; with_reducible refine wat_call (HM.out _)); clear hK' K'))
          refine wpQuiet_nil ?_
          rintro w' ⟨⟨nq, osq⟩, rfl⟩
          obtain ⟨W7, hW7, O7⟩ := wat_name wr nq osq
          rw [hW7]
          have O8 := Lib.hid (HO.out.trans O7.out)
          clear hW7 d0 e0 e1
          go_wp2
          go_roundw
          case rel => exact ⟨k + 1, by omega, by go_num, HN, O8⟩
          case measure => simp [intOf]; omega
    · obtain rfl : k = l.length := by omega
      have HN := Lib.hid (HQ.out.trans (all_yes16 fun j y hj hy => hno.out j y hj hy))
      go_wp2
      go_ret
      exact ⟨ret_bool (by rw [HN.out]), HB.out.1.trans HO.out⟩
end Go.Proofs.Ytkjdnccnfnhkoaa

/- The document's own answers for graphs: whether a graph may be; two graphs held against one another. -/
namespace Go.Proofs.Ytkjdnccnfnhkoaa
open Go.RowKit
set_option maxRecDepth 100000
set_option linter.unusedSimpArgs false
set_option linter.unusedVariables false

theorem ndOk_cases (n : Nat) (d : Nd) : (d.kd < 0 ∧ ndOk n d = false) ∨ (0 ≤ d.kd ∧ 31 < d.kd ∧ ndOk n d = false) ∨ (0 ≤ d.kd ∧ d.kd ≤ 31 ∧ 4096 < (d.fs.length : Int) ∧ ndOk n d = false) ∨ (0 ≤ d.kd ∧ d.kd ≤ 31 ∧ (d.fs.length : Int) ≤ 4096 ∧ 4096 < (d.rs.length : Int) ∧ ndOk n d = false) ∨ (0 ≤ d.kd ∧ d.kd ≤ 31 ∧ (d.fs.length : Int) ≤ 4096 ∧ (d.rs.length : Int) ≤ 4096 ∧ ndOk n d = d.fs.all (vOk n)) := by
  unfold ndOk
  by_cases h1 : d.kd < 0
  · exact .inl ⟨h1, by rw [decide_eq_false (by omega)]; rfl⟩
  by_cases h2 : 31 < d.kd
  · exact .inr (.inl ⟨by omega, h2, by rw [decide_eq_false (by omega)]; rfl⟩)
  by_cases h3 : 4096 < (d.fs.length : Int)
  · exact .inr (.inr (.inl ⟨by omega, by omega, h3, by rw [decide_eq_false (p := d.fs.length ≤ 4096) (by omega)]; simp⟩))
  by_cases h4 : 4096 < (d.rs.length : Int)
  · exact .inr (.inr (.inr (.inl ⟨by omega, by omega, by omega, h4, by rw [decide_eq_false (p := d.rs.length ≤ 4096) (by omega)]; simp⟩)))
  · exact .inr (.inr (.inr (.inr ⟨by omega, by omega, by omega, by omega, by rw [decide_eq_true (p := 0 ≤ d.kd ∧ d.kd ≤ 31) (by omega), decide_eq_true (p := d.fs.length ≤ 4096) (by omega), decide_eq_true (p := d.rs.length ≤ 4096) (by omega)]; simp⟩)))
set_option maxHeartbeats 2000000 in
theorem rRight16 : RightGC 25 := by
  intro g vn vr hs B w h hB hfit
  have HR := Lib.hid h
  obtain ⟨A, c, rfl, hac, hcm⟩ := h.nodes.form
  obtain ⟨Ar, cr, rfl, harc, hcrm⟩ := h.roots.form
  unfold maxLen at hcm hcrm
  obtain ⟨W, hW, HB⟩ := box_graph w (.slice A g.nd.length c) (.slice Ar g.rt.length cr)
  have HW := Lib.hid hW
  have hnl : g.nd.length ≤ 9223372036854775807 := by omega
  have HSD := Lib.hid (fun (v : Value) (l : List Sp) (w' : World) (B' : Nat) (h : Sl w' B' 2 v l.length (spc l)) (hB : B' ≤ w'.heap.size) => rSound16 A g.nd.length c (.slice Ar g.rt.length cr) v l B' w' hnl h hB)
  obtain ⟨q, hq⟩ : ∃ q, q = grOk g := ⟨_, rfl⟩
  have HQ := Lib.hid (hq.trans (show grOk g = (g.nd.all (ndOk g.nd.length) && g.rt.all (vOk g.nd.length)) from rfl))
  rw [← hq]
  obtain ⟨p, hp⟩ : ∃ p, p = w.heap.size := ⟨_, rfl⟩
  have HP := Lib.hid hp
  rw [← hp] at HB
  clear hW hq hp h hfit
  have c0 := HB.out.2.2.1
  go_enter Try.func25, Try.ntmps25
  go_upto_region 1 with fail
  rw [HW.out, ← HP.out]
  go_wp2_with fail
  go_loopw [3, 4] (fun i _ wr => ∃ k : Nat, k ≤ g.nd.length ∧ i = .int .i64 k ∧ Hid (∀ (j : Nat) y, j < k → g.nd[j]? = some y → ndOk g.nd.length y = true) ∧ Hid (Only nob W wr)) (fun i _ _ => g.nd.length - (intOf i).toNat)
  case atStart => exact ⟨0, Nat.zero_le _, rfl, fun j _ hj _ => absurd hj (Nat.not_lt_zero j), Lib.hid (Only.refl _ _)⟩
  case round =>
    obtain ⟨k, hk, rfl, hno, HO⟩ := hrel
    clear c0
    have c0 := HO.out.keeps HB.out.2.2.1
    have c1 := HO.out.keeps HB.out.2.2.2
    by_cases hlt : k < g.nd.length
    · obtain ⟨d, hd⟩ : ∃ x, g.nd[k]? = some x := ⟨_, List.getElem?_eq_getElem hlt⟩
      obtain ⟨bb, o, fv, rv, rfl, hbb, -, g0, g1, g2, hnd⟩ := HR.out.at_ ((HB.out.1.trans HO.out).below hB fun _ h => h.elim) hd
      obtain ⟨Af, cf, hfv, hafc, hcfm⟩ := hnd.fields.form
      obtain ⟨Arw, crw, hrv, harw, hcrw⟩ := hnd.raws.form
      simp only at hfv hrv
      subst hfv hrv
      unfold maxLen at hcfm hcrw
      have HD := Lib.hid hd
      have HND := Lib.hid hnd
      obtain ⟨W2, hW2, HB2⟩ := box_node wr d.kd (.slice Af d.fs.length cf) (.slice Arw d.rs.length crw)
      have HW2 := Lib.hid hW2
      have O2 := Lib.hid (HO.out.trans HB2.out.1)
      have e0 := HB2.out.1.keeps c0
      have e1 := HB2.out.1.keeps c1
      have hcs := ndOk_cases g.nd.length d
      obtain ⟨kd, hkd⟩ : ∃ kd, kd = d.kd := ⟨_, rfl⟩
      rw [← hkd] at g0 HB2 HW2 hcs
      clear hd hnd hW2 hkd
      go_upto_region 5 with fail
      rw [HW2.out]
      obtain ⟨-, -, d0, d1, d2⟩ := HB2.out
      clear g0 g1 g2 c0 c1
      rcases hcs with ⟨h1, hf⟩ | ⟨h1, h2, hf⟩ | ⟨h1, h2, h3, hf⟩ | ⟨h1, h2, h3, h4, hf⟩ | ⟨h1, h2, h3, h4, hf⟩
      · have HN := Lib.hid (show q = false by rw [HQ.out, all_no16 HD.out hf]; rfl)
        clear hf
        go_wp2
        go_ret
        exact ⟨ret_bool (by rw [HN.out]), HB.out.1.trans O2.out⟩
      · have HN := Lib.hid (show q = false by rw [HQ.out, all_no16 HD.out hf]; rfl)
        clear hf
        go_wp2
        go_ret
        exact ⟨ret_bool (by rw [HN.out]), HB.out.1.trans O2.out⟩
      · have HN := Lib.hid (show q = false by rw [HQ.out, all_no16 HD.out hf]; rfl)
        clear hf
        go_wp2
        go_ret
        exact ⟨ret_bool (by rw [HN.out]), HB.out.1.trans O2.out⟩
      · have HN := Lib.hid (show q = false by rw [HQ.out, all_no16 HD.out hf]; rfl)
        clear hf
        go_wp2
        go_ret
        exact ⟨ret_bool (by rw [HN.out]), HB.out.1.trans O2.out⟩
      · have HF := Lib.hid hf
        have HSC := Lib.hid (HSD.out (.slice Af d.fs.length cf) d.fs W2 B (HND.out.fields.below (HB2.out.1.below (Nat.le_trans hB (HB.out.1.trans HO.out).size) fun _ h => h.elim)) (Nat.le_trans hB (HB.out.1.trans O2.out).size))
        obtain ⟨sd, hsd⟩ : ∃ sd, sd = d.fs.all (vOk g.nd.length) := ⟨_, rfl⟩
        rw [← hsd] at HF HSC
        clear hf hsd
        go_wp2_with fail
        go_at_call 43
        refine HSC.out.mono ?_
        rintro e w3 ⟨rfl, o3⟩
        have O3 := Lib.hid (O2.out.trans o3)
        clear o3 d0 d1 d2 e0 e1
        cases sd with
        | false =>
          have HN := Lib.hid (show q = false by rw [HQ.out, all_no16 HD.out HF.out]; rfl)
          go_wp2
          go_ret
          exact ⟨ret_bool (by rw [HN.out]), HB.out.1.trans O3.out⟩
        | true =>
          have HN := Lib.hid (all_next16 hno.out HD.out HF.out)
          go_wp2
          go_roundw
          case rel => exact ⟨k + 1, by omega, by go_num, HN, O3⟩
          case measure => simp [intOf]; omega
    · obtain rfl : k = g.nd.length := by omega
      have HN := Lib.hid (show q = g.rt.all (vOk g.nd.length) by rw [HQ.out, all_yes16 fun j y hj hy => hno.out j y hj hy]; simp)
      have HSC := Lib.hid (HSD.out (.slice Ar g.rt.length cr) g.rt wr B (HR.out.roots.below ((HB.out.1.trans HO.out).below hB fun _ h => h.elim)) (Nat.le_trans hB (HB.out.1.trans HO.out).size))
      obtain ⟨sd, hsd⟩ : ∃ sd, sd = g.rt.all (vOk g.nd.length) := ⟨_, rfl⟩
      rw [← hsd] at HN HSC
      clear hsd
      go_wp2_with fail
      go_at_call 43
      refine HSC.out.mono ?_
      rintro e w3 ⟨rfl, o3⟩
      have O3 := Lib.hid (HO.out.trans o3)
      clear o3 c0 c1
      go_wp2
      go_ret
      exact ⟨ret_bool (by rw [HN.out]), HB.out.1.trans O3.out⟩
end Go.Proofs.Ytkjdnccnfnhkoaa

/- The document's own answer for graphs: values whose references lead to where nodes are now. -/
namespace Go.Proofs.Ytkjdnccnfnhkoaa
open Go.RowKit Go.Lib
set_option maxRecDepth 100000
set_option linter.unusedSimpArgs false
set_option linter.unusedVariables false

theorem info_val16 : (Try.prog.info? 45).map (fun i => (i.zero, i.size, i.bytes)) = some (some (.agg #[.int .i64 0, .int .i64 0]), 2, 16) := by kernel_rfl
theorem one_val16 (w : World) (x y : Int) : Sl (w.alloc (.cells #[.int .i64 x, .int .i64 y] 45)) (w.heap.size + 1) 2 (.slice (some ⟨w.heap.size, 0, none⟩) 1 1) 1 (spc [(x, y)]) := by
  have := Sl.of_blk (size := 2) (n := 1) (c := 1) (Blk.new w 45 #[.int .i64 x, .int .i64 y]) (by simp) (Nat.le_refl _) (by unfold maxLen; omega)
  simpa [spc] using this
theorem spc_one16 (l : List Sp) : ∀ v ∈ spc l, v.oneCell' = true := by
  induction l with
  | nil => intro v hv; cases hv
  | cons x l ih =>
    intro v hv
    simp only [spc, List.flatMap_cons, List.mem_append] at hv
    rcases hv with hv | hv
    · simp at hv
      rcases hv with rfl | rfl <;> rfl
    · exact ih v hv
theorem spc_app16 (l m : List Sp) : spc (l ++ m) = spc l ++ spc m := by simp [spc]
theorem spc_len16 (l : List Sp) : (spc l).length = l.length * 2 := by
  induction l with
  | nil => rfl
  | cons x l ih => simp only [spc, List.flatMap_cons, List.length_append] at ih ⊢; rw [ih]; simp; omega
theorem box_val16 (w : World) (k x : Int) : ∃ W, w.alloc (.cells #[.int .i64 k, .int .i64 x] 45) = W ∧ Hid (Only nob w W ∧ Blk W w.heap.size 45 #[.int .i64 k, .int .i64 x]) :=
  ⟨_, rfl, Lib.hid ⟨(Only.refl nob w).alloc _, Blk.new w _ _⟩⟩
theorem turnD_ref {o : List Int} {y : Int} : turnD o (2, y) = (2, plc o y) := rfl
theorem turnD_not {o : List Int} {x y : Int} (h : ¬ x = 2) : turnD o (x, y) = (x, y) := if_neg h
end Go.Proofs.Ytkjdnccnfnhkoaa

/- The document's own answers for graphs: a node's size; how many words and fields some nodes have. -/
namespace Go.Proofs.Ytkjdnccnfnhkoaa
open Go.RowKit Go.Lib
set_option maxRecDepth 100000
set_option linter.unusedSimpArgs false
set_option linter.unusedVariables false

set_option maxHeartbeats 1000000 in
theorem rSize16 : SizeGC 50 := by
  intro d h B w hr
  obtain ⟨fv, rv⟩ := h
  obtain ⟨Af, cf, hfv, hafc, hcfm⟩ := hr.fields.form
  obtain ⟨Arw, crw, hrv, harw, hcrw⟩ := hr.raws.form
  simp only at hfv hrv
  subst hfv hrv
  obtain ⟨W, hW, HB⟩ := box_node w d.kd (.slice Af d.fs.length cf) (.slice Arw d.rs.length crw)
  have HW := Lib.hid hW
  obtain ⟨-, -, d0, d1, d2⟩ := HB.out
  have HZ := Lib.hid (show ndSz d = wrap64 (wrap64 (1 + (d.fs.length : Int)) + (d.rs.length : Int)) by rw [wrap_add16]; rfl)
  obtain ⟨z, hz⟩ : ∃ z, z = ndSz d := ⟨_, rfl⟩
  rw [← hz] at HZ ⊢
  simp only
  clear hW hr hz
  go_enter Try.func50, Try.ntmps50
  go_upto_region 1 with fail
  rw [HW.out]
  go_wp2
  go_ret
  exact ⟨ret_int (by rw [HZ.out]), HB.out.1⟩
theorem nodeAt_in {g : Gr} {i : Int} (h0 : 0 ≤ i) {d : Nd} (hd : g.nd[i.toNat]? = some d) : wAt g i = ndRaw d ∧ fAt g i = d.fs.length := by
  unfold wAt fAt nodeAt
  rw [if_pos h0, hd]
  exact ⟨rfl, rfl⟩
theorem nodeAt_out {g : Gr} {i : Int} (h : ¬ (0 ≤ i ∧ i < (g.nd.length : Int))) : wAt g i = 0 ∧ fAt g i = 0 := by
  unfold wAt fAt nodeAt
  by_cases h0 : 0 ≤ i
  · rw [if_pos h0, List.getElem?_eq_none (by omega)]
    exact ⟨rfl, rfl⟩
  · rw [if_neg h0]
    exact ⟨rfl, rfl⟩
theorem sum0 (g : Gr) (l : List Int) : sumW g (l.take 0) = 0 ∧ sumF g (l.take 0) = 0 := by
  unfold sumW sumF wrap64
  simp
set_option maxHeartbeats 4000000 in
theorem rSums16 (g : Gr) (l : List Int) (vn vr v : Value) (hs : List (Value × Value)) (B : Nat) (w : World) (h : RdG w B g vn vr hs) (hv : Sl w B 1 v l.length (i64s l)) (hB : B ≤ w.heap.size) :
    Calls Try.prog 31 #[.agg #[vn, vr], v] w fun e w' => e = .returned (.tuple #[.int .i64 (sumW g l), .int .i64 (sumF g l)]) ∧ Only nob w w' := by
  have HR := Lib.hid h
  have HV := Lib.hid hv
  obtain ⟨A, c, rfl, hac, hcm⟩ := h.nodes.form
  obtain ⟨Al, cl, rfl, hal, hcl⟩ := hv.form
  unfold maxLen at hcm hcl
  obtain ⟨W, hW, HB⟩ := box_graph w (.slice A g.nd.length c) vr
  have HW := Lib.hid hW
  obtain ⟨p, hp⟩ : ∃ p, p = w.heap.size := ⟨_, rfl⟩
  have HP := Lib.hid hp
  rw [← hp] at HB
  clear hW hp h hv
  go_enter Try.func31, Try.ntmps31
  go_upto_region 1 with fail
  rw [HW.out, ← HP.out]
  go_wp2_with fail
  go_loopw [6, 7, 8] (fun a b i wr => ∃ k : Nat, k ≤ l.length ∧ i = .int .i64 k ∧ a = .int .i64 (sumW g (l.take k)) ∧ b = .int .i64 (sumF g (l.take k)) ∧ Hid (Only nob W wr)) (fun _ _ i _ => l.length - (intOf i).toNat)
  case atStart => exact ⟨0, Nat.zero_le _, rfl, by rw [(sum0 g l).1], by rw [(sum0 g l).2], Lib.hid (Only.refl _ _)⟩
  case round =>
    obtain ⟨k, hk, rfl, rfl, rfl, HO⟩ := hrel
    have c0 := HO.out.keeps HB.out.2.2.1
    by_cases hlt : k < l.length
    · obtain ⟨i, hi⟩ : ∃ x, l[k]? = some x := ⟨_, List.getElem?_eq_getElem hlt⟩
      obtain ⟨b1, o1, rfl, -, e0⟩ := sl_int HV.out ((HB.out.1.trans HO.out).below hB fun _ h => h.elim) hi
      have HI := Lib.hid hi
      have HW1 := Lib.hid (sumW_next (g := g) hi)
      have HF1 := Lib.hid (sumF_next (g := g) hi)
      obtain ⟨sw, hsw⟩ : ∃ s, s = sumW g (l.take k) := ⟨_, rfl⟩
      obtain ⟨sf, hsf⟩ : ∃ s, s = sumF g (l.take k) := ⟨_, rfl⟩
      rw [← hsw] at HW1 ⊢
      rw [← hsf] at HF1 ⊢
      have HWID := Lib.hid (show wrap64 sw = sw by rw [hsw]; unfold sumW; rw [wrap_wrap16])
      have HFID := Lib.hid (show wrap64 sf = sf by rw [hsf]; unfold sumF; rw [wrap_wrap16])
      clear hi hsw hsf
      by_cases h1 : 0 ≤ i
      · by_cases h2 : i < (g.nd.length : Int)
        · obtain ⟨n, rfl⟩ : ∃ n : Nat, i = n := ⟨i.toNat, by omega⟩
          have hn : n < g.nd.length := by omega
          obtain ⟨d, hd⟩ : ∃ x, g.nd[n]? = some x := ⟨_, List.getElem?_eq_getElem hn⟩
          obtain ⟨bb, o, fv, rv, rfl, hbb, -, g0, g1, g2, hnd⟩ := HR.out.at_ ((HB.out.1.trans HO.out).below hB fun _ h => h.elim) hd
          obtain ⟨Af, cf, hfv, hafc, hcfm⟩ := hnd.fields.form
          obtain ⟨Arw, crw, hrv, harw, hcrw⟩ := hnd.raws.form
          simp only at hfv hrv
          subst hfv hrv
          obtain ⟨q1, q2⟩ := nodeAt_in (g := g) (i := (n : Int)) (by omega) (d := d) (by simpa using hd)
          rw [q1] at HW1
          rw [q2] at HF1
          have HSZ := Lib.hid (fun (w' : World) (b : Only nob wr w') => rSize16 d (.slice Af d.fs.length cf, .slice Arw d.rs.length crw) B w' (hnd.below (b.below (Nat.le_trans hB (HB.out.1.trans HO.out).size) fun _ h => h.elim)))
          obtain ⟨kd, hkd⟩ : ∃ kd, kd = d.kd := ⟨_, rfl⟩
          rw [← hkd] at g0 HSZ
          clear q1 q2 hd hnd hkd
          go_upto_region 6 with fail
          go_quiet (fail)
          obtain ⟨W1, hW1⟩ : ∃ W1, W1 = wr.drewN nq := ⟨_, rfl⟩
          rw [← hW1]
          have O1 := Lib.hid (show Only nob wr W1 by rw [hW1]; exact (Only.refl nob wr).drewN nq)
          have x0 := wat_cell (O1.out.keeps c0)
          have y0 := wat_cell (O1.out.keeps e0)
          have z0 := wat_cell (O1.out.keeps g0)
          have z1 := wat_cell (O1.out.keeps g1)
          have z2 := wat_cell (O1.out.keeps g2)
          obtain ⟨sz, hsz⟩ : ∃ z, z = ndSz d := ⟨_, rfl⟩
          have HSS := Lib.hid (show wrap64 (sw + sz) = wrap64 (sw + ndRaw d) by rw [hsz]; unfold ndSz; rw [wrap_add16'])
          rw [← hsz] at HSZ
          have KC := Lib.hid (And.intro (O1.out.keeps c0) (And.intro (O1.out.keeps e0) (And.intro (O1.out.keeps g0) (And.intro (O1.out.keeps g1) (O1.out.keeps g2)))))
          clear hW1 c0 e0 g0 g1 g2 hsz
          go_upto_region 7 with fail
          refine wp_region_only mixed16 (by kernel_rfl) ?_
          repeat (with_reducible refine wpQuiet_step ?_; intro K' hK'; go_simp; first | (with_reducible refine hK' _ ?_; clear hK' K') | (apply Exists.intro; with_reducible refine ⟨fun _ => ?_, hK' _ ?_⟩; (go_at_call 50; with_reducible refine wat_call (HSZ.out _ (O1.out.trans (only_wat _ _ _)))); clear hK' K'))
          refine wpQuiet_nil ?_
          rintro w' ⟨⟨nq2, osq2⟩, rfl⟩
          obtain ⟨W7, hW7, O7⟩ := wat_name W1 nq2 osq2
          rw [hW7]
          obtain ⟨k0, k1, k2, k3, k4⟩ := KC.out
          have m0 := O7.out.keeps k0
          have m1 := O7.out.keeps k1
          have m2 := O7.out.keeps k2
          have m3 := O7.out.keeps k3
          have m4 := O7.out.keeps k4
          clear hW7 x0 y0 z0 z1 z2 k0 k1 k2 k3 k4
          go_upto_region 8 with fail
          go_quiet (fail)
          have O8 := Lib.hid (HO.out.trans (O1.out.trans O7.out))
          go_wp2
          go_roundw
          case rel => exact ⟨k + 1, by omega, by go_num, by rw [HW1.out, ← HSS.out, IntKind.wrap_i64]; unfold wrap64; first | done | rfl | (congr 1; omega), by rw [HF1.out]; first | done | rfl | (rw [IntKind.wrap_i64]; unfold wrap64; first | done | rfl | (congr 1; omega)), Lib.hid (O8.out.drewN _)⟩
          case measure => simp [intOf]; omega
        · obtain ⟨q1, q2⟩ := nodeAt_out (g := g) (i := i) (fun h => h2 h.2)
          rw [q1, Int.add_zero, HWID.out] at HW1
          rw [q2, Int.add_zero, HFID.out] at HF1
          clear q1 q2
          go_upto_region 6 with fail
          go_quiet (fail)
          have O8 := Lib.hid (HO.out.drewN 1)
          go_wp2
          go_roundw
          case rel => exact ⟨k + 1, by omega, by go_num, by rw [HW1.out], by rw [HF1.out], Lib.hid (HO.out.drewN _)⟩
          case measure => simp [intOf]; omega
      · obtain ⟨q1, q2⟩ := nodeAt_out (g := g) (i := i) (fun h => h1 h.1)
        rw [q1, Int.add_zero, HWID.out] at HW1
        rw [q2, Int.add_zero, HFID.out] at HF1
        clear q1 q2
        go_upto_region 6 with fail
        go_quiet (fail)
        go_wp2
        go_roundw
        case rel => exact ⟨k + 1, by omega, by go_num, by rw [HW1.out], by rw [HF1.out], Lib.hid (HO.out.drewN _)⟩
        case measure => simp [intOf]; omega
    · obtain rfl : k = l.length := by omega
      have HE := Lib.hid (show l.take l.length = l from List.take_length)
      go_wp2
      go_ret2
      exact ⟨by rw [HE.out]; rfl, HB.out.1.trans HO.out⟩
end Go.Proofs.Ytkjdnccnfnhkoaa

/- The document's own answers for graphs: where a node's references lead. -/
namespace Go.Proofs.Ytkjdnccnfnhkoaa
open Go.RowKit Go.Lib
set_option maxRecDepth 100000
set_option linter.unusedSimpArgs false
set_option linter.unusedVariables false

theorem one_int16 (w : World) (x : Int) : Sl (w.alloc (.cells #[.int .i64 x] 3)) (w.heap.size + 1) 1 (.slice (some ⟨w.heap.size, 0, none⟩) 1 1) 1 (i64s [x]) := by
  have := Sl.of_blk (size := 1) (n := 1) (c := 1) (Blk.new w 3 #[.int .i64 x]) (by simp) (Nat.le_refl _) (by decide)
  simpa [i64s] using this
theorem refs_next {l : List Sp} {k : Nat} {x y : Int} (h : l[k]? = some (x, y)) : refsOf (l.take (k + 1)) = refsOf (l.take k) ++ (if x = 2 then [y] else []) := by
  unfold refsOf
  rw [List.take_add_one, h]
  by_cases hx : x = 2
  · simp [hx]
  · simp [hx]
theorem refs_le (l : List Sp) : (refsOf l).length ≤ l.length := by
  unfold refsOf
  rw [List.length_map]
  exact List.length_filter_le _ _
theorem leads_in {g : Gr} {n : Nat} {d : Nd} (hd : g.nd[n]? = some d) : leadsG g (n : Int) = refsOf d.fs := by
  have : n < g.nd.length := (List.getElem?_eq_some_iff.1 hd).1
  unfold leadsG
  rw [if_pos (by omega), Int.toNat_natCast, hd]
theorem leads_out {g : Gr} {i : Int} (h : ¬ (0 ≤ i ∧ i < (g.nd.length : Int))) : leadsG g i = [] := if_neg h
end Go.Proofs.Ytkjdnccnfnhkoaa
