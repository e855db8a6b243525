/- The document's own answers for graphs: the same values, words, ints; a number's place; sizes; whether a graph may be. -/
import Derived.Test.YtmnehonmbjnnaaaGrBase
import Derived.Test.YtmnehonmbjnnaaaVal
import Derived.Test.YtmnehonmbjnnaaaOpens
import Derived.StillTailTactics
import Derived.BigQuiet
import Derived.Deep.QuietTactic
import Derived.Lib.SliceRun
import Derived.WalkKit
namespace Go.Proofs.Ytmnehonmbjnnaaa
open Go.RowKit
set_option maxRecDepth 100000
set_option linter.unusedSimpArgs false
set_option linter.unusedVariables false

theorem mixed16 : Try.prog.follows .mixedOrders = true := by kernel_rfl
theorem ne_len16 {α : Type} {l m : List α} (h : l.length ≠ m.length) : l ≠ m := fun e => h (by rw [e])
theorem ne_at16 {α : Type} {l m : List α} {k : Nat} {x y : α} (hx : l[k]? = some x) (hy : m[k]? = some y) (h : x ≠ y) : l ≠ m := fun e => h (by rw [e, hy] at hx; exact (Option.some.inj hx).symm)
theorem eq_all16 {α : Type} {l m : List α} (hl : l.length = m.length) (h : ∀ (j : Nat) x, j < l.length → l[j]? = some x → m[j]? = some x) : l = m := by
  refine List.ext_getElem? fun j => ?_
  rcases Nat.lt_or_ge j l.length with hj | hj
  · rw [h j _ hj (List.getElem?_eq_getElem hj)]
    exact List.getElem?_eq_getElem hj
  · rw [List.getElem?_eq_none hj, List.getElem?_eq_none (by omega)]
theorem all_no16 {α : Type} {p : α → Bool} {l : List α} {k : Nat} {x : α} (hx : l[k]? = some x) (hp : p x = false) : l.all p = false := by
  rw [List.all_eq_false]
  exact ⟨x, List.mem_of_getElem? hx, by rw [hp]; simp⟩
theorem all_yes16 {α : Type} {p : α → Bool} {l : List α} (h : ∀ (j : Nat) y, j < l.length → l[j]? = some y → p y = true) : l.all p = true := by
  rw [List.all_eq_true]
  intro y hy
  obtain ⟨j, hj⟩ := List.getElem?_of_mem hy
  exact h j y (List.getElem?_eq_some_iff.1 hj).1 hj
theorem all_next16 {α : Type} {p : α → Bool} {l : List α} {k : Nat} {x : α} (h : ∀ (j : Nat) y, j < k → l[j]? = some y → p y = true) (hx : l[k]? = some x) (hp : p x = true) : ∀ (j : Nat) y, j < k + 1 → l[j]? = some y → p y = true := fun j y hj hy => by
  rcases Nat.lt_or_ge j k with h' | h'
  · exact h j y h' hy
  · obtain rfl : j = k := by omega
    rw [hx] at hy
    obtain rfl := Option.some.inj hy
    exact hp
theorem sl_word16 {w w' : World} {B : Nat} {A : Option Addr} {c k : Nat} {l : List Nat} {x : Nat} (h : Sl w B 1 (.slice A l.length c) l.length (u64s l)) (hb : Below B w w') (hx : l[k]? = some x) :
    ∃ b o, A = some ⟨b, o, none⟩ ∧ b < B ∧ w'.cell? ⟨b, o + k, none⟩ = some (.int .u64 (x : Nat)) := by
  have hk : k < l.length := (List.getElem?_eq_some_iff.1 hx).1
  obtain ⟨b, o, c', e, _, _, hlt, hc⟩ := (h.below hb).at_ (by omega)
  obtain ⟨rfl, rfl⟩ : A = some ⟨b, o, none⟩ ∧ c = c' := by simpa using e
  refine ⟨b, o, rfl, hlt, hc _ _ ?_⟩
  simp [u64s, hx]

set_option maxHeartbeats 2000000 in
/-- The same values? -/
theorem rVals16 (va vb : Value) (l m : List Sp) (B B' : Nat) (w : World) (ha : Sl w B 2 va l.length (spc l)) (hb : Sl w B' 2 vb m.length (spc m)) :
    Calls Try.prog 27 #[va, vb] w fun e w' => e = .returned (.bool (decide (l = m))) ∧ Only nob w w' := by
  have HA := Lib.hid ha
  have HB := Lib.hid hb
  obtain ⟨A, ca, rfl, hac, ham, -⟩ := ha
  obtain ⟨A', cb, rfl, hbc, hbm, -⟩ := hb
  unfold maxLen at ham hbm
  by_cases hlen : l.length = m.length
  · have HL := Lib.hid hlen
    rw [← hlen] at hbc ⊢
    clear hlen
    go_enter Try.func27, Try.ntmps27
    go_wp2
    go_loopw [5] (fun i wr => ∃ k m' : Nat, k ≤ l.length ∧ i = .int .i64 k ∧ Hid (∀ (j : Nat) x, j < k → l[j]? = some x → m[j]? = some x) ∧ wr = w.drewN m') (fun i _ => l.length - (intOf i).toNat)
    case atStart => exact ⟨0, 0, Nat.zero_le _, rfl, fun j _ hj _ => absurd hj (Nat.not_lt_zero j), rfl⟩
    case round =>
      obtain ⟨k, m', hk, rfl, hno, rfl⟩ := hrel
      by_cases hlt : k < l.length
      · obtain ⟨x, hx⟩ : ∃ x, l[k]? = some x := ⟨_, List.getElem?_eq_getElem hlt⟩
        obtain ⟨y, hy⟩ : ∃ y, m[k]? = some y := ⟨_, List.getElem?_eq_getElem (by rw [← HL.out]; exact hlt)⟩
        obtain ⟨b1, o1, rfl, -, c0, c1⟩ := sl_span HA.out (Below.refl _ _) hx
        obtain ⟨b2, o2, rfl, -, d0, d1⟩ := sl_span HB.out (Below.refl _ _) hy
        have HX := Lib.hid hx
        have HY := Lib.hid hy
        clear hx hy
        by_cases h1 : x.1 = y.1
        · by_cases h2 : x.2 = y.2
          · obtain rfl : x = y := Prod.ext h1 h2
            clear h1 h2
            go_wp2
            go_quiet (fail)
            go_wp2
            go_roundw
            case rel =>
              refine ⟨k + 1, _, by omega, by go_num, fun j z hj hz => ?_, rfl⟩
              rcases Nat.lt_or_ge j k with h' | h'
              · exact hno.out j z h' hz
              · obtain rfl : j = k := by omega
                rw [HX.out] at hz
                rw [HY.out]; exact hz
            case measure => simp [intOf]; omega
          · have HN := Lib.hid (decide_eq_false (ne_at16 HX.out HY.out fun e => h2 (by rw [e])))
            rw [h1] at c0
            go_wp2
            go_quiet (fail)
            go_wp2
            go_ret
            exact ⟨ret_bool (by rw [HN.out]), ((Only.refl _ _).drewN _).drewN _⟩
        · have HN := Lib.hid (decide_eq_false (ne_at16 HX.out HY.out fun e => h1 (by rw [e])))
          go_wp2
          go_quiet (fail)
          go_wp2
          go_ret
          exact ⟨ret_bool (by rw [HN.out]), ((Only.refl _ _).drewN _).drewN _⟩
      · obtain rfl : k = l.length := by omega
        have HN := Lib.hid (decide_eq_true (eq_all16 HL.out hno.out))
        go_wp2
        go_ret
        exact ⟨ret_bool (by rw [HN.out]), (Only.refl _ _).drewN _⟩
  · have HN := Lib.hid (decide_eq_false (ne_len16 hlen))
    have hn1 : ¬ ((l.length : Int) = (m.length : Int)) := by omega
    go_enter Try.func27, Try.ntmps27
    go_wp2
    go_ret
    exact ⟨ret_bool (by rw [HN.out]), Only.refl _ _⟩

set_option maxHeartbeats 1000000 in
/-- A number's place in a list. -/
theorem rPlace16 (v : Value) (l : List Int) (x : Int) (B : Nat) (w : World) (h : Sl w B 1 v l.length (i64s l)) :
    Calls Try.prog 42 #[v, .int .i64 x] w fun e w' => e = .returned (.int .i64 (plc l x)) ∧ Only nob w w' := by
  have HA := Lib.hid h
  obtain ⟨A, ca, rfl, hac, ham, -⟩ := h
  unfold maxLen at ham
  obtain ⟨q, hq⟩ : ∃ q, q = plc l x := ⟨_, rfl⟩
  have HQ := Lib.hid hq
  rw [← hq]
  clear hq
  go_enter Try.func42, Try.ntmps42
  go_wp2
  go_loopw [5] (fun i wr => ∃ k : Nat, k ≤ l.length ∧ i = .int .i64 k ∧ Hid (∀ (j : Nat) y, j < k → l[j]? = some y → y ≠ x) ∧ wr = w) (fun i _ => l.length - (intOf i).toNat)
  case atStart => exact ⟨0, Nat.zero_le _, rfl, fun j _ hj _ => absurd hj (Nat.not_lt_zero j), rfl⟩
  case round =>
    obtain ⟨k, hk, rfl, hno, rfl⟩ := hrel
    by_cases hlt : k < l.length
    · obtain ⟨y, hy⟩ : ∃ x, l[k]? = some x := ⟨_, List.getElem?_eq_getElem hlt⟩
      obtain ⟨b1, o1, rfl, -, c0⟩ := sl_int HA.out (Below.refl _ _) hy
      have HY := Lib.hid hy
      clear hy
      by_cases hyx : y = x
      · subst hyx
        have HF := Lib.hid (HQ.out.trans (plc_first HY.out hno.out))
        go_wp2
        go_ret
        exact ⟨ret_int (by rw [HF.out]), Only.refl _ _⟩
      · have hbq : (y == x) = false := by simpa using hyx
        go_wp2
        go_roundw
        case rel =>
          refine ⟨k + 1, by omega, by go_num, fun j z hj hz => ?_, by first | rfl | trivial⟩
          rcases Nat.lt_or_ge j k with h' | h'
          · exact hno.out j z h' hz
          · obtain rfl : j = k := by omega
            rw [HY.out] at hz
            rw [← Option.some.inj hz]; exact hyx
        case measure => simp [intOf]; omega
    · obtain rfl : k = l.length := by omega
      have HF := Lib.hid (HQ.out.trans (plc_none fun j y hy => hno.out j y (List.getElem?_eq_some_iff.1 hy).1 hy))
      go_wp2
      go_ret
      exact ⟨ret_int (by rw [HF.out]), Only.refl _ _⟩

theorem box_graph (w : World) (vn vr : Value) : ∃ W, w.alloc (.cells #[vn, vr] 25) = W ∧ Hid (Only nob w W ∧ Blk W w.heap.size 25 #[vn, vr] ∧ W.cell? ⟨w.heap.size, 0, none⟩ = some vn ∧ W.cell? ⟨w.heap.size, 1, none⟩ = some vr) :=
  ⟨_, rfl, Lib.hid ⟨(Only.refl nob w).alloc _, Blk.new _ _ _, (Blk.new w 25 #[vn, vr]).cell 0, (Blk.new w 25 #[vn, vr]).cell 1⟩⟩
theorem box_node (w : World) (k : Int) (fv rv : Value) : ∃ W, w.alloc (.cells #[.int .i64 k, fv, rv] 41) = W ∧ Hid (Only nob w W ∧ Blk W w.heap.size 41 #[.int .i64 k, fv, rv] ∧ W.cell? ⟨w.heap.size, 0, none⟩ = some (.int .i64 k) ∧ W.cell? ⟨w.heap.size, 1, none⟩ = some fv ∧ W.cell? ⟨w.heap.size, 2, none⟩ = some rv) := by
  have h := Blk.new w 41 #[.int .i64 k, fv, rv]
  exact ⟨_, rfl, Lib.hid ⟨(Only.refl nob w).alloc _, h, h.cell 0, h.cell 1, h.cell 2⟩⟩

end Go.Proofs.Ytmnehonmbjnnaaa

/- The document's own answer whether the values of a graph may be. -/
namespace Go.Proofs.Ytmnehonmbjnnaaa
open Go.RowKit
set_option maxRecDepth 100000
set_option linter.unusedSimpArgs false
set_option linter.unusedVariables false

set_option maxHeartbeats 1000000 in
/-- May the values of a graph of n nodes be? -/
theorem rSound16 (A : Option Addr) (n c : Nat) (vr v : Value) (l : List Sp) (B : Nat) (w : World) (hn : n ≤ 9223372036854775807) (h : Sl w B 2 v l.length (spc l)) (hB : B ≤ w.heap.size) :
    Calls Try.prog 39 #[.agg #[.slice A n c, vr], v] w fun e w' => e = .returned (.bool (l.all (vOk n))) ∧ Only nob w w' := by
  have HA := Lib.hid h
  obtain ⟨Al, ca, rfl, hac, ham, -⟩ := h
  unfold maxLen at ham
  obtain ⟨W, hW, HB⟩ := box_graph w (.slice A n c) vr
  have HW := Lib.hid hW
  have HMY := Lib.hid (fun (k x : Int) (w : World) => refMay_any k x w)
  obtain ⟨q, hq⟩ : ∃ q, q = l.all (vOk n) := ⟨_, rfl⟩
  have HQ := Lib.hid hq
  rw [← hq]
  obtain ⟨p, hp⟩ : ∃ p, p = w.heap.size := ⟨_, rfl⟩
  have HP := Lib.hid hp
  rw [← hp] at HB
  clear hW hq hp
  go_enter Try.func39, Try.ntmps39
  go_upto_region 1 with fail
  rw [HW.out, ← HP.out]
  go_wp2_with fail
  go_loopw [5] (fun i wr => ∃ k : Nat, k ≤ l.length ∧ i = .int .i64 k ∧ Hid (∀ (j : Nat) y, j < k → l[j]? = some y → vOk n y = true) ∧ Hid (Only nob W wr)) (fun i _ => l.length - (intOf i).toNat)
  case atStart => exact ⟨0, Nat.zero_le _, rfl, fun j _ hj _ => absurd hj (Nat.not_lt_zero j), Lib.hid (Only.refl _ _)⟩
  case round =>
    obtain ⟨k, hk, rfl, hno, HO⟩ := hrel
    by_cases hlt : k < l.length
    · obtain ⟨⟨x, y⟩, hy⟩ : ∃ x, l[k]? = some x := ⟨_, List.getElem?_eq_getElem hlt⟩
      obtain ⟨b1, o1, rfl, -, c0, c1⟩ := sl_span HA.out ((HB.out.1.trans HO.out).below hB fun _ h => h.elim) hy
      have HY := Lib.hid hy
      have HV := Lib.hid (show vOk n (x, y) = (vmay x y && !(decide (x = 2) && decide ((n : Int) ≤ y))) from rfl)
      have HM := Lib.hid (fun w => HMY.out x y w)
      obtain ⟨m, hm⟩ : ∃ m, m = vmay x y := ⟨_, rfl⟩
      rw [← hm] at HV HM
      have d0 := wat_cell (HO.out.keeps HB.out.2.2.1)
      have e0 := wat_cell c0
      have e1 := wat_cell c1
      clear hy hm c0 c1
      go_upto_region 4 with fail
      refine wp_region_only mixed16 (by kernel_rfl) ?_
      cases m with
      | false =>
        have HN := Lib.hid (HQ.out.trans (all_no16 HY.out (by rw [HV.out]; rfl)))
        repeat (with_reducible refine wpQuiet_step ?_; intro K' hK'; go_simp; first | (with_reducible refine hK' _ ?_; clear hK' K') | (rw [if_neg]; rotate_left; (· simp [undef]); with_reducible refine hK' _ ?_; clear hK' K') | (apply Exists.intro; with_reducible refine ⟨fun _ => ?_, hK' _ ?_⟩; (go_at_call 57; with_reducible refine wat_call (HM.out _)); clear hK' K'))
        refine wpQuiet_nil ?_
        rintro w' ⟨⟨nq, osq⟩, rfl⟩
        obtain ⟨W7, hW7, O7⟩ := wat_name wr nq osq
        rw [hW7]
        clear hW7 d0 e0 e1
        go_wp2
        go_ret
        exact ⟨ret_bool (by rw [HN.out]), HB.out.1.trans (HO.out.trans O7.out)⟩
      | true =>
        by_cases h2 : x = 2
        · subst h2
          by_cases h3 : (n : Int) ≤ y
          · have HN := Lib.hid (HQ.out.trans (all_no16 HY.out (by rw [HV.out]; simp [h3])))
            repeat (with_reducible refine wpQuiet_step ?_; intro K' hK'; go_simp; first | (with_reducible refine hK' _ ?_; clear hK' K') | (rw [if_neg]; rotate_left; (· simp [undef]); with_reducible refine hK' _ ?_; clear hK' K') | (apply Exists.intro; with_reducible refine ⟨fun _ => ?_, hK' _ ?_⟩; (go_at_call 57; with_reducible refine wat_call (HM.out _)); clear hK' K'))
            refine wpQuiet_nil ?_
            rintro w' ⟨⟨nq, osq⟩, rfl⟩
            obtain ⟨W7, hW7, O7⟩ := wat_name wr nq osq
            rw [hW7]
            clear hW7 d0 e0 e1
            go_wp2
            go_ret
            exact ⟨ret_bool (by rw [HN.out]), HB.out.1.trans (HO.out.trans O7.out)⟩
          · have HN := Lib.hid (all_next16 hno.out HY.out (by rw [HV.out]; simp; omega))
            repeat (with_reducible refine wpQuiet_step ?_; intro K' hK'; go_simp; first | (with_reducible refine hK' _ ?_; clear hK' K') | (rw [if_neg]; rotate_left; (· simp [undef]); with_reducible refine hK' _ ?_; clear hK' K') | (apply Exists.intro; with_reducible refine ⟨fun _ => ?_, hK' _ ?_⟩; (go_at_call 57; with_reducible refine wat_call (HM.out _)); clear hK' K'))
            refine wpQuiet_nil ?_
            rintro w' ⟨⟨nq, osq⟩, rfl⟩
            obtain ⟨W7, hW7, O7⟩ := wat_name wr nq osq
            rw [hW7]
            have O8 := Lib.hid (HO.out.trans O7.out)
            clear hW7 d0 e0 e1
            go_wp2
            go_roundw
            case rel => exact ⟨k + 1, by omega, by go_num, HN, O8⟩
            case measure => simp [intOf]; omega
        · have hbq : (x == 2) = false := by simpa using h2
          have HN := Lib.hid (all_next16 hno.out HY.out (by rw [HV.out]; simp [h2]))
          clear h2
          repeat (with_reducible refine wpQuiet_step ?_; intro K' hK'; go_simp; first | (with_reducible refine hK' _ ?_; clear hK' K') | (rw [if_neg]; rotate_left; (· simp [undef]); with_reducible refine hK' _ ?_; clear hK' K') | (apply Exists.intro; with_reducible refine ⟨fun _ => ?_, hK' _ ?_⟩; (go_at_call 57; with_reducible refine wat_call (HM.out _)); clear hK' K'))
          refine wpQuiet_nil ?_
          rintro w' ⟨⟨nq, osq⟩, rfl⟩
          obtain ⟨W7, hW7, O7⟩ := wat_name wr nq osq
          rw [hW7]
          have O8 := Lib.hid (HO.out.trans O7.out)
          clear hW7 d0 e0 e1
          go_wp2
          go_roundw
          case rel => exact ⟨k + 1, by omega, by go_num, HN, O8⟩
          case measure => simp [intOf]; omega
    · obtain rfl : k = l.length := by omega
      have HN := Lib.hid (HQ.out.trans (all_yes16 fun j y hj hy => hno.out j y hj hy))
      go_wp2
      go_ret
      exact ⟨ret_bool (by rw [HN.out]), HB.out.1.trans HO.out⟩
end Go.Proofs.Ytmnehonmbjnnaaa

/- The document's own answers for graphs: whether a graph may be; two graphs held against one another. -/
namespace Go.Proofs.Ytmnehonmbjnnaaa
open Go.RowKit
set_option maxRecDepth 100000
set_option linter.unusedSimpArgs false
set_option linter.unusedVariables false

theorem ndOk_cases (n : Nat) (d : Nd) : (d.kd < 0 ∧ ndOk n d = false) ∨ (0 ≤ d.kd ∧ 31 < d.kd ∧ ndOk n d = false) ∨ (0 ≤ d.kd ∧ d.kd ≤ 31 ∧ 4096 < (d.fs.length : Int) ∧ ndOk n d = false) ∨ (0 ≤ d.kd ∧ d.kd ≤ 31 ∧ (d.fs.length : Int) ≤ 4096 ∧ 4096 < (d.rs.length : Int) ∧ ndOk n d = false) ∨ (0 ≤ d.kd ∧ d.kd ≤ 31 ∧ (d.fs.length : Int) ≤ 4096 ∧ (d.rs.length : Int) ≤ 4096 ∧ ndOk n d = d.fs.all (vOk n)) := by
  unfold ndOk
  by_cases h1 : d.kd < 0
  · exact .inl ⟨h1, by rw [decide_eq_false (by omega)]; rfl⟩
  by_cases h2 : 31 < d.kd
  · exact .inr (.inl ⟨by omega, h2, by rw [decide_eq_false (by omega)]; rfl⟩)
  by_cases h3 : 4096 < (d.fs.length : Int)
  · exact .inr (.inr (.inl ⟨by omega, by omega, h3, by rw [decide_eq_false (p := d.fs.length ≤ 4096) (by omega)]; simp⟩))
  by_cases h4 : 4096 < (d.rs.length : Int)
  · exact .inr (.inr (.inr (.inl ⟨by omega, by omega, by omega, h4, by rw [decide_eq_false (p := d.rs.length ≤ 4096) (by omega)]; simp⟩)))
  · exact .inr (.inr (.inr (.inr ⟨by omega, by omega, by omega, by omega, by rw [decide_eq_true (p := 0 ≤ d.kd ∧ d.kd ≤ 31) (by omega), decide_eq_true (p := d.fs.length ≤ 4096) (by omega), decide_eq_true (p := d.rs.length ≤ 4096) (by omega)]; simp⟩)))
set_option maxHeartbeats 2000000 in
theorem rRight16 : RightGC 21 := by
  intro g vn vr hs B w h hB hfit
  have HR := Lib.hid h
  obtain ⟨A, c, rfl, hac, hcm⟩ := h.nodes.form
  obtain ⟨Ar, cr, rfl, harc, hcrm⟩ := h.roots.form
  unfold maxLen at hcm hcrm
  obtain ⟨W, hW, HB⟩ := box_graph w (.slice A g.nd.length c) (.slice Ar g.rt.length cr)
  have HW := Lib.hid hW
  have hnl : g.nd.length ≤ 9223372036854775807 := by omega
  have HSD := Lib.hid (fun (v : Value) (l : List Sp) (w' : World) (B' : Nat) (h : Sl w' B' 2 v l.length (spc l)) (hB : B' ≤ w'.heap.size) => rSound16 A g.nd.length c (.slice Ar g.rt.length cr) v l B' w' hnl h hB)
  obtain ⟨q, hq⟩ : ∃ q, q = grOk g := ⟨_, rfl⟩
  have HQ := Lib.hid (hq.trans (show grOk g = (g.nd.all (ndOk g.nd.length) && g.rt.all (vOk g.nd.length)) from rfl))
  rw [← hq]
  obtain ⟨p, hp⟩ : ∃ p, p = w.heap.size := ⟨_, rfl⟩
  have HP := Lib.hid hp
  rw [← hp] at HB
  clear hW hq hp h hfit
  have c0 := HB.out.2.2.1
  go_enter Try.func21, Try.ntmps21
  go_upto_region 1 with fail
  rw [HW.out, ← HP.out]
  go_wp2_with fail
  go_loopw [3, 4] (fun i _ wr => ∃ k : Nat, k ≤ g.nd.length ∧ i = .int .i64 k ∧ Hid (∀ (j : Nat) y, j < k → g.nd[j]? = some y → ndOk g.nd.length y = true) ∧ Hid (Only nob W wr)) (fun i _ _ => g.nd.length - (intOf i).toNat)
  case atStart => exact ⟨0, Nat.zero_le _, rfl, fun j _ hj _ => absurd hj (Nat.not_lt_zero j), Lib.hid (Only.refl _ _)⟩
  case round =>
    obtain ⟨k, hk, rfl, hno, HO⟩ := hrel
    clear c0
    have c0 := HO.out.keeps HB.out.2.2.1
    have c1 := HO.out.keeps HB.out.2.2.2
    by_cases hlt : k < g.nd.length
    · obtain ⟨d, hd⟩ : ∃ x, g.nd[k]? = some x := ⟨_, List.getElem?_eq_getElem hlt⟩
      obtain ⟨bb, o, fv, rv, rfl, hbb, -, g0, g1, g2, hnd⟩ := HR.out.at_ ((HB.out.1.trans HO.out).below hB fun _ h => h.elim) hd
      obtain ⟨Af, cf, hfv, hafc, hcfm⟩ := hnd.fields.form
      obtain ⟨Arw, crw, hrv, harw, hcrw⟩ := hnd.raws.form
      simp only at hfv hrv
      subst hfv hrv
      unfold maxLen at hcfm hcrw
      have HD := Lib.hid hd
      have HND := Lib.hid hnd
      obtain ⟨W2, hW2, HB2⟩ := box_node wr d.kd (.slice Af d.fs.length cf) (.slice Arw d.rs.length crw)
      have HW2 := Lib.hid hW2
      have O2 := Lib.hid (HO.out.trans HB2.out.1)
      have e0 := HB2.out.1.keeps c0
      have e1 := HB2.out.1.keeps c1
      have hcs := ndOk_cases g.nd.length d
      obtain ⟨kd, hkd⟩ : ∃ kd, kd = d.kd := ⟨_, rfl⟩
      rw [← hkd] at g0 HB2 HW2 hcs
      clear hd hnd hW2 hkd
      go_upto_region 5 with fail
      rw [HW2.out]
      obtain ⟨-, -, d0, d1, d2⟩ := HB2.out
      clear g0 g1 g2 c0 c1
      rcases hcs with ⟨h1, hf⟩ | ⟨h1, h2, hf⟩ | ⟨h1, h2, h3, hf⟩ | ⟨h1, h2, h3, h4, hf⟩ | ⟨h1, h2, h3, h4, hf⟩
      · have HN := Lib.hid (show q = false by rw [HQ.out, all_no16 HD.out hf]; rfl)
        clear hf
        go_wp2
        go_ret
        exact ⟨ret_bool (by rw [HN.out]), HB.out.1.trans O2.out⟩
      · have HN := Lib.hid (show q = false by rw [HQ.out, all_no16 HD.out hf]; rfl)
        clear hf
        go_wp2
        go_ret
        exact ⟨ret_bool (by rw [HN.out]), HB.out.1.trans O2.out⟩
      · have HN := Lib.hid (show q = false by rw [HQ.out, all_no16 HD.out hf]; rfl)
        clear hf
        go_wp2
        go_ret
        exact ⟨ret_bool (by rw [HN.out]), HB.out.1.trans O2.out⟩
      · have HN := Lib.hid (show q = false by rw [HQ.out, all_no16 HD.out hf]; rfl)
        clear hf
        go_wp2
        go_ret
        exact ⟨ret_bool (by rw [HN.out]), HB.out.1.trans O2.out⟩
      · have HF := Lib.hid hf
        have HSC := Lib.hid (HSD.out (.slice Af d.fs.length cf) d.fs W2 B (HND.out.fields.below (HB2.out.1.below (Nat.le_trans hB (HB.out.1.trans HO.out).size) fun _ h => h.elim)) (Nat.le_trans hB (HB.out.1.trans O2.out).size))
        obtain ⟨sd, hsd⟩ : ∃ sd, sd = d.fs.all (vOk g.nd.length) := ⟨_, rfl⟩
        rw [← hsd] at HF HSC
        clear hf hsd
        go_wp2_with fail
        go_at_call 39
        refine HSC.out.mono ?_
        rintro e w3 ⟨rfl, o3⟩
        have O3 := Lib.hid (O2.out.trans o3)
        clear o3 d0 d1 d2 e0 e1
        cases sd with
        | false =>
          have HN := Lib.hid (show q = false by rw [HQ.out, all_no16 HD.out HF.out]; rfl)
          go_wp2
          go_ret
          exact ⟨ret_bool (by rw [HN.out]), HB.out.1.trans O3.out⟩
        | true =>
          have HN := Lib.hid (all_next16 hno.out HD.out HF.out)
          go_wp2
          go_roundw
          case rel => exact ⟨k + 1, by omega, by go_num, HN, O3⟩
          case measure => simp [intOf]; omega
    · obtain rfl : k = g.nd.length := by omega
      have HN := Lib.hid (show q = g.rt.all (vOk g.nd.length) by rw [HQ.out, all_yes16 fun j y hj hy => hno.out j y hj hy]; simp)
      have HSC := Lib.hid (HSD.out (.slice Ar g.rt.length cr) g.rt wr B (HR.out.roots.below ((HB.out.1.trans HO.out).below hB fun _ h => h.elim)) (Nat.le_trans hB (HB.out.1.trans HO.out).size))
      obtain ⟨sd, hsd⟩ : ∃ sd, sd = g.rt.all (vOk g.nd.length) := ⟨_, rfl⟩
      rw [← hsd] at HN HSC
      clear hsd
      go_wp2_with fail
      go_at_call 39
      refine HSC.out.mono ?_
      rintro e w3 ⟨rfl, o3⟩
      have O3 := Lib.hid (HO.out.trans o3)
      clear o3 c0 c1
      go_wp2
      go_ret
      exact ⟨ret_bool (by rw [HN.out]), HB.out.1.trans O3.out⟩
end Go.Proofs.Ytmnehonmbjnnaaa

/- The document's own answer for graphs: values whose references lead to where nodes are now. -/
namespace Go.Proofs.Ytmnehonmbjnnaaa
open Go.RowKit Go.Lib
set_option maxRecDepth 100000
set_option linter.unusedSimpArgs false
set_option linter.unusedVariables false

theorem info_val16 : (Try.prog.info? 43).map (fun i => (i.zero, i.size, i.bytes)) = some (some (.agg #[.int .i64 0, .int .i64 0]), 2, 16) := by kernel_rfl
theorem one_val16 (w : World) (x y : Int) : Sl (w.alloc (.cells #[.int .i64 x, .int .i64 y] 43)) (w.heap.size + 1) 2 (.slice (some ⟨w.heap.size, 0, none⟩) 1 1) 1 (spc [(x, y)]) := by
  have := Sl.of_blk (size := 2) (n := 1) (c := 1) (Blk.new w 43 #[.int .i64 x, .int .i64 y]) (by simp) (Nat.le_refl _) (by unfold maxLen; omega)
  simpa [spc] using this
theorem spc_one16 (l : List Sp) : ∀ v ∈ spc l, v.oneCell' = true := by
  induction l with
  | nil => intro v hv; cases hv
  | cons x l ih =>
    intro v hv
    simp only [spc, List.flatMap_cons, List.mem_append] at hv
    rcases hv with hv | hv
    · simp at hv
      rcases hv with rfl | rfl <;> rfl
    · exact ih v hv
theorem spc_app16 (l m : List Sp) : spc (l ++ m) = spc l ++ spc m := by simp [spc]
theorem spc_len16 (l : List Sp) : (spc l).length = l.length * 2 := by
  induction l with
  | nil => rfl
  | cons x l ih => simp only [spc, List.flatMap_cons, List.length_append] at ih ⊢; rw [ih]; simp; omega
theorem box_val16 (w : World) (k x : Int) : ∃ W, w.alloc (.cells #[.int .i64 k, .int .i64 x] 43) = W ∧ Hid (Only nob w W ∧ Blk W w.heap.size 43 #[.int .i64 k, .int .i64 x]) :=
  ⟨_, rfl, Lib.hid ⟨(Only.refl nob w).alloc _, Blk.new w _ _⟩⟩
theorem turnD_ref {o : List Int} {y : Int} : turnD o (2, y) = (2, plc o y) := rfl
theorem turnD_not {o : List Int} {x y : Int} (h : ¬ x = 2) : turnD o (x, y) = (x, y) := if_neg h
set_option maxHeartbeats 4000000 in
theorem rTurn16 (v u : Value) (l : List Sp) (o : List Int) (B : Nat) (w : World) (h : Sl w B 2 v l.length (spc l)) (ho : Sl w B 1 u o.length (i64s o)) (hB : B ≤ w.heap.size) (hl : l.length ≤ 100000) :
    Calls Try.prog 43 #[v, u] w fun e w' => (canT o l = true → ∃ v', e = .returned (.tuple #[v', .bool true]) ∧ w'.ownsRow w.heap.size 43 2 v' (turnT o l).length (spc (turnT o l))) ∧ (canT o l = false → e = .returned (.tuple #[.slice none 0 0, .bool false])) ∧ Only nob w w' := by
  obtain ⟨j0, hj0, hy0, hy1, hy2⟩ := info_parts info_val16
  have HA := Lib.hid h
  have HU := Lib.hid ho
  obtain ⟨A, ca, rfl, hac, ham, -⟩ := h
  obtain ⟨Ao, co, rfl, hoc, hom, -⟩ := ho
  unfold maxLen at ham hom
  have HPL := Lib.hid (fun (x : Int) (w' : World) (b : Only nob w w') => rPlace16 (.slice Ao o.length co) o x B w' (HU.out.below (b.below hB fun _ h => h.elim)))
  obtain ⟨q, hq⟩ : ∃ q, q = canT o l := ⟨_, rfl⟩
  have HQ := Lib.hid (hq.trans (show canT o l = l.all (turnB o) from rfl))
  rw [← hq]
  clear hq
  go_enter Try.func43, Try.ntmps43
  go_wp2_with fail
  go_loopw [6, 7, 8, 9] (fun out i _ _ wr => ∃ k : Nat, k ≤ l.length ∧ i = .int .i64 k ∧ Hid (∀ (j : Nat) y, j < k → l[j]? = some y → turnB o y = true) ∧ Hid (wr.ownsRow w.heap.size 43 2 out (turnT o (l.take k)).length (spc (turnT o (l.take k)))) ∧ Hid (Only nob w wr)) (fun _ i _ _ _ => l.length - (intOf i).toNat)
  case atStart => exact ⟨0, Nat.zero_le _, rfl, fun j _ hj _ => absurd hj (Nat.not_lt_zero j), Lib.hid (World.ownsRow_nil _ _ _ _), Lib.hid (Only.refl _ _)⟩
  case round =>
    obtain ⟨k, hk, rfl, hno, HRW, HO⟩ := hrel
    obtain ⟨Ar, cr, rfl, hcr, hmr⟩ := own_len HRW.out
    unfold maxLen at hmr
    by_cases hlt : k < l.length
    · obtain ⟨⟨x, y⟩, hy⟩ : ∃ x, l[k]? = some x := ⟨_, List.getElem?_eq_getElem hlt⟩
      obtain ⟨b1, o1, rfl, -, c0, c1⟩ := sl_span HA.out (HO.out.below hB fun _ h => h.elim) hy
      have HY := Lib.hid hy
      have HSN := Lib.hid (show turnT o (l.take (k + 1)) = turnT o (l.take k) ++ [turnD o (x, y)] by unfold turnT; rw [List.take_add_one, hy]; simp)
      have hkl : (l.take k).length = k := by rw [List.length_take]; omega
      obtain ⟨P, hP⟩ : ∃ P, P = turnT o (l.take k) := ⟨_, rfl⟩
      have hPl : P.length = k := by rw [hP]; unfold turnT; rw [List.length_map, hkl]
      rw [← hP] at HRW HSN hcr ⊢
      obtain ⟨n, hn⟩ : ∃ n, n = P.length := ⟨_, rfl⟩
      have HN := Lib.hid hn
      rw [← hn] at HRW hcr hPl ⊢
      obtain ⟨W2, hW2, HB2⟩ := box_val16 wr x y
      have HW2 := Lib.hid hW2
      have O2 := Lib.hid (HO.out.trans HB2.out.1)
      have hww : w.heap.size ≤ wr.heap.size := HO.out.size
      have hnl : n ≤ 100000 := by omega
      simp only at c0 c1
      clear hP hn hy hW2 hkl hPl
      go_upto_region 6 with fail
      rw [HW2.out]
      have d0 : W2.cell? ⟨wr.heap.size, 0, none⟩ = some (.int .i64 x) := HB2.out.2.cell 0
      have d1 : W2.cell? ⟨wr.heap.size, 1, none⟩ = some (.int .i64 y) := HB2.out.2.cell 1
      clear c0 c1
      by_cases hx2 : x = 2
      · subst hx2
        go_wp2_with fail
        go_at_call 42
        refine (HPL.out y W2 O2.out).mono ?_
        rintro e w3 ⟨rfl, o3⟩
        have O3 := Lib.hid (O2.out.trans o3)
        have R3 := Lib.hid (own_only (own_only HRW.out HB2.out.1 fun _ _ => id) o3 fun _ _ => id)
        by_cases hm : y ∈ o
        · obtain ⟨pk, hpk, -⟩ := plc_at hm
          have HPK := Lib.hid hpk
          rw [HPK.out]
          have hTB := Lib.hid (all_next16 hno.out HY.out (show turnB o (2, y) = true by unfold turnB; simp [hm]))
          have B3 := HB2.out.2.keep o3 id
          have e1 : w3.cell? ⟨wr.heap.size, 1, none⟩ = some (.int .i64 y) := B3.cell 1
          have f1 := B3.free 1
          obtain ⟨W4, hW4, o4, b4⟩ : ∃ W4, w3.setCell ⟨wr.heap.size, 1, none⟩ (.int .i64 ((pk : Nat) : Int)) = W4 ∧ Only nob w W4 ∧ Blk W4 wr.heap.size 43 #[.int .i64 2, .int .i64 ((pk : Nat) : Int)] := ⟨_, rfl, set_new O3.out hww _, by simpa using B3.put 1 (.int .i64 ((pk : Nat) : Int))⟩
          have HW4 := Lib.hid hW4
          have O4 := Lib.hid o4
          have R4 := Lib.hid (own_only R3.out (show Only (isb wr.heap.size) w3 W4 by rw [← hW4]; exact only_set _ _ _ _) (fun k hk e => by have := (own_lt HRW.out hk).2; unfold isb at e; omega))
          have g0 : W4.cell? ⟨wr.heap.size, 0, none⟩ = some (.int .i64 2) := b4.cell 0
          have g1 : W4.cell? ⟨wr.heap.size, 1, none⟩ = some (.int .i64 ((pk : Nat) : Int)) := b4.cell 1
          have hTD := Lib.hid (show turnD o (2, y) = (2, ((pk : Nat) : Int)) by rw [turnD_ref, HPK.out])
          clear hpk hm hW4 o4 b4 B3 d0 d1 o3
          go_upto_region 11 with fail
          rw [HW4.out]
          clear e1 f1
          go_wp2_with (with_reducible refine wpList_append_sl (o := ⟨some 34, _, _, _, _, _⟩) _ rfl (.tmp 31) (.tmp 33) _ rfl w.heap.size 43 j0 _ 2 16 Try.underlying23 hj0 hy0 hy1 hy2 rfl (by decide) (.slice Ar n cr) n (spc P) rfl ?c1 (W4.heap.size + 1) (.slice (some ⟨W4.heap.size, 0, none⟩) 1 1) 1 (spc [(2, ((pk : Nat) : Int))]) rfl ?c6 (spc_one16 _) ?c2 ?c3 ?c4 ?c5)
          case c1 => exact own_only R4.out ((Only.refl nob W4).alloc _) (fun _ _ h => h)
          case c6 => exact one_val16 W4 2 _
          case c2 => unfold maxLen; omega
          case c3 => omega
          case c4 => have := O4.out.size; simp; omega
          case c5 =>
            intro v6 w6 H6 o6 _
            have HR6 := Lib.hid (show w6.ownsRow w.heap.size 43 2 v6 (turnT o (l.take (k + 1))).length (spc (turnT o (l.take (k + 1)))) by
              rw [HSN.out, hTD.out, List.length_append, spc_app16, ← HN.out]
              exact H6.out)
            have h1 := own_only R4.out ((Only.refl nob W4).alloc (.cells #[.int .i64 2, .int .i64 ((pk : Nat) : Int)] 43)) (fun _ _ h => h)
            have O6 := Lib.hid (own_nob (O4.out.alloc (.cells #[.int .i64 2, .int .i64 ((pk : Nat) : Int)] 43)) h1 o6 (Nat.le_refl _))
            clear H6 o6 h1 g0 g1
            go_wp2
            go_roundw
            case rel => exact ⟨k + 1, by omega, by go_num, hTB, HR6, O6⟩
            case measure => simp [intOf]; omega
        · have HF := Lib.hid (HQ.out.trans (all_no16 HY.out (show turnB o (2, y) = false by unfold turnB; simp [hm])))
          have hpn : plc o y = -1 := plc_out hm
          rw [hpn]
          clear hm hpn d0 d1
          go_wp2
          go_ret2
          exact ⟨(fun h => by rw [HF.out] at h; cases h), fun _ => rfl, O3.out⟩
      · have hbq : (x == 2) = false := by simpa using hx2
        have hTB := Lib.hid (all_next16 hno.out HY.out (show turnB o (x, y) = true by unfold turnB; simp [hx2]))
        have hTD := Lib.hid (turnD_not (o := o) (y := y) hx2)
        clear hx2
        go_wp2_with (with_reducible refine wpList_append_sl (o := ⟨some 34, _, _, _, _, _⟩) _ rfl (.tmp 31) (.tmp 33) _ rfl w.heap.size 43 j0 _ 2 16 Try.underlying23 hj0 hy0 hy1 hy2 rfl (by decide) (.slice Ar n cr) n (spc P) rfl ?c1 (W2.heap.size + 1) (.slice (some ⟨W2.heap.size, 0, none⟩) 1 1) 1 (spc [(x, y)]) rfl ?c6 (spc_one16 _) ?c2 ?c3 ?c4 ?c5)
        case c1 => exact own_only HRW.out (HB2.out.1.alloc _) (fun _ _ h => h)
        case c6 => exact one_val16 W2 x y
        case c2 => unfold maxLen; omega
        case c3 => omega
        case c4 => have := O2.out.size; simp; omega
        case c5 =>
          intro v6 w6 H6 o6 _
          have HR6 := Lib.hid (show w6.ownsRow w.heap.size 43 2 v6 (turnT o (l.take (k + 1))).length (spc (turnT o (l.take (k + 1)))) by
            rw [HSN.out, hTD.out, List.length_append, spc_app16, ← HN.out]
            exact H6.out)
          have h1 := own_only HRW.out (HB2.out.1.alloc (.cells #[.int .i64 x, .int .i64 y] 43)) (fun _ _ h => h)
          have O6 := Lib.hid (own_nob (O2.out.alloc (.cells #[.int .i64 x, .int .i64 y] 43)) h1 o6 (Nat.le_refl _))
          clear H6 o6 h1 d0 d1
          go_wp2
          go_roundw
          case rel => exact ⟨k + 1, by omega, by go_num, hTB, HR6, O6⟩
          case measure => simp [intOf]; omega
    · obtain rfl : k = l.length := by omega
      have HF := Lib.hid (HQ.out.trans (all_yes16 fun j y hj hy => hno.out j y hj hy))
      have HE := Lib.hid (show turnT o (l.take l.length) = turnT o l by rw [List.take_length])
      rw [HE.out] at HRW hcr ⊢
      obtain ⟨n, hn⟩ : ∃ n, n = (turnT o l).length := ⟨_, rfl⟩
      have HN := Lib.hid hn
      rw [← hn] at HRW hcr ⊢
      clear hn
      go_wp2
      go_ret2
      exact ⟨(fun _ => ⟨_, rfl, by rw [← HN.out]; exact HRW.out⟩), (fun h => by rw [HF.out] at h; cases h), HO.out⟩
end Go.Proofs.Ytmnehonmbjnnaaa

/- The document's own answers for graphs: a node's size; how many words and fields some nodes have. -/
namespace Go.Proofs.Ytmnehonmbjnnaaa
open Go.RowKit Go.Lib
set_option maxRecDepth 100000
set_option linter.unusedSimpArgs false
set_option linter.unusedVariables false

set_option maxHeartbeats 1000000 in
theorem rSize16 : SizeGC 76 := by
  intro d h B w hr
  obtain ⟨fv, rv⟩ := h
  obtain ⟨Af, cf, hfv, hafc, hcfm⟩ := hr.fields.form
  obtain ⟨Arw, crw, hrv, harw, hcrw⟩ := hr.raws.form
  simp only at hfv hrv
  subst hfv hrv
  obtain ⟨W, hW, HB⟩ := box_node w d.kd (.slice Af d.fs.length cf) (.slice Arw d.rs.length crw)
  have HW := Lib.hid hW
  obtain ⟨-, -, d0, d1, d2⟩ := HB.out
  have HZ := Lib.hid (show ndSz d = wrap64 (wrap64 (1 + (d.fs.length : Int)) + (d.rs.length : Int)) by rw [wrap_add16]; rfl)
  obtain ⟨z, hz⟩ : ∃ z, z = ndSz d := ⟨_, rfl⟩
  rw [← hz] at HZ ⊢
  simp only
  clear hW hr hz
  go_enter Try.func76, Try.ntmps76
  go_upto_region 1 with fail
  rw [HW.out]
  go_wp2
  go_ret
  exact ⟨ret_int (by rw [HZ.out]), HB.out.1⟩
theorem nodeAt_in {g : Gr} {i : Int} (h0 : 0 ≤ i) {d : Nd} (hd : g.nd[i.toNat]? = some d) : wAt g i = ndRaw d ∧ fAt g i = d.fs.length := by
  unfold wAt fAt nodeAt
  rw [if_pos h0, hd]
  exact ⟨rfl, rfl⟩
theorem nodeAt_out {g : Gr} {i : Int} (h : ¬ (0 ≤ i ∧ i < (g.nd.length : Int))) : wAt g i = 0 ∧ fAt g i = 0 := by
  unfold wAt fAt nodeAt
  by_cases h0 : 0 ≤ i
  · rw [if_pos h0, List.getElem?_eq_none (by omega)]
    exact ⟨rfl, rfl⟩
  · rw [if_neg h0]
    exact ⟨rfl, rfl⟩
theorem sum0 (g : Gr) (l : List Int) : sumW g (l.take 0) = 0 ∧ sumF g (l.take 0) = 0 := by
  unfold sumW sumF wrap64
  simp
end Go.Proofs.Ytmnehonmbjnnaaa

/- The document's own answers for graphs: where a node's references lead. -/
namespace Go.Proofs.Ytmnehonmbjnnaaa
open Go.RowKit Go.Lib
set_option maxRecDepth 100000
set_option linter.unusedSimpArgs false
set_option linter.unusedVariables false

theorem one_int16 (w : World) (x : Int) : Sl (w.alloc (.cells #[.int .i64 x] 3)) (w.heap.size + 1) 1 (.slice (some ⟨w.heap.size, 0, none⟩) 1 1) 1 (i64s [x]) := by
  have := Sl.of_blk (size := 1) (n := 1) (c := 1) (Blk.new w 3 #[.int .i64 x]) (by simp) (Nat.le_refl _) (by decide)
  simpa [i64s] using this
theorem refs_next {l : List Sp} {k : Nat} {x y : Int} (h : l[k]? = some (x, y)) : refsOf (l.take (k + 1)) = refsOf (l.take k) ++ (if x = 2 then [y] else []) := by
  unfold refsOf
  rw [List.take_add_one, h]
  by_cases hx : x = 2
  · simp [hx]
  · simp [hx]
theorem refs_le (l : List Sp) : (refsOf l).length ≤ l.length := by
  unfold refsOf
  rw [List.length_map]
  exact List.length_filter_le _ _
theorem leads_in {g : Gr} {n : Nat} {d : Nd} (hd : g.nd[n]? = some d) : leadsG g (n : Int) = refsOf d.fs := by
  have : n < g.nd.length := (List.getElem?_eq_some_iff.1 hd).1
  unfold leadsG
  rw [if_pos (by omega), Int.toNat_natCast, hd]
theorem leads_out {g : Gr} {i : Int} (h : ¬ (0 ≤ i ∧ i < (g.nd.length : Int))) : leadsG g i = [] := if_neg h
end Go.Proofs.Ytmnehonmbjnnaaa
