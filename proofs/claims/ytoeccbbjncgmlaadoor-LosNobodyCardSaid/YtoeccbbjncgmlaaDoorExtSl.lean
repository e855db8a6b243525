/- Contracts of package slices at spans: IndexFunc, ContainsFunc (whatever they are told a span by), Equal. -/
import Derived.Test.YtoeccbbjncgmlaaDoorRef03AB
import Derived.Test.YtoeccbbjncgmlaaDoorExtMath
import Derived.Lib.SliceRun
import Derived.Lib.AppendZerosOnto
import Derived.Deep.RegionLaw
import Derived.Shelf.RegionOpenPlain
import Derived.WalkKit
namespace Go.Proofs.YtoeccbbjncgmlaaDoor
set_option maxRecDepth 100000
open Go.RowKit Go.Lib

/-- What is asked of a function that is handed in: it tells p of each span, and only makes memory. -/
def Pred (g : FuncId) (lb : Array Value) (p : Sp → Bool) (w : World) : Prop :=
  (∀ args w, (callFunc g args).run Tryd.prog w = .ok (.enter g args) w) ∧ ∀ (x : Sp), Fit x → ∀ (W : World), Only nob w W → Calls Tryd.prog g (#[.agg #[.int .i64 x.1, .int .i64 x.2]] ++ lb) W fun e w' => e = .returned (.bool (p x)) ∧ Only nob W w'
theorem Pred.on {g : FuncId} {lb : Array Value} {p : Sp → Bool} {w w' : World} (h : Pred g lb p w) (o : Only nob w w') : Pred g lb p w' := ⟨h.1, fun x hx W hW => h.2 x hx W (o.trans hW)⟩

set_option maxHeartbeats 1000000 in
theorem indexFunc_any (g : FuncId) (lb : Array Value) (p : Sp → Bool) (v : Value) (l : List Sp) (B : Nat) (w : World) (hp : Pred g lb p w) (h : Sl w B 2 v l.length (spc l)) (hB : B ≤ w.heap.size) (hf : Fits l) :
    Calls Tryd.prog 45 #[v, .func (.func g) #[] lb] w fun e w' => e = .returned (.int .i64 (idxI p l)) ∧ Only nob w w' := by
  have HA := Lib.hid h
  have HF := Lib.hid hf
  have HP := Lib.hid hp.2
  have eg := hp.1
  obtain ⟨A, ca, rfl, hac, ham, -⟩ := h
  unfold maxLen at ham
  clear hp hf
  go_enter Tryd.func45, Tryd.ntmps45
  go_wp2_with fail
  go_loopw [5, 8] (fun _ i wr => ∃ k : Nat, k ≤ l.length ∧ i = .int .i64 k ∧ Hid (∀ (j : Nat) y, j < k → l[j]? = some y → p y = false) ∧ Only nob w wr) (fun _ i _ => l.length - (intOf i).toNat)
  case atStart => exact ⟨0, Nat.zero_le _, rfl, fun j _ hj _ => absurd hj (Nat.not_lt_zero j), Only.refl _ _⟩
  case round =>
    obtain ⟨k, hk, rfl, hno, hO⟩ := hrel
    have HX := Lib.hid hO
    by_cases hlt : k < l.length
    · obtain ⟨x, hx⟩ : ∃ x, l[k]? = some x := ⟨_, List.getElem?_eq_getElem hlt⟩
      obtain ⟨b, o, rfl, hb, c0, c1⟩ := sl_span HA.out (hO.below hB fun _ h => h.elim) hx
      have HXX := Lib.hid hx
      clear hO hx
      cases hp : p x with
      | true =>
        have HQ := Lib.hid hp
        have HK := Lib.hid (idxI_hit HXX.out hp hno.out)
        clear hp
        go_wp2_with fail
        refine (HP.out x (HF.out.get HXX.out) _ HX.out).mono ?_
        rw [HQ.out]
        rintro e w1 ⟨rfl, ho⟩
        have HO := Lib.hid (HX.out.trans ho)
        clear ho
        go_wp2
        go_ret
        exact ⟨ret_i64 (by rw [HK.out]), HO.out⟩
      | false =>
        have HQ := Lib.hid hp
        clear hp
        go_wp2_with fail
        refine (HP.out x (HF.out.get HXX.out) _ HX.out).mono ?_
        rw [HQ.out]
        rintro e w1 ⟨rfl, ho⟩
        have HO := Lib.hid (HX.out.trans ho)
        clear ho
        go_wp2
        go_roundw
        case rel =>
          refine ⟨k + 1, by omega, by go_num, fun j y hj hy => ?_, HO.out⟩
          rcases Nat.lt_or_ge j k with h' | h'
          · exact hno.out j y h' hy
          · obtain rfl : j = k := by omega
            rw [HXX.out] at hy
            obtain rfl := Option.some.inj hy
            exact HQ.out
        case measure => simp [intOf]; omega
    · obtain rfl : k = l.length := by omega
      have HK := Lib.hid (idxI_miss hno.out)
      clear hO
      go_wp2
      go_ret
      exact ⟨ret_i64 (by rw [HK.out]), HX.out⟩

theorem idxI_range (p : Sp → Bool) (l : List Sp) : -1 ≤ idxI p l ∧ idxI p l ≤ l.length := by unfold idxI; split <;> omega
set_option maxHeartbeats 1000000 in
theorem containsFunc_any (g : FuncId) (lb : Array Value) (p : Sp → Bool) (v : Value) (l : List Sp) (B : Nat) (w : World) (hp : Pred g lb p w) (h : Sl w B 2 v l.length (spc l)) (hB : B ≤ w.heap.size) (hf : Fits l) :
    Calls Tryd.prog 36 #[v, .func (.func g) #[] lb] w fun e w' => e = .returned (.bool (l.any p)) ∧ Only nob w w' := by
  have HA := Lib.hid h
  have HP := Lib.hid hp
  have HF := Lib.hid hf
  clear h hp hf
  have HI := Lib.hid (idxI_any p l)
  go_enter Tryd.func36, Tryd.ntmps36
  go_wp2_with fail
  go_at_call 45
  refine (indexFunc_any g lb p v l B w HP.out HA.out hB HF.out).mono ?_
  rintro e w1 ⟨rfl, ho⟩
  have HO := Lib.hid ho
  obtain ⟨i, hi⟩ : ∃ i, i = idxI p l := ⟨_, rfl⟩
  rw [← hi]
  have HII := Lib.hid hi
  clear ho hi
  go_wp2
  go_ret
  exact ⟨ret_bool (by rw [← HI.out, ← HII.out]), HO.out⟩

theorem ne_len {l m : List Sp} (h : l.length ≠ m.length) : l ≠ m := fun e => h (by rw [e])
theorem ne_at {l m : List Sp} {k : Nat} {x y : Sp} (hx : l[k]? = some x) (hy : m[k]? = some y) (h : x ≠ y) : l ≠ m := fun e => h (by rw [e, hy] at hx; exact (Option.some.inj hx).symm)
theorem eq_all {l m : List Sp} (hl : l.length = m.length) (h : ∀ (j : Nat) x, j < l.length → l[j]? = some x → m[j]? = some x) : l = m := by
  refine List.ext_getElem? fun j => ?_
  rcases Nat.lt_or_ge j l.length with hj | hj
  · rw [h j _ hj (List.getElem?_eq_getElem hj)]
    exact List.getElem?_eq_getElem hj
  · rw [List.getElem?_eq_none hj, List.getElem?_eq_none (by omega)]
set_option maxHeartbeats 2000000 in
theorem equal_any (va vb : Value) (l m : List Sp) (B B' : Nat) (w : World) (ha : Sl w B 2 va l.length (spc l)) (hb : Sl w B' 2 vb m.length (spc m)) :
    Calls Tryd.prog 40 #[va, vb] w fun e w' => e = .returned (.bool (decide (l = m))) ∧ Only nob w w' := by
  have HA := Lib.hid ha
  have HB := Lib.hid hb
  obtain ⟨A, ca, rfl, hac, ham, -⟩ := ha
  obtain ⟨A', cb, rfl, hbc, hbm, -⟩ := hb
  unfold maxLen at ham hbm
  by_cases hlen : l.length = m.length
  · have HL := Lib.hid hlen
    rw [← hlen] at hbc ⊢
    clear hlen
    go_enter Tryd.func40, Tryd.ntmps40
    go_wp2
    go_loopw [5, 13] (fun _ i wr => ∃ k m' : Nat, k ≤ l.length ∧ i = .int .i64 k ∧ Hid (∀ (j : Nat) x, j < k → l[j]? = some x → m[j]? = some x) ∧ wr = w.drewN m') (fun _ i _ => l.length - (intOf i).toNat)
    case atStart => exact ⟨0, 0, Nat.zero_le _, rfl, fun j _ hj _ => absurd hj (Nat.not_lt_zero j), rfl⟩
    case round =>
      obtain ⟨k, m', hk, rfl, hno, rfl⟩ := hrel
      by_cases hlt : k < l.length
      · obtain ⟨x, hx⟩ : ∃ x, l[k]? = some x := ⟨_, List.getElem?_eq_getElem hlt⟩
        obtain ⟨y, hy⟩ : ∃ y, m[k]? = some y := ⟨_, List.getElem?_eq_getElem (by rw [← HL.out]; exact hlt)⟩
        obtain ⟨b1, o1, rfl, -, c0, c1⟩ := sl_span HA.out (Below.refl _ _) hx
        obtain ⟨b2, o2, rfl, -, d0, d1⟩ := sl_span HB.out (Below.refl _ _) hy
        have HX := Lib.hid hx
        have HY := Lib.hid hy
        clear hx hy
        by_cases h1 : x.1 = y.1
        · by_cases h2 : x.2 = y.2
          · obtain rfl : x = y := Prod.ext h1 h2
            clear h1 h2
            go_wp2
            go_quiet (fail)
            go_wp2
            go_roundw
            case rel =>
              refine ⟨k + 1, _, by omega, by go_num, fun j z hj hz => ?_, rfl⟩
              rcases Nat.lt_or_ge j k with h' | h'
              · exact hno.out j z h' hz
              · obtain rfl : j = k := by omega
                rw [HX.out] at hz
                rw [HY.out]; exact hz
            case measure => simp [intOf]; omega
          · have HN := Lib.hid (decide_eq_false (ne_at HX.out HY.out fun e => h2 (by rw [e])))
            rw [h1] at c0
            go_wp2
            go_quiet (fail)
            go_wp2
            go_ret
            exact ⟨ret_bool (by rw [HN.out]), ((Only.refl _ _).drewN _).drewN _⟩
        · have HN := Lib.hid (decide_eq_false (ne_at HX.out HY.out fun e => h1 (by rw [e])))
          go_wp2
          go_quiet (fail)
          go_wp2
          go_ret
          exact ⟨ret_bool (by rw [HN.out]), ((Only.refl _ _).drewN _).drewN _⟩
      · obtain rfl : k = l.length := by omega
        have HN := Lib.hid (decide_eq_true (eq_all HL.out hno.out))
        go_wp2
        go_ret
        exact ⟨ret_bool (by rw [HN.out]), (Only.refl _ _).drewN _⟩
  · have HN := Lib.hid (decide_eq_false (ne_len hlen))
    have hn1 : ¬ ((l.length : Int) = (m.length : Int)) := by omega
    go_enter Tryd.func40, Tryd.ntmps40
    go_wp2
    go_ret
    exact ⟨ret_bool (by rw [HN.out]), Only.refl _ _⟩
end Go.Proofs.YtoeccbbjncgmlaaDoor

/- Contracts of package slices at spans: Grow and Concat of two, Delete of one. -/
namespace Go.Proofs.YtoeccbbjncgmlaaDoor
set_option maxRecDepth 100000
open Go.RowKit Go.Lib Go.Shelf

set_option maxHeartbeats 2000000 in
theorem grow_none (n : Nat) (w : World) (hn : n ≤ 1000000) :
    Calls Tryd.prog 61 #[.slice none 0 0, .int .i64 n] w fun e w' => ∃ v', e = .returned v' ∧ w'.ownsRow w.heap.size 25 2 v' 0 [] ∧ Only nob w w' := by
  obtain ⟨i0, hi0, hz0, hz1, hz2⟩ := info_parts info_span
  rcases Nat.eq_zero_or_pos n with rfl | h0
  · go_enter Tryd.func61, Tryd.ntmps61
    go_wp2
    go_ret
    exact ⟨_, rfl, World.ownsRow_nil _ _ _ _, Only.refl _ _⟩
  · have hold : (Builtin.firstCells i0.size 0 (.slice none 0 0)).run Tryd.prog w.drew = .ok ([] : List Value).toArray w.drew := run_firstCells_none w.drew i0.size 0 0 0
    have hb : (n + 0) * i0.bytes ≤ 281474976710656 := by rw [hz2]; omega
    have hr := fun ty => Lib.run_append_grow_zeros (P := Tryd.prog) w 31 3 ty 25 i0 _ .i64 .i64 Tryd.underlying31 Tryd.underlying3 hi0 hz0 none 0 0 [] hold n h0 (by rw [hz1]; decide) (by omega) (by omega) (by rw [hz2]; omega)
      (by rw [Nat.zero_add, nextslicecap_zero h0, hz2]; omega)
    have hG := grownCap_ge w (0 + n) 0 25
    have hG2 := grownCap_le_maxLen w (0 + n) 0 25 (by unfold maxLen; omega)
    obtain ⟨G, hGe⟩ : ∃ G, G = grownCap w (0 + n) 0 25 := ⟨_, rfl⟩
    rw [← hGe] at hr hG hG2
    have hG63 : G ≤ 9223372036854775807 := by unfold maxLen at hG2; omega
    obtain ⟨cs, hcs⟩ : ∃ cs : Array Value, cs = ([] : List Value).toArray ++ Builtin.zeroCells (Value.agg #[.int .i64 0, .int .i64 0]).cells n ++ Builtin.zeroCells (Value.agg #[.int .i64 0, .int .i64 0]).cells (G - (0 + n)) := ⟨_, rfl⟩
    rw [← hcs] at hr
    have HS := Lib.hid (show cs.size = G * 2 by rw [hcs]; simp [size_zeroCells, Value.cells]; omega)
    have HM := Lib.hid hG2
    clear hcs hold hb hGe hG hG2 hz0 hz1 hz2 hi0
    rw [Nat.zero_add] at hr
    go_enter Tryd.func61, Tryd.ntmps61
    go_wp2_with (refine Lib.wpList_append_run _ rfl _ _ _ _ rfl _ _ rfl rfl _ _ (hr _) ?_)
    go_ret
    refine ⟨_, rfl, ?_, (((Only.refl nob w).drewN 1).alloc _)⟩
    exact World.ownsRow_made w.drew cs G (Nat.le_refl _) HM.out HS.out

set_option maxHeartbeats 4000000 in
theorem concat_two (v0 v1 : Value) (l m : List Sp) (B gq : Nat) (w : World) (hq : Blk w gq 31 #[v0, v1]) (h0 : Sl w B 2 v0 l.length (spc l)) (h1 : Sl w B 2 v1 m.length (spc m)) (hB : B ≤ w.heap.size) (hl : l.length ≤ 50000) (hm : m.length ≤ 50000) :
    Calls Tryd.prog 30 #[.slice (some ⟨gq, 0, none⟩) 2 2] w fun e w' => ∃ v', e = .returned v' ∧ w'.ownsRow w.heap.size 25 2 v' (l ++ m).length (spc (l ++ m)) ∧ Only nob w w' := by
  obtain ⟨i0, hi0, hz0, hz1, hz2⟩ := info_parts info_span
  have HQ := Lib.hid hq
  have HA := Lib.hid h0
  have HC := Lib.hid h1
  obtain ⟨A0, c0, rfl, hn0, hm0⟩ := h0.form
  obtain ⟨A1, c1, rfl, hn1, hm1⟩ := h1.form
  unfold maxLen at hm0 hm1
  have q0 := hq.cell 0
  have q1 := hq.cell 1
  simp at q0 q1
  clear hq h0 h1
  go_enter Tryd.func30, Tryd.ntmps30
  go_wp2_with fail
  go_loopw [3, 5, 11] (fun s _ i wr => ∃ k n : Nat, i = .int .i64 k ∧ s = .int .i64 n ∧ wr = w ∧ (k = 0 ∧ n = 0 ∨ k = 1 ∧ n = l.length ∨ k = 2 ∧ n = l.length + m.length)) (fun _ _ i _ => 2 - (intOf i).toNat)
  case atStart => exact ⟨0, 0, rfl, rfl, rfl, .inl ⟨rfl, rfl⟩⟩
  case round =>
    obtain ⟨k, n, rfl, rfl, rfl, ⟨rfl, rfl⟩ | ⟨rfl, rfl⟩ | ⟨rfl, rfl⟩⟩ := hrel
    · go_wp2
      go_roundw
      case rel => exact ⟨1, l.length, by go_num, by go_num, trivial, by simp⟩
      case measure => simp [intOf]
    · go_wp2
      go_roundw
      case rel => exact ⟨2, l.length + m.length, by go_num, by go_num, trivial, by simp⟩
      case measure => simp [intOf]
    · obtain ⟨n, hn⟩ : ∃ n, n = l.length + m.length := ⟨_, rfl⟩
      have HN := Lib.hid hn
      have hn2 : n ≤ 100000 := by omega
      rw [← hn]
      clear hn
      go_wp2_with fail
      go_at_call 61
      refine (grow_none n wr (by omega)).mono ?_
      rintro e w1 ⟨v2, rfl, own2, o⟩
      have HO2 := Lib.hid own2
      have O2 := Lib.hid o
      clear own2 o q0 q1
      obtain ⟨wo, rfl⟩ : ∃ wo : World, wo = wr := ⟨_, rfl⟩
      go_wp2_with fail
      go_loopw [6, 8, 27] (fun v _ i wx => ∃ (k : Nat) (L : List Sp), i = .int .i64 k ∧ Hid (wx.ownsRow wo.heap.size 25 2 v L.length (spc L)) ∧ Hid (Only nob wo wx) ∧ (k = 0 ∧ L = [] ∨ k = 1 ∧ L = l ∨ k = 2 ∧ L = l ++ m)) (fun _ _ i _ => 2 - (intOf i).toNat)
      case atStart => exact ⟨0, [], rfl, HO2.out, O2.out, .inl ⟨rfl, rfl⟩⟩
      case round =>
        obtain ⟨k, L, rfl, HX, OX, hk⟩ := hrel
        have q0 := OX.out.keeps (HQ.out.cell 0)
        have q1 := OX.out.keeps (HQ.out.cell 1)
        simp at q0 q1
        obtain ⟨AX, cx, rfl, hx1, hx2⟩ := own_len HX.out
        unfold maxLen at hx2
        have hsx : wo.heap.size ≤ wr.heap.size := OX.out.size
        rcases hk with ⟨rfl, hL⟩ | ⟨rfl, hL⟩ | ⟨rfl, hL⟩
        · have HL := Lib.hid hL
          have HLl := Lib.hid (show L.length = 0 by rw [hL]; rfl)
          clear hL
          go_wp2_with (with_reducible refine wpList_append_sl (o := ⟨some 33, _, _, _, _, _⟩) _ rfl (.tmp 31) (.tmp 32) _ rfl wo.heap.size 25 i0 _ 2 16 Tryd.underlying31 hi0 hz0 hz1 hz2 rfl (by decide) (.slice AX L.length cx) L.length (spc L) rfl ?c1 B (.slice A0 l.length c0) l.length (spc l) rfl ?c6 (spc_one _) ?c2 ?c3 ?c4 ?c5)
          case c1 => exact HX.out
          case c6 => exact HA.out.below (OX.out.below hB fun _ h => h.elim)
          case c2 => have := HLl.out; unfold maxLen; omega
          case c3 => have := HLl.out; omega
          case c4 => exact hsx
          case c5 =>
            intro v1 w2 H2 o2 _
            have O2 := Lib.hid (own_nob OX.out HX.out o2 (Nat.le_refl _))
            have HW := Lib.hid (show w2.ownsRow wo.heap.size 25 2 v1 l.length (spc l) by have := H2.out; rw [HL.out] at this; simpa [spc] using this)
            clear o2 H2 q0 q1
            go_wp2
            go_roundw
            case rel => exact ⟨1, l, by go_num, HW.out, O2.out, by simp⟩
            case measure => simp [intOf]
        · obtain rfl := hL
          go_wp2_with (with_reducible refine wpList_append_sl (o := ⟨some 33, _, _, _, _, _⟩) _ rfl (.tmp 31) (.tmp 32) _ rfl wo.heap.size 25 i0 _ 2 16 Tryd.underlying31 hi0 hz0 hz1 hz2 rfl (by decide) (.slice AX L.length cx) L.length (spc L) rfl ?d1 B (.slice A1 m.length c1) m.length (spc m) rfl ?d6 (spc_one _) ?d2 ?d3 ?d4 ?d5)
          case d1 => exact HX.out
          case d6 => exact HC.out.below (OX.out.below hB fun _ h => h.elim)
          case d2 => unfold maxLen; omega
          case d3 => omega
          case d4 => exact hsx
          case d5 =>
            intro v1 w2 H2 o2 _
            have O2 := Lib.hid (own_nob OX.out HX.out o2 (Nat.le_refl _))
            have HW := Lib.hid (show w2.ownsRow wo.heap.size 25 2 v1 (L ++ m).length (spc (L ++ m)) by have := H2.out; rw [spc_append, List.length_append]; exact this)
            clear o2 H2 q0 q1
            go_wp2
            go_roundw
            case rel => exact ⟨2, L ++ m, by go_num, HW.out, O2.out, by simp⟩
            case measure => simp [intOf]
        · have HL := Lib.hid hL
          clear hL q0 q1
          go_wp2
          go_ret
          exact ⟨_, rfl, HL.out ▸ HX.out, OX.out⟩
end Go.Proofs.YtoeccbbjncgmlaaDoor

/- Contract of slices.Delete at spans: one goes out of a row of the call's own. -/
namespace Go.Proofs.YtoeccbbjncgmlaaDoor
set_option maxRecDepth 100000
open Go.RowKit Go.Lib Go.Shelf

theorem only_setCells (g : Nat) : ∀ (vs : List Value) (o : Nat) (w : World), Only (isb g) w (w.setCells g o vs)
  | [], _, w => Only.refl _ w
  | v :: vs, o, w => (only_set w g o v).trans (only_setCells g vs (o + 1) (w.setCell ⟨g, o, none⟩ v))
theorem splice_cons {α : Type} (L vs : List α) (o : Nat) (v : α) (h : o + (vs.length + 1) ≤ L.length) : splice (L.set o v) (o + 1) vs = splice L o (v :: vs) := by
  have h1 : (L.set o v).take (o + 1) = L.take o ++ [v] := by
    rw [List.take_add_one, List.take_set_of_le (Nat.le_refl _), List.getElem?_set, if_pos rfl, if_pos (by omega)]
    rfl
  have h2 : ∀ k, o < k → (L.set o v).drop k = L.drop k := fun k hk => by rw [List.drop_set_of_lt hk]
  unfold splice
  rw [h1, h2 _ (by omega)]
  simp [Nat.add_assoc, Nat.add_comm 1 vs.length]
theorem Blk.setCells {g : Nat} {t : TypeId} : ∀ (vs : List Value) (o : Nat) {w : World} {cs : Array Value}, Blk w g t cs → o + vs.length ≤ cs.size → Blk (w.setCells g o vs) g t (splice cs.toList o vs).toArray
  | [], o, w, cs, h, _ => by
    show Blk w g t _
    simpa [splice] using h
  | v :: vs, o, w, cs, h, hl => by
    have h1 := Blk.setCells vs (o + 1) (h.put o v) (by simp at hl ⊢; omega)
    have h2 := splice_cons cs.toList vs o v (by simp at hl ⊢; omega)
    rw [Array.toList_setIfInBounds, h2] at h1
    exact h1
/-- The elements behind one place go to the left, the last one becomes 0. -/
theorem splice_erase (l : List Sp) (k : Nat) (cur : List Value) (hk : k < l.length) (hc : cur.take (l.length * 2) = spc l) (z : List Value) :
    (splice (splice cur (k * 2) (spc (l.drop (k + 1)))) ((l.length - 1) * 2) z).take ((l.length - 1) * 2) = spc (l.eraseIdx k) := by
  have hlen : l.length * 2 ≤ cur.length := by
    have h1 := congrArg List.length hc
    rw [List.length_take, spc_len] at h1
    omega
  have hd : (spc (l.drop (k + 1))).length = (l.length - (k + 1)) * 2 := by rw [spc_len, List.length_drop]
  have h1 : ∀ (L : List Value) (o : Nat), o ≤ L.length → (splice L o z).take o = L.take o := fun L o ho => by
    unfold splice
    rw [List.take_append_of_le_length (by rw [List.length_take]; omega), List.take_take, Nat.min_self]
  have hls := splice_len cur (k * 2) (spc (l.drop (k + 1))) (by rw [hd]; omega)
  rw [h1 _ _ (by rw [hls]; omega)]
  unfold splice
  have h2 : cur.take (k * 2) = spc (l.take k) := by
    have := congrArg (List.take (k * 2)) hc
    rw [List.take_take, Nat.min_eq_left (by omega), spc_take] at this
    exact this
  rw [h2, hd, List.take_append, List.take_of_length_le (by rw [spc_len, List.length_take]; omega), spc_len, List.length_take, Nat.min_eq_left (by omega), show (l.length - 1) * 2 - k * 2 = (spc (l.drop (k + 1))).length by rw [hd]; omega, List.take_append_of_le_length (Nat.le_refl _), List.take_length, ← spc_append, erase_at]

/-- 'clear' of one span: its two cells become 0. -/
theorem run_clear_one {P : Program} (w : World) (t e ty : TypeId) (z : Value) (ht : P.underlying t = some (.slice e)) (hv : ∀ w, (zeroValue e).run P w = .ok z w) (x y : Value) (hz : z.cells = #[x, y]) (hx : x.oneCell' = true) (hy : y.oneCell' = true) (b o c : Nat)
    (hc : ∀ j, j < 2 → (w.cell? ⟨b, o + j, none⟩).isSome = true) (hf : ∀ j, j < 2 → w.frozen? ⟨b, o + j, none⟩ = false) :
    (Builtin.clear_ #[t] ty #[.slice (some ⟨b, o, none⟩) 1 c]).run P w = .ok (.tuple #[]) (w.setCells b o [x, y]) := by
  have hzc : (Builtin.zeroCells z.cells 1).toList = [x, y] := by
    rw [hz]; simp [Builtin.zeroCells, Array.range, Array.ofFn]; rfl
  have hst := run_storeCells_cells (P := P) b o [x, y] 0 w (by simpa using hc) (by simpa using hf) (by intro v hv'; simp at hv'; rcases hv' with rfl | rfl <;> assumption)
  rw [Nat.add_zero] at hst
  simp [Builtin.clear_, run_underlying ht, hv, hzc, hst]

set_option maxHeartbeats 4000000 in
theorem delete_any (g cap n k j : Nat) (cur : Array Value) (l : List Sp) (w : World) (hb : Blk w g 25 cur) (hs : cur.size = cap * 2) (hn : l.length = n) (hnc : n ≤ cap) (hcm : cap ≤ maxLen) (hc : cur.toList.take (n * 2) = spc l) (hk : k < n) (hj : j = k + 1) :
    Calls Tryd.prog 47 #[.slice (some ⟨g, 0, none⟩) n cap, .int .i64 k, .int .i64 j] w fun e w' => e = .returned (.slice (some ⟨g, 0, none⟩) (n - 1) cap) ∧ Only (isb g) w w' ∧
      ∃ cur' : Array Value, Blk w' g 25 cur' ∧ cur'.size = cap * 2 ∧ cur'.toList.take ((n - 1) * 2) = spc (l.eraseIdx k) := by
  obtain ⟨i0, hi0, hz0, hz1, hz2⟩ := info_parts info_span
  have hcm' : cap ≤ 9223372036854775807 := by unfold maxLen at hcm; omega
  have hcl : cur.toList.length = cap * 2 := by simpa using hs
  obtain ⟨news, hnews⟩ : ∃ news, news = spc (l.drop (k + 1)) := ⟨_, rfl⟩
  have hlen : news.length = (n - j) * 2 := by rw [hnews, spc_len, List.length_drop]; omega
  have hsrc : ∀ t u, news[t]? = some u → w.cell? ⟨g, j * 2 + t, none⟩ = some u := by
    intro t u hu
    rw [hb.cell, ← Array.getElem?_toList]
    rw [hnews, ← spc_drop, List.getElem?_drop, ← hc, List.getElem?_take] at hu
    split at hu
    · rw [hj]; exact hu
    · cases hu
  obtain ⟨A, hA, hAs⟩ : ∃ A : Addr, cutv (some ⟨g, 0, none⟩) j n cap 2 = .slice (some A) (n - j) (cap - j) ∧ Hid (∀ t u, news[t]? = some u → w.drew.cell? (A.add t) = some u) := by
    by_cases h : cap = j
    · refine ⟨⟨g, 0, none⟩, by unfold cutv; rw [if_pos h], fun t u hu => ?_⟩
      have h0 : news.length = 0 := by rw [hlen]; omega
      rw [List.length_eq_zero_iff.1 h0] at hu
      simp at hu
    · refine ⟨⟨g, j * 2, none⟩, by unfold cutv; rw [if_neg h]; show Value.slice (some (Addr.add _ _)) _ _ = _; rw [Addr.add_lit, Nat.zero_add], fun t u hu => ?_⟩
      rw [Addr.add_lit]
      exact hsrc t u hu
  have s3 : Hid (∀ t, t < news.length → (w.drew.cell? ⟨g, 0 + k * 2 + t, none⟩).isSome = true ∧ w.drew.frozen? ⟨g, 0 + k * 2 + t, none⟩ = false) := by
    intro t ht
    rw [hlen] at ht
    have h1 : Blk w.drew g 25 cur := hb
    rw [h1.cell, h1.free, Array.getElem?_eq_getElem (by omega)]
    exact ⟨rfl, rfl⟩
  have s1 : Hid (news.length = (n - j) * i0.size) := by rw [hz1]; exact hlen
  have s2 : Hid (∀ u ∈ news, u.oneCell' = true) := by rw [hnews]; exact spc_one _
  obtain ⟨W1, hW1⟩ : ∃ W1, W1 = w.drew.setCells g (0 + k * 2) news := ⟨_, rfl⟩
  have B1 : Blk W1 g 25 (splice cur.toList (k * 2) news).toArray := by
    rw [hW1, Nat.zero_add]
    exact Blk.setCells news (k * 2) (show Blk w.drew g _ cur from hb) (by rw [hlen]; omega)
  have hsz1 : (splice cur.toList (k * 2) news).toArray.size = cap * 2 := by
    rw [List.size_toArray, splice_len _ _ _ (by rw [hlen]; omega), hcl]
  have O1 : Only (isb g) w W1 := by rw [hW1]; exact (((Only.refl (isb g) w).drewN 1)).trans (only_setCells g news _ w.drew)
  obtain ⟨W2, hW2⟩ : ∃ W2, W2 = W1.setCells g ((n - 1) * 2) [.int .i64 0, .int .i64 0] := ⟨_, rfl⟩
  have B2 : Hid (Blk W2 g 25 (splice (splice cur.toList (k * 2) news) ((n - 1) * 2) [.int .i64 0, .int .i64 0]).toArray) := by
    rw [hW2]
    have := Blk.setCells [.int .i64 0, .int .i64 0] ((n - 1) * 2) B1 (by rw [hsz1]; simp; omega)
    refine Lib.hid ?_
    simpa using this
  have O2 : Hid (Only (isb g) w W2) := by rw [hW2]; exact O1.trans (only_setCells g _ _ _)
  have E2 : Hid ((splice (splice cur.toList (k * 2) news) ((n - 1) * 2) [.int .i64 0, .int .i64 0]).toArray.toList.take ((n - 1) * 2) = spc (l.eraseIdx k)) := by
    have := splice_erase l k cur.toList (by omega) (by rw [hn]; exact hc) [.int .i64 0, .int .i64 0]
    rw [hn, ← hnews] at this
    refine Lib.hid ?_
    simpa using this
  have Z2 : Hid ((splice (splice cur.toList (k * 2) news) ((n - 1) * 2) [.int .i64 0, .int .i64 0]).toArray.size = cap * 2) := by
    have h1 : (splice cur.toList (k * 2) news).length = cap * 2 := by simpa using hsz1
    refine Lib.hid ?_
    rw [List.size_toArray, splice_len _ _ _ (by rw [h1]; simp; omega), h1]
  have hclr : ∀ ty, (Builtin.clear_ #[31] ty #[.slice (some ⟨g, (n - 1) * 2, none⟩) 1 (cap - (n - 1))]).run Tryd.prog W1 = .ok (.tuple #[]) W2 := fun ty => by
    rw [hW2]
    refine run_clear_one W1 _ 25 ty (.agg #[.int .i64 0, .int .i64 0]) Tryd.underlying31 (fun w => by simp [zeroValue, typeInfo, hi0, hz0]) _ _ rfl rfl rfl g _ _ (fun q hq => ?_) (fun q _ => B1.free _)
    rw [B1.cell, Array.getElem?_eq_getElem (by rw [hsz1]; omega)]
    rfl
  have hcut1 := run_cut_h Tryd.underlying31 hi0 (some ⟨g, 0, none⟩) n cap k (by omega)
  have hcut2 := run_cut_l Tryd.underlying31 hi0 (some ⟨g, 0, none⟩) n cap j (by omega)
  have hcut3 := run_cut_lh Tryd.underlying31 hi0 (some ⟨g, 0, none⟩) (n - 1) cap (n - 1) n (by omega) hnc
  rw [hz1] at hcut1 hcut2 hcut3
  rw [hA] at hcut2
  rw [show cutv (some ⟨g, 0, none⟩) 0 k cap 2 = .slice (some ⟨g, 0, none⟩) k cap by unfold cutv; split <;> simp [Addr.add]] at hcut1
  rw [show cutv (some ⟨g, 0, none⟩) (n - 1) n cap 2 = .slice (some ⟨g, (n - 1) * 2, none⟩) 1 (cap - (n - 1)) by unfold cutv; rw [if_neg (by omega), show n - (n - 1) = 1 by omega]; show Value.slice (some (Addr.add _ _)) _ _ = _; rw [Addr.add_lit, Nat.zero_add]] at hcut3
  have HW1 := Lib.hid hW1
  clear hW1 hW2 B1 hsz1 O1 hsrc hlen hnews hc hcl hs hA hb hn
  have hjc : j ≤ cap := by omega
  have hjn : j ≤ n := by omega
  have hkj : k ≤ j := by omega
  have hne : ¬ ((k : Int) = (j : Int)) := by omega
  have hm : k + (n - j) = n - 1 := by omega
  clear hj
  have mixed : Tryd.prog.follows .mixedOrders = true := by kernel_rfl
  go_enter Tryd.func47, Tryd.ntmps47
  go_wp2_with fail
  go_region_law_o (refine step_append_room rfl (.tmp 22) (.tmp 25) 31 rfl 25 i0 2 Tryd.underlying31 hi0 hz1 g 0 k cap (by simp [Act.eval, Act.put]) A (n - j) (cap - j) news (by simp [Act.eval, Act.put]) (by rw [← hz1]; exact s1.out) hAs.out s2.out (by omega) s3.out ?_; rw [← HW1.out])
  go_wp2
  go_ret
  exact ⟨rfl, O2.out, _, B2.out, Z2.out, E2.out⟩
end Go.Proofs.YtoeccbbjncgmlaaDoor
