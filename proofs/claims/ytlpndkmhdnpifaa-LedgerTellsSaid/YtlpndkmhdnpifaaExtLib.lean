/- Contracts of package slices at spans: Grow and Concat of two, Delete of one. -/
import Derived.Test.YtlpndkmhdnpifaaExtSl
import Derived.Lib.AppendZerosOnto
import Derived.Lib.SliceRun
import Derived.Deep.RegionLaw
import Derived.Shelf.RegionOpenPlain
import Derived.WalkKit
namespace Go.Proofs.Ytlpndkmhdnpifaa
set_option maxRecDepth 100000
open Go.RowKit Go.Lib Go.Shelf

set_option maxHeartbeats 2000000 in
theorem grow_none (n : Nat) (w : World) (hn : n ≤ 1000000) :
    Calls Try.prog 61 #[.slice none 0 0, .int .i64 n] w fun e w' => ∃ v', e = .returned v' ∧ w'.ownsRow w.heap.size 24 2 v' 0 [] ∧ Only nob w w' := by
  obtain ⟨i0, hi0, hz0, hz1, hz2⟩ := info_parts info_span
  rcases Nat.eq_zero_or_pos n with rfl | h0
  · go_enter Try.func61, Try.ntmps61
    go_wp2
    go_ret
    exact ⟨_, rfl, World.ownsRow_nil _ _ _ _, Only.refl _ _⟩
  · have hold : (Builtin.firstCells i0.size 0 (.slice none 0 0)).run Try.prog w.drew = .ok ([] : List Value).toArray w.drew := run_firstCells_none w.drew i0.size 0 0 0
    have hb : (n + 0) * i0.bytes ≤ 281474976710656 := by rw [hz2]; omega
    have hr := fun ty => Lib.run_append_grow_zeros (P := Try.prog) w 22 3 ty 24 i0 _ .i64 .i64 Try.underlying22 Try.underlying3 hi0 hz0 none 0 0 [] hold n h0 (by rw [hz1]; decide) (by omega) (by omega) (by rw [hz2]; omega)
      (by rw [Nat.zero_add, nextslicecap_zero h0, hz2]; omega)
    have hG := grownCap_ge w (0 + n) 0 24
    have hG2 := grownCap_le_maxLen w (0 + n) 0 24 (by unfold maxLen; omega)
    obtain ⟨G, hGe⟩ : ∃ G, G = grownCap w (0 + n) 0 24 := ⟨_, rfl⟩
    rw [← hGe] at hr hG hG2
    have hG63 : G ≤ 9223372036854775807 := by unfold maxLen at hG2; omega
    obtain ⟨cs, hcs⟩ : ∃ cs : Array Value, cs = ([] : List Value).toArray ++ Builtin.zeroCells (Value.agg #[.int .i64 0, .int .i64 0]).cells n ++ Builtin.zeroCells (Value.agg #[.int .i64 0, .int .i64 0]).cells (G - (0 + n)) := ⟨_, rfl⟩
    rw [← hcs] at hr
    have HS := Lib.hid (show cs.size = G * 2 by rw [hcs]; simp [size_zeroCells, Value.cells]; omega)
    have HM := Lib.hid hG2
    clear hcs hold hb hGe hG hG2 hz0 hz1 hz2 hi0
    rw [Nat.zero_add] at hr
    go_enter Try.func61, Try.ntmps61
    go_wp2_with (refine Lib.wpList_append_run _ rfl _ _ _ _ rfl _ _ rfl rfl _ _ (hr _) ?_)
    go_ret
    refine ⟨_, rfl, ?_, (((Only.refl nob w).drewN 1).alloc _)⟩
    exact World.ownsRow_made w.drew cs G (Nat.le_refl _) HM.out HS.out

set_option maxHeartbeats 4000000 in
theorem concat_two (v0 v1 : Value) (l m : List Sp) (B gq : Nat) (w : World) (hq : Blk w gq 22 #[v0, v1]) (h0 : Sl w B 2 v0 l.length (spc l)) (h1 : Sl w B 2 v1 m.length (spc m)) (hB : B ≤ w.heap.size) (hl : l.length ≤ 50000) (hm : m.length ≤ 50000) :
    Calls Try.prog 48 #[.slice (some ⟨gq, 0, none⟩) 2 2] w fun e w' => ∃ v', e = .returned v' ∧ w'.ownsRow w.heap.size 24 2 v' (l ++ m).length (spc (l ++ m)) ∧ Only nob w w' := by
  obtain ⟨i0, hi0, hz0, hz1, hz2⟩ := info_parts info_span
  have HQ := Lib.hid hq
  have HA := Lib.hid h0
  have HC := Lib.hid h1
  obtain ⟨A0, c0, rfl, hn0, hm0⟩ := h0.form
  obtain ⟨A1, c1, rfl, hn1, hm1⟩ := h1.form
  unfold maxLen at hm0 hm1
  have q0 := hq.cell 0
  have q1 := hq.cell 1
  simp at q0 q1
  clear hq h0 h1
  go_enter Try.func48, Try.ntmps48
  go_wp2_with fail
  go_loopw [3, 5, 11] (fun s _ i wr => ∃ k n : Nat, i = .int .i64 k ∧ s = .int .i64 n ∧ wr = w ∧ (k = 0 ∧ n = 0 ∨ k = 1 ∧ n = l.length ∨ k = 2 ∧ n = l.length + m.length)) (fun _ _ i _ => 2 - (intOf i).toNat)
  case atStart => exact ⟨0, 0, rfl, rfl, rfl, .inl ⟨rfl, rfl⟩⟩
  case round =>
    obtain ⟨k, n, rfl, rfl, rfl, ⟨rfl, rfl⟩ | ⟨rfl, rfl⟩ | ⟨rfl, rfl⟩⟩ := hrel
    · go_wp2
      go_roundw
      case rel => exact ⟨1, l.length, by go_num, by go_num, trivial, by simp⟩
      case measure => simp [intOf]
    · go_wp2
      go_roundw
      case rel => exact ⟨2, l.length + m.length, by go_num, by go_num, trivial, by simp⟩
      case measure => simp [intOf]
    · obtain ⟨n, hn⟩ : ∃ n, n = l.length + m.length := ⟨_, rfl⟩
      have HN := Lib.hid hn
      have hn2 : n ≤ 100000 := by omega
      rw [← hn]
      clear hn
      go_wp2_with fail
      go_at_call 61
      refine (grow_none n wr (by omega)).mono ?_
      rintro e w1 ⟨v2, rfl, own2, o⟩
      have HO2 := Lib.hid own2
      have O2 := Lib.hid o
      clear own2 o q0 q1
      obtain ⟨wo, rfl⟩ : ∃ wo : World, wo = wr := ⟨_, rfl⟩
      go_wp2_with fail
      go_loopw [6, 8, 27] (fun v _ i wx => ∃ (k : Nat) (L : List Sp), i = .int .i64 k ∧ Hid (wx.ownsRow wo.heap.size 24 2 v L.length (spc L)) ∧ Hid (Only nob wo wx) ∧ (k = 0 ∧ L = [] ∨ k = 1 ∧ L = l ∨ k = 2 ∧ L = l ++ m)) (fun _ _ i _ => 2 - (intOf i).toNat)
      case atStart => exact ⟨0, [], rfl, HO2.out, O2.out, .inl ⟨rfl, rfl⟩⟩
      case round =>
        obtain ⟨k, L, rfl, HX, OX, hk⟩ := hrel
        have q0 := OX.out.keeps (HQ.out.cell 0)
        have q1 := OX.out.keeps (HQ.out.cell 1)
        simp at q0 q1
        obtain ⟨AX, cx, rfl, hx1, hx2⟩ := own_len HX.out
        unfold maxLen at hx2
        have hsx : wo.heap.size ≤ wr.heap.size := OX.out.size
        rcases hk with ⟨rfl, hL⟩ | ⟨rfl, hL⟩ | ⟨rfl, hL⟩
        · have HL := Lib.hid hL
          have HLl := Lib.hid (show L.length = 0 by rw [hL]; rfl)
          clear hL
          go_wp2_with (with_reducible refine wpList_append_sl (o := ⟨some 33, _, _, _, _, _⟩) _ rfl (.tmp 31) (.tmp 32) _ rfl wo.heap.size 24 i0 _ 2 16 Try.underlying22 hi0 hz0 hz1 hz2 rfl (by decide) (.slice AX L.length cx) L.length (spc L) rfl ?c1 B (.slice A0 l.length c0) l.length (spc l) rfl ?c6 (spc_one _) ?c2 ?c3 ?c4 ?c5)
          case c1 => exact HX.out
          case c6 => exact HA.out.below (OX.out.below hB fun _ h => h.elim)
          case c2 => have := HLl.out; unfold maxLen; omega
          case c3 => have := HLl.out; omega
          case c4 => exact hsx
          case c5 =>
            intro v1 w2 H2 o2 _
            have O2 := Lib.hid (own_nob OX.out HX.out o2 (Nat.le_refl _))
            have HW := Lib.hid (show w2.ownsRow wo.heap.size 24 2 v1 l.length (spc l) by have := H2.out; rw [HL.out] at this; simpa [spc] using this)
            clear o2 H2 q0 q1
            go_wp2
            go_roundw
            case rel => exact ⟨1, l, by go_num, HW.out, O2.out, by simp⟩
            case measure => simp [intOf]
        · obtain rfl := hL
          go_wp2_with (with_reducible refine wpList_append_sl (o := ⟨some 33, _, _, _, _, _⟩) _ rfl (.tmp 31) (.tmp 32) _ rfl wo.heap.size 24 i0 _ 2 16 Try.underlying22 hi0 hz0 hz1 hz2 rfl (by decide) (.slice AX L.length cx) L.length (spc L) rfl ?d1 B (.slice A1 m.length c1) m.length (spc m) rfl ?d6 (spc_one _) ?d2 ?d3 ?d4 ?d5)
          case d1 => exact HX.out
          case d6 => exact HC.out.below (OX.out.below hB fun _ h => h.elim)
          case d2 => unfold maxLen; omega
          case d3 => omega
          case d4 => exact hsx
          case d5 =>
            intro v1 w2 H2 o2 _
            have O2 := Lib.hid (own_nob OX.out HX.out o2 (Nat.le_refl _))
            have HW := Lib.hid (show w2.ownsRow wo.heap.size 24 2 v1 (L ++ m).length (spc (L ++ m)) by have := H2.out; rw [spc_append, List.length_append]; exact this)
            clear o2 H2 q0 q1
            go_wp2
            go_roundw
            case rel => exact ⟨2, L ++ m, by go_num, HW.out, O2.out, by simp⟩
            case measure => simp [intOf]
        · have HL := Lib.hid hL
          clear hL q0 q1
          go_wp2
          go_ret
          exact ⟨_, rfl, HL.out ▸ HX.out, OX.out⟩
end Go.Proofs.Ytlpndkmhdnpifaa
