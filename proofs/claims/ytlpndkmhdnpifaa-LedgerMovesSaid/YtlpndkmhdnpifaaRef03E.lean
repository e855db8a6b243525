/- Contracts of the document's own answers for spans: put, ends. -/
import Derived.Test.YtlpndkmhdnpifaaRef03D
namespace Go.Proofs.Ytlpndkmhdnpifaa

open Go.RowKit

set_option maxHeartbeats 2000000 in
theorem refPut_any (v : Value) (L : List Sp) (x y : Int) (B : Nat) (w : World) (h : w.ownsRow B 24 2 v L.length (spc L)) (hB : B ≤ w.heap.size) (hn : L.length ≤ 1000000) (hL : ∀ z ∈ L, Sp.ok z) (hx : 0 ≤ x ∧ x ≤ 1099511627776) (hy : 0 ≤ y ∧ y ≤ 1099511627776) :
    Calls Try.prog 59 #[v, .int .i64 x, .int .i64 y] w fun e w' => ∃ v', e = .returned v' ∧ w'.ownsRow B 24 2 v' (putL L x y).length (spc (putL L x y)) ∧ Only (fun k => v.ownBlock = some k) w w' := by
  obtain ⟨i0, hi0, hz0, hz1, hz2⟩ := info_parts info_span
  rcases last_cases L with rfl | ⟨p, z, rfl⟩
  · have HW := Lib.hid h
    obtain ⟨A, c, rfl, hc, hm⟩ := own_len h
    unfold maxLen at hm
    have hd : decide (0 < 0) = false := rfl
    clear h hd
    go_enter Try.func59, Try.ntmps59
    go_wp2_with fail
    go_quiet (fail)
    go_wp2_with (with_reducible refine wpList_append_sl (o := ⟨some 50, _, _, _, _, _⟩) _ rfl (.tmp 43) (.tmp 49) _ rfl B 24 i0 _ 2 16 Try.underlying22 hi0 hz0 hz1 hz2 rfl (by decide) (.slice A 0 c) 0 [] rfl ?c1 (w.heap.size + 1) (.slice (some ⟨w.heap.size, 0, none⟩) 1 1) 1 (spc [(x, y - x)]) rfl ?c6 (spc_one _) ?c2 ?c3 ?c4 ?c5)
    case c1 => exact (HW.out : w.ownsRow B _ 2 _ 0 []).alloc _
    case c6 =>
      have := Sl.of_blk (size := 2) (n := 1) (c := 1) (Blk.new (w.drewN nq) 24 #[.int .i64 x, .int .i64 (y - x)]) rfl (Nat.le_refl _) (by decide)
      simpa [spc] using this
    case c2 => unfold maxLen; omega
    case c3 => omega
    case c4 => simp; omega
    case c5 =>
      intro v1 w1 H1 o1 _
      have HO := Lib.hid ((((Only.refl (fun k => (Value.slice A 0 c).ownBlock = some k) w).drewN nq).alloc _).trans o1)
      have HW1 := Lib.hid (show w1.ownsRow B 24 2 v1 (putL [] x y).length (spc (putL [] x y)) from H1.out)
      clear H1 o1
      go_wp2
      go_ret
      exact ⟨_, rfl, HW1.out, HO.out⟩
  · have HW := Lib.hid h
    have hz := hL z (by simp)
    have hzb : 0 ≤ z.1 ∧ z.1 ≤ 1099511627776 ∧ 1 ≤ z.2 ∧ z.2 ≤ 1099511627776 := by unfold Sp.ok most at hz; omega
    have hlen : (p ++ [z]).length = p.length + 1 := by simp
    have HLEN := Lib.hid hlen
    obtain ⟨g, c, rfl, hc, hm, hg⟩ := own_form h (by omega)
    unfold maxLen at hm
    obtain ⟨q0, q1⟩ := spc_at (l := p ++ [z]) (k := p.length) (x := z) (by simp)
    have d0 : w.cell? ⟨g, p.length * 2, none⟩ = some (.int .i64 z.1) := (h.cellAt _ (by omega)).trans q0
    have d1 : w.cell? ⟨g, p.length * 2 + 1, none⟩ = some (.int .i64 z.2) := (h.cellAt _ (by omega)).trans q1
    have f1 := h.frozenAt (p.length * 2 + 1)
    have hst := h.stored (p.length * 2 + 1) (.int .i64 (y - z.1))
    rw [spc_set2 p z (z.1, y - z.1) rfl] at hst
    have HST := Lib.hid hst
    obtain ⟨n, hn1⟩ : ∃ n, n = (p ++ [z]).length := ⟨_, rfl⟩
    have hn0 : 0 < n := by omega
    have hnp : n - 1 = p.length := by omega
    rw [← hn1] at HW HST hc hn ⊢
    rw [← hnp] at d0 d1 f1 HST
    have HNP := Lib.hid hnp
    have HN1 := Lib.hid hn1
    have hdn : decide (0 < n) = true := by simpa using hn0
    clear h hst q0 q1 hL hz hlen hn1 hnp
    by_cases hj : z.1 + z.2 = x
    · have hj' : (z.1 + z.2 == x) = true := by simpa using hj
      have HP := Lib.hid (putL_join p z x y hj)
      clear hj
      go_enter Try.func59, Try.ntmps59
      go_wp2_with fail
      go_quiet (fail)
      go_wp2
      go_ret
      refine ⟨_, rfl, ?_, ?_⟩
      · rw [HP.out, show (p ++ [(z.1, y - z.1)]).length = n by rw [HN1.out]; simp]
        exact own_heap HST.out.1 rfl
      · exact ((Only.refl (fun k => (Value.slice (some (⟨g, 0, none⟩ : Addr)) n c).ownBlock = some k) w).drewN nq).setCell (p := ⟨g, (n - 1) * 2 + 1, none⟩) (fun _ => show some g = some g from rfl) _
    · have hj' : (z.1 + z.2 == x) = false := by simpa using hj
      have HP := Lib.hid (putL_more p z x y hj)
      clear hj
      go_enter Try.func59, Try.ntmps59
      go_wp2_with fail
      go_quiet (fail)
      go_wp2_with (with_reducible refine wpList_append_sl (o := ⟨some 50, _, _, _, _, _⟩) _ rfl (.tmp 43) (.tmp 49) _ rfl B 24 i0 _ 2 16 Try.underlying22 hi0 hz0 hz1 hz2 rfl (by decide) (.slice (some ⟨g, 0, none⟩) n c) n (spc (p ++ [z])) rfl ?d1 (w.heap.size + 1) (.slice (some ⟨w.heap.size, 0, none⟩) 1 1) 1 (spc [(x, y - x)]) rfl ?d6 (spc_one _) ?d2 ?d3 ?d4 ?d5)
      case d1 => exact HW.out.alloc _
      case d6 =>
        have := Sl.of_blk (size := 2) (n := 1) (c := 1) (Blk.new (w.drewN nq) 24 #[.int .i64 x, .int .i64 (y - x)]) rfl (Nat.le_refl _) (by decide)
        simpa [spc] using this
      case d2 => unfold maxLen; omega
      case d3 => omega
      case d4 => simp; omega
      case d5 =>
        intro v1 w1 H1 o1 _
        have HO := Lib.hid ((((Only.refl (fun k => (Value.slice (some (⟨g, 0, none⟩ : Addr)) n c).ownBlock = some k) w).drewN nq).alloc _).trans o1)
        have HW1 := Lib.hid (show w1.ownsRow B 24 2 v1 (putL (p ++ [z]) x y).length (spc (putL (p ++ [z]) x y)) by
          rw [HP.out, spc_append, List.length_append, ← HN1.out]
          exact H1.out)
        clear H1 o1
        go_wp2
        go_ret
        exact ⟨_, rfl, HW1.out, HO.out⟩

end Go.Proofs.Ytlpndkmhdnpifaa
