/- Contracts of package span: withWords, first, add. -/
import Derived.Test.YtmlpppcdammelaaSpanJ
import Derived.Test.YtmlpppcdammelaaTail
import Derived.Test.YtmlpppcdammelaaSpanMerge
namespace Go.Proofs.Ytmlpppcdammelaa
open Go.RowKit Go.Sort

/-- Those of l that may be. -/
def okL (l : List Sp) : List Sp := l.filter fun x => decide x.ok
theorem okL_yes {l : List Sp} {k : Nat} {x : Sp} (h : l[k]? = some x) (hx : x.ok) : okL (l.take (k + 1)) = okL (l.take k) ++ [x] := by
  rw [take_snoc_get h]; unfold okL; rw [List.filter_append]; simp [hx]
theorem okL_no {l : List Sp} {k : Nat} {x : Sp} (h : l[k]? = some x) (hx : ¬ x.ok) : okL (l.take (k + 1)) = okL (l.take k) := by
  rw [take_snoc_get h]; unfold okL; rw [List.filter_append]; simp [hx]
theorem okL_len (l : List Sp) : (okL l).length ≤ l.length := List.length_filter_le _ _
theorem okL_ok {l : List Sp} : ∀ x ∈ okL l, Sp.ok x := fun x hx => by simpa using (List.mem_filter.1 hx).2
theorem okL_cov (l : List Sp) (p : Int) : cov (okL l) p ↔ cov l p :=
  ⟨fun ⟨x, hx, hp⟩ => ⟨x, (List.mem_filter.1 hx).1, hp⟩, fun ⟨x, hx, hp⟩ => ⟨x, List.mem_filter.2 ⟨hx, by simpa using hp.1⟩, hp⟩⟩

set_option maxHeartbeats 2000000 in
theorem withWords_any (v : Value) (l : List Sp) (B : Nat) (w : World) (h : Sl w B 2 v l.length (spc l)) (hB : B ≤ w.heap.size) (hlen : l.length ≤ 40000) (hf : Fits l) :
    Calls Try.prog 32 #[v] w fun e w' => ∃ v', e = .returned v' ∧ w'.ownsRow w.heap.size 27 2 v' (okL l).length (spc (okL l)) ∧ Only nob w w' := by
  obtain ⟨i0, hi0, hz0, hz1, hz2⟩ := info_parts info_span
  have HA := Lib.hid h
  obtain ⟨A, ca, rfl, hac, ham, -⟩ := h
  unfold maxLen at ham
  go_enter Try.func32, Try.ntmps32
  go_wp2_with fail
  go_loopw [3, 8] (fun n i wr => ∃ k : Nat, k ≤ l.length ∧ i = .int .i64 k ∧ Hid (wr.ownsRow w.heap.size 27 2 n (okL (l.take k)).length (spc (okL (l.take k)))) ∧ Only nob w wr) (fun _ i _ => l.length - (intOf i).toNat)
  case atStart => exact ⟨0, Nat.zero_le _, rfl, World.ownsRow_nil _ _ _ _, Only.refl _ _⟩
  case round =>
    obtain ⟨k, hk, rfl, HW, hO⟩ := hrel
    have HX := Lib.hid hO
    by_cases hlt : k < l.length
    · obtain ⟨x, hx⟩ : ∃ x, l[k]? = some x := ⟨_, List.getElem?_eq_getElem hlt⟩
      obtain ⟨b, o, rfl, hb, c0, c1⟩ := sl_span HA.out (hO.below hB fun _ h => h.elim) hx
      have HXX := Lib.hid hx
      have hfx := hf.get hx
      have hkl : (okL (l.take k)).length ≤ 40000 := by have := okL_len (l.take k); have := List.length_take_le k l; omega
      have hws : w.heap.size ≤ wr.heap.size := hO.size
      clear hO hx
      by_cases hp : x.ok
      · have HP := Lib.hid hp
        have HE := Lib.hid (okL_yes HXX.out hp)
        clear hp
        go_wp2_with fail
        refine (may_yes HP.out _).mono ?_
        rintro e w1 ⟨rfl, g⟩
        have HB := Lib.hid ((BoxAt.new wr x).grw g)
        have HO := Lib.hid ((HX.out.alloc _).trans g.only)
        have HW1 := Lib.hid (own_only (HW.out.alloc (.cells #[.int .i64 x.1, .int .i64 x.2] 27)) g.only fun _ _ h => h)
        have hw1 : w.heap.size ≤ w1.heap.size := HO.out.size
        clear g
        obtain ⟨b0, b1⟩ := HB.out
        obtain ⟨K, hK⟩ : ∃ K, K = okL (l.take k) := ⟨_, rfl⟩
        rw [← hK] at HW1 HE hkl
        obtain ⟨n, hn⟩ : ∃ n, n = K.length := ⟨_, rfl⟩
        rw [← hn] at HW1 hkl
        have HN := Lib.hid hn
        obtain ⟨A1, c1', rfl, hc1, hm1⟩ := own_len HW1.out
        unfold maxLen at hm1
        clear hK hn HW
        go_wp2_with (with_reducible refine wpList_append_sl (o := ⟨some 17, _, _, _, _, _⟩) _ rfl (.tmp 14) (.tmp 16) _ rfl w.heap.size 27 i0 _ 2 16 Try.underlying34 hi0 hz0 hz1 hz2 rfl (by decide) (.slice A1 n c1') n (spc K) rfl ?d1 (w1.heap.size + 1) (.slice (some ⟨w1.heap.size, 0, none⟩) 1 1) 1 (spc [x]) rfl ?d6 (spc_one _) ?d2 ?d3 ?d4 ?d5)
        case d1 => exact HW1.out.alloc _
        case d6 =>
          have := Sl.of_blk (size := 2) (n := 1) (c := 1) (Blk.new w1 27 #[.int .i64 x.1, .int .i64 x.2]) rfl (Nat.le_refl _) (by decide)
          simpa [spc] using this
        case d2 => unfold maxLen; omega
        case d3 => omega
        case d4 => simp; omega
        case d5 =>
          intro v1 w2 H1 o1 _
          have HO2 := Lib.hid (own_nob (HO.out.alloc (.cells #[.int .i64 x.1, .int .i64 x.2] 27)) (HW1.out.alloc (.cells #[.int .i64 x.1, .int .i64 x.2] 27)) o1 (Nat.le_refl _))
          have HW2 := Lib.hid (show w2.ownsRow w.heap.size 27 2 v1 (okL (l.take (k + 1))).length (spc (okL (l.take (k + 1)))) by
            rw [HE.out, spc_append, List.length_append, ← HN.out]
            exact H1.out)
          clear H1 o1
          go_wp2
          go_roundw
          case rel => exact ⟨k + 1, by omega, by go_num, HW2, HO2.out⟩
          case measure => simp [intOf]; omega
      · have HP := Lib.hid hp
        have HE := Lib.hid (okL_no HXX.out hp)
        clear hp
        go_wp2_with fail
        refine (may_no hfx HP.out _).mono ?_
        rintro e w1 ⟨rfl, g⟩
        have HO := Lib.hid ((HX.out.alloc _).trans g.only)
        have HW1 := Lib.hid (own_only (HW.out.alloc (.cells #[.int .i64 x.1, .int .i64 x.2] 27)) g.only fun _ _ h => h)
        clear g
        go_wp2
        go_roundw
        case rel => exact ⟨k + 1, by omega, by go_num, by rw [HE.out]; exact HW1, HO.out⟩
        case measure => simp [intOf]; omega
    · obtain rfl : k = l.length := by omega
      have HE := Lib.hid (show l.take l.length = l from List.take_length)
      clear hO
      go_wp2
      go_ret
      exact ⟨_, rfl, by have := HW.out; rwa [HE.out] at this, HX.out⟩

/-- add: one span more, if it has words. -/
def addL (O : List Sp) (a b : Int) : List Sp := if a < b then O ++ [(a, b - a)] else O
end Go.Proofs.Ytmlpppcdammelaa
