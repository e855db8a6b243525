/- The walk of ArenaMakes. -/
import Derived.Test.YtdaopgcfddlimaaAwake02
namespace Go.Proofs.Ytdaopgcfddlimaa
open Go.RowKit

/-- Integers as cells of words. -/
def zcells (zs : List Int) : List Value := zs.map (Value.int .u64)
def asInts (l : List Nat) : List Int := l.map fun (x : Nat) => (x : Int)
theorem zcells_u64s (l : List Nat) : u64s l = zcells (asInts l) := by simp [u64s, zcells, asInts]
theorem asInts_len (l : List Nat) : (asInts l).length = l.length := by simp [asInts]
/-- Integer k of a list. -/
def zd (zs : List Int) (k : Nat) : Int := zs.getD k 0
theorem zcells_get (zs : List Int) (k : Nat) (h : k < zs.length) : (zcells zs)[k]? = some (.int .u64 (zd zs k)) := by simp [zcells, zd, h]
theorem zcells_set (zs : List Int) (k : Nat) (z : Int) : (zcells zs).set k (.int .u64 z) = zcells (zs.set k z) := by simp [zcells, List.map_set]

set_option maxRecDepth 100000 in
set_option maxHeartbeats 1000000 in
theorem arenaMakes_small (n : Nat) (v : Value) (l : List Nat) (w : World) (hn : n ≤ 98304) (h : Sl w w.heap.size 1 v l.length (u64s l)) (hw : Words l) (hl : l.length ≤ 200) :
    Calls Try.prog 4 #[.int .i64 n, v] w fun e w' => e = .returned (.bool true) ∧ Below w.heap.size w w' := by
  obtain ⟨i0, hi0, hz0, hz1, hz2⟩ := info_parts info_u64
  have HA := Lib.hid h
  obtain ⟨A, ca, rfl, hac, ham, -⟩ := h
  unfold maxLen at ham
  go_enter Try.func4, Try.ntmps4
  go_wp2_with fail
  go_at_call 17
  refine (new_any n _ hn).mono ?_
  rintro e w1 ⟨b0, g0, rfl, -, -, hR, o1⟩
  have H0 := Lib.hid hR
  have O1 := Lib.hid o1
  have hlen : (List.replicate n 0).length = n := by simp
  have HL := Lib.hid hlen
  clear hR o1 hlen
  go_wp2_with (first
    | (go_at_call 16; refine (len_ar b0 g0 _ _ H0.out).mono ?_; rw [HL.out]; rintro e w' ⟨rfl, rfl⟩)
    | (with_reducible refine wpList_append_sl (o := ⟨some 59, _, _, _, _, _⟩) _ rfl (.tmp 57) (.tmp 58) _ rfl w1.heap.size 29 i0 _ 1 8 Try.underlying22 hi0 hz0 hz1 hz2 rfl (by decide) (.slice (some ⟨w1.heap.size, 0, none⟩) 0 0) 0 [] rfl ?c1 w.heap.size (.slice A l.length ca) l.length (u64s l) rfl ?c6 (u64s_one l) ?c2 ?c3 ?c4 ?c5))
  case c1 => exact lit_own w1 _ _
  case c6 => exact (HA.out.below O1.out.whole).below ((Below.refl _ _).alloc O1.out.size _)
  case c2 => unfold maxLen; omega
  case c3 => omega
  case c4 => simp
  case c5 =>
    intro v2 w2 H1 o2 hv2
    have o3 := lit_only o2
    have HO := Lib.hid (show w2.ownsRow w1.heap.size 29 1 v2 l.length (u64s l) by simpa using H1.out)
    obtain ⟨A1, c1, rfl, -, -⟩ := own_len HO.out
    have O2 := Lib.hid (O1.out.trans o3)
    clear H1 o2 o3 hv2
    go_wp2_with fail
    go_at_call 7
    refine (of_any _ l _ ((Sl.of_own HO.out HO.out.1)) (by omega) hw).mono ?_
    rintro e w3 ⟨b, g, rfl, hb, hg, hR, o3⟩
    have HB := Lib.hid hR
    have O3 := Lib.hid (O2.out.trans o3)
    have HO3 := Lib.hid (own_only HO.out o3 fun _ _ => id)
    have HK := Lib.hid (fun k => own_lt HO.out (k := k))
    clear hR o3
    go_wp2_with fail
    go_loopw [10] (fun i wr => ∃ (k : Nat) (zs : List Int), k ≤ l.length ∧ zs.length = l.length ∧ i = .int .i64 k ∧ wr.ownsRow w1.heap.size 29 1 (.slice A1 l.length c1) l.length (zcells zs) ∧ Ar wr b g l ∧ Only nob w wr) (fun i _ => l.length - (intOf i).toNat)
    case atStart => exact ⟨0, asInts l, Nat.zero_le _, asInts_len l, rfl, by rw [← zcells_u64s]; exact HO3.out, HB.out, O3.out⟩
    case round =>
      obtain ⟨k, zs, hk, hzs, rfl, hown, hR, hO⟩ := hrel
      have HX := Lib.hid hO
      have HZ := Lib.hid hzs
      have HR := Lib.hid hR
      by_cases hlt : k < l.length
      · obtain ⟨q, c3, e2, -, -, hq⟩ := own_form hown (by omega)
        obtain ⟨rfl, rfl⟩ : A1 = some ⟨q, 0, none⟩ ∧ c1 = c3 := by simpa using e2
        have hq2 := HK.out q rfl
        have g1 : wr.cell? ⟨q, k, none⟩ = some (.int .u64 (zd zs k)) := by
          rw [hown.cellAt k (by omega)]; exact zcells_get zs k (by omega)
        have g2 := hown.frozenAt k
        have HN := Lib.hid (hown.stored k)
        have HO1 := O1.out.size
        clear e2 hown hO hzs hR
        go_wp2
        go_roundw
        case rel =>
          refine ⟨k + 1, zs.set k (IntKind.u64.wrap (zd zs k + 1)), by omega, by simpa using HZ.out, by go_num, ?_, HR.out.keep (only_set _ _ _ _) ?_ ?_, HX.out.andThen (only_set _ _ _ _) ?_⟩
          · have := (HN.out (.int .u64 (IntKind.u64.wrap (zd zs k + 1)))).1
            rw [zcells_set] at this
            exact this
          · unfold isb; omega
          · unfold isb; omega
          · intro i hi e; unfold isb at e; omega
        case measure => simp [intOf]; omega
      · obtain rfl : k = l.length := by omega
        clear hown hO hzs hR
        obtain ⟨wo, rfl⟩ : ∃ wo : World, wo = wr := ⟨_, rfl⟩
        go_wp2_with fail
        go_at_call 15
        refine (words_ar b g l _ HR.out).mono ?_
        rintro e w4 ⟨g', rfl, hg', hB, o4⟩
        have HT := Lib.hid hB
        have HS4 := Lib.hid (HA.out.below (HX.out.trans o4).whole)
        have HR4 := Lib.hid (HR.out.keep o4 id id)
        have O4 := Lib.hid (HX.out.trans o4)
        have hbg : b < wo.heap.size ∧ g < wo.heap.size := ⟨HR.out.head.lt, HR.out.row.lt⟩
        have HST := Lib.hid (Sl.of_blk (size := 1) (n := l.length) (c := l.length) hB (by simp [u64s_len]) (Nat.le_refl _) (by unfold maxLen; omega))
        clear hB o4
        go_wp2_with fail
        go_at_call 14
        refine (same_any _ _ l _ _ _ HST.out HS4.out).mono ?_
        rintro e w5 ⟨rfl, m, rfl⟩
        go_wp2_with fail
        have hwr := HX.out.size
        go_loopw [12] (fun i wx => ∃ (k : Nat) (zs : List Int), k ≤ l.length ∧ zs.length = l.length ∧ i = .int .i64 k ∧ Blk wx g' 29 (zcells zs).toArray ∧ Ar wx b g l ∧ Only nob w wx) (fun i _ => l.length - (intOf i).toNat)
        case atStart => exact ⟨0, asInts l, Nat.zero_le _, asInts_len l, rfl, by rw [← zcells_u64s]; exact HT.out.drewN _, HR4.out.drewN _, O4.out.drewN _⟩
        case round =>
          obtain ⟨k, zs, hk, hzs, rfl, hown, hR, hO⟩ := hrel
          have HX := Lib.hid hO
          have HZ := Lib.hid hzs
          have HR := Lib.hid hR
          by_cases hlt : k < l.length
          · have g1 : wr.cell? ⟨g', k, none⟩ = some (.int .u64 (zd zs k)) := by
              rw [hown.cell]; simpa using zcells_get zs k (by omega)
            have g2 := hown.free k
            have HN := Lib.hid (hown.put k)
            clear hown hO hzs hR
            go_wp2
            go_roundw
            case rel =>
              refine ⟨k + 1, zs.set k (IntKind.u64.wrap (zd zs k + 1)), by omega, by simpa using HZ.out, by go_num, ?_, HR.out.keep (only_set _ _ _ _) ?_ ?_, HX.out.andThen (only_set _ _ _ _) ?_⟩
              · have := HN.out (.int .u64 (IntKind.u64.wrap (zd zs k + 1)))
                rw [List.setIfInBounds_toArray, zcells_set] at this
                exact this
              · unfold isb; omega
              · unfold isb; omega
              · intro i hi e; unfold isb at e; omega
            case measure => simp [intOf]; omega
          · obtain rfl : k = l.length := by omega
            clear hown hO hzs hR
            go_wp2_with fail
            go_at_call 15
            refine (words_ar b g l _ HR.out).mono ?_
            rintro e w4 ⟨g3, rfl, hg', hB, o4⟩
            have HS5 := Lib.hid (HA.out.below (HX.out.trans o4).whole)
            have O5 := Lib.hid (HX.out.trans o4)
            have HST2 := Lib.hid (Sl.of_blk (size := 1) (n := l.length) (c := l.length) hB (by simp [u64s_len]) (Nat.le_refl _) (by unfold maxLen; omega))
            clear hB o4
            go_wp2_with fail
            go_at_call 14
            refine (same_any _ _ l _ _ _ HST2.out HS5.out).mono ?_
            rintro e w5 ⟨rfl, m, rfl⟩
            go_wp2_with fail
            go_at_call 6
            refine (awake_any _).mono ?_
            rintro e w6 ⟨rfl, ho⟩
            have HO2 := Lib.hid ((O5.out.drewN _).trans ho)
            clear ho
            go_wp2
            go_ret
            exact ⟨rfl, HO2.out.whole⟩

set_option maxRecDepth 100000 in
set_option maxHeartbeats 400000 in
theorem arenaMakes_no (n : Int) (v : Value) (w : World) (hn : n < 0 ∨ 98304 < n) :
    Calls Try.prog 4 #[.int .i64 n, v] w fun e w' => e = .returned (.bool true) ∧ Below w.heap.size w w' := by
  rcases hn with hn | hn
  all_goals
    have hn' : n < 0 ∨ 98304 < n := by omega
    go_enter Try.func4, Try.ntmps4
    go_wp2_with fail
    go_at_call 17
    refine (new_no n _ hn').mono ?_
    rintro e w1 ⟨rfl, rfl⟩
    go_wp2_with fail
    go_at_call 6
    refine (awake_any _).mono ?_
    rintro e w6 ⟨rfl, ho⟩
    have HO2 := Lib.hid ho
    clear ho
    go_wp2
    go_ret
    exact ⟨rfl, HO2.out.whole⟩

set_option maxRecDepth 100000 in
set_option maxHeartbeats 400000 in
theorem arenaMakes_big (n : Nat) (A : Option Addr) (len c : Nat) (w : World) (hn : n ≤ 98304) (hl : 200 < len) :
    Calls Try.prog 4 #[.int .i64 n, .slice A len c] w fun e w' => e = .returned (.bool true) ∧ Below w.heap.size w w' := by
  go_enter Try.func4, Try.ntmps4
  go_wp2_with fail
  go_at_call 17
  refine (new_any n _ hn).mono ?_
  rintro e w1 ⟨b0, g0, rfl, -, -, hR, o1⟩
  have H0 := Lib.hid hR
  have O1 := Lib.hid o1
  have hlen : (List.replicate n 0).length = n := by simp
  have HL := Lib.hid hlen
  clear hR o1 hlen
  go_wp2_with (first
    | (go_at_call 16; refine (len_ar b0 g0 _ _ H0.out).mono ?_; rw [HL.out]; rintro e w' ⟨rfl, rfl⟩))
  go_at_call 6
  refine (awake_any _).mono ?_
  rintro e w6 ⟨rfl, ho⟩
  have HO2 := Lib.hid (O1.out.trans ho)
  clear ho
  go_wp2
  go_ret
  exact ⟨rfl, HO2.out.whole⟩

theorem arenaMakes_walk (a : Int) (v : Value) (l : List Nat) (w : World) (h : Sl w w.heap.size 1 v l.length (u64s l)) (hw : Words l) :
    Calls Try.prog 4 #[.int .i64 a, v] w fun e w' => e = .returned (.bool true) ∧ Below w.heap.size w w' := by
  by_cases hn : a < 0 ∨ 98304 < a
  · exact arenaMakes_no a v w hn
  · obtain ⟨n, rfl⟩ : ∃ n : Nat, a = n := ⟨a.toNat, by omega⟩
    by_cases hl : l.length ≤ 200
    · exact arenaMakes_small n v l w (by omega) h hw hl
    · obtain ⟨A, c, rfl, -⟩ := h
      exact arenaMakes_big n A _ c w (by omega) (by omega)
end Go.Proofs.Ytdaopgcfddlimaa
