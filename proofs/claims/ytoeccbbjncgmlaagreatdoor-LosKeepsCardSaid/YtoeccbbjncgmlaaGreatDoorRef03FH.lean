/- Contracts of the document's own answers for spans: ends. -/
import Derived.Test.YtoeccbbjncgmlaaGreatDoorRef03CE
import Derived.Test.YtoeccbbjncgmlaaGreatDoorInts
import Derived.Deep.RegionHeld3
import Derived.IntWalk
import Derived.Deep.RegionWith
import Derived.Deep.DrawnRows
namespace Go.Proofs.YtoeccbbjncgmlaaGreatDoor
set_option maxRecDepth 100000
open Go.RowKit

/-- Where the spans of a list begin and end, each as a span of no words. -/
def marks : List Sp → List Sp
  | [] => []
  | x :: l => (if x.ok then [(x.1, 0), (x.1 + x.2, 0)] else []) ++ marks l
theorem marks_append (l m : List Sp) : marks (l ++ m) = marks l ++ marks m := by
  induction l with
  | nil => rfl
  | cons x l ih => simp only [List.cons_append, marks, ih, List.append_assoc]
theorem marks_len (l : List Sp) : (marks l).length ≤ 2 * l.length := by
  induction l with
  | nil => simp [marks]
  | cons x l ih =>
    simp only [marks, List.length_append, List.length_cons]
    split <;> simp <;> omega
theorem marks_mem (l : List Sp) (p : Int) : (∃ y ∈ marks l, y.1 = p) ↔ ∃ x ∈ l, Sp.ok x ∧ (p = x.1 ∨ p = x.1 + x.2) := by
  induction l with
  | nil => simp [marks]
  | cons x l ih =>
    simp only [marks, List.mem_append, or_and_right, exists_or, ih, List.mem_cons, exists_eq_left]
    refine or_congr ?_ Iff.rfl
    by_cases hx : x.ok
    · simp [hx, eq_comm]
    · simp [hx]
theorem marks_yes {l : List Sp} {k : Nat} {x : Sp} (h : l[k]? = some x) (hx : x.ok) : marks (l.take (k + 1)) = marks (l.take k) ++ [(x.1, 0), (x.1 + x.2, 0)] := by
  rw [take_snoc_get h, marks_append]; simp [marks, hx]
theorem marks_none {l : List Sp} {k : Nat} {x : Sp} (h : l[k]? = some x) (hx : ¬ x.ok) : marks (l.take (k + 1)) = marks (l.take k) := by
  rw [take_snoc_get h, marks_append]; simp [marks, hx]

/-- The places of the first i spans of a sorted list, rising, each once. -/
def Places (L : List Sp) (i : Nat) (E : List Int) : Prop := Rising E ∧ (∀ v, v ∈ E ↔ ∃ y ∈ L.take i, y.1 = v) ∧ E.length ≤ i
theorem places_more {L : List Sp} {i : Nat} {E : List Int} {y : Sp} (h : Places L i E) (hs : Sorted L) (hy : L[i]? = some y) (hn : i = 0 ∨ ∃ z, L[i - 1]? = some z ∧ y.1 ≠ z.1) : Places L (i + 1) (E ++ [y.1]) := by
  obtain ⟨h1, h2, h3⟩ := h
  refine ⟨?_, fun v => ?_, by simp; omega⟩
  · unfold Rising
    rw [List.pairwise_append]
    refine ⟨h1, List.pairwise_singleton _ _, fun a ha b hb => ?_⟩
    obtain rfl := List.mem_singleton.1 hb
    obtain ⟨q, hq, rfl⟩ := (h2 a).1 ha
    obtain ⟨j, hj, rfl⟩ := List.getElem_of_mem hq
    simp only [List.length_take] at hj
    rw [List.getElem_take]
    obtain ⟨hi, rfl⟩ := List.getElem?_eq_some_iff.1 hy
    rcases hn with rfl | ⟨z, hz, hne⟩
    · omega
    · obtain ⟨hi1, rfl⟩ := List.getElem?_eq_some_iff.1 hz
      have ha1 : Sp.le (L[j]'(by omega)) (L[i-1]'hi1) := by
        rcases Nat.lt_or_ge j (i - 1) with hlt | hge
        · exact List.pairwise_iff_getElem.1 hs j (i - 1) _ _ hlt
        · obtain rfl : j = i - 1 := by omega
          unfold Sp.le; omega
      have ha2 : Sp.le (L[i-1]'hi1) (L[i]'hi) := List.pairwise_iff_getElem.1 hs (i - 1) i _ _ (by omega)
      unfold Sp.le at ha1 ha2
      omega
  · rw [take_snoc_get hy, List.mem_append, List.mem_singleton, h2]
    simp only [List.mem_append, List.mem_singleton, or_and_right, exists_or, exists_eq_left]
    exact or_congr Iff.rfl eq_comm
theorem places_same {L : List Sp} {i : Nat} {E : List Int} {y z : Sp} (h : Places L i E) (hy : L[i]? = some y) (hi : 0 < i) (hz : L[i - 1]? = some z) (he : y.1 = z.1) : Places L (i + 1) E := by
  obtain ⟨h1, h2, h3⟩ := h
  refine ⟨h1, fun v => ?_, by omega⟩
  rw [h2, take_snoc_get hy]
  simp only [List.mem_append, List.mem_singleton, or_and_right, exists_or, exists_eq_left]
  constructor
  · exact .inl
  · rintro (h | rfl)
    · exact h
    · refine ⟨z, ?_, he.symm⟩
      obtain ⟨hz1, rfl⟩ := List.getElem?_eq_some_iff.1 hz
      rw [List.mem_take_iff_getElem]
      exact ⟨i - 1, by omega, rfl⟩

/-- The ends of some spans: all places at which one begins or ends, rising, each once. -/
def EndsOf (l : List Sp) (E : List Int) : Prop := Rising E ∧ (∀ v, v ∈ E ↔ ∃ x ∈ l, Sp.ok x ∧ (v = x.1 ∨ v = x.1 + x.2)) ∧ E.length ≤ 2 * l.length
theorem ends_of {l L : List Sp} {E : List Int} (hL : SortedOf (marks l) (marks l).length L) (h : Places L L.length E) : EndsOf l E := by
  have hm := marks_len l
  have hlen := hL.len (Nat.le_refl _)
  have hp := hL.2
  rw [List.take_length] at hp
  refine ⟨h.1, fun v => ?_, by have := h.2.2; omega⟩
  rw [h.2.1, List.take_length, ← marks_mem]
  exact ⟨fun ⟨y, hy, e⟩ => ⟨y, hp.mem_iff.1 hy, e⟩, fun ⟨y, hy, e⟩ => ⟨y, hp.mem_iff.2 hy, e⟩⟩

set_option maxHeartbeats 4000000 in
theorem refEnds_any (v : Value) (l : List Sp) (B : Nat) (w : World) (h : Sl w B 2 v l.length (spc l)) (hB : B ≤ w.heap.size) (hl : l.length ≤ 40000) :
    Calls Tryz.prog 76 #[v] w fun e w' => ∃ v' E, e = .returned v' ∧ EndsOf l E ∧ w'.ownsRow w.heap.size 3 1 v' E.length (i64s E) ∧ Only nob w w' := by
  obtain ⟨i0, hi0, hz0, hz1, hz2⟩ := info_parts info_span
  obtain ⟨j0, hj0, hy0, hy1, hy2⟩ := info_parts info_int
  have HA := Lib.hid h
  obtain ⟨A, ca, rfl, hac, ham, -⟩ := h
  unfold maxLen at ham
  go_enter Tryz.func76, Tryz.ntmps76
  go_wp2_with fail
  go_loopw [3, 4] (fun s i wr => ∃ (k : Nat), k ≤ l.length ∧ i = .int .i64 k ∧ wr.ownsRow w.heap.size 30 2 s (marks (l.take k)).length (spc (marks (l.take k))) ∧ Only nob w wr) (fun _ i _ => l.length - (intOf i).toNat)
  case atStart => exact ⟨0, Nat.zero_le _, rfl, World.ownsRow_nil _ _ _ _, Only.refl _ _⟩
  case round =>
    obtain ⟨k, hk, rfl, hown, hO⟩ := hrel
    have HX := Lib.hid hO
    have HW := Lib.hid hown
    obtain ⟨A1, c1, rfl, hc1, hm1⟩ := own_len hown
    unfold maxLen at hm1
    have hml : (marks (l.take k)).length ≤ 2 * k := Nat.le_trans (marks_len _) (by simp; omega)
    obtain ⟨M, hM⟩ : ∃ M, M = marks (l.take k) := ⟨_, rfl⟩
    rw [← hM] at HW hc1 hml ⊢
    have HM := Lib.hid hM
    clear hO hown hM
    by_cases hlt : k < l.length
    · obtain ⟨x, hx⟩ : ∃ x, l[k]? = some x := ⟨_, List.getElem?_eq_getElem hlt⟩
      obtain ⟨b, o, rfl, hb, c0, c1'⟩ := sl_span HA.out (HX.out.below hB fun _ h => h.elim) hx
      have HXX := Lib.hid hx
      clear hx
      by_cases hp : x.ok
      · have HP := Lib.hid (decide_eq_true hp)
        have hxb : 0 ≤ x.1 ∧ x.1 ≤ 1099511627776 ∧ 1 ≤ x.2 ∧ x.2 ≤ 1099511627776 := by unfold Sp.ok most at hp; omega
        have HE := Lib.hid (marks_yes HXX.out hp)
        clear hp
        go_wp2_with fail
        refine (refMay03_any x _).mono ?_
        rw [HP.out]
        rintro e w1 ⟨rfl, ho⟩
        have HO := Lib.hid (HX.out.trans ho)
        have HW1 := Lib.hid (own_only HW.out ho fun _ _ => id)
        obtain ⟨b3, o3, e3, -, d0, d1⟩ := sl_span HA.out (HO.out.below hB fun _ h => h.elim) HXX.out
        obtain ⟨rfl, rfl⟩ : b3 = b ∧ o3 = o := by simpa using e3.symm
        clear ho c0 c1' e3
        go_wp2_with fail
        have hsum : IntKind.i64.wrap (x.1 + x.2) = x.1 + x.2 := IntWalk.i64_in _ (by omega)
        have hi1 : (0 : Int) ≤ (k : Int) := by omega
        have hi2 : (k : Int) < (l.length : Int) := by omega
        have hsl : ∀ w' : World, w'.heap = (w1.alloc (.cells #[.int .i64 x.1, .int .i64 0, .int .i64 (x.1 + x.2), .int .i64 0] 30)).heap → Sl w' (w1.heap.size + 1) 2 (.slice (some ⟨w1.heap.size, 0, none⟩) 2 2) 2 (spc [(x.1, 0), (x.1 + x.2, 0)]) := by
          intro w' e
          have := Sl.of_blk (size := 2) (n := 2) (c := 2) (Blk.new w1 30 #[.int .i64 x.1, .int .i64 0, .int .i64 (x.1 + x.2), .int .i64 0]) rfl (Nat.le_refl _) (by decide)
          exact Sl.heap (by simpa [spc] using this) e
        have HSL := Lib.hid hsl
        have hfar : ∀ w' w3 : World, w'.heap = (w1.alloc (.cells #[.int .i64 x.1, .int .i64 0, .int .i64 (x.1 + x.2), .int .i64 0] 30)).heap → Only (fun k => (Value.slice A1 M.length c1).ownBlock = some k) w' w3 →
            w3.cell? ⟨b3, o3 + k * 2, none⟩ = some (.int .i64 x.1) ∧ w3.cell? ⟨b3, o3 + k * 2 + 1, none⟩ = some (.int .i64 x.2) := by
          intro w' w3 e q
          have hlt : b3 < w1.heap.size := by have := HO.out.size; omega
          have hk' : ∀ j, w'.cell? ⟨b3, j, none⟩ = w1.cell? ⟨b3, j, none⟩ := fun j => by
            rw [show w'.cell? ⟨b3, j, none⟩ = (w1.alloc (.cells #[.int .i64 x.1, .int .i64 0, .int .i64 (x.1 + x.2), .int .i64 0] 30)).cell? ⟨b3, j, none⟩ by simp only [World.cell?, e]]
            exact World.cell?_alloc_lt _ _ _ hlt
          have hf : ∀ j, w3.cell? ⟨b3, j, none⟩ = w1.cell? ⟨b3, j, none⟩ := fun j => (q.cell (p := ⟨b3, j, none⟩) (by show b3 < w'.heap.size; rw [e]; simp; omega) (fun he => by have h1 : w.heap.size ≤ b3 := (own_lt HW1.out he).1; omega)).trans (hk' j)
          exact ⟨(hf _).trans d0, (hf _).trans d1⟩
        have HFAR := Lib.hid hfar
        clear hsl hfar
        go_region_held3 (fun w' => w'.cell? ⟨b3, o3 + k * 2, none⟩ = some (.int .i64 x.1) ∧ w'.cell? ⟨b3, o3 + k * 2 + 1, none⟩ = some (.int .i64 x.2)) (first | go_keep | exact HFAR.out _ _ (by rfl) q3)
          ((refine step_append_sl _ (by rfl) _ _ _ (by rfl) w.heap.size 30 i0 _ 2 16 Tryz.underlying34 hi0 hz0 hz1 hz2 (by rfl) (by decide) (.slice A1 M.length c1) M.length (spc M) (by rfl) (own_heap (HW1.out.alloc (.cells #[.int .i64 x.1, .int .i64 0, .int .i64 (x.1 + x.2), .int .i64 0] 30)) rfl) (w1.heap.size + 1) (.slice (some ⟨w1.heap.size, 0, none⟩) 2 2) 2 (spc [(x.1, 0), (x.1 + x.2, 0)]) (by rfl) (HSL.out _ rfl) (spc_one _) (by unfold maxLen; omega) (by omega) (by simp; have := HO.out.size; omega) ?_; intro v3 w3 H3 q3 _))
        have HO3 := Lib.hid (own_nob ((HO.out.alloc (.cells #[.int .i64 x.1, .int .i64 0, .int .i64 (x.1 + x.2), .int .i64 0] 30)).drewN 1) (own_heap (HW1.out.alloc (.cells #[.int .i64 x.1, .int .i64 0, .int .i64 (x.1 + x.2), .int .i64 0] 30)) rfl) q3 (Nat.le_refl _))
        have HW3 := Lib.hid (show w3.ownsRow w.heap.size 30 2 v3 (marks (l.take (k + 1))).length (spc (marks (l.take (k + 1)))) by
          rw [HE.out, ← HM.out, spc_append, List.length_append]
          exact H3.out)
        clear H3 q3
        go_wp2
        go_roundw
        case rel => exact ⟨k + 1, by omega, by go_num, HW3.out, HO3.out⟩
        case measure => simp [intOf]; omega
      · have HP := Lib.hid (decide_eq_false hp)
        have HE := Lib.hid (marks_none HXX.out hp)
        clear hp
        go_wp2_with fail
        refine (refMay03_any x _).mono ?_
        rw [HP.out]
        rintro e w1 ⟨rfl, ho⟩
        have HO := Lib.hid (HX.out.trans ho)
        have HW1 := Lib.hid (own_only HW.out ho fun _ _ => id)
        clear ho
        go_wp2
        go_roundw
        case rel => exact ⟨k + 1, by omega, by go_num, by rw [HE.out, ← HM.out]; exact HW1.out, HO.out⟩
        case measure => simp [intOf]; omega
    · obtain rfl : k = l.length := by omega
      have HMM := Lib.hid (show M = marks l by rw [HM.out, List.take_length])
      have HSL := Lib.hid (Sl.of_own HW.out HW.out.1)
      obtain ⟨wo, rfl⟩ : ∃ wo : World, wo = wr := ⟨_, rfl⟩
      go_wp2_with fail
      go_at_call 91
      refine (refSort_any _ M _ _ HSL.out (Nat.le_refl _) (by omega)).mono ?_
      rintro e w1 ⟨v1, L, rfl, hS, hW, ho⟩
      have HS := Lib.hid hS
      have hLn : L.length ≤ 80000 := by have := hS.len (Nat.le_refl _); omega
      have HW1 := Lib.hid hW
      have HSL1 := Lib.hid (Sl.of_own hW hW.1)
      have HO1 := Lib.hid (HX.out.trans ho)
      obtain ⟨A2, c2, rfl, hc2, hm2⟩ := own_len hW
      unfold maxLen at hm2
      clear hS hW ho
      go_wp2_with fail
      go_loopw [5, 6] (fun s i wr => ∃ (k : Nat) (E : List Int), k ≤ L.length ∧ i = .int .i64 k ∧ Places L k E ∧ wr.ownsRow w1.heap.size 3 1 s E.length (i64s E) ∧ Only nob w1 wr) (fun _ i _ => L.length - (intOf i).toNat)
      case atStart => exact ⟨0, [], Nat.zero_le _, rfl, ⟨List.Pairwise.nil, by simp, Nat.le_refl _⟩, World.ownsRow_nil _ _ _ _, Only.refl _ _⟩
      case round =>
        obtain ⟨i, E, hi, rfl, hE, hown, hO⟩ := hrel
        have HY := Lib.hid hO
        have HE := Lib.hid hE
        have HWE := Lib.hid hown
        have hEl := hE.2.2
        obtain ⟨A3, c3, rfl, hc3, hm3⟩ := own_len hown
        unfold maxLen at hm3
        clear hO hE hown
        by_cases hlt : i < L.length
        · obtain ⟨y, hy⟩ : ∃ y, L[i]? = some y := ⟨_, List.getElem?_eq_getElem hlt⟩
          obtain ⟨b, o, rfl, hb, d0, d1⟩ := sl_span HSL1.out (HY.out.whole) hy
          have HYY := Lib.hid hy
          clear hy
          go_upto_region 12 with fail
          go_cut [62] (fun s wx => ∃ (f : Bool) (m : Nat), s = .bool f ∧ wx = wr.drewN m ∧ (f = true → Hid (i = 0 ∨ ∃ z : Sp, L[i - 1]? = some z ∧ y.1 ≠ z.1)) ∧ (f = false → Hid (0 < i ∧ ∃ z : Sp, L[i - 1]? = some z ∧ y.1 = z.1)))
          case first =>
            rcases Nat.eq_zero_or_pos i with h0 | hpos
            · have hd : (i == 0) = true := by simpa using h0
              go_quiet (fail)
              go_wp2_with fail
              go_meet
              exact ⟨true, _, rfl, rfl, fun _ => .inl h0, fun h => by cases h⟩
            · have hd : (i == 0) = false := by simp; omega
              obtain ⟨z, hz⟩ : ∃ z, L[i - 1]? = some z := ⟨_, List.getElem?_eq_getElem (by omega)⟩
              obtain ⟨b4, o4, e4, -, g0, g1⟩ := sl_span HSL1.out (HY.out.whole) hz
              obtain ⟨rfl, rfl⟩ : b4 = b ∧ o4 = o := by simpa using e4.symm
              have HZ := Lib.hid hz
              have hdi : ((i : Int) == 0) = false := by simp; omega
              have q1 : (0 : Int) ≤ (i : Int) - 1 := by omega
              have q2 : (i : Int) - 1 < (L.length : Int) := by omega
              have q3 : IntKind.i64.wrap ((i : Int) - 1) = (i : Int) - 1 := IntWalk.i64_in _ (by omega)
              have q4 : ((i : Int) - 1).toNat = i - 1 := by omega
              clear hz e4 d1 g1
              by_cases he : y.1 = z.1
              · have he1 : (y.1 == z.1) = true := by simpa using he
                have he2 : (y.1 != z.1) = false := by simpa using he
                have HEQ := Lib.hid he
                clear he
                go_quiet (fail)
                go_wp2_with fail
                go_meet
                exact ⟨false, _, rfl, rfl, (fun h => by cases h), fun _ => ⟨hpos, z, HZ.out, HEQ.out⟩⟩
              · have he1 : (y.1 == z.1) = false := by simpa using he
                have he2 : (y.1 != z.1) = true := by simpa using he
                have HEQ := Lib.hid he
                clear he
                go_quiet (fail)
                go_wp2_with fail
                go_meet
                exact ⟨true, _, rfl, rfl, (fun _ => .inr ⟨z, HZ.out, HEQ.out⟩), fun h => by cases h⟩
          case rest =>
            obtain ⟨f, m, rfl, rfl, h1, h2⟩ := hcut
            cases f
            · have HN := h2 rfl
              have HP2 := Lib.hid (let ⟨hp, z, hz, he⟩ := HN.out; places_same HE.out HYY.out hp hz he)
              clear h1 h2 d0 d1
              go_wp2
              go_roundw
              case rel => exact ⟨i + 1, E, by omega, by go_num, HP2.out, own_heap HWE.out rfl, HY.out.drewN m⟩
              case measure => simp [intOf]; omega
            · have HN := h1 rfl
              have HP2 := Lib.hid (places_more HE.out HS.out.1 HYY.out HN.out)
              have hs1 : w1.heap.size ≤ wr.heap.size := HY.out.size
              clear h1 h2 d1
              go_wp2_with (with_reducible refine wpList_append_sl (o := ⟨some 70, _, _, _, _, _⟩) _ rfl (.tmp 63) (.tmp 69) _ rfl w1.heap.size 3 j0 _ 1 8 Tryz.underlying23 hj0 hy0 hy1 hy2 rfl (by decide) (.slice A3 E.length c3) E.length (i64s E) rfl ?d1 (wr.heap.size + 1) (.slice (some ⟨wr.heap.size, 0, none⟩) 1 1) 1 (i64s [y.1]) rfl ?d6 (i64s_one _) ?d2 ?d3 ?d4 ?d5)
              case d1 => exact own_heap (HWE.out.alloc (.cells #[.int .i64 y.1] 3)) rfl
              case d6 =>
                have := Sl.of_blk (size := 1) (n := 1) (c := 1) (Blk.new wr 3 #[.int .i64 y.1]) rfl (Nat.le_refl _) (by decide)
                have h2 : Sl (wr.alloc (.cells #[.int .i64 y.1] 3)) (wr.heap.size + 1) 1 (.slice (some ⟨wr.heap.size, 0, none⟩) 1 1) 1 (i64s [y.1]) := by simpa [i64s] using this
                exact h2.heap rfl
              case d2 => unfold maxLen; omega
              case d3 => omega
              case d4 => simp; omega
              case d5 =>
                intro v3 w3 H3 o3 _
                have HO3 := Lib.hid (own_nob ((HY.out.drewN m).alloc (.cells #[.int .i64 y.1] 3)) (own_heap (HWE.out.alloc (.cells #[.int .i64 y.1] 3)) rfl) o3 (Nat.le_refl _))
                have HW3 := Lib.hid (show w3.ownsRow w1.heap.size 3 1 v3 (E ++ [y.1]).length (i64s (E ++ [y.1])) by
                  rw [i64s_snoc, List.length_append]
                  exact H3.out)
                clear H3 o3
                go_wp2
                go_roundw
                case rel => exact ⟨i + 1, E ++ [y.1], by omega, by go_num, HP2.out, HW3.out, HO3.out⟩
                case measure => simp [intOf]; omega
        · obtain rfl : i = L.length := by omega
          have HF := Lib.hid (ends_of (l := l) (L := L) (E := E) (by rw [← HMM.out]; exact HS.out) HE.out)
          go_wp2
          go_ret
          exact ⟨_, E, rfl, HF.out, own_more HWE.out (fun q hq => Nat.le_trans HO1.out.size (own_lt HWE.out hq).1), HO1.out.trans HY.out⟩
end Go.Proofs.YtoeccbbjncgmlaaGreatDoor

/- Contracts of the document's own answers for spans: Join. -/
namespace Go.Proofs.YtoeccbbjncgmlaaGreatDoor
set_option maxRecDepth 100000
open Go.RowKit

theorem ends_range {l : List Sp} {E : List Int} (h : EndsOf l E) {i : Nat} {v : Int} (hv : E[i]? = some v) : 0 ≤ v ∧ v ≤ most := by
  obtain ⟨x, _, hx, rfl | rfl⟩ := (h.2.1 v).1 (List.mem_of_getElem? hv)
  · unfold Sp.ok most at *; omega
  · unfold Sp.ok most at *; omega
theorem rising_lt {E : List Int} (h : Rising E) {i : Nat} {a b : Int} (ha : E[i]? = some a) (hb : E[i + 1]? = some b) : a < b := by
  obtain ⟨h1, rfl⟩ := List.getElem?_eq_some_iff.1 ha
  obtain ⟨h2, rfl⟩ := List.getElem?_eq_some_iff.1 hb
  exact List.pairwise_iff_getElem.1 h i (i + 1) h1 h2 (by omega)
/-- Between two ends there is none. -/
theorem rising_gap {E : List Int} (h : Rising E) {i : Nat} {a b v : Int} (ha : E[i]? = some a) (hb : E[i + 1]? = some b) (hv : v ∈ E) : v ≤ a ∨ b ≤ v := by
  obtain ⟨h1, rfl⟩ := List.getElem?_eq_some_iff.1 ha
  obtain ⟨h2, rfl⟩ := List.getElem?_eq_some_iff.1 hb
  obtain ⟨j, hj, rfl⟩ := List.getElem_of_mem hv
  have hp := List.pairwise_iff_getElem.1 h
  rcases Nat.lt_trichotomy j i with hlt | rfl | hgt
  · have := hp j i hj h1 hlt; omega
  · exact .inl (Int.le_refl _)
  · rcases Nat.lt_or_ge (i + 1) j with hlt | hge
    · have := hp (i + 1) j h2 hj hlt; omega
    · obtain rfl : j = i + 1 := by omega
      exact .inr (Int.le_refl _)
theorem ends_const {l : List Sp} {E : List Int} (h : EndsOf l E) {i : Nat} {a b p : Int} (ha : E[i]? = some a) (hb : E[i + 1]? = some b) (hp : a ≤ p) (hq : p < b) {x : Sp} (hx : x ∈ l) : x.has p ↔ x.has a := by
  have hlt := rising_lt h.1 ha hb
  constructor
  · rintro ⟨h1, h2, h3⟩
    have g1 := rising_gap h.1 ha hb ((h.2.1 x.1).2 ⟨x, hx, h1, .inl rfl⟩)
    exact ⟨h1, by omega, by omega⟩
  · rintro ⟨h1, h2, h3⟩
    have g1 := rising_gap h.1 ha hb ((h.2.1 (x.1 + x.2)).2 ⟨x, hx, h1, .inr rfl⟩)
    exact ⟨h1, by omega, by omega⟩
theorem rising_first {E : List Int} (h : Rising E) {e v : Int} (he : E[0]? = some e) (hv : v ∈ E) : e ≤ v := by
  obtain ⟨h1, rfl⟩ := List.getElem?_eq_some_iff.1 he
  obtain ⟨j, hj, rfl⟩ := List.getElem_of_mem hv
  rcases Nat.eq_zero_or_pos j with rfl | hp
  · exact Int.le_refl _
  · have := List.pairwise_iff_getElem.1 h 0 j h1 hj hp; omega
theorem rising_last {E : List Int} (h : Rising E) {i : Nat} {e v : Int} (he : E[i]? = some e) (hi : E.length ≤ i + 1) (hv : v ∈ E) : v ≤ e := by
  obtain ⟨h1, rfl⟩ := List.getElem?_eq_some_iff.1 he
  obtain ⟨j, hj, rfl⟩ := List.getElem_of_mem hv
  rcases Nat.lt_or_ge j i with hlt | hge
  · have := List.pairwise_iff_getElem.1 h j i hj h1 hlt; omega
  · obtain rfl : j = i := by omega
    exact Int.le_refl _

/-- Where the pieces stand behind i rounds. -/
def AtEnd (Q : Int → Prop) (E : List Int) (i : Nat) (O : List Sp) : Prop := ((E = [] ∧ O = []) ∨ ∃ e, E[i]? = some e ∧ Laid Q e O) ∧ O.length ≤ i
theorem at_start {l : List Sp} {E : List Int} {Q : Int → Prop} (h : EndsOf l E) (hQ : ∀ p, Q p → cov l p) : AtEnd Q E 0 [] := by
  refine ⟨?_, Nat.le_refl _⟩
  rcases E with _ | ⟨e, E⟩
  · exact .inl ⟨rfl, rfl⟩
  · refine .inr ⟨e, rfl, Joined.nil, fun p => ⟨fun hc => absurd hc (cov_nil p), fun ⟨h1, h2⟩ => ?_⟩, fun _ h => by cases h⟩
    obtain ⟨x, hx, hp⟩ := hQ p h1
    have := rising_first h.1 rfl ((h.2.1 x.1).2 ⟨x, hx, hp.1, .inl rfl⟩)
    have := hp.2.1
    omega
theorem putL_len (O : List Sp) (a b : Int) : (putL O a b).length ≤ O.length + 1 := by
  rcases last_cases O with rfl | ⟨p, z, rfl⟩
  · simp [putL_nil]
  · by_cases h : z.1 + z.2 = a
    · rw [putL_join p z a b h]; simp
    · rw [putL_more p z a b h]; simp
theorem at_put {l : List Sp} {E : List Int} {Q : Int → Prop} (h : EndsOf l E) {i : Nat} {O : List Sp} {a b : Int} (hO : AtEnd Q E i O) (ha : E[i]? = some a) (hb : E[i + 1]? = some b) (hq : ∀ p, a ≤ p → p < b → Q p) : AtEnd Q E (i + 1) (putL O a b) := by
  have ra := ends_range h ha
  have rb := ends_range h hb
  rcases hO with ⟨⟨rfl, _⟩ | ⟨e, he, hL⟩, hlen⟩
  · cases ha
  · rw [ha] at he
    obtain rfl := Option.some.inj he
    exact ⟨.inr ⟨b, hb, laid_put hL (rising_lt h.1 ha hb) ra.1 rb.2 hq⟩, by have := putL_len O a b; omega⟩
theorem at_skip {l : List Sp} {E : List Int} {Q : Int → Prop} (h : EndsOf l E) {i : Nat} {O : List Sp} {a b : Int} (hO : AtEnd Q E i O) (ha : E[i]? = some a) (hb : E[i + 1]? = some b) (hq : ∀ p, a ≤ p → p < b → ¬ Q p) : AtEnd Q E (i + 1) O := by
  rcases hO with ⟨⟨rfl, _⟩ | ⟨e, he, hL⟩, hlen⟩
  · cases ha
  · rw [ha] at he
    obtain rfl := Option.some.inj he
    exact ⟨.inr ⟨b, hb, laid_skip hL (rising_lt h.1 ha hb) hq⟩, by omega⟩
theorem at_stop {l : List Sp} {E : List Int} {Q : Int → Prop} (h : EndsOf l E) (hQ : ∀ p, Q p → cov l p) {i : Nat} {O : List Sp} (hO : AtEnd Q E i O) (hi : E.length ≤ i + 1) : Joined O ∧ ∀ p, cov O p ↔ Q p := by
  rcases hO with ⟨⟨rfl, rfl⟩ | ⟨e, he, hL⟩, _⟩
  · refine ⟨Joined.nil, fun p => ⟨fun hc => absurd hc (cov_nil p), fun h1 => ?_⟩⟩
    obtain ⟨x, hx, hp⟩ := hQ p h1
    have := (h.2.1 x.1).2 ⟨x, hx, hp.1, .inl rfl⟩
    cases this
  · refine ⟨hL.1, fun p => (hL.2.1 p).trans ⟨fun h => h.1, fun h1 => ⟨h1, ?_⟩⟩⟩
    obtain ⟨x, hx, hp⟩ := hQ p h1
    have := rising_last h.1 he hi ((h.2.1 (x.1 + x.2)).2 ⟨x, hx, hp.1, .inr rfl⟩)
    have := hp.2.2
    omega
theorem at_ok {Q : Int → Prop} {E : List Int} {i : Nat} {O : List Sp} (h : AtEnd Q E i O) : ∀ z ∈ O, Sp.ok z := by
  rcases h with ⟨⟨_, rfl⟩ | ⟨e, _, hL⟩, _⟩
  · intro z hz; cases hz
  · exact hL.1.1
theorem cov_const {l : List Sp} {E : List Int} (h : EndsOf l E) {i : Nat} {a b p : Int} (ha : E[i]? = some a) (hb : E[i + 1]? = some b) (hp : a ≤ p) (hq : p < b) {m : List Sp} (hm : ∀ x ∈ m, x ∈ l) : cov m p ↔ cov m a :=
  ⟨fun ⟨x, hx, hh⟩ => ⟨x, hx, (ends_const h ha hb hp hq (hm x hx)).1 hh⟩, fun ⟨x, hx, hh⟩ => ⟨x, hx, (ends_const h ha hb hp hq (hm x hx)).2 hh⟩⟩

/-- The cells of an integer in a list of the call's own. -/
theorem own_int {w w' : World} {B c k : Nat} {A : Option Addr} {E : List Int} {z : Int} (h : Sl w B 1 (.slice A E.length c) E.length (i64s E)) (hb : Below B w w') (hz : E[k]? = some z) :
    ∃ g o, A = some ⟨g, o, none⟩ ∧ g < B ∧ w'.cell? ⟨g, o + k, none⟩ = some (.int .i64 z) := by
  have hk : k < E.length := (List.getElem?_eq_some_iff.1 hz).1
  obtain ⟨b, o, c', e, _, _, hlt, hc⟩ := (h.below hb).at_ (by omega)
  obtain ⟨rfl, rfl⟩ : A = some ⟨b, o, none⟩ ∧ c = c' := by simpa using e
  exact ⟨b, o, rfl, hlt, hc _ _ (i64s_at hz)⟩

end Go.Proofs.YtoeccbbjncgmlaaGreatDoor

/- Contracts of the document's own answers for spans: Gaps. -/
namespace Go.Proofs.YtoeccbbjncgmlaaGreatDoor
set_option maxRecDepth 100000
open Go.RowKit

attribute [local go_sem ↓] Go.wp_at_zero Go.wp_at_succ
/-- The places of x that none of l has. -/
def free (x : Sp) (l : List Sp) (p : Int) : Prop := x.has p ∧ ¬ cov l p
theorem free_const {x : Sp} {l : List Sp} {E : List Int} (h : EndsOf (x :: l) E) {i : Nat} {a b p : Int} (ha : E[i]? = some a) (hb : E[i + 1]? = some b) (hp : a ≤ p) (hq : p < b) : free x l p ↔ free x l a := by
  unfold free
  rw [ends_const h ha hb hp hq List.mem_cons_self, cov_const h ha hb hp hq (m := l) fun y hy => List.mem_cons_of_mem _ hy]

set_option maxHeartbeats 4000000 in
theorem refGaps_any (x : Sp) (v : Value) (l : List Sp) (B : Nat) (w : World) (h : Sl w B 2 v l.length (spc l)) (hB : B ≤ w.heap.size) (hl : l.length ≤ 30000) :
    Calls Tryz.prog 40 #[.agg #[.int .i64 x.1, .int .i64 x.2], v] w fun e w' => ∃ v' O, e = .returned v' ∧ Joined O ∧ (∀ p, cov O p ↔ free x l p) ∧ w'.ownsRow w.heap.size 30 2 v' O.length (spc O) ∧ Only nob w w' := by
  obtain ⟨i0, hi0, hz0, hz1, hz2⟩ := info_parts info_span
  have HA := Lib.hid h
  obtain ⟨A, ca, rfl, hac, ham, -⟩ := h
  unfold maxLen at ham
  go_enter Tryz.func40, Tryz.ntmps40
  go_wp2_with (with_reducible refine wpList_append_sl (o := ⟨some 11, _, _, _, _, _⟩) _ rfl (.tmp 9) (.tmp 10) _ rfl w.heap.size 30 i0 _ 2 16 Tryz.underlying34 hi0 hz0 hz1 hz2 rfl (by decide) (.slice (some ⟨w.heap.size + 1, 0, none⟩) 1 1) 1 (spc [x]) rfl ?c1 B (.slice A l.length ca) l.length (spc l) rfl ?c6 (spc_one _) ?c2 ?c3 ?c4 ?c5)
  case c1 =>
    have hb : Blk ((w.alloc (.cells #[.int .i64 x.1, .int .i64 x.2] 30)).alloc (.cells #[.int .i64 x.1, .int .i64 x.2] 30)) (w.heap.size + 1) 30 #[.int .i64 x.1, .int .i64 x.2] := Blk.newAt _ _ _ _ (by simp)
    have := own_of_blk (base := w.heap.size) (size := 2) (n := 1) hb (by omega) rfl (by decide)
    simpa [spc] using this
  case c6 => exact HA.out.below ((((Below.refl _ w).alloc hB _)).alloc (by simp; omega) _)
  case c2 => unfold maxLen; omega
  case c3 => omega
  case c4 => simp; omega
  case c5 =>
    intro v1 w1 H1 o1 _
    have O1 := Lib.hid (show Only nob w w1 from (((Only.refl nob w).alloc _).alloc _).andThen o1 fun i hi e => by simp [Value.ownBlock] at e; omega)
    have hx1 : Blk w1 w.heap.size 30 #[.int .i64 x.1, .int .i64 x.2] := ((Blk.new w _ _).alloc _).keep o1 (fun e => by simp [Value.ownBlock] at e)
    have HX1 := Lib.hid hx1
    have HSL := Lib.hid (show Sl w1 w1.heap.size 2 v1 (x :: l).length (spc (x :: l)) by
      have := Sl.of_own H1.out H1.out.1
      rw [← spc_append] at this
      simpa [Nat.add_comm] using this)
    have hs1 : w.heap.size ≤ w1.heap.size := O1.out.size
    clear H1 o1 hx1
    go_wp2_with fail
    go_at_call 76
    refine (refEnds_any _ (x :: l) _ _ HSL.out (Nat.le_refl _) (by simp; omega)).mono ?_
    rintro e w2 ⟨v2, E, rfl, hE, hW, ho⟩
    have HE := Lib.hid hE
    have hEl : E.length ≤ 80000 := by have := hE.2.2; simp at this; omega
    have HSE := Lib.hid (Sl.of_own hW hW.1)
    have O2 := Lib.hid (O1.out.trans ho)
    have hs2 : w.heap.size ≤ w2.heap.size := O2.out.size
    have hs3 : w.heap.size < w2.heap.size := by have := HX1.out.lt; have := ho.size; omega
    have HX2 := Lib.hid (HX1.out.keep ho id)
    obtain ⟨A2, c2, rfl, hc2, hm2⟩ := own_len hW
    unfold maxLen at hm2
    clear hE hW ho
    go_wp2_with fail
    go_loopw [6, 7] (fun s i wr => ∃ (k : Nat) (O : List Sp), i = .int .i64 k ∧ k ≤ E.length ∧ AtEnd (free x l) E k O ∧ wr.ownsRow w2.heap.size 30 2 s O.length (spc O) ∧ Only nob w2 wr) (fun _ i _ => E.length - (intOf i).toNat)
    case atStart => exact ⟨0, [], rfl, Nat.zero_le _, at_start HE.out (fun p hp => cov_cons.2 (.inl hp.1)), World.ownsRow_nil _ _ _ _, Only.refl _ _⟩
    case round =>
      obtain ⟨k, O, rfl, hk, hAt, hown, hO⟩ := hrel
      have HAt := Lib.hid hAt
      have HW := Lib.hid hown
      have HO := Lib.hid hO
      have hOl := hAt.2
      clear hAt hown hO
      obtain ⟨A3, c3, rfl, -, -⟩ := own_len HW.out
      by_cases hlt : k + 1 < E.length
      · obtain ⟨a, ha⟩ : ∃ a, E[k]? = some a := ⟨_, List.getElem?_eq_getElem (by omega)⟩
        obtain ⟨b, hb⟩ : ∃ b, E[k + 1]? = some b := ⟨_, List.getElem?_eq_getElem hlt⟩
        obtain ⟨g, q, rfl, hg, c0⟩ := own_int HSE.out HO.out.whole ha
        have hx2 := HX2.out.keep HO.out id
        have x0 := hx2.cell 0
        have x1 := hx2.cell 1
        simp at x0 x1
        have HAA := Lib.hid ha
        have HBB := Lib.hid hb
        have ra := ends_range HE.out ha
        have rb := ends_range HE.out hb
        have hk1 : k < E.length := by omega
        unfold most at ra rb
        have hwr : w.heap.size < wr.heap.size := by have := HO.out.size; omega
        have hgr : g < wr.heap.size := by have := HO.out.size; omega
        clear ha hb hx2
        have HCall := Lib.hid (fun (p : Int) (w' : World) (ho : Only nob wr w') => refCovered_any _ l p B w' (HA.out.below (((O2.out.trans HO.out).trans ho).below hB fun _ h => h.elim)) (Nat.le_trans hB (Nat.le_trans hs2 (Nat.le_trans HO.out.size ho.size))))
        go_upto_region 6 with fail
        go_cut [34] (fun s wx => ∃ f : Bool, s = .bool f ∧ Only nob wr wx ∧ (f = true → Hid (free x l a)) ∧ (f = false → Hid (¬ free x l a)))
        case first =>
          by_cases hh : x.has a
          · have HH := Lib.hid (decide_eq_true hh)
            have HHH := Lib.hid hh
            by_cases hc : cov l a
            case' pos => have HC := Lib.hid (decide_eq_true hc)
            case' neg => have HC := Lib.hid (decide_eq_false hc)
            all_goals
              have HCC := Lib.hid hc
              clear hh hc
              go_region_held3 (fun w' => w'.cell? ⟨w.heap.size, 0, none⟩ = some (.int .i64 x.1) ∧ w'.cell? ⟨w.heap.size, 1, none⟩ = some (.int .i64 x.2) ∧ w'.cell? ⟨g, q + k, none⟩ = some (.int .i64 a)) (first | go_keep | exact ⟨(o5.old _ _ hwr).trans x0, (o5.old _ _ hwr).trans x1, (o5.old _ _ hgr).trans c0⟩ | exact ⟨(o6.old _ _ (Nat.lt_of_lt_of_le hwr o5.size)).trans ((o5.old _ _ hwr).trans x0), (o6.old _ _ (Nat.lt_of_lt_of_le hwr o5.size)).trans ((o5.old _ _ hwr).trans x1), (o6.old _ _ (Nat.lt_of_lt_of_le hgr o5.size)).trans ((o5.old _ _ hgr).trans c0)⟩)
                (first
                  | (go_at_call 74; refine (refHas_any x a _).mono ?_; rw [HH.out]; rintro e w5 ⟨rfl, o5⟩)
                  | (go_at_call 77; refine (HCall.out a _ ?_).mono ?_; exact o5.drewL; rw [HC.out]; rintro e w6 ⟨rfl, o6⟩))
              go_wp2_with fail
              go_meet
              first
              | exact ⟨false, rfl, o5.drewL.trans o6, (fun h => by cases h), fun _ hf => hf.2 HCC.out⟩
              | exact ⟨true, rfl, o5.drewL.trans o6, (fun _ => ⟨HHH.out, HCC.out⟩), fun h => by cases h⟩
          · have HH := Lib.hid (decide_eq_false hh)
            have HHH := Lib.hid hh
            clear hh
            first
            | go_region_with (go_at_call 74; refine (refHas_any x a _).mono ?_; rw [HH.out]; rintro e w5 ⟨rfl, o5⟩)
            | fail
            all_goals
              go_wp2_with fail
              go_meet
              exact ⟨false, rfl, o5.drewL, (fun h => by cases h), fun _ hf => HHH.out hf.1⟩
        case rest =>
          obtain ⟨f, rfl, o5, h1, h2⟩ := hcut
          have HO5 := Lib.hid (HO.out.trans o5)
          have HW5 := Lib.hid (own_only HW.out o5 fun _ _ => id)
          cases f
          · have HN := h2 rfl
            have HQ := Lib.hid (at_skip HE.out HAt.out HAA.out HBB.out fun p g1 g2 hf => HN.out ((free_const HE.out HAA.out HBB.out g1 g2).1 hf))
            clear h1 h2 o5 c0 x0 x1
            go_wp2
            go_roundw
            case rel => exact ⟨k + 1, O, by go_num, by omega, HQ.out, HW5.out, HO5.out⟩
            case measure => simp [intOf]; omega
          · have HN := h1 rfl
            have HQ := Lib.hid (at_put HE.out HAt.out HAA.out HBB.out fun p g1 g2 => (free_const HE.out HAA.out HBB.out g1 g2).2 HN.out)
            obtain ⟨g1, q1, e1, -, d0⟩ := own_int HSE.out HO5.out.whole HAA.out
            obtain ⟨rfl, rfl⟩ : g1 = g ∧ q1 = q := by simpa using e1.symm
            obtain ⟨g2, q2, e2, -, d1⟩ := own_int HSE.out HO5.out.whole HBB.out
            obtain ⟨rfl, rfl⟩ : g2 = g1 ∧ q2 = q1 := by simpa using e2.symm
            have s1 : IntKind.i64.wrap ((k : Int) + 1) = (k : Int) + 1 := IntWalk.i64_in _ (by omega)
            have s2 : (0 : Int) ≤ (k : Int) + 1 := by omega
            have s3 : (k : Int) + 1 < (E.length : Int) := by omega
            have s4 : ((k : Int) + 1).toNat = k + 1 := by omega
            clear h1 h2 o5 c0 x0 x1 e1 e2
            go_wp2_with fail
            go_still_tail 10, (by kernel_rfl)
            change wpList _ _ _ _ _ wc.drew
            generalize hwd : wc.drew = w3
            have HO3 := Lib.hid (show Only nob w2 w3 by rw [← hwd]; exact HO5.out.drewN 1)
            have HW3 := Lib.hid (show w3.ownsRow w2.heap.size 30 2 (.slice A3 O.length c3) O.length (spc O) by rw [← hwd]; exact own_heap HW5.out rfl)
            clear hwd d0 d1 s1 s2 s3 s4
            go_wp2_with fail
            go_at_call 78
            refine (refPutS_any _ O a b w2.heap.size _ HW3.out HO3.out.size (by omega) (at_ok HAt.out) ra rb).mono ?_
            rintro e w4 ⟨v4, rfl, hW4, o4⟩
            have HW4 := Lib.hid hW4
            have HO4 := Lib.hid (own_nob HO3.out HW3.out o4 (Nat.le_refl _))
            clear hW4 o4
            go_wp2
            go_roundw
            case rel => exact ⟨k + 1, _, by go_num, by omega, HQ.out, HW4.out, HO4.out⟩
            case measure => simp [intOf]; omega
      · have HF := Lib.hid (at_stop HE.out (fun p hp => cov_cons.2 (.inl hp.1)) HAt.out (by omega))
        go_wp2
        go_ret
        exact ⟨_, O, rfl, HF.out.1, HF.out.2, own_more HW.out (fun q hq => Nat.le_trans hs2 (own_lt HW.out hq).1), O2.out.trans HO.out⟩
end Go.Proofs.YtoeccbbjncgmlaaGreatDoor
