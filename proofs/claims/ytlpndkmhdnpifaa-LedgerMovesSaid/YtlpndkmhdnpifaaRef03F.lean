/- Contracts of the document's own answers for spans: ends. -/
import Derived.Test.YtlpndkmhdnpifaaRef03E
import Derived.Test.YtlpndkmhdnpifaaInts
import Derived.Deep.RegionHeld3
import Derived.IntWalk
namespace Go.Proofs.Ytlpndkmhdnpifaa
open Go.RowKit

/-- Where the spans of a list begin and end, each as a span of no words. -/
def marks : List Sp → List Sp
  | [] => []
  | x :: l => (if x.ok then [(x.1, 0), (x.1 + x.2, 0)] else []) ++ marks l
theorem marks_append (l m : List Sp) : marks (l ++ m) = marks l ++ marks m := by
  induction l with
  | nil => rfl
  | cons x l ih => simp only [List.cons_append, marks, ih, List.append_assoc]
theorem marks_len (l : List Sp) : (marks l).length ≤ 2 * l.length := by
  induction l with
  | nil => simp [marks]
  | cons x l ih =>
    simp only [marks, List.length_append, List.length_cons]
    split <;> simp <;> omega
theorem marks_mem (l : List Sp) (p : Int) : (∃ y ∈ marks l, y.1 = p) ↔ ∃ x ∈ l, Sp.ok x ∧ (p = x.1 ∨ p = x.1 + x.2) := by
  induction l with
  | nil => simp [marks]
  | cons x l ih =>
    simp only [marks, List.mem_append, or_and_right, exists_or, ih, List.mem_cons, exists_eq_left]
    refine or_congr ?_ Iff.rfl
    by_cases hx : x.ok
    · simp [hx, eq_comm]
    · simp [hx]
theorem marks_yes {l : List Sp} {k : Nat} {x : Sp} (h : l[k]? = some x) (hx : x.ok) : marks (l.take (k + 1)) = marks (l.take k) ++ [(x.1, 0), (x.1 + x.2, 0)] := by
  rw [take_snoc_get h, marks_append]; simp [marks, hx]
theorem marks_none {l : List Sp} {k : Nat} {x : Sp} (h : l[k]? = some x) (hx : ¬ x.ok) : marks (l.take (k + 1)) = marks (l.take k) := by
  rw [take_snoc_get h, marks_append]; simp [marks, hx]

/-- The places of the first i spans of a sorted list, rising, each once. -/
def Places (L : List Sp) (i : Nat) (E : List Int) : Prop := Rising E ∧ (∀ v, v ∈ E ↔ ∃ y ∈ L.take i, y.1 = v) ∧ E.length ≤ i
theorem places_more {L : List Sp} {i : Nat} {E : List Int} {y : Sp} (h : Places L i E) (hs : Sorted L) (hy : L[i]? = some y) (hn : i = 0 ∨ ∃ z, L[i - 1]? = some z ∧ y.1 ≠ z.1) : Places L (i + 1) (E ++ [y.1]) := by
  obtain ⟨h1, h2, h3⟩ := h
  refine ⟨?_, fun v => ?_, by simp; omega⟩
  · unfold Rising
    rw [List.pairwise_append]
    refine ⟨h1, List.pairwise_singleton _ _, fun a ha b hb => ?_⟩
    obtain rfl := List.mem_singleton.1 hb
    obtain ⟨q, hq, rfl⟩ := (h2 a).1 ha
    obtain ⟨j, hj, rfl⟩ := List.getElem_of_mem hq
    simp only [List.length_take] at hj
    rw [List.getElem_take]
    obtain ⟨hi, rfl⟩ := List.getElem?_eq_some_iff.1 hy
    rcases hn with rfl | ⟨z, hz, hne⟩
    · omega
    · obtain ⟨hi1, rfl⟩ := List.getElem?_eq_some_iff.1 hz
      have ha1 : Sp.le (L[j]'(by omega)) (L[i-1]'hi1) := by
        rcases Nat.lt_or_ge j (i - 1) with hlt | hge
        · exact List.pairwise_iff_getElem.1 hs j (i - 1) _ _ hlt
        · obtain rfl : j = i - 1 := by omega
          unfold Sp.le; omega
      have ha2 : Sp.le (L[i-1]'hi1) (L[i]'hi) := List.pairwise_iff_getElem.1 hs (i - 1) i _ _ (by omega)
      unfold Sp.le at ha1 ha2
      omega
  · rw [take_snoc_get hy, List.mem_append, List.mem_singleton, h2]
    simp only [List.mem_append, List.mem_singleton, or_and_right, exists_or, exists_eq_left]
    exact or_congr Iff.rfl eq_comm
theorem places_same {L : List Sp} {i : Nat} {E : List Int} {y z : Sp} (h : Places L i E) (hy : L[i]? = some y) (hi : 0 < i) (hz : L[i - 1]? = some z) (he : y.1 = z.1) : Places L (i + 1) E := by
  obtain ⟨h1, h2, h3⟩ := h
  refine ⟨h1, fun v => ?_, by omega⟩
  rw [h2, take_snoc_get hy]
  simp only [List.mem_append, List.mem_singleton, or_and_right, exists_or, exists_eq_left]
  constructor
  · exact .inl
  · rintro (h | rfl)
    · exact h
    · refine ⟨z, ?_, he.symm⟩
      obtain ⟨hz1, rfl⟩ := List.getElem?_eq_some_iff.1 hz
      rw [List.mem_take_iff_getElem]
      exact ⟨i - 1, by omega, rfl⟩

/-- The ends of some spans: all places at which one begins or ends, rising, each once. -/
def EndsOf (l : List Sp) (E : List Int) : Prop := Rising E ∧ (∀ v, v ∈ E ↔ ∃ x ∈ l, Sp.ok x ∧ (v = x.1 ∨ v = x.1 + x.2)) ∧ E.length ≤ 2 * l.length
theorem ends_of {l L : List Sp} {E : List Int} (hL : SortedOf (marks l) (marks l).length L) (h : Places L L.length E) : EndsOf l E := by
  have hm := marks_len l
  have hlen := hL.len (Nat.le_refl _)
  have hp := hL.2
  rw [List.take_length] at hp
  refine ⟨h.1, fun v => ?_, by have := h.2.2; omega⟩
  rw [h.2.1, List.take_length, ← marks_mem]
  exact ⟨fun ⟨y, hy, e⟩ => ⟨y, hp.mem_iff.1 hy, e⟩, fun ⟨y, hy, e⟩ => ⟨y, hp.mem_iff.2 hy, e⟩⟩

set_option maxHeartbeats 4000000 in
theorem refEnds_any (v : Value) (l : List Sp) (B : Nat) (w : World) (h : Sl w B 2 v l.length (spc l)) (hB : B ≤ w.heap.size) (hl : l.length ≤ 40000) :
    Calls Try.prog 57 #[v] w fun e w' => ∃ v' E, e = .returned v' ∧ EndsOf l E ∧ w'.ownsRow w.heap.size 3 1 v' E.length (i64s E) ∧ Only nob w w' := by
  obtain ⟨i0, hi0, hz0, hz1, hz2⟩ := info_parts info_span
  obtain ⟨j0, hj0, hy0, hy1, hy2⟩ := info_parts info_int
  have HA := Lib.hid h
  obtain ⟨A, ca, rfl, hac, ham, -⟩ := h
  unfold maxLen at ham
  go_enter Try.func57, Try.ntmps57
  go_wp2_with fail
  go_loopw [3, 4] (fun s i wr => ∃ (k : Nat), k ≤ l.length ∧ i = .int .i64 k ∧ wr.ownsRow w.heap.size 24 2 s (marks (l.take k)).length (spc (marks (l.take k))) ∧ Only nob w wr) (fun _ i _ => l.length - (intOf i).toNat)
  case atStart => exact ⟨0, Nat.zero_le _, rfl, World.ownsRow_nil _ _ _ _, Only.refl _ _⟩
  case round =>
    obtain ⟨k, hk, rfl, hown, hO⟩ := hrel
    have HX := Lib.hid hO
    have HW := Lib.hid hown
    obtain ⟨A1, c1, rfl, hc1, hm1⟩ := own_len hown
    unfold maxLen at hm1
    have hml : (marks (l.take k)).length ≤ 2 * k := Nat.le_trans (marks_len _) (by simp; omega)
    obtain ⟨M, hM⟩ : ∃ M, M = marks (l.take k) := ⟨_, rfl⟩
    rw [← hM] at HW hc1 hml ⊢
    have HM := Lib.hid hM
    clear hO hown hM
    by_cases hlt : k < l.length
    · obtain ⟨x, hx⟩ : ∃ x, l[k]? = some x := ⟨_, List.getElem?_eq_getElem hlt⟩
      obtain ⟨b, o, rfl, hb, c0, c1'⟩ := sl_span HA.out (HX.out.below hB fun _ h => h.elim) hx
      have HXX := Lib.hid hx
      clear hx
      by_cases hp : x.ok
      · have HP := Lib.hid (decide_eq_true hp)
        have hxb : 0 ≤ x.1 ∧ x.1 ≤ 1099511627776 ∧ 1 ≤ x.2 ∧ x.2 ≤ 1099511627776 := by unfold Sp.ok most at hp; omega
        have HE := Lib.hid (marks_yes HXX.out hp)
        clear hp
        go_wp2_with fail
        refine (refMay03_any x _).mono ?_
        rw [HP.out]
        rintro e w1 ⟨rfl, ho⟩
        have HO := Lib.hid (HX.out.trans ho)
        have HW1 := Lib.hid (own_only HW.out ho fun _ _ => id)
        obtain ⟨b3, o3, e3, -, d0, d1⟩ := sl_span HA.out (HO.out.below hB fun _ h => h.elim) HXX.out
        obtain ⟨rfl, rfl⟩ : b3 = b ∧ o3 = o := by simpa using e3.symm
        clear ho c0 c1' e3
        go_wp2_with fail
        have hsum : IntKind.i64.wrap (x.1 + x.2) = x.1 + x.2 := IntWalk.i64_in _ (by omega)
        have hi1 : (0 : Int) ≤ (k : Int) := by omega
        have hi2 : (k : Int) < (l.length : Int) := by omega
        have hsl : ∀ w' : World, w'.heap = (w1.alloc (.cells #[.int .i64 x.1, .int .i64 0, .int .i64 (x.1 + x.2), .int .i64 0] 24)).heap → Sl w' (w1.heap.size + 1) 2 (.slice (some ⟨w1.heap.size, 0, none⟩) 2 2) 2 (spc [(x.1, 0), (x.1 + x.2, 0)]) := by
          intro w' e
          have := Sl.of_blk (size := 2) (n := 2) (c := 2) (Blk.new w1 24 #[.int .i64 x.1, .int .i64 0, .int .i64 (x.1 + x.2), .int .i64 0]) rfl (Nat.le_refl _) (by decide)
          exact Sl.heap (by simpa [spc] using this) e
        have HSL := Lib.hid hsl
        have hfar : ∀ w' w3 : World, w'.heap = (w1.alloc (.cells #[.int .i64 x.1, .int .i64 0, .int .i64 (x.1 + x.2), .int .i64 0] 24)).heap → Only (fun k => (Value.slice A1 M.length c1).ownBlock = some k) w' w3 →
            w3.cell? ⟨b3, o3 + k * 2, none⟩ = some (.int .i64 x.1) ∧ w3.cell? ⟨b3, o3 + k * 2 + 1, none⟩ = some (.int .i64 x.2) := by
          intro w' w3 e q
          have hlt : b3 < w1.heap.size := by have := HO.out.size; omega
          have hk' : ∀ j, w'.cell? ⟨b3, j, none⟩ = w1.cell? ⟨b3, j, none⟩ := fun j => by
            rw [show w'.cell? ⟨b3, j, none⟩ = (w1.alloc (.cells #[.int .i64 x.1, .int .i64 0, .int .i64 (x.1 + x.2), .int .i64 0] 24)).cell? ⟨b3, j, none⟩ by simp only [World.cell?, e]]
            exact World.cell?_alloc_lt _ _ _ hlt
          have hf : ∀ j, w3.cell? ⟨b3, j, none⟩ = w1.cell? ⟨b3, j, none⟩ := fun j => (q.cell (p := ⟨b3, j, none⟩) (by show b3 < w'.heap.size; rw [e]; simp; omega) (fun he => by have h1 : w.heap.size ≤ b3 := (own_lt HW1.out he).1; omega)).trans (hk' j)
          exact ⟨(hf _).trans d0, (hf _).trans d1⟩
        have HFAR := Lib.hid hfar
        clear hsl hfar
        go_region_held3 (fun w' => w'.cell? ⟨b3, o3 + k * 2, none⟩ = some (.int .i64 x.1) ∧ w'.cell? ⟨b3, o3 + k * 2 + 1, none⟩ = some (.int .i64 x.2)) (first | go_keep | exact HFAR.out _ _ (by rfl) q3)
          ((refine step_append_sl _ (by rfl) _ _ _ (by rfl) w.heap.size 24 i0 _ 2 16 Try.underlying22 hi0 hz0 hz1 hz2 (by rfl) (by decide) (.slice A1 M.length c1) M.length (spc M) (by rfl) (own_heap (HW1.out.alloc (.cells #[.int .i64 x.1, .int .i64 0, .int .i64 (x.1 + x.2), .int .i64 0] 24)) rfl) (w1.heap.size + 1) (.slice (some ⟨w1.heap.size, 0, none⟩) 2 2) 2 (spc [(x.1, 0), (x.1 + x.2, 0)]) (by rfl) (HSL.out _ rfl) (spc_one _) (by unfold maxLen; omega) (by omega) (by simp; have := HO.out.size; omega) ?_; intro v3 w3 H3 q3 _))
        have HO3 := Lib.hid (own_nob ((HO.out.alloc (.cells #[.int .i64 x.1, .int .i64 0, .int .i64 (x.1 + x.2), .int .i64 0] 24)).drewN 1) (own_heap (HW1.out.alloc (.cells #[.int .i64 x.1, .int .i64 0, .int .i64 (x.1 + x.2), .int .i64 0] 24)) rfl) q3 (Nat.le_refl _))
        have HW3 := Lib.hid (show w3.ownsRow w.heap.size 24 2 v3 (marks (l.take (k + 1))).length (spc (marks (l.take (k + 1)))) by
          rw [HE.out, ← HM.out, spc_append, List.length_append]
          exact H3.out)
        clear H3 q3
        go_wp2
        go_roundw
        case rel => exact ⟨k + 1, by omega, by go_num, HW3.out, HO3.out⟩
        case measure => simp [intOf]; omega
      · have HP := Lib.hid (decide_eq_false hp)
        have HE := Lib.hid (marks_none HXX.out hp)
        clear hp
        go_wp2_with fail
        refine (refMay03_any x _).mono ?_
        rw [HP.out]
        rintro e w1 ⟨rfl, ho⟩
        have HO := Lib.hid (HX.out.trans ho)
        have HW1 := Lib.hid (own_only HW.out ho fun _ _ => id)
        clear ho
        go_wp2
        go_roundw
        case rel => exact ⟨k + 1, by omega, by go_num, by rw [HE.out, ← HM.out]; exact HW1.out, HO.out⟩
        case measure => simp [intOf]; omega
    · obtain rfl : k = l.length := by omega
      have HMM := Lib.hid (show M = marks l by rw [HM.out, List.take_length])
      have HSL := Lib.hid (Sl.of_own HW.out HW.out.1)
      obtain ⟨wo, rfl⟩ : ∃ wo : World, wo = wr := ⟨_, rfl⟩
      go_wp2_with fail
      go_at_call 69
      refine (refSort_any _ M _ _ HSL.out (Nat.le_refl _) (by omega)).mono ?_
      rintro e w1 ⟨v1, L, rfl, hS, hW, ho⟩
      have HS := Lib.hid hS
      have hLn : L.length ≤ 80000 := by have := hS.len (Nat.le_refl _); omega
      have HW1 := Lib.hid hW
      have HSL1 := Lib.hid (Sl.of_own hW hW.1)
      have HO1 := Lib.hid (HX.out.trans ho)
      obtain ⟨A2, c2, rfl, hc2, hm2⟩ := own_len hW
      unfold maxLen at hm2
      clear hS hW ho
      go_wp2_with fail
      go_loopw [5, 6] (fun s i wr => ∃ (k : Nat) (E : List Int), k ≤ L.length ∧ i = .int .i64 k ∧ Places L k E ∧ wr.ownsRow w1.heap.size 3 1 s E.length (i64s E) ∧ Only nob w1 wr) (fun _ i _ => L.length - (intOf i).toNat)
      case atStart => exact ⟨0, [], Nat.zero_le _, rfl, ⟨List.Pairwise.nil, by simp, Nat.le_refl _⟩, World.ownsRow_nil _ _ _ _, Only.refl _ _⟩
      case round =>
        obtain ⟨i, E, hi, rfl, hE, hown, hO⟩ := hrel
        have HY := Lib.hid hO
        have HE := Lib.hid hE
        have HWE := Lib.hid hown
        have hEl := hE.2.2
        obtain ⟨A3, c3, rfl, hc3, hm3⟩ := own_len hown
        unfold maxLen at hm3
        clear hO hE hown
        by_cases hlt : i < L.length
        · obtain ⟨y, hy⟩ : ∃ y, L[i]? = some y := ⟨_, List.getElem?_eq_getElem hlt⟩
          obtain ⟨b, o, rfl, hb, d0, d1⟩ := sl_span HSL1.out (HY.out.whole) hy
          have HYY := Lib.hid hy
          clear hy
          go_upto_region 12 with fail
          go_cut [62] (fun s wx => ∃ (f : Bool) (m : Nat), s = .bool f ∧ wx = wr.drewN m ∧ (f = true → Hid (i = 0 ∨ ∃ z : Sp, L[i - 1]? = some z ∧ y.1 ≠ z.1)) ∧ (f = false → Hid (0 < i ∧ ∃ z : Sp, L[i - 1]? = some z ∧ y.1 = z.1)))
          case first =>
            rcases Nat.eq_zero_or_pos i with h0 | hpos
            · have hd : (i == 0) = true := by simpa using h0
              go_quiet (fail)
              go_wp2_with fail
              go_meet
              exact ⟨true, _, rfl, rfl, fun _ => .inl h0, fun h => by cases h⟩
            · have hd : (i == 0) = false := by simp; omega
              obtain ⟨z, hz⟩ : ∃ z, L[i - 1]? = some z := ⟨_, List.getElem?_eq_getElem (by omega)⟩
              obtain ⟨b4, o4, e4, -, g0, g1⟩ := sl_span HSL1.out (HY.out.whole) hz
              obtain ⟨rfl, rfl⟩ : b4 = b ∧ o4 = o := by simpa using e4.symm
              have HZ := Lib.hid hz
              have hdi : ((i : Int) == 0) = false := by simp; omega
              have q1 : (0 : Int) ≤ (i : Int) - 1 := by omega
              have q2 : (i : Int) - 1 < (L.length : Int) := by omega
              have q3 : IntKind.i64.wrap ((i : Int) - 1) = (i : Int) - 1 := IntWalk.i64_in _ (by omega)
              have q4 : ((i : Int) - 1).toNat = i - 1 := by omega
              clear hz e4 d1 g1
              by_cases he : y.1 = z.1
              · have he1 : (y.1 == z.1) = true := by simpa using he
                have he2 : (y.1 != z.1) = false := by simpa using he
                have HEQ := Lib.hid he
                clear he
                go_quiet (fail)
                go_wp2_with fail
                go_meet
                exact ⟨false, _, rfl, rfl, (fun h => by cases h), fun _ => ⟨hpos, z, HZ.out, HEQ.out⟩⟩
              · have he1 : (y.1 == z.1) = false := by simpa using he
                have he2 : (y.1 != z.1) = true := by simpa using he
                have HEQ := Lib.hid he
                clear he
                go_quiet (fail)
                go_wp2_with fail
                go_meet
                exact ⟨true, _, rfl, rfl, (fun _ => .inr ⟨z, HZ.out, HEQ.out⟩), fun h => by cases h⟩
          case rest =>
            obtain ⟨f, m, rfl, rfl, h1, h2⟩ := hcut
            cases f
            · have HN := h2 rfl
              have HP2 := Lib.hid (let ⟨hp, z, hz, he⟩ := HN.out; places_same HE.out HYY.out hp hz he)
              clear h1 h2 d0 d1
              go_wp2
              go_roundw
              case rel => exact ⟨i + 1, E, by omega, by go_num, HP2.out, own_heap HWE.out rfl, HY.out.drewN m⟩
              case measure => simp [intOf]; omega
            · have HN := h1 rfl
              have HP2 := Lib.hid (places_more HE.out HS.out.1 HYY.out HN.out)
              have hs1 : w1.heap.size ≤ wr.heap.size := HY.out.size
              clear h1 h2 d1
              go_wp2_with (with_reducible refine wpList_append_sl (o := ⟨some 70, _, _, _, _, _⟩) _ rfl (.tmp 63) (.tmp 69) _ rfl w1.heap.size 3 j0 _ 1 8 Try.underlying58 hj0 hy0 hy1 hy2 rfl (by decide) (.slice A3 E.length c3) E.length (i64s E) rfl ?d1 (wr.heap.size + 1) (.slice (some ⟨wr.heap.size, 0, none⟩) 1 1) 1 (i64s [y.1]) rfl ?d6 (i64s_one _) ?d2 ?d3 ?d4 ?d5)
              case d1 => exact own_heap (HWE.out.alloc (.cells #[.int .i64 y.1] 3)) rfl
              case d6 =>
                have := Sl.of_blk (size := 1) (n := 1) (c := 1) (Blk.new wr 3 #[.int .i64 y.1]) rfl (Nat.le_refl _) (by decide)
                have h2 : Sl (wr.alloc (.cells #[.int .i64 y.1] 3)) (wr.heap.size + 1) 1 (.slice (some ⟨wr.heap.size, 0, none⟩) 1 1) 1 (i64s [y.1]) := by simpa [i64s] using this
                exact h2.heap rfl
              case d2 => unfold maxLen; omega
              case d3 => omega
              case d4 => simp; omega
              case d5 =>
                intro v3 w3 H3 o3 _
                have HO3 := Lib.hid (own_nob ((HY.out.drewN m).alloc (.cells #[.int .i64 y.1] 3)) (own_heap (HWE.out.alloc (.cells #[.int .i64 y.1] 3)) rfl) o3 (Nat.le_refl _))
                have HW3 := Lib.hid (show w3.ownsRow w1.heap.size 3 1 v3 (E ++ [y.1]).length (i64s (E ++ [y.1])) by
                  rw [i64s_snoc, List.length_append]
                  exact H3.out)
                clear H3 o3
                go_wp2
                go_roundw
                case rel => exact ⟨i + 1, E ++ [y.1], by omega, by go_num, HP2.out, HW3.out, HO3.out⟩
                case measure => simp [intOf]; omega
        · obtain rfl : i = L.length := by omega
          have HF := Lib.hid (ends_of (l := l) (L := L) (E := E) (by rw [← HMM.out]; exact HS.out) HE.out)
          go_wp2
          go_ret
          exact ⟨_, E, rfl, HF.out, own_more HWE.out (fun q hq => Nat.le_trans HO1.out.size (own_lt HWE.out hq).1), HO1.out.trans HY.out⟩
end Go.Proofs.Ytlpndkmhdnpifaa
