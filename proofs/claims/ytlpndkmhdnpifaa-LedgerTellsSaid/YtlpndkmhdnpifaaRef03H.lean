/- Contracts of the document's own answers for spans: Gaps. -/
import Derived.Test.YtlpndkmhdnpifaaRef03G
import Derived.Deep.RegionWith
import Derived.Deep.DrawnRows
namespace Go.Proofs.Ytlpndkmhdnpifaa
open Go.RowKit

attribute [local go_sem ↓] Go.wp_at_zero Go.wp_at_succ
/-- The places of x that none of l has. -/
def free (x : Sp) (l : List Sp) (p : Int) : Prop := x.has p ∧ ¬ cov l p
theorem free_const {x : Sp} {l : List Sp} {E : List Int} (h : EndsOf (x :: l) E) {i : Nat} {a b p : Int} (ha : E[i]? = some a) (hb : E[i + 1]? = some b) (hp : a ≤ p) (hq : p < b) : free x l p ↔ free x l a := by
  unfold free
  rw [ends_const h ha hb hp hq List.mem_cons_self, cov_const h ha hb hp hq (m := l) fun y hy => List.mem_cons_of_mem _ hy]

set_option maxHeartbeats 4000000 in
theorem refGaps_any (x : Sp) (v : Value) (l : List Sp) (B : Nat) (w : World) (h : Sl w B 2 v l.length (spc l)) (hB : B ≤ w.heap.size) (hl : l.length ≤ 30000) :
    Calls Try.prog 44 #[.agg #[.int .i64 x.1, .int .i64 x.2], v] w fun e w' => ∃ v' O, e = .returned v' ∧ Joined O ∧ (∀ p, cov O p ↔ free x l p) ∧ w'.ownsRow w.heap.size 24 2 v' O.length (spc O) ∧ Only nob w w' := by
  obtain ⟨i0, hi0, hz0, hz1, hz2⟩ := info_parts info_span
  have HA := Lib.hid h
  obtain ⟨A, ca, rfl, hac, ham, -⟩ := h
  unfold maxLen at ham
  go_enter Try.func44, Try.ntmps44
  go_wp2_with (with_reducible refine wpList_append_sl (o := ⟨some 11, _, _, _, _, _⟩) _ rfl (.tmp 9) (.tmp 10) _ rfl w.heap.size 24 i0 _ 2 16 Try.underlying22 hi0 hz0 hz1 hz2 rfl (by decide) (.slice (some ⟨w.heap.size + 1, 0, none⟩) 1 1) 1 (spc [x]) rfl ?c1 B (.slice A l.length ca) l.length (spc l) rfl ?c6 (spc_one _) ?c2 ?c3 ?c4 ?c5)
  case c1 =>
    have hb : Blk ((w.alloc (.cells #[.int .i64 x.1, .int .i64 x.2] 24)).alloc (.cells #[.int .i64 x.1, .int .i64 x.2] 24)) (w.heap.size + 1) 24 #[.int .i64 x.1, .int .i64 x.2] := Blk.newAt _ _ _ _ (by simp)
    have := own_of_blk (base := w.heap.size) (size := 2) (n := 1) hb (by omega) rfl (by decide)
    simpa [spc] using this
  case c6 => exact HA.out.below ((((Below.refl _ w).alloc hB _)).alloc (by simp; omega) _)
  case c2 => unfold maxLen; omega
  case c3 => omega
  case c4 => simp; omega
  case c5 =>
    intro v1 w1 H1 o1 _
    have O1 := Lib.hid (show Only nob w w1 from (((Only.refl nob w).alloc _).alloc _).andThen o1 fun i hi e => by simp [Value.ownBlock] at e; omega)
    have hx1 : Blk w1 w.heap.size 24 #[.int .i64 x.1, .int .i64 x.2] := ((Blk.new w _ _).alloc _).keep o1 (fun e => by simp [Value.ownBlock] at e)
    have HX1 := Lib.hid hx1
    have HSL := Lib.hid (show Sl w1 w1.heap.size 2 v1 (x :: l).length (spc (x :: l)) by
      have := Sl.of_own H1.out H1.out.1
      rw [← spc_append] at this
      simpa [Nat.add_comm] using this)
    have hs1 : w.heap.size ≤ w1.heap.size := O1.out.size
    clear H1 o1 hx1
    go_wp2_with fail
    go_at_call 57
    refine (refEnds_any _ (x :: l) _ _ HSL.out (Nat.le_refl _) (by simp; omega)).mono ?_
    rintro e w2 ⟨v2, E, rfl, hE, hW, ho⟩
    have HE := Lib.hid hE
    have hEl : E.length ≤ 80000 := by have := hE.2.2; simp at this; omega
    have HSE := Lib.hid (Sl.of_own hW hW.1)
    have O2 := Lib.hid (O1.out.trans ho)
    have hs2 : w.heap.size ≤ w2.heap.size := O2.out.size
    have hs3 : w.heap.size < w2.heap.size := by have := HX1.out.lt; have := ho.size; omega
    have HX2 := Lib.hid (HX1.out.keep ho id)
    obtain ⟨A2, c2, rfl, hc2, hm2⟩ := own_len hW
    unfold maxLen at hm2
    clear hE hW ho
    go_wp2_with fail
    go_loopw [6, 7] (fun s i wr => ∃ (k : Nat) (O : List Sp), i = .int .i64 k ∧ k ≤ E.length ∧ AtEnd (free x l) E k O ∧ wr.ownsRow w2.heap.size 24 2 s O.length (spc O) ∧ Only nob w2 wr) (fun _ i _ => E.length - (intOf i).toNat)
    case atStart => exact ⟨0, [], rfl, Nat.zero_le _, at_start HE.out (fun p hp => cov_cons.2 (.inl hp.1)), World.ownsRow_nil _ _ _ _, Only.refl _ _⟩
    case round =>
      obtain ⟨k, O, rfl, hk, hAt, hown, hO⟩ := hrel
      have HAt := Lib.hid hAt
      have HW := Lib.hid hown
      have HO := Lib.hid hO
      have hOl := hAt.2
      clear hAt hown hO
      obtain ⟨A3, c3, rfl, -, -⟩ := own_len HW.out
      by_cases hlt : k + 1 < E.length
      · obtain ⟨a, ha⟩ : ∃ a, E[k]? = some a := ⟨_, List.getElem?_eq_getElem (by omega)⟩
        obtain ⟨b, hb⟩ : ∃ b, E[k + 1]? = some b := ⟨_, List.getElem?_eq_getElem hlt⟩
        obtain ⟨g, q, rfl, hg, c0⟩ := own_int HSE.out HO.out.whole ha
        have hx2 := HX2.out.keep HO.out id
        have x0 := hx2.cell 0
        have x1 := hx2.cell 1
        simp at x0 x1
        have HAA := Lib.hid ha
        have HBB := Lib.hid hb
        have ra := ends_range HE.out ha
        have rb := ends_range HE.out hb
        have hk1 : k < E.length := by omega
        unfold most at ra rb
        have hwr : w.heap.size < wr.heap.size := by have := HO.out.size; omega
        have hgr : g < wr.heap.size := by have := HO.out.size; omega
        clear ha hb hx2
        have HCall := Lib.hid (fun (p : Int) (w' : World) (ho : Only nob wr w') => refCovered_any _ l p B w' (HA.out.below (((O2.out.trans HO.out).trans ho).below hB fun _ h => h.elim)) (Nat.le_trans hB (Nat.le_trans hs2 (Nat.le_trans HO.out.size ho.size))))
        go_upto_region 6 with fail
        go_cut [34] (fun s wx => ∃ f : Bool, s = .bool f ∧ Only nob wr wx ∧ (f = true → Hid (free x l a)) ∧ (f = false → Hid (¬ free x l a)))
        case first =>
          by_cases hh : x.has a
          · have HH := Lib.hid (decide_eq_true hh)
            have HHH := Lib.hid hh
            by_cases hc : cov l a
            case' pos => have HC := Lib.hid (decide_eq_true hc)
            case' neg => have HC := Lib.hid (decide_eq_false hc)
            all_goals
              have HCC := Lib.hid hc
              clear hh hc
              go_region_held3 (fun w' => w'.cell? ⟨w.heap.size, 0, none⟩ = some (.int .i64 x.1) ∧ w'.cell? ⟨w.heap.size, 1, none⟩ = some (.int .i64 x.2) ∧ w'.cell? ⟨g, q + k, none⟩ = some (.int .i64 a)) (first | go_keep | exact ⟨(o5.old _ _ hwr).trans x0, (o5.old _ _ hwr).trans x1, (o5.old _ _ hgr).trans c0⟩ | exact ⟨(o6.old _ _ (Nat.lt_of_lt_of_le hwr o5.size)).trans ((o5.old _ _ hwr).trans x0), (o6.old _ _ (Nat.lt_of_lt_of_le hwr o5.size)).trans ((o5.old _ _ hwr).trans x1), (o6.old _ _ (Nat.lt_of_lt_of_le hgr o5.size)).trans ((o5.old _ _ hgr).trans c0)⟩)
                (first
                  | (go_at_call 34; refine (refHas_any x a _).mono ?_; rw [HH.out]; rintro e w5 ⟨rfl, o5⟩)
                  | (go_at_call 58; refine (HCall.out a _ ?_).mono ?_; exact o5.drewL; rw [HC.out]; rintro e w6 ⟨rfl, o6⟩))
              go_wp2_with fail
              go_meet
              first
              | exact ⟨false, rfl, o5.drewL.trans o6, (fun h => by cases h), fun _ hf => hf.2 HCC.out⟩
              | exact ⟨true, rfl, o5.drewL.trans o6, (fun _ => ⟨HHH.out, HCC.out⟩), fun h => by cases h⟩
          · have HH := Lib.hid (decide_eq_false hh)
            have HHH := Lib.hid hh
            clear hh
            first
            | go_region_with (go_at_call 34; refine (refHas_any x a _).mono ?_; rw [HH.out]; rintro e w5 ⟨rfl, o5⟩)
            | fail
            all_goals
              go_wp2_with fail
              go_meet
              exact ⟨false, rfl, o5.drewL, (fun h => by cases h), fun _ hf => HHH.out hf.1⟩
        case rest =>
          obtain ⟨f, rfl, o5, h1, h2⟩ := hcut
          have HO5 := Lib.hid (HO.out.trans o5)
          have HW5 := Lib.hid (own_only HW.out o5 fun _ _ => id)
          cases f
          · have HN := h2 rfl
            have HQ := Lib.hid (at_skip HE.out HAt.out HAA.out HBB.out fun p g1 g2 hf => HN.out ((free_const HE.out HAA.out HBB.out g1 g2).1 hf))
            clear h1 h2 o5 c0 x0 x1
            go_wp2
            go_roundw
            case rel => exact ⟨k + 1, O, by go_num, by omega, HQ.out, HW5.out, HO5.out⟩
            case measure => simp [intOf]; omega
          · have HN := h1 rfl
            have HQ := Lib.hid (at_put HE.out HAt.out HAA.out HBB.out fun p g1 g2 => (free_const HE.out HAA.out HBB.out g1 g2).2 HN.out)
            obtain ⟨g1, q1, e1, -, d0⟩ := own_int HSE.out HO5.out.whole HAA.out
            obtain ⟨rfl, rfl⟩ : g1 = g ∧ q1 = q := by simpa using e1.symm
            obtain ⟨g2, q2, e2, -, d1⟩ := own_int HSE.out HO5.out.whole HBB.out
            obtain ⟨rfl, rfl⟩ : g2 = g1 ∧ q2 = q1 := by simpa using e2.symm
            have s1 : IntKind.i64.wrap ((k : Int) + 1) = (k : Int) + 1 := IntWalk.i64_in _ (by omega)
            have s2 : (0 : Int) ≤ (k : Int) + 1 := by omega
            have s3 : (k : Int) + 1 < (E.length : Int) := by omega
            have s4 : ((k : Int) + 1).toNat = k + 1 := by omega
            clear h1 h2 o5 c0 x0 x1 e1 e2
            go_wp2_with fail
            go_still_tail 10, (by kernel_rfl)
            change wpList _ _ _ _ _ wc.drew
            generalize hwd : wc.drew = w3
            have HO3 := Lib.hid (show Only nob w2 w3 by rw [← hwd]; exact HO5.out.drewN 1)
            have HW3 := Lib.hid (show w3.ownsRow w2.heap.size 24 2 (.slice A3 O.length c3) O.length (spc O) by rw [← hwd]; exact own_heap HW5.out rfl)
            clear hwd d0 d1 s1 s2 s3 s4
            go_wp2_with fail
            go_at_call 59
            refine (refPut_any _ O a b w2.heap.size _ HW3.out HO3.out.size (by omega) (at_ok HAt.out) ra rb).mono ?_
            rintro e w4 ⟨v4, rfl, hW4, o4⟩
            have HW4 := Lib.hid hW4
            have HO4 := Lib.hid (own_nob HO3.out HW3.out o4 (Nat.le_refl _))
            clear hW4 o4
            go_wp2
            go_roundw
            case rel => exact ⟨k + 1, _, by go_num, by omega, HQ.out, HW4.out, HO4.out⟩
            case measure => simp [intOf]; omega
      · have HF := Lib.hid (at_stop HE.out (fun p hp => cov_cons.2 (.inl hp.1)) HAt.out (by omega))
        go_wp2
        go_ret
        exact ⟨_, O, rfl, HF.out.1, HF.out.2, own_more HW.out (fun q hq => Nat.le_trans hs2 (own_lt HW.out hq).1), O2.out.trans HO.out⟩
end Go.Proofs.Ytlpndkmhdnpifaa
