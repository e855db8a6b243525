/- Contracts of the document's own answers for spans: Join. -/
import Derived.Test.YtpgkmjkickkieaaRef03F
namespace Go.Proofs.Ytpgkmjkickkieaa
open Go.RowKit

theorem ends_range {l : List Sp} {E : List Int} (h : EndsOf l E) {i : Nat} {v : Int} (hv : E[i]? = some v) : 0 ≤ v ∧ v ≤ most := by
  obtain ⟨x, _, hx, rfl | rfl⟩ := (h.2.1 v).1 (List.mem_of_getElem? hv)
  · unfold Sp.ok most at *; omega
  · unfold Sp.ok most at *; omega
theorem rising_lt {E : List Int} (h : Rising E) {i : Nat} {a b : Int} (ha : E[i]? = some a) (hb : E[i + 1]? = some b) : a < b := by
  obtain ⟨h1, rfl⟩ := List.getElem?_eq_some_iff.1 ha
  obtain ⟨h2, rfl⟩ := List.getElem?_eq_some_iff.1 hb
  exact List.pairwise_iff_getElem.1 h i (i + 1) h1 h2 (by omega)
/-- Between two ends there is none. -/
theorem rising_gap {E : List Int} (h : Rising E) {i : Nat} {a b v : Int} (ha : E[i]? = some a) (hb : E[i + 1]? = some b) (hv : v ∈ E) : v ≤ a ∨ b ≤ v := by
  obtain ⟨h1, rfl⟩ := List.getElem?_eq_some_iff.1 ha
  obtain ⟨h2, rfl⟩ := List.getElem?_eq_some_iff.1 hb
  obtain ⟨j, hj, rfl⟩ := List.getElem_of_mem hv
  have hp := List.pairwise_iff_getElem.1 h
  rcases Nat.lt_trichotomy j i with hlt | rfl | hgt
  · have := hp j i hj h1 hlt; omega
  · exact .inl (Int.le_refl _)
  · rcases Nat.lt_or_ge (i + 1) j with hlt | hge
    · have := hp (i + 1) j h2 hj hlt; omega
    · obtain rfl : j = i + 1 := by omega
      exact .inr (Int.le_refl _)
theorem ends_const {l : List Sp} {E : List Int} (h : EndsOf l E) {i : Nat} {a b p : Int} (ha : E[i]? = some a) (hb : E[i + 1]? = some b) (hp : a ≤ p) (hq : p < b) {x : Sp} (hx : x ∈ l) : x.has p ↔ x.has a := by
  have hlt := rising_lt h.1 ha hb
  constructor
  · rintro ⟨h1, h2, h3⟩
    have g1 := rising_gap h.1 ha hb ((h.2.1 x.1).2 ⟨x, hx, h1, .inl rfl⟩)
    exact ⟨h1, by omega, by omega⟩
  · rintro ⟨h1, h2, h3⟩
    have g1 := rising_gap h.1 ha hb ((h.2.1 (x.1 + x.2)).2 ⟨x, hx, h1, .inr rfl⟩)
    exact ⟨h1, by omega, by omega⟩
theorem rising_first {E : List Int} (h : Rising E) {e v : Int} (he : E[0]? = some e) (hv : v ∈ E) : e ≤ v := by
  obtain ⟨h1, rfl⟩ := List.getElem?_eq_some_iff.1 he
  obtain ⟨j, hj, rfl⟩ := List.getElem_of_mem hv
  rcases Nat.eq_zero_or_pos j with rfl | hp
  · exact Int.le_refl _
  · have := List.pairwise_iff_getElem.1 h 0 j h1 hj hp; omega
theorem rising_last {E : List Int} (h : Rising E) {i : Nat} {e v : Int} (he : E[i]? = some e) (hi : E.length ≤ i + 1) (hv : v ∈ E) : v ≤ e := by
  obtain ⟨h1, rfl⟩ := List.getElem?_eq_some_iff.1 he
  obtain ⟨j, hj, rfl⟩ := List.getElem_of_mem hv
  rcases Nat.lt_or_ge j i with hlt | hge
  · have := List.pairwise_iff_getElem.1 h j i hj h1 hlt; omega
  · obtain rfl : j = i := by omega
    exact Int.le_refl _

/-- Where the pieces stand behind i rounds. -/
def AtEnd (Q : Int → Prop) (E : List Int) (i : Nat) (O : List Sp) : Prop := ((E = [] ∧ O = []) ∨ ∃ e, E[i]? = some e ∧ Laid Q e O) ∧ O.length ≤ i
theorem at_start {l : List Sp} {E : List Int} {Q : Int → Prop} (h : EndsOf l E) (hQ : ∀ p, Q p → cov l p) : AtEnd Q E 0 [] := by
  refine ⟨?_, Nat.le_refl _⟩
  rcases E with _ | ⟨e, E⟩
  · exact .inl ⟨rfl, rfl⟩
  · refine .inr ⟨e, rfl, Joined.nil, fun p => ⟨fun hc => absurd hc (cov_nil p), fun ⟨h1, h2⟩ => ?_⟩, fun _ h => by cases h⟩
    obtain ⟨x, hx, hp⟩ := hQ p h1
    have := rising_first h.1 rfl ((h.2.1 x.1).2 ⟨x, hx, hp.1, .inl rfl⟩)
    have := hp.2.1
    omega
theorem putL_len (O : List Sp) (a b : Int) : (putL O a b).length ≤ O.length + 1 := by
  rcases last_cases O with rfl | ⟨p, z, rfl⟩
  · simp [putL_nil]
  · by_cases h : z.1 + z.2 = a
    · rw [putL_join p z a b h]; simp
    · rw [putL_more p z a b h]; simp
theorem at_put {l : List Sp} {E : List Int} {Q : Int → Prop} (h : EndsOf l E) {i : Nat} {O : List Sp} {a b : Int} (hO : AtEnd Q E i O) (ha : E[i]? = some a) (hb : E[i + 1]? = some b) (hq : ∀ p, a ≤ p → p < b → Q p) : AtEnd Q E (i + 1) (putL O a b) := by
  have ra := ends_range h ha
  have rb := ends_range h hb
  rcases hO with ⟨⟨rfl, _⟩ | ⟨e, he, hL⟩, hlen⟩
  · cases ha
  · rw [ha] at he
    obtain rfl := Option.some.inj he
    exact ⟨.inr ⟨b, hb, laid_put hL (rising_lt h.1 ha hb) ra.1 rb.2 hq⟩, by have := putL_len O a b; omega⟩
theorem at_skip {l : List Sp} {E : List Int} {Q : Int → Prop} (h : EndsOf l E) {i : Nat} {O : List Sp} {a b : Int} (hO : AtEnd Q E i O) (ha : E[i]? = some a) (hb : E[i + 1]? = some b) (hq : ∀ p, a ≤ p → p < b → ¬ Q p) : AtEnd Q E (i + 1) O := by
  rcases hO with ⟨⟨rfl, _⟩ | ⟨e, he, hL⟩, hlen⟩
  · cases ha
  · rw [ha] at he
    obtain rfl := Option.some.inj he
    exact ⟨.inr ⟨b, hb, laid_skip hL (rising_lt h.1 ha hb) hq⟩, by omega⟩
theorem at_stop {l : List Sp} {E : List Int} {Q : Int → Prop} (h : EndsOf l E) (hQ : ∀ p, Q p → cov l p) {i : Nat} {O : List Sp} (hO : AtEnd Q E i O) (hi : E.length ≤ i + 1) : Joined O ∧ ∀ p, cov O p ↔ Q p := by
  rcases hO with ⟨⟨rfl, rfl⟩ | ⟨e, he, hL⟩, _⟩
  · refine ⟨Joined.nil, fun p => ⟨fun hc => absurd hc (cov_nil p), fun h1 => ?_⟩⟩
    obtain ⟨x, hx, hp⟩ := hQ p h1
    have := (h.2.1 x.1).2 ⟨x, hx, hp.1, .inl rfl⟩
    cases this
  · refine ⟨hL.1, fun p => (hL.2.1 p).trans ⟨fun h => h.1, fun h1 => ⟨h1, ?_⟩⟩⟩
    obtain ⟨x, hx, hp⟩ := hQ p h1
    have := rising_last h.1 he hi ((h.2.1 (x.1 + x.2)).2 ⟨x, hx, hp.1, .inr rfl⟩)
    have := hp.2.2
    omega
theorem at_ok {Q : Int → Prop} {E : List Int} {i : Nat} {O : List Sp} (h : AtEnd Q E i O) : ∀ z ∈ O, Sp.ok z := by
  rcases h with ⟨⟨_, rfl⟩ | ⟨e, _, hL⟩, _⟩
  · intro z hz; cases hz
  · exact hL.1.1
theorem cov_const {l : List Sp} {E : List Int} (h : EndsOf l E) {i : Nat} {a b p : Int} (ha : E[i]? = some a) (hb : E[i + 1]? = some b) (hp : a ≤ p) (hq : p < b) {m : List Sp} (hm : ∀ x ∈ m, x ∈ l) : cov m p ↔ cov m a :=
  ⟨fun ⟨x, hx, hh⟩ => ⟨x, hx, (ends_const h ha hb hp hq (hm x hx)).1 hh⟩, fun ⟨x, hx, hh⟩ => ⟨x, hx, (ends_const h ha hb hp hq (hm x hx)).2 hh⟩⟩

/-- The cells of an integer in a list of the call's own. -/
theorem own_int {w w' : World} {B c k : Nat} {A : Option Addr} {E : List Int} {z : Int} (h : Sl w B 1 (.slice A E.length c) E.length (i64s E)) (hb : Below B w w') (hz : E[k]? = some z) :
    ∃ g o, A = some ⟨g, o, none⟩ ∧ g < B ∧ w'.cell? ⟨g, o + k, none⟩ = some (.int .i64 z) := by
  have hk : k < E.length := (List.getElem?_eq_some_iff.1 hz).1
  obtain ⟨b, o, c', e, _, _, hlt, hc⟩ := (h.below hb).at_ (by omega)
  obtain ⟨rfl, rfl⟩ : A = some ⟨b, o, none⟩ ∧ c = c' := by simpa using e
  exact ⟨b, o, rfl, hlt, hc _ _ (i64s_at hz)⟩

set_option maxHeartbeats 4000000 in
theorem refJoin_any (v : Value) (l : List Sp) (B : Nat) (w : World) (h : Sl w B 2 v l.length (spc l)) (hB : B ≤ w.heap.size) (hl : l.length ≤ 40000) :
    Calls Try.prog 14 #[v] w fun e w' => ∃ v' O, e = .returned v' ∧ Joined O ∧ (∀ p, cov O p ↔ cov l p) ∧ w'.ownsRow w.heap.size 23 2 v' O.length (spc O) ∧ Only nob w w' := by
  have HA := Lib.hid h
  obtain ⟨A, ca, rfl, hac, ham, -⟩ := h
  unfold maxLen at ham
  go_enter Try.func14, Try.ntmps14
  go_wp2_with fail
  go_at_call 20
  refine (refEnds_any _ l B _ HA.out hB hl).mono ?_
  rintro e w1 ⟨v1, E, rfl, hE, hW, ho⟩
  have HE := Lib.hid hE
  have hEl : E.length ≤ 80000 := by have := hE.2.2; omega
  have HSE := Lib.hid (Sl.of_own hW hW.1)
  have O1 := Lib.hid ho
  have hs1 : w.heap.size ≤ w1.heap.size := ho.size
  obtain ⟨A2, c2, rfl, hc2, hm2⟩ := own_len hW
  unfold maxLen at hm2
  clear hE hW ho
  go_wp2_with fail
  go_loopw [4, 5] (fun s i wr => ∃ (k : Nat) (O : List Sp), i = .int .i64 k ∧ k ≤ E.length ∧ AtEnd (cov l) E k O ∧ wr.ownsRow w1.heap.size 23 2 s O.length (spc O) ∧ Only nob w1 wr) (fun _ i _ => E.length - (intOf i).toNat)
  case atStart => exact ⟨0, [], rfl, Nat.zero_le _, at_start HE.out fun _ h => h, World.ownsRow_nil _ _ _ _, Only.refl _ _⟩
  case round =>
    obtain ⟨k, O, rfl, hk, hAt, hown, hO⟩ := hrel
    have HAt := Lib.hid hAt
    have HW := Lib.hid hown
    have HO := Lib.hid hO
    have hOl := hAt.2
    clear hAt hown hO
    by_cases hlt : k + 1 < E.length
    · obtain ⟨a, ha⟩ : ∃ a, E[k]? = some a := ⟨_, List.getElem?_eq_getElem (by omega)⟩
      obtain ⟨b, hb⟩ : ∃ b, E[k + 1]? = some b := ⟨_, List.getElem?_eq_getElem hlt⟩
      obtain ⟨g, q, rfl, hg, c0⟩ := own_int HSE.out HO.out.whole ha
      have HAA := Lib.hid ha
      have HBB := Lib.hid hb
      have ra := ends_range HE.out ha
      have rb := ends_range HE.out hb
      have hk1 : k < E.length := by omega
      unfold most at ra rb
      clear ha hb
      have HCall := Lib.hid (fun (p : Int) (w' : World) (ho : Only nob wr w') => refCovered_any _ l p B w' (HA.out.below (((O1.out.trans HO.out).trans ho).below hB fun _ h => h.elim)) (Nat.le_trans hB (Nat.le_trans hs1 (Nat.le_trans HO.out.size ho.size))))
      by_cases hc : cov l a
      · have HC := Lib.hid (decide_eq_true hc)
        have HQ := Lib.hid (at_put HE.out HAt.out HAA.out HBB.out fun p h1 h2 => (cov_const HE.out HAA.out HBB.out h1 h2 (m := l) fun _ h => h).2 hc)
        clear hc
        go_wp2_with fail
        refine (HCall.out a _ (Only.refl _ _)).mono ?_
        rw [HC.out]
        rintro e w2 ⟨rfl, ho⟩
        have HO2 := Lib.hid (HO.out.trans ho)
        have HW2 := Lib.hid (own_only HW.out ho fun _ _ => id)
        obtain ⟨g1, q1, e1, -, d0⟩ := own_int HSE.out HO2.out.whole HAA.out
        obtain ⟨rfl, rfl⟩ : g1 = g ∧ q1 = q := by simpa using e1.symm
        obtain ⟨g2, q2, e2, -, d1⟩ := own_int HSE.out HO2.out.whole HBB.out
        obtain ⟨rfl, rfl⟩ : g2 = g1 ∧ q2 = q1 := by simpa using e2.symm
        clear ho c0 e1 e2
        go_wp2_with fail
        have s1 : IntKind.i64.wrap ((k : Int) + 1) = (k : Int) + 1 := IntWalk.i64_in _ (by omega)
        have s2 : (0 : Int) ≤ (k : Int) + 1 := by omega
        have s3 : (k : Int) + 1 < (E.length : Int) := by omega
        have s4 : ((k : Int) + 1).toNat = k + 1 := by omega
        go_still_tail 10, (by kernel_rfl)
        change wpList _ _ _ _ _ w2.drew
        generalize hwd : w2.drew = w3
        have HO3 := Lib.hid (show Only nob w1 w3 by rw [← hwd]; exact HO2.out.drewN 1)
        have HW3 := Lib.hid (show w3.ownsRow w1.heap.size 23 2 _ O.length (spc O) by rw [← hwd]; exact own_heap HW2.out rfl)
        clear hwd d0 d1 s1 s2 s3 s4
        go_wp2_with fail
        go_at_call 22
        refine (refPut_any _ O a b w1.heap.size _ HW3.out HO3.out.size (by omega) (at_ok HAt.out) ra rb).mono ?_
        rintro e w4 ⟨v4, rfl, hW4, o4⟩
        have HW4 := Lib.hid hW4
        have HO4 := Lib.hid (own_nob HO3.out HW3.out o4 (Nat.le_refl _))
        clear hW4 o4
        go_wp2
        go_roundw
        case rel => exact ⟨k + 1, _, by go_num, by omega, HQ.out, HW4.out, HO4.out⟩
        case measure => simp [intOf]; omega
      · have HC := Lib.hid (decide_eq_false hc)
        have HQ := Lib.hid (at_skip HE.out HAt.out HAA.out HBB.out fun p h1 h2 hh => hc ((cov_const HE.out HAA.out HBB.out h1 h2 (m := l) fun _ h => h).1 hh))
        clear hc
        go_wp2_with fail
        refine (HCall.out a _ (Only.refl _ _)).mono ?_
        rw [HC.out]
        rintro e w2 ⟨rfl, ho⟩
        have HO2 := Lib.hid (HO.out.trans ho)
        have HW2 := Lib.hid (own_only HW.out ho fun _ _ => id)
        clear ho c0
        go_wp2
        go_roundw
        case rel => exact ⟨k + 1, O, by go_num, by omega, HQ.out, HW2.out, HO2.out⟩
        case measure => simp [intOf]; omega
    · have HF := Lib.hid (at_stop HE.out (fun _ h => h) HAt.out (by omega))
      go_wp2
      go_ret
      exact ⟨_, O, rfl, HF.out.1, HF.out.2, own_more HW.out (fun q hq => Nat.le_trans hs1 (own_lt HW.out hq).1), O1.out.trans HO.out⟩
end Go.Proofs.Ytpgkmjkickkieaa
