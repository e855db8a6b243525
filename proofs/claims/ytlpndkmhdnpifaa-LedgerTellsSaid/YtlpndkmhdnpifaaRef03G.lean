/- Contracts of the document's own answers for spans: Join. -/
import Derived.Test.YtlpndkmhdnpifaaRef03F
namespace Go.Proofs.Ytlpndkmhdnpifaa
open Go.RowKit

theorem ends_range {l : List Sp} {E : List Int} (h : EndsOf l E) {i : Nat} {v : Int} (hv : E[i]? = some v) : 0 ≤ v ∧ v ≤ most := by
  obtain ⟨x, _, hx, rfl | rfl⟩ := (h.2.1 v).1 (List.mem_of_getElem? hv)
  · unfold Sp.ok most at *; omega
  · unfold Sp.ok most at *; omega
theorem rising_lt {E : List Int} (h : Rising E) {i : Nat} {a b : Int} (ha : E[i]? = some a) (hb : E[i + 1]? = some b) : a < b := by
  obtain ⟨h1, rfl⟩ := List.getElem?_eq_some_iff.1 ha
  obtain ⟨h2, rfl⟩ := List.getElem?_eq_some_iff.1 hb
  exact List.pairwise_iff_getElem.1 h i (i + 1) h1 h2 (by omega)
/-- Between two ends there is none. -/
theorem rising_gap {E : List Int} (h : Rising E) {i : Nat} {a b v : Int} (ha : E[i]? = some a) (hb : E[i + 1]? = some b) (hv : v ∈ E) : v ≤ a ∨ b ≤ v := by
  obtain ⟨h1, rfl⟩ := List.getElem?_eq_some_iff.1 ha
  obtain ⟨h2, rfl⟩ := List.getElem?_eq_some_iff.1 hb
  obtain ⟨j, hj, rfl⟩ := List.getElem_of_mem hv
  have hp := List.pairwise_iff_getElem.1 h
  rcases Nat.lt_trichotomy j i with hlt | rfl | hgt
  · have := hp j i hj h1 hlt; omega
  · exact .inl (Int.le_refl _)
  · rcases Nat.lt_or_ge (i + 1) j with hlt | hge
    · have := hp (i + 1) j h2 hj hlt; omega
    · obtain rfl : j = i + 1 := by omega
      exact .inr (Int.le_refl _)
theorem ends_const {l : List Sp} {E : List Int} (h : EndsOf l E) {i : Nat} {a b p : Int} (ha : E[i]? = some a) (hb : E[i + 1]? = some b) (hp : a ≤ p) (hq : p < b) {x : Sp} (hx : x ∈ l) : x.has p ↔ x.has a := by
  have hlt := rising_lt h.1 ha hb
  constructor
  · rintro ⟨h1, h2, h3⟩
    have g1 := rising_gap h.1 ha hb ((h.2.1 x.1).2 ⟨x, hx, h1, .inl rfl⟩)
    exact ⟨h1, by omega, by omega⟩
  · rintro ⟨h1, h2, h3⟩
    have g1 := rising_gap h.1 ha hb ((h.2.1 (x.1 + x.2)).2 ⟨x, hx, h1, .inr rfl⟩)
    exact ⟨h1, by omega, by omega⟩
theorem rising_first {E : List Int} (h : Rising E) {e v : Int} (he : E[0]? = some e) (hv : v ∈ E) : e ≤ v := by
  obtain ⟨h1, rfl⟩ := List.getElem?_eq_some_iff.1 he
  obtain ⟨j, hj, rfl⟩ := List.getElem_of_mem hv
  rcases Nat.eq_zero_or_pos j with rfl | hp
  · exact Int.le_refl _
  · have := List.pairwise_iff_getElem.1 h 0 j h1 hj hp; omega
theorem rising_last {E : List Int} (h : Rising E) {i : Nat} {e v : Int} (he : E[i]? = some e) (hi : E.length ≤ i + 1) (hv : v ∈ E) : v ≤ e := by
  obtain ⟨h1, rfl⟩ := List.getElem?_eq_some_iff.1 he
  obtain ⟨j, hj, rfl⟩ := List.getElem_of_mem hv
  rcases Nat.lt_or_ge j i with hlt | hge
  · have := List.pairwise_iff_getElem.1 h j i hj h1 hlt; omega
  · obtain rfl : j = i := by omega
    exact Int.le_refl _

/-- Where the pieces stand behind i rounds. -/
def AtEnd (Q : Int → Prop) (E : List Int) (i : Nat) (O : List Sp) : Prop := ((E = [] ∧ O = []) ∨ ∃ e, E[i]? = some e ∧ Laid Q e O) ∧ O.length ≤ i
theorem at_start {l : List Sp} {E : List Int} {Q : Int → Prop} (h : EndsOf l E) (hQ : ∀ p, Q p → cov l p) : AtEnd Q E 0 [] := by
  refine ⟨?_, Nat.le_refl _⟩
  rcases E with _ | ⟨e, E⟩
  · exact .inl ⟨rfl, rfl⟩
  · refine .inr ⟨e, rfl, Joined.nil, fun p => ⟨fun hc => absurd hc (cov_nil p), fun ⟨h1, h2⟩ => ?_⟩, fun _ h => by cases h⟩
    obtain ⟨x, hx, hp⟩ := hQ p h1
    have := rising_first h.1 rfl ((h.2.1 x.1).2 ⟨x, hx, hp.1, .inl rfl⟩)
    have := hp.2.1
    omega
theorem putL_len (O : List Sp) (a b : Int) : (putL O a b).length ≤ O.length + 1 := by
  rcases last_cases O with rfl | ⟨p, z, rfl⟩
  · simp [putL_nil]
  · by_cases h : z.1 + z.2 = a
    · rw [putL_join p z a b h]; simp
    · rw [putL_more p z a b h]; simp
theorem at_put {l : List Sp} {E : List Int} {Q : Int → Prop} (h : EndsOf l E) {i : Nat} {O : List Sp} {a b : Int} (hO : AtEnd Q E i O) (ha : E[i]? = some a) (hb : E[i + 1]? = some b) (hq : ∀ p, a ≤ p → p < b → Q p) : AtEnd Q E (i + 1) (putL O a b) := by
  have ra := ends_range h ha
  have rb := ends_range h hb
  rcases hO with ⟨⟨rfl, _⟩ | ⟨e, he, hL⟩, hlen⟩
  · cases ha
  · rw [ha] at he
    obtain rfl := Option.some.inj he
    exact ⟨.inr ⟨b, hb, laid_put hL (rising_lt h.1 ha hb) ra.1 rb.2 hq⟩, by have := putL_len O a b; omega⟩
theorem at_skip {l : List Sp} {E : List Int} {Q : Int → Prop} (h : EndsOf l E) {i : Nat} {O : List Sp} {a b : Int} (hO : AtEnd Q E i O) (ha : E[i]? = some a) (hb : E[i + 1]? = some b) (hq : ∀ p, a ≤ p → p < b → ¬ Q p) : AtEnd Q E (i + 1) O := by
  rcases hO with ⟨⟨rfl, _⟩ | ⟨e, he, hL⟩, hlen⟩
  · cases ha
  · rw [ha] at he
    obtain rfl := Option.some.inj he
    exact ⟨.inr ⟨b, hb, laid_skip hL (rising_lt h.1 ha hb) hq⟩, by omega⟩
theorem at_stop {l : List Sp} {E : List Int} {Q : Int → Prop} (h : EndsOf l E) (hQ : ∀ p, Q p → cov l p) {i : Nat} {O : List Sp} (hO : AtEnd Q E i O) (hi : E.length ≤ i + 1) : Joined O ∧ ∀ p, cov O p ↔ Q p := by
  rcases hO with ⟨⟨rfl, rfl⟩ | ⟨e, he, hL⟩, _⟩
  · refine ⟨Joined.nil, fun p => ⟨fun hc => absurd hc (cov_nil p), fun h1 => ?_⟩⟩
    obtain ⟨x, hx, hp⟩ := hQ p h1
    have := (h.2.1 x.1).2 ⟨x, hx, hp.1, .inl rfl⟩
    cases this
  · refine ⟨hL.1, fun p => (hL.2.1 p).trans ⟨fun h => h.1, fun h1 => ⟨h1, ?_⟩⟩⟩
    obtain ⟨x, hx, hp⟩ := hQ p h1
    have := rising_last h.1 he hi ((h.2.1 (x.1 + x.2)).2 ⟨x, hx, hp.1, .inr rfl⟩)
    have := hp.2.2
    omega
theorem at_ok {Q : Int → Prop} {E : List Int} {i : Nat} {O : List Sp} (h : AtEnd Q E i O) : ∀ z ∈ O, Sp.ok z := by
  rcases h with ⟨⟨_, rfl⟩ | ⟨e, _, hL⟩, _⟩
  · intro z hz; cases hz
  · exact hL.1.1
theorem cov_const {l : List Sp} {E : List Int} (h : EndsOf l E) {i : Nat} {a b p : Int} (ha : E[i]? = some a) (hb : E[i + 1]? = some b) (hp : a ≤ p) (hq : p < b) {m : List Sp} (hm : ∀ x ∈ m, x ∈ l) : cov m p ↔ cov m a :=
  ⟨fun ⟨x, hx, hh⟩ => ⟨x, hx, (ends_const h ha hb hp hq (hm x hx)).1 hh⟩, fun ⟨x, hx, hh⟩ => ⟨x, hx, (ends_const h ha hb hp hq (hm x hx)).2 hh⟩⟩

/-- The cells of an integer in a list of the call's own. -/
theorem own_int {w w' : World} {B c k : Nat} {A : Option Addr} {E : List Int} {z : Int} (h : Sl w B 1 (.slice A E.length c) E.length (i64s E)) (hb : Below B w w') (hz : E[k]? = some z) :
    ∃ g o, A = some ⟨g, o, none⟩ ∧ g < B ∧ w'.cell? ⟨g, o + k, none⟩ = some (.int .i64 z) := by
  have hk : k < E.length := (List.getElem?_eq_some_iff.1 hz).1
  obtain ⟨b, o, c', e, _, _, hlt, hc⟩ := (h.below hb).at_ (by omega)
  obtain ⟨rfl, rfl⟩ : A = some ⟨b, o, none⟩ ∧ c = c' := by simpa using e
  exact ⟨b, o, rfl, hlt, hc _ _ (i64s_at hz)⟩

end Go.Proofs.Ytlpndkmhdnpifaa
