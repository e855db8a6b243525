/- Plain mathematics of joining sorted spans one by one, and of the gaps between joined ones. No program in it. -/
import Derived.Test.YtmlpppcdammelaaSpanMath
namespace Go.Proofs.Ytmlpppcdammelaa

theorem Joined.snoc {l : List Sp} {x : Sp} (h : Joined l) (hx : x.ok) (hb : ∀ y ∈ l, y.1 + y.2 < x.1) : Joined (l ++ [x]) := by
  constructor
  · intro y hy
    rcases List.mem_append.1 hy with hy | hy
    · exact h.1 y hy
    · rw [List.mem_singleton.1 hy]; exact hx
  · refine List.pairwise_append.2 ⟨h.2, List.pairwise_singleton _ _, fun a ha b hb' => ?_⟩
    rw [List.mem_singleton.1 hb']; exact hb a ha
theorem Joined.init {l : List Sp} {x : Sp} (h : Joined (l ++ [x])) : Joined l := ⟨fun y hy => h.1 y (List.mem_append_left _ hy), (List.pairwise_append.1 h.2).1⟩
theorem Joined.last {l : List Sp} {x : Sp} (h : Joined (l ++ [x])) : x.ok := h.1 x (by simp)
theorem Joined.below {l : List Sp} {x : Sp} (h : Joined (l ++ [x])) : ∀ y ∈ l, y.1 + y.2 < x.1 := fun y hy => (List.pairwise_append.1 h.2).2.2 y hy x (by simp)
/-- The last one grows. -/
theorem Joined.grow {l : List Sp} {x y : Sp} (h : Joined (l ++ [x])) (hy : y.ok) (h1 : y.1 = x.1) : Joined (l ++ [y]) := h.init.snoc hy (fun z hz => by rw [h1]; exact h.below z hz)

/-- l's spans joined so far, rising: the last one is cur. -/
structure Merge (l out : List Sp) (cur : Sp) : Prop where
  joined : Joined (out ++ [cur])
  words : ∀ p, cov (out ++ [cur]) p ↔ cov l p
theorem has_not_ok {x : Sp} (h : ¬ x.ok) (p : Int) : ¬ x.has p := fun hp => h hp.1
theorem cov_skip {l : List Sp} {x : Sp} (h : ¬ x.ok) (p : Int) : cov (l ++ [x]) p ↔ cov l p := by
  rw [cov_append, cov_one]; exact ⟨fun e => e.elim id fun e => absurd e (has_not_ok h p), .inl⟩
theorem Merge.skip {l out : List Sp} {cur x : Sp} (h : Merge l out cur) (hx : ¬ x.ok) : Merge (l ++ [x]) out cur := ⟨h.joined, fun p => (h.words p).trans (cov_skip hx p).symm⟩
theorem Merge.first {l : List Sp} {x : Sp} (h : ∀ p, ¬ cov l p) (hx : x.ok) : Merge (l ++ [x]) [] x :=
  ⟨Joined.nil.snoc hx (fun _ h => by cases h), fun p => by rw [List.nil_append, cov_append]; exact ⟨Or.inr, fun e => e.elim (fun e => absurd e (h p)) id⟩⟩
/-- The next one begins behind cur's end: cur is done with. -/
theorem Merge.next {l out : List Sp} {cur x : Sp} (h : Merge l out cur) (hx : x.ok) (hb : cur.1 + cur.2 < x.1) : Merge (l ++ [x]) (out ++ [cur]) x := by
  refine ⟨h.joined.snoc hx fun y hy => ?_, fun p => ?_⟩
  · rcases List.mem_append.1 hy with hy | hy
    · have := h.joined.below y hy
      have := h.joined.last.2.1
      omega
    · rw [List.mem_singleton.1 hy]; exact hb
  · rw [cov_append (l := out ++ [cur]), cov_append (l := l), h.words]
/-- The next one meets cur or touches it: cur grows to e. -/
theorem Merge.grow {l out : List Sp} {cur x : Sp} (h : Merge l out cur) (hx : x.ok) (ha : cur.1 ≤ x.1) (hb : x.1 ≤ cur.1 + cur.2) {s : Int} (hs : s = max (cur.1 + cur.2) (x.1 + x.2) - cur.1) : Merge (l ++ [x]) out (cur.1, s) := by
  have hc := h.joined.last
  unfold Sp.ok at hc hx
  have hy : Sp.ok (cur.1, s) := by unfold Sp.ok; simp only; omega
  refine ⟨h.joined.grow hy rfl, fun p => ?_⟩
  rw [cov_append, cov_append, ← h.words, cov_append, cov_one, cov_one, cov_one, or_assoc]
  have hh : Sp.has (cur.1, s) p ↔ cur.has p ∨ x.has p := by
    unfold Sp.has
    simp only [show Sp.ok (cur.1, s) from hy, show Sp.ok cur from hc, show Sp.ok x from hx, true_and]
    omega
  rw [hh]

/-- What was joined is done with: words from now on begin at b or later. -/
theorem joined_of_merge {l out : List Sp} {cur : Sp} (h : Merge l out cur) : Joined (out ++ [cur]) ∧ ∀ p, cov (out ++ [cur]) p ↔ cov l p := ⟨h.joined, h.words⟩

/-- The gaps of x so far: what of x lies below 'from' and in none of the joined ones gone over. -/
structure GapsAt (x : Sp) (l O : List Sp) (frm : Int) : Prop where
  joined : Joined O
  words : ∀ p, cov O p ↔ x.has p ∧ p < frm ∧ ¬ cov l p
  behind : ∀ y ∈ l, y.1 + y.2 ≤ frm
  low : x.1 ≤ frm
  /-- The word right ahead of frm is no gap's, unless frm is x's first. -/
  shut : frm = x.1 ∨ (cov l (frm - 1))
  /-- A gap's words lie below where one of l begins. -/
  under : ∀ p, cov O p → ∃ z ∈ l, p < z.1
theorem GapsAt.start (x : Sp) : GapsAt x [] [] x.1 :=
  ⟨Joined.nil, fun p => ⟨fun h => absurd h (cov_nil p), fun h => by have := h.1.2.1; have := h.2.1; omega⟩, (fun _ h => by cases h), Int.le_refl _, .inl rfl, fun p h => absurd h (cov_nil p)⟩
theorem GapsAt.ends {x : Sp} {l O : List Sp} {frm : Int} (h : GapsAt x l O frm) : ∀ y ∈ O, y.1 + y.2 < frm := by
  intro y hy
  have hok := h.joined.1 y hy
  unfold Sp.ok at hok
  have hl : y.has (y.1 + y.2 - 1) := ⟨hok, by omega, by omega⟩
  have hw := (h.words _).1 ⟨y, hy, hl⟩
  rcases Int.lt_or_le (y.1 + y.2) frm with hlt | hge
  · exact hlt
  · exfalso
    have he : y.1 + y.2 = frm := by have := hw.2.1; omega
    rcases h.shut with hs | hs
    · have := hw.1.2.1; omega
    · rw [he] at hw; exact hw.2.2 hs
/-- One more joined span y is gone over; it begins behind frm within x: a gap. -/
theorem GapsAt.gap {x y : Sp} {l O : List Sp} {frm : Int} (h : GapsAt x l O frm) (hx : x.ok) (hy : y.ok) (hlt : frm < y.1) (hin : y.1 < x.1 + x.2) {s : Int} (hs : s = y.1 - frm) :
    GapsAt x (l ++ [y]) (O ++ [(frm, s)]) (y.1 + y.2) := by
  have hl := h.low
  have hxx := hx
  unfold Sp.ok most at hx hy
  have hok : Sp.ok (frm, s) := by unfold Sp.ok most; simp only; omega
  have hyok : y.ok := by unfold Sp.ok most; omega
  refine ⟨h.joined.snoc hok h.ends, fun p => ?_, fun z hz => ?_, by omega, .inr ?_, fun p hp => ?_⟩
  · rw [cov_append, cov_one, cov_append, cov_one, h.words]
    have hcl : cov l p → p < frm := by
      rintro ⟨z, hz, hp⟩
      have := h.behind z hz
      have := hp.2.2
      omega
    constructor
    · rintro (⟨h1, h2, h3⟩ | h1)
      · exact ⟨h1, by omega, fun e => e.elim h3 fun e => by have := e.2.1; omega⟩
      · have := h1.2.1
        have := h1.2.2
        simp only at *
        exact ⟨⟨hxx, by omega, by omega⟩, by omega, fun e => e.elim (fun e => by have := hcl e; omega) fun e => by have := e.2.1; omega⟩
    · rintro ⟨h1, h2, h3⟩
      rcases Int.lt_or_le p frm with hp | hp
      · exact .inl ⟨h1, hp, fun e => h3 (.inl e)⟩
      · refine .inr ⟨hok, hp, ?_⟩
        simp only
        rcases Int.lt_or_le p y.1 with hq | hq
        · omega
        · exact absurd (.inr ⟨hyok, hq, h2⟩) h3
  · rcases List.mem_append.1 hz with hz | hz
    · have := h.behind z hz; omega
    · rw [List.mem_singleton.1 hz]; exact Int.le_refl _
  · exact cov_append.2 (.inr (cov_one.2 ⟨hyok, by omega, by omega⟩))
  · rcases cov_append.1 hp with hp | hp
    · obtain ⟨z, hz, hlt⟩ := h.under p hp
      exact ⟨z, List.mem_append_left _ hz, hlt⟩
    · have := (cov_one.1 hp).2.2
      exact ⟨y, by simp, by simp only at this; omega⟩
/-- One more span that leaves no gap: it begins at frm or below. -/
theorem GapsAt.none {x y : Sp} {l O : List Sp} {frm e : Int} (h : GapsAt x l O frm) (hy : y.ok) (hr : ∀ z ∈ l, z.1 ≤ y.1) (hle : y.1 ≤ frm) (he : e = max frm (y.1 + y.2)) : GapsAt x (l ++ [y]) O e := by
  have hl := h.low
  have hyok := hy
  unfold Sp.ok most at hy
  refine ⟨h.joined, fun p => ?_, fun z hz => ?_, by omega, ?_, fun p hp => ?_⟩
  · rw [cov_append, cov_one, h.words]
    constructor
    · rintro ⟨h1, h2, h3⟩
      refine ⟨h1, by omega, fun hc => hc.elim h3 fun hc => ?_⟩
      obtain ⟨z, hz, hlt⟩ := h.under p ((h.words p).2 ⟨h1, h2, h3⟩)
      have := hr z hz
      have := hc.2.1
      omega
    · rintro ⟨h1, h2, h3⟩
      refine ⟨h1, ?_, fun hc => h3 (.inl hc)⟩
      rcases Int.lt_or_le p frm with hp | hp
      · exact hp
      · exact absurd (.inr ⟨hyok, by omega, by omega⟩) h3
  · rcases List.mem_append.1 hz with hz | hz
    · have := h.behind z hz; omega
    · rw [List.mem_singleton.1 hz]; omega
  · rcases Int.lt_or_le frm (y.1 + y.2) with hp | hp
    · exact .inr (cov_append.2 (.inr (cov_one.2 ⟨hyok, by omega, by omega⟩)))
    · rw [show e = frm by omega]
      exact h.shut.elim .inl fun hc => .inr (cov_append.2 (.inl hc))
  · obtain ⟨z, hz, hlt⟩ := h.under p hp
    exact ⟨z, List.mem_append_left _ hz, hlt⟩
/-- Spans that may not be leave none. -/
theorem GapsAt.skip {x y : Sp} {l O : List Sp} {frm : Int} (h : GapsAt x l O frm) (hy : ¬ y.ok) (hb : y.1 + y.2 ≤ frm) : GapsAt x (l ++ [y]) O frm := by
  refine ⟨h.joined, fun p => ?_, fun z hz => ?_, h.low, ?_, fun p hp => ?_⟩
  · rw [cov_skip hy, h.words]
  · rcases List.mem_append.1 hz with hz | hz
    · exact h.behind z hz
    · rw [List.mem_singleton.1 hz]; exact hb
  · rw [cov_skip hy]; exact h.shut
  · obtain ⟨z, hz, hlt⟩ := h.under p hp
    exact ⟨z, List.mem_append_left _ hz, hlt⟩
/-- At the end: what is left of x behind frm is a gap; the spans not gone over begin behind x. -/
theorem GapsAt.rest {x : Sp} {l m O : List Sp} {frm : Int} (h : GapsAt x l O frm) (hx : x.ok) (hm : ∀ z ∈ m, z.ok → x.1 + x.2 ≤ z.1) (hlt : frm < x.1 + x.2) {s : Int} (hs : s = x.1 + x.2 - frm) :
    Joined (O ++ [(frm, s)]) ∧ ∀ p, cov (O ++ [(frm, s)]) p ↔ x.has p ∧ ¬ cov (l ++ m) p := by
  have hl := h.low
  have hxx := hx
  unfold Sp.ok most at hx
  have hok : Sp.ok (frm, s) := by unfold Sp.ok most; simp only; omega
  refine ⟨h.joined.snoc hok h.ends, fun p => ?_⟩
  rw [cov_append, cov_one, cov_append, h.words]
  have hcl : cov l p → p < frm := by
    rintro ⟨z, hz, hp⟩
    have := h.behind z hz
    have := hp.2.2
    omega
  have hcm : cov m p → x.1 + x.2 ≤ p := by
    rintro ⟨z, hz, hp⟩
    have := hm z hz hp.1
    have := hp.2.1
    omega
  constructor
  · rintro (⟨h1, h2, h3⟩ | h1)
    · exact ⟨h1, fun e => e.elim h3 fun e => by have := hcm e; have := h1.2.2; omega⟩
    · have h2 := h1.2.1
      have h3 := h1.2.2
      simp only at h2 h3
      exact ⟨⟨hxx, by omega, by omega⟩, fun e => e.elim (fun e => by have := hcl e; omega) fun e => by have := hcm e; omega⟩
  · rintro ⟨h1, h2⟩
    rcases Int.lt_or_le p frm with hp | hp
    · exact .inl ⟨h1, hp, fun e => h2 (.inl e)⟩
    · have := h1.2.2
      exact .inr ⟨hok, hp, by simp only; omega⟩
theorem GapsAt.over {x : Sp} {l m O : List Sp} {frm : Int} (h : GapsAt x l O frm) (hm : ∀ z ∈ m, z.ok → x.1 + x.2 ≤ z.1) (hge : x.1 + x.2 ≤ frm) :
    Joined O ∧ ∀ p, cov O p ↔ x.has p ∧ ¬ cov (l ++ m) p := by
  refine ⟨h.joined, fun p => ?_⟩
  rw [cov_append, h.words]
  have hcm : cov m p → x.1 + x.2 ≤ p := by
    rintro ⟨z, hz, hp⟩
    have := hm z hz hp.1
    have := hp.2.1
    omega
  constructor
  · rintro ⟨h1, h2, h3⟩
    exact ⟨h1, fun e => e.elim h3 fun e => by have := hcm e; have := h1.2.2; omega⟩
  · rintro ⟨h1, h2⟩
    have := h1.2.2
    exact ⟨h1, by omega, fun e => h2 (.inl e)⟩
end Go.Proofs.Ytmlpppcdammelaa
