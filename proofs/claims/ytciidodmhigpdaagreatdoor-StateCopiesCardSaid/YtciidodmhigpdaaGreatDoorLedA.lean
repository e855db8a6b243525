/- Plain mathematics of tables of spans: where one belongs, what a table is with one more or one less, and that what is right stays so. No program in it. -/
import Derived.Test.YtciidodmhigpdaaGreatDoorExtA
import Derived.Test.YtciidodmhigpdaaGreatDoorSmalls
import Derived.Test.YtciidodmhigpdaaGreatDoorSpanIter
import Derived.Lib.Overlaps
import Derived.Lib.SlBuf
namespace Go.Proofs.YtciidodmhigpdaaGreatDoor

/-- Where a span that begins at a belongs. -/
def placeT (l : List Sp) (a : Int) : Nat := l.findIdx fun x => decide (a < x.1)
theorem placeT_le (l : List Sp) (a : Int) : placeT l a ≤ l.length := List.findIdx_le_length
theorem placeT_idx (l : List Sp) (a : Int) : (idxI (fun x => decide (a < x.1)) l < 0 → placeT l a = l.length) ∧ (¬ idxI (fun x => decide (a < x.1)) l < 0 → idxI (fun x => decide (a < x.1)) l = (placeT l a : Nat)) := by
  unfold idxI
  have := placeT_le l a
  unfold placeT at this ⊢
  split <;> omega
theorem placeT_at {l : List Sp} {a : Int} {k : Nat} {x : Sp} (hx : l[k]? = some x) (h : a < x.1) (hb : ∀ (j : Nat) y, j < k → l[j]? = some y → y.1 ≤ a) : placeT l a = k := by
  obtain ⟨hk, rfl⟩ := List.getElem?_eq_some_iff.1 hx
  unfold placeT
  rw [List.findIdx_eq hk]
  exact ⟨decide_eq_true h, fun j hj => decide_eq_false (by have := hb j _ hj (List.getElem?_eq_getElem (by omega)); omega)⟩
theorem placeT_end {l : List Sp} {a : Int} (hb : ∀ (j : Nat) y, j < l.length → l[j]? = some y → y.1 ≤ a) : placeT l a = l.length := by
  unfold placeT
  refine List.findIdx_eq_length_of_false fun x hx => ?_
  obtain ⟨j, hj, rfl⟩ := List.getElem_of_mem hx
  exact decide_eq_false (by have := hb j _ hj (List.getElem?_eq_getElem hj); omega)
/-- One put in at a place. -/
def insAt (l : List Sp) (k : Nat) (s : Sp) : List Sp := l.take k ++ s :: l.drop k
theorem insAt_len {l : List Sp} {k : Nat} (s : Sp) (h : k ≤ l.length) : (insAt l k s).length = l.length + 1 := by
  unfold insAt; simp; omega
theorem insAt_end (l : List Sp) (s : Sp) : insAt l l.length s = l ++ [s] := by unfold insAt; simp
theorem insAt_mem {l : List Sp} {k : Nat} {s y : Sp} : y ∈ insAt l k s ↔ y = s ∨ y ∈ l := by
  unfold insAt
  have h : l = l.take k ++ l.drop k := (List.take_append_drop k l).symm
  constructor
  · intro hy
    rcases List.mem_append.1 hy with hy | hy
    · exact .inr (List.mem_of_mem_take hy)
    · rcases List.mem_cons.1 hy with rfl | hy
      · exact .inl rfl
      · exact .inr (List.mem_of_mem_drop hy)
  · rintro (rfl | hy)
    · exact List.mem_append_right _ List.mem_cons_self
    · rw [h] at hy
      rcases List.mem_append.1 hy with hy | hy
      · exact List.mem_append_left _ hy
      · exact List.mem_append_right _ (List.mem_cons_of_mem _ hy)
theorem insAt_cov {l : List Sp} {k : Nat} {s : Sp} {p : Int} : cov (insAt l k s) p ↔ s.has p ∨ cov l p := by
  constructor
  · rintro ⟨y, hy, hp⟩
    rcases insAt_mem.1 hy with rfl | hy
    · exact .inl hp
    · exact .inr ⟨y, hy, hp⟩
  · rintro (hp | ⟨y, hy, hp⟩)
    · exact ⟨s, insAt_mem.2 (.inl rfl), hp⟩
    · exact ⟨y, insAt_mem.2 (.inr hy), hp⟩

/-- What Add answers. -/
def addT (l : List Sp) (s : Sp) : List Sp × Int :=
  if ¬ s.ok then (l, 1) else if l.any (fun x => decide (Sp.meets x s)) = true then (l, 16) else (insAt l (placeT l s.1) s, 0)
theorem addT_arg {l : List Sp} {s : Sp} (h : ¬ s.ok) : addT l s = (l, 1) := by unfold addT; rw [if_pos h]
theorem addT_twice {l : List Sp} {s : Sp} (h : s.ok) (hm : l.any (fun x => decide (Sp.meets x s)) = true) : addT l s = (l, 16) := by unfold addT; rw [if_neg (fun hn => hn h), if_pos hm]
theorem addT_in {l : List Sp} {s : Sp} (h : s.ok) (hm : l.any (fun x => decide (Sp.meets x s)) = false) : addT l s = (insAt l (placeT l s.1) s, 0) := by unfold addT; rw [if_neg (fun hn => hn h), if_neg (by rw [hm]; exact Bool.noConfusion)]
theorem addT_len (l : List Sp) (s : Sp) : (addT l s).1.length ≤ l.length + 1 := by
  unfold addT
  split
  · exact Nat.le_succ _
  · split
    · exact Nat.le_succ _
    · exact Nat.le_of_eq (insAt_len s (placeT_le _ _))
theorem any_meets_iff {l : List Sp} {s : Sp} : l.any (fun x => decide (Sp.meets x s)) = false ↔ ∀ x ∈ l, ¬ Sp.meets x s := by
  rw [List.any_eq_false]
  exact ⟨fun h x hx hm => h x hx (decide_eq_true hm), fun h x hx hm => h x hx (of_decide_eq_true hm)⟩

/-- Where one begins at a; where one has p. -/
def findT (l : List Sp) (a : Int) : Int := idxI (fun x => decide (x.1 = a)) l
def ofT (l : List Sp) (p : Int) : Int := idxI (fun x => decide (Sp.has x p)) l
/-- What Drop answers. -/
def dropT (l : List Sp) (a : Int) : List Sp × Sp × Int :=
  if l.length ≤ l.findIdx (fun x => decide (x.1 = a)) then (l, (0, 0), 2) else
  (l.eraseIdx (l.findIdx fun x => decide (x.1 = a)), l.getD (l.findIdx fun x => decide (x.1 = a)) (0, 0), 0)
theorem dropT_none {l : List Sp} {a : Int} (h : findT l a < 0) : dropT l a = (l, (0, 0), 2) := by
  unfold dropT
  rw [if_pos]
  unfold findT idxI at h
  split at h <;> omega
theorem dropT_some {l : List Sp} {a : Int} (h : ¬ findT l a < 0) : ∃ (k : Nat) (x : Sp), findT l a = (k : Nat) ∧ l[k]? = some x ∧ x.1 = a ∧ dropT l a = (l.eraseIdx k, x, 0) := by
  unfold findT idxI at h ⊢
  by_cases hk : l.findIdx (fun x => decide (x.1 = a)) < l.length
  · rw [if_pos hk]
    have hp := of_decide_eq_true (List.findIdx_getElem (w := hk))
    refine ⟨_, _, rfl, List.getElem?_eq_getElem hk, hp, ?_⟩
    unfold dropT
    rw [if_neg (by omega)]
    simp [hk]
  · rw [if_neg hk] at h
    omega
theorem findT_mem {l : List Sp} {a : Int} : findT l a < 0 ↔ ∀ x ∈ l, x.1 ≠ a := by
  have h := idxI_any (fun x => decide (x.1 = a)) l
  unfold findT
  constructor
  · intro hlt x hx e
    have h1 : l.any (fun x => decide (x.1 = a)) = true := List.any_eq_true.2 ⟨x, hx, decide_eq_true e⟩
    rw [h1] at h
    have := of_decide_eq_true h
    omega
  · intro hn
    have h1 : l.any (fun x => decide (x.1 = a)) = false := by
      rw [List.any_eq_false]
      intro x hx e
      exact hn x hx (of_decide_eq_true e)
    rw [h1] at h
    have := of_decide_eq_false h
    omega

/-- A table of all, and what it leaves. -/
def TableP (all : Sp) (l m : List Sp) : Prop := (∀ x ∈ l, Sp.within x all) ∧ l.Pairwise (fun x y => x.1 ≤ y.1) ∧ ApartL l ∧ Joined m ∧ ∀ p, cov m p ↔ all.has p ∧ ¬ cov l p
noncomputable instance (all : Sp) (l m : List Sp) : Decidable (TableP all l m) := Classical.propDecidable _
theorem table_iff {all : Sp} {l m O : List Sp} (h1 : ∀ x ∈ l, Sp.within x all) (h2 : l.Pairwise (fun x y => x.1 ≤ y.1)) (h3 : ApartL l) (hj : Joined O) (hc : ∀ p, cov O p ↔ all.has p ∧ ¬ cov l p) : decide (TableP all l m) = decide (m = O) := by
  rw [Bool.eq_iff_iff, decide_eq_true_iff, decide_eq_true_iff]
  constructor
  · rintro ⟨-, -, -, hm, hcm⟩
    exact joined_unique hm hj fun p => (hcm p).trans (hc p).symm
  · rintro rfl
    exact ⟨h1, h2, h3, hj, hc⟩

/-- Neighbours that rise: all do. -/
theorem rising_all {l : List Sp} (h : ∀ (j : Nat) y x, l[j]? = some y → l[j + 1]? = some x → y.1 ≤ x.1) : l.Pairwise fun x y => x.1 ≤ y.1 := by
  refine List.pairwise_iff_getElem.2 fun i j hi hj hij => ?_
  have step : ∀ (d i : Nat) (hi : i < l.length) (hj : i + d + 1 < l.length), (l[i]).1 ≤ (l[i + d + 1]).1 := by
    intro d
    induction d with
    | zero => intro i hi hj; exact h i _ _ (List.getElem?_eq_getElem hi) (List.getElem?_eq_getElem hj)
    | succ d ih =>
      intro i hi hj
      have h1 := ih i hi (by omega)
      have h2 := h (i + d + 1) _ _ (List.getElem?_eq_getElem (by omega)) (List.getElem?_eq_getElem (show i + d + 1 + 1 < l.length by omega))
      have h5 : (l[i + (d + 1) + 1]).1 = (l[i + d + 1 + 1]).1 := congrArg Prod.fst (by congr 1)
      omega
  have := step (j - i - 1) i hi (by omega)
  have h4 : (l[i + (j - i - 1) + 1]).1 = (l[j]).1 := congrArg Prod.fst (by congr 1; omega)
  omega
theorem rising_not {l : List Sp} {j : Nat} {y x : Sp} (hy : l[j]? = some y) (hx : l[j + 1]? = some x) (h : x.1 < y.1) : ¬ l.Pairwise fun x y => x.1 ≤ y.1 := by
  intro hp
  obtain ⟨h1, rfl⟩ := List.getElem?_eq_some_iff.1 hx
  obtain ⟨h2, rfl⟩ := List.getElem?_eq_some_iff.1 hy
  have := List.pairwise_iff_getElem.1 hp j (j + 1) h2 h1 (by omega)
  omega

/-- What the document's Right looks at, place by place. -/
def UpToL (all : Sp) (l : List Sp) (k : Nat) : Prop := ∀ (j : Nat) x, j < k → l[j]? = some x → Sp.within x all ∧ (0 < j → ∀ y, l[j - 1]? = some y → y.1 < x.1)
theorem upToL_next {all : Sp} {l : List Sp} {k : Nat} {x : Sp} (h : UpToL all l k) (hx : l[k]? = some x) (hw : Sp.within x all) (hy : 0 < k → ∀ y, l[k - 1]? = some y → y.1 < x.1) : UpToL all l (k + 1) := by
  intro j z hj hz
  rcases Nat.lt_or_ge j k with h' | h'
  · exact h j z h' hz
  · obtain rfl : j = k := by omega
    rw [hx] at hz
    obtain rfl := Option.some.inj hz
    exact ⟨hw, hy⟩
theorem upToL_all {all : Sp} {l : List Sp} (h : UpToL all l l.length) : (∀ x ∈ l, Sp.within x all) ∧ l.Pairwise fun x y => x.1 ≤ y.1 := by
  refine ⟨fun x hx => ?_, rising_all fun j y x hy hx => ?_⟩
  · obtain ⟨j, hj, rfl⟩ := List.getElem_of_mem hx
    exact (h j _ hj (List.getElem?_eq_getElem hj)).1
  · have := (h (j + 1) x (List.getElem?_eq_some_iff.1 hx).1 hx).2 (by omega) y (by rw [Nat.add_sub_cancel]; exact hy)
    omega
theorem table_bad1 {all : Sp} {l m : List Sp} {k : Nat} {x : Sp} (hx : l[k]? = some x) (h : ¬ Sp.within x all) : ¬ TableP all l m := fun hr => h (hr.1 x (List.mem_of_getElem? hx))
theorem table_bad2 {all : Sp} {l m : List Sp} {k : Nat} {x y : Sp} (hy : l[k]? = some y) (hx : l[k + 1]? = some x) (h : ¬ y.1 < x.1) : ¬ TableP all l m := by
  rintro ⟨hw, hp, ha, -⟩
  obtain ⟨h1, rfl⟩ := List.getElem?_eq_some_iff.1 hx
  obtain ⟨h2, rfl⟩ := List.getElem?_eq_some_iff.1 hy
  have e : (l[k]).1 = (l[k + 1]).1 := by
    have := List.pairwise_iff_getElem.1 hp k (k + 1) h2 h1 (by omega)
    omega
  have o1 := ha.1 _ (List.getElem_mem h1)
  have o2 := ha.1 _ (List.getElem_mem h2)
  refine List.pairwise_iff_getElem.1 ha.2 k (k + 1) h2 h1 (by omega) ⟨o1, o2, .inl ⟨o1, by omega, ?_⟩⟩
  have := o1.2.1
  omega

/-- Rising and apart, said of all ends. -/
theorem table_ends {l : List Sp} (hp : l.Pairwise fun x y => x.1 ≤ y.1) (ha : ApartL l) : l.Pairwise fun x y => x.1 + x.2 ≤ y.1 := by
  refine List.pairwise_iff_getElem.2 fun i j hi hj hij => ?_
  have h1 := List.pairwise_iff_getElem.1 hp i j hi hj hij
  have h2 := List.pairwise_iff_getElem.1 ha.2 i j hi hj hij
  have o1 := ha.1 _ (List.getElem_mem hi)
  have o2 := ha.1 _ (List.getElem_mem hj)
  rw [meets_lt o2 o1] at h2
  have := o2.2.1
  omega
theorem table_of_ends {l : List Sp} (ho : ∀ x ∈ l, Sp.ok x) (h : l.Pairwise fun x y => x.1 + x.2 ≤ y.1) : l.Pairwise (fun x y => x.1 ≤ y.1) ∧ ApartL l := by
  refine ⟨List.pairwise_iff_getElem.2 fun i j hi hj hij => ?_, ho, List.pairwise_iff_getElem.2 fun i j hi hj hij => ?_⟩
  · have h1 := List.pairwise_iff_getElem.1 h i j hi hj hij
    have := (ho _ (List.getElem_mem hi)).2.1
    omega
  · have h1 := List.pairwise_iff_getElem.1 h i j hi hj hij
    rw [meets_lt (ho _ (List.getElem_mem hj)) (ho _ (List.getElem_mem hi))]
    omega

theorem table_right {all : Sp} {l m : List Sp} (h : TableP all l m) : RightP all m := by
  obtain ⟨hw, hp, ha, hj, hc⟩ := h
  refine ⟨fun x hx => ?_, hj⟩
  have ho := hj.1 x hx
  have h2 := ho.2.1
  have b1 := ((hc x.1).1 ⟨x, hx, ho, Int.le_refl _, by omega⟩).1
  have b2 := ((hc (x.1 + x.2 - 1)).1 ⟨x, hx, ho, by omega, by omega⟩).1
  exact ⟨ho, b1.1, b1, b2⟩

/-- What is free can be put in, and what it leaves is what is free without it. -/
theorem table_took {all : Sp} {l m a : List Sp} {n s : Int} (h : TableP all l m) (ht : Took all m n a s) :
    addT l (s, n) = (insAt l (placeT l s) (s, n), 0) ∧ TableP all (insAt l (placeT l s) (s, n)) a ∧ ¬ findT (insAt l (placeT l s) (s, n)) s < 0 := by
  obtain ⟨hw, hp, ha, hj, hc⟩ := h
  have he := table_ends hp ha
  have hok := ht.ok
  have hsz : 1 ≤ n := hok.2.1
  have hmeet : ∀ x ∈ l, ¬ Sp.meets x (s, n) := by
    rintro x hx ⟨o1, o2, h1 | h1⟩
    · exact ((hc s).1 (ht.was s ⟨hok, Int.le_refl _, by simp only; omega⟩)).2 ⟨x, hx, h1⟩
    · exact ((hc x.1).1 (ht.was x.1 h1)).2 ⟨x, hx, o1, Int.le_refl _, by have := o1.2.1; omega⟩
  have hsep : ∀ x ∈ l, x.1 + x.2 ≤ s ∨ s + n ≤ x.1 := fun x hx => by
    have := hmeet x hx
    rw [meets_lt (ha.1 x hx) hok] at this
    simp only at this
    omega
  refine ⟨addT_in hok (any_meets_iff.2 hmeet), ⟨?_, ?_⟩, ?_⟩
  · intro x hx
    rcases insAt_mem.1 hx with rfl | hx
    · have b1 := ((hc s).1 (ht.was s ⟨hok, Int.le_refl _, by simp only; omega⟩)).1
      have b2 := ((hc (s + n - 1)).1 (ht.was (s + n - 1) ⟨hok, by simp only; omega, by simp only; omega⟩)).1
      exact ⟨hok, b1.1, b1, b2⟩
    · exact hw x hx
  · have hends : (insAt l (placeT l s) (s, n)).Pairwise fun x y => x.1 + x.2 ≤ y.1 := by
      unfold insAt
      refine List.pairwise_append.2 ⟨he.sublist (List.take_sublist _ _), List.pairwise_cons.2 ⟨fun y hy => ?_, he.sublist (List.drop_sublist _ _)⟩, fun x hx y hy => ?_⟩
      · obtain ⟨j, hj', rfl⟩ := List.getElem_of_mem hy
        rw [List.getElem_drop]
        have hlen : placeT l s + j < l.length := by rw [List.length_drop] at hj'; omega
        have hlt : placeT l s < l.length := by omega
        have hk : s < (l[placeT l s]).1 := of_decide_eq_true (List.findIdx_getElem (w := hlt))
        have hle : (l[placeT l s]).1 ≤ (l[placeT l s + j]).1 := by
          rcases Nat.eq_zero_or_pos j with rfl | h0
          · exact Int.le_of_eq (congrArg Prod.fst (by congr 1))
          · exact List.pairwise_iff_getElem.1 hp _ _ hlt hlen (by omega)
        rcases hsep _ (List.getElem_mem hlen) with h1 | h1
        · have := (ha.1 _ (List.getElem_mem hlen)).2.1; simp only; omega
        · simp only; omega
      · have hxs : x.1 + x.2 ≤ s := by
          obtain ⟨i, hi, rfl⟩ := List.getElem_of_mem hx
          have hi' : i < placeT l s := by rw [List.length_take] at hi; omega
          have hil : i < l.length := by rw [List.length_take] at hi; omega
          rw [List.getElem_take]
          have := List.not_of_lt_findIdx (p := fun x : Sp => decide (s < x.1)) (xs := l) (i := i) hi'
          have hn : ¬ s < (l[i]).1 := of_decide_eq_false (by simpa using this)
          rcases hsep _ (List.getElem_mem hil) with h1 | h1
          · exact h1
          · omega
        rcases List.mem_cons.1 hy with rfl | hy
        · exact hxs
        · have hd := List.pairwise_append.1 ((List.take_append_drop (placeT l s) l).symm ▸ he)
          exact hd.2.2 x hx y hy
    have hoks : ∀ x ∈ insAt l (placeT l s) (s, n), Sp.ok x := fun x hx => by
      rcases insAt_mem.1 hx with rfl | hx
      · exact hok
      · exact ha.1 x hx
    obtain ⟨g1, g2⟩ := table_of_ends hoks hends
    refine ⟨g1, g2, ht.right.2, fun p => ?_⟩
    rw [ht.cov, hc, insAt_cov, not_or, and_assoc]
    exact and_congr_right fun _ => and_comm
  · rw [findT_mem]
    intro hn
    exact hn (s, n) (insAt_mem.2 (.inl rfl)) rfl

/-- What is dropped can be given back. -/
theorem table_gave {all : Sp} {l m : List Sp} {a : Int} {k : Nat} {x : Sp} (h : TableP all l m) (hx : l[k]? = some x) (ha1 : x.1 = a) :
    x.ok ∧ m.any (fun y => decide (Sp.meets y x)) = false ∧ (∀ O, Joined O → (∀ p, cov O p ↔ cov (m ++ [x]) p) → TableP all (l.eraseIdx k) O) ∧ findT (l.eraseIdx k) a < 0 := by
  obtain ⟨hw, hp, ha, hj, hc⟩ := h
  have he := table_ends hp ha
  have hm : x ∈ l := List.mem_of_getElem? hx
  have hok := ha.1 x hm
  have h1 := hok.2.1
  have hspl := split_at hx
  have hpw := hspl ▸ he
  have hpw := List.pairwise_append.1 hpw
  have hcons := List.pairwise_cons.1 hpw.2.1
  have hne : ∀ y ∈ l.eraseIdx k, y.1 + y.2 ≤ x.1 ∨ x.1 + x.2 ≤ y.1 := fun y hy => by
    rw [erase_at] at hy
    rcases List.mem_append.1 hy with hy | hy
    · exact .inl (hpw.2.2 y hy x List.mem_cons_self)
    · exact .inr (hcons.1 y hy)
  have hsub : ∀ y ∈ l.eraseIdx k, y ∈ l := fun y hy => List.mem_of_mem_eraseIdx hy
  have hcov : ∀ p, cov l p ↔ x.has p ∨ cov (l.eraseIdx k) p := fun p => by
    rw [hspl, erase_at, ← hspl, cov_append]
    conv => lhs; rw [hspl]
    rw [cov_append, cov_cons]
    constructor
    · rintro (h | h | h)
      · exact .inr (.inl h)
      · exact .inl h
      · exact .inr (.inr h)
    · rintro (h | h | h)
      · exact .inr (.inl h)
      · exact .inl h
      · exact .inr (.inr h)
  have hdis : ∀ p, x.has p → ¬ cov (l.eraseIdx k) p := by
    rintro p hxp ⟨y, hy, hyp⟩
    have := hne y hy
    have := hxp.2.1; have := hxp.2.2; have := hyp.2.1; have := hyp.2.2
    omega
  refine ⟨hok, any_meets_iff.2 ?_, fun O hO hcO => ?_, ?_⟩
  · rintro y hy ⟨o1, o2, h2 | h2⟩
    · exact ((hc x.1).1 ⟨y, hy, h2⟩).2 ⟨x, hm, hok, Int.le_refl _, by omega⟩
    · exact ((hc y.1).1 ⟨y, hy, o1, Int.le_refl _, by have := o1.2.1; omega⟩).2 ⟨x, hm, h2⟩
  · refine ⟨fun y hy => hw y (hsub y hy), hp.sublist (List.eraseIdx_sublist _ _), ⟨fun y hy => ha.1 y (hsub y hy), ha.2.sublist (List.eraseIdx_sublist _ _)⟩, hO, fun p => ?_⟩
    rw [hcO, cov_append, cov_one, hc, hcov]
    constructor
    · rintro (⟨h2, h3⟩ | h2)
      · exact ⟨h2, fun h => h3 (.inr h)⟩
      · refine ⟨?_, hdis p h2⟩
        have hwx := hw x hm
        have g1 := hwx.2.2.1; have g2 := hwx.2.2.2
        exact ⟨hwx.2.1, by have := g1.2.1; have := h2.2.1; omega, by have := g2.2.2; have := h2.2.2; omega⟩
    · rintro ⟨h2, h3⟩
      by_cases hxp : x.has p
      · exact .inr hxp
      · exact .inl ⟨h2, fun h => h.elim hxp h3⟩
  · rw [findT_mem]
    intro y hy e
    have h2 := hne y hy
    have := (ha.1 y (hsub y hy)).2.1
    omega

/-- Between two free spans there is one of the table's: so there are few free ones. -/
theorem gaps_len {all : Sp} : ∀ {m l : List Sp}, Joined m → (∀ (pre post : List Sp) a b, m = pre ++ a :: b :: post → ∃ x ∈ l, Sp.has x (a.1 + a.2) ∧ x.1 + x.2 ≤ b.1) → m.length ≤ l.length + 1
  | [], _, _, _ => Nat.zero_le _
  | [_], _, _, _ => by simp
  | a :: b :: m, l, hj, h => by
    obtain ⟨x, hx, hp, hb⟩ := h [] m a b rfl
    have := gaps_len (all := all) (m := b :: m) (l := l.erase x) hj.tail fun pre post c d e => by
      obtain ⟨y, hy, hyp, hyb⟩ := h (a :: pre) post c d (by rw [e]; rfl)
      refine ⟨y, ?_, hyp, hyb⟩
      refine (List.mem_erase_of_ne ?_).2 hy
      rintro rfl
      have h1 := hyp.2.2
      have h2 : b.1 + b.2 ≤ c.1 + c.2 := by
        have hc : c ∈ b :: m := by rw [e]; simp
        rcases List.mem_cons.1 hc with rfl | hc
        · exact Int.le_refl _
        · have := hj.tail.lt c hc
          have := (hj.1 c (List.mem_cons_of_mem _ (List.mem_cons_of_mem _ hc))).2.1
          omega
      have h3 := (hj.1 b (by simp)).2.1
      omega
    rw [List.length_erase_of_mem hx] at this
    have h0 : 0 < l.length := List.length_pos_of_mem hx
    simp only [List.length_cons] at this ⊢
    omega
theorem table_len {all : Sp} {l m : List Sp} (h : TableP all l m) : m.length ≤ l.length + 1 := by
  obtain ⟨hw, hp, ha, hj, hc⟩ := h
  refine gaps_len (all := all) hj fun pre post a b e => ?_
  have hma : a ∈ m := by rw [e]; simp
  have hmb : b ∈ m := by rw [e]; simp
  have hpw := List.pairwise_append.1 (e ▸ hj.2)
  have hlt : a.1 + a.2 < b.1 := (List.pairwise_cons.1 hpw.2.1).1 b List.mem_cons_self
  have oa := hj.1 a hma
  have ob := hj.1 b hmb
  have a2 := oa.2.1
  have b2 := ob.2.1
  have ca := ((hc a.1).1 ⟨a, hma, oa, Int.le_refl _, by omega⟩).1
  have cb := ((hc b.1).1 ⟨b, hmb, ob, Int.le_refl _, by omega⟩)
  have hall : all.has (a.1 + a.2) := ⟨ca.1, by have := ca.2.1; omega, by have := cb.1.2.2; omega⟩
  have hno : ¬ cov m (a.1 + a.2) := by
    rintro ⟨y, hy, hyp⟩
    rw [e] at hy
    rcases List.mem_append.1 hy with hy | hy
    · have := hpw.2.2 y hy a List.mem_cons_self
      have := hyp.2.2
      omega
    · rcases List.mem_cons.1 hy with rfl | hy
      · have := hyp.2.2; omega
      · have h1 := hyp.2.1
        rcases List.mem_cons.1 hy with rfl | hy
        · omega
        · have := (List.pairwise_cons.1 (List.pairwise_cons.1 hpw.2.1).2).1 y hy
          omega
  have hcl : cov l (a.1 + a.2) := by
    by_cases hcl : cov l (a.1 + a.2)
    · exact hcl
    · exact absurd ((hc _).2 ⟨hall, hcl⟩) hno
  obtain ⟨x, hx, hxp⟩ := hcl
  refine ⟨x, hx, hxp, ?_⟩
  rcases Int.lt_or_le b.1 (x.1 + x.2) with h1 | h1
  · exact absurd ⟨x, hx, hxp.1, by have := hxp.2.1; omega, h1⟩ cb.2
  · exact h1
end Go.Proofs.YtciidodmhigpdaaGreatDoor

/- Contracts of package slices at spans: Insert of one into a row of the call's own. -/
namespace Go.Proofs.YtciidodmhigpdaaGreatDoor
set_option maxRecDepth 100000
open Go.RowKit Go.Lib Go.Shelf

/-- copy at elements of any size, its run. -/
theorem run_copy_cut {P : Program} {w : World} (dT sT ty elem : TypeId) (i : TypeInfo) (z n : Nat) (hu : P.underlying dT = some (.slice elem)) (hi : P.info? elem = some i) (hz : i.size = z)
    (g off dLen dCap b o sLen sCap : Nat) (cur : Array Value) (t : TypeId) (hg : Blk w g t cur) (news : List Value) (hn : Nat.min sLen dLen = n) (hnl : news.length = n * z) (hfit : off + news.length ≤ cur.size)
    (hsrc : ∀ j v, news[j]? = some v → w.cell? ⟨b, o + j, none⟩ = some v) (h1 : ∀ v ∈ news, v.oneCell' = true) :
    (Builtin.copy_ #[dT, sT] ty #[.slice (some ⟨g, off, none⟩) dLen dCap, .slice (some ⟨b, o, none⟩) sLen sCap]).run P w = .ok (goInt n) (w.setCells g off news) := by
  subst hz
  have hf := run_firstCells_some (P := P) w i.size n ⟨b, o, none⟩ sLen sCap news hnl (fun j v hj => by rw [Addr.add_lit]; exact hsrc j v hj)
  have hst := run_storeCells_cells (P := P) g off news 0 w (fun j hj => by rw [Nat.add_zero, hg.cell, Array.getElem?_eq_getElem (by omega)]; rfl) (fun j hj => by rw [hg.free]) h1
  rw [Nat.add_zero] at hst
  simp [Builtin.copy_, run_underlying hu, Builtin.lenOf, sizeOf, typeInfo, hi, hn, hf, hst]
theorem step_copy_run {P : Program} {ops : Array Oper} {o : Oper} {a : Act} {w : World} {K : Act → World → Prop} {Q : Exit → Act → World → Prop} {E : Prop} (hg : o.guard = none) (d s : Operand) (t t' : TypeId)
    (ho : o.op = .call { callee := .builtin .copy, args := #[d, s], argTypes := #[t, t'] }) (v u : Value) (hd : a.eval d = v) (hs : a.eval s = u) {v' : Value} {w' : World}
    (hr : (Builtin.copy_ #[t, t'] o.type #[v, u]).run P w = .ok v' w') (h : K (a.put o.dst v') w') : if Region.wanted o (yielded ops a.tmps) = true then Oper.wp P o a w K Q else E := by
  rw [if_pos (by simp [Region.wanted, hg])]
  exact Lib.wp_copy_run w d s t t' ho v u hd hs hr h

/-- One put in: cells first to the right, then the new ones; or the other way round. -/
theorem splice_ins1 (l : List Sp) (k : Nat) (s : Sp) (cur : List Value) (hk : k ≤ l.length) (hc : cur.take (k * 2) = spc (l.take k)) :
    (splice (splice cur (k * 2) (spc [s])) ((k + 1) * 2) (spc (l.drop k))).take ((l.length + 1) * 2) = spc (insAt l k s) := by
  have hd : (spc (l.drop k)).length = (l.length - k) * 2 := by rw [spc_len, List.length_drop]
  have ht : (spc (l.take k)).length = k * 2 := by rw [spc_len, List.length_take, Nat.min_eq_left hk]
  have h1 : (splice cur (k * 2) (spc [s])).take ((k + 1) * 2) = spc (l.take k) ++ spc [s] := by
    unfold splice
    rw [hc, ← List.append_assoc, List.take_append_of_le_length (by simp [ht, spc_len]; omega), List.take_of_length_le (by simp [ht, spc_len]; omega)]
  unfold splice at h1 ⊢
  rw [h1, ← List.append_assoc, List.take_append_of_le_length (by simp [ht, hd, spc_len]; omega), List.take_of_length_le (by simp [ht, hd, spc_len]; omega)]
  unfold insAt
  rw [← spc_append, ← spc_append, List.append_assoc]
  rfl
theorem splice_ins2 (l : List Sp) (k : Nat) (s : Sp) (cur : List Value) (hk : k ≤ l.length) (hlen : (l.length + 1) * 2 ≤ cur.length) (hc : cur.take (k * 2) = spc (l.take k)) :
    (splice (splice cur ((k + 1) * 2) (spc (l.drop k))) (k * 2) (spc [s])).take ((l.length + 1) * 2) = spc (insAt l k s) := by
  have hd : (spc (l.drop k)).length = (l.length - k) * 2 := by rw [spc_len, List.length_drop]
  have ht : (spc (l.take k)).length = k * 2 := by rw [spc_len, List.length_take, Nat.min_eq_left hk]
  have hs : (spc [s]).length = 2 := by rw [spc_len]; rfl
  have h1 : (splice cur ((k + 1) * 2) (spc (l.drop k))).take (k * 2) = spc (l.take k) := by
    unfold splice
    rw [List.take_append_of_le_length (by simp; omega), List.take_take, Nat.min_eq_left (by omega), hc]
  have h2 : (splice cur ((k + 1) * 2) (spc (l.drop k))).drop (k * 2 + (spc [s]).length) = spc (l.drop k) ++ cur.drop ((k + 1) * 2 + (spc (l.drop k)).length) := by
    unfold splice
    rw [hs, show k * 2 + 2 = (cur.take ((k + 1) * 2)).length by simp; omega, List.drop_left]
  unfold splice at h1 h2 ⊢
  rw [h1, h2, ← List.append_assoc, ← List.append_assoc, List.take_append_of_le_length (by simp [ht, hd, hs]; omega), List.take_of_length_le (by simp [ht, hd, hs]; omega)]
  unfold insAt
  rw [← spc_append, ← spc_append, List.append_assoc]
  rfl

theorem shape_blk {w : World} {g : Nat} {t : TypeId} {cs : Array Value} (h : Blk w g t cs) : w.shape? g = some (t, cs.size) := by
  have h' : w.heap[g]? = some (.cells cs t (0, 0)) := h
  simp [World.shape?, h']

/-- What Insert answers. -/
def InsP (v : Value) (m : List Sp) (w : World) (e : Ending) (w' : World) : Prop := ∃ v', e = .returned v' ∧ Sl w' w'.heap.size 2 v' m.length (spc m) ∧ Only (fun b => v.ownBlock = some b) w w'

/-- The first cells of a row. -/
theorem take_spc {cur : List Value} {l : List Sp} {n k : Nat} (_ : l.length = n) (hk : k ≤ n) (hc : cur.take (n * 2) = spc l) : cur.take (k * 2) = spc (l.take k) := by
  have := congrArg (List.take (k * 2)) hc
  rw [List.take_take, Nat.min_eq_left (by omega), spc_take] at this
  exact this
/-- The cells from one place on. -/
theorem cells_drop {w : World} {g : Nat} {t : TypeId} {cur : Array Value} {l : List Sp} {n k : Nat} (hb : Blk w g t cur) (hc : cur.toList.take (n * 2) = spc l) : ∀ j v, (spc (l.drop k))[j]? = some v → w.cell? ⟨g, k * 2 + j, none⟩ = some v := by
  intro j v hv
  rw [hb.cell, ← Array.getElem?_toList]
  rw [← spc_drop, List.getElem?_drop, ← hc, List.getElem?_take] at hv
  split at hv
  · exact hv
  · cases hv
theorem cells_one {w : World} {g : Nat} {t : TypeId} {s : Sp} (hq : Blk w g t #[.int .i64 s.1, .int .i64 s.2]) : ∀ j v, (spc [s])[j]? = some v → w.cell? ⟨g, 0 + j, none⟩ = some v := by
  intro j v hv
  rw [Nat.zero_add, hq.cell, ← Array.getElem?_toList]
  exact hv

end Go.Proofs.YtciidodmhigpdaaGreatDoor

/- Contracts of package ledger: what is asked of spans one by one; IsSortedFunc; place, Find, Of. -/
namespace Go.Proofs.YtciidodmhigpdaaGreatDoor
set_option maxRecDepth 100000
open Go.RowKit Go.Lib Go.Sort

theorem mixedLed : Tryz.prog.follows .mixedOrders = true := by kernel_rfl

set_option maxHeartbeats 1000000 in
theorem rightL_any (all : Sp) (gp : Nat) (ha : Fit all) (x : Sp) (hx : Fit x) (w : World) (hb : Blk w gp 50 #[.int .i64 all.1, .int .i64 all.2]) :
    Calls Tryz.prog 120 #[.agg #[.int .i64 x.1, .int .i64 x.2], .pointer (some ⟨gp, 0, none⟩)] w fun e w' => e = .returned (.bool (!decide (Sp.within x all))) ∧ Only nob w w' := by
  have hb2 := hb.alloc (.cells #[.int .i64 x.1, .int .i64 x.2] 50)
  have hb0 := hb2.cell 0
  have hb1 := hb2.cell 1
  simp at hb0 hb1
  clear hb hb2
  obtain ⟨q, hq⟩ : ∃ q, q = decide (Sp.within x all) := ⟨_, rfl⟩
  have HQ := Lib.hid hq
  rw [← hq]
  clear hq
  go_enter Tryz.func120, Tryz.ntmps120
  go_wp2_with fail
  go_at_call 121
  refine (spWithin x all hx ha _).mono ?_
  rw [← HQ.out]
  rintro e w1 ⟨rfl, o⟩
  have O := Lib.hid (((Only.refl nob w).alloc (.cells #[.int .i64 x.1, .int .i64 x.2] 50)).trans o)
  clear o
  go_wp2
  go_ret
  exact ⟨rfl, O.out⟩
theorem rightL_pred {all : Sp} {gp : Nat} {w : World} (ha : Fit all) (hb : Blk w gp 50 #[.int .i64 all.1, .int .i64 all.2]) : Pred 120 #[.pointer (some ⟨gp, 0, none⟩)] (fun x => !decide (Sp.within x all)) w :=
  ⟨enters_of Tryz.func120 (by kernel_rfl) rfl, fun x hx W hW => rightL_any all gp ha x hx W (hb.keep hW id)⟩

theorem byAt_any (x y : Sp) (w : World) : Calls Tryz.prog 124 #[.agg #[.int .i64 x.1, .int .i64 x.2], .agg #[.int .i64 y.1, .int .i64 y.2]] w fun e w' => e = .returned (.int .i64 (cmpI x.1 y.1)) ∧ Only nob w w' := by
  have O := Lib.hid (((Only.refl nob w).alloc (.cells #[.int .i64 x.1, .int .i64 x.2] 50)).alloc (.cells #[.int .i64 y.1, .int .i64 y.2] 50))
  go_enter Tryz.func124, Tryz.ntmps124
  go_wp2_with fail
  go_at_call 136
  refine (compare_any _ _ _).mono ?_
  rintro e w1 ⟨rfl, rfl⟩
  go_wp2
  go_ret
  exact ⟨rfl, O.out⟩
theorem cmpI_neg {a b : Int} : cmpI a b < 0 ↔ a < b := by
  unfold cmpI
  split
  · constructor <;> intro <;> omega
  · split <;> constructor <;> intro <;> omega

abbrev byAtV : Value := .func (.func 124) #[] #[]
set_option maxHeartbeats 2000000 in
theorem isSorted_any (v : Value) (l : List Sp) (B : Nat) (w : World) (h : Sl w B 2 v l.length (spc l)) (hB : B ≤ w.heap.size) :
    Calls Tryz.prog 123 #[v, byAtV] w fun e w' => e = .returned (.bool (decide (l.Pairwise fun x y => x.1 ≤ y.1))) ∧ Only nob w w' := by
  have HA := Lib.hid h
  obtain ⟨A, ca, rfl, hac, ham, -⟩ := h
  unfold maxLen at ham
  rcases Nat.eq_zero_or_pos l.length with h0 | h0
  · obtain rfl := List.eq_nil_of_length_eq_zero h0
    clear h0
    go_enter Tryz.func123, Tryz.ntmps123
    go_wp2
    go_loopw [5] (fun i wr => i = .int .i64 (-1) ∧ wr = w) (fun _ _ => 0)
    case atStart => exact ⟨rfl, rfl⟩
    case round =>
      obtain ⟨rfl, rfl⟩ := hrel
      go_wp2
      go_ret
      exact ⟨rfl, Only.refl _ _⟩
  · go_enter Tryz.func123, Tryz.ntmps123
    go_wp2
    go_loopw [5] (fun i wr => ∃ k : Nat, k < l.length ∧ i = .int .i64 k ∧ Hid (∀ (j : Nat) y x, k ≤ j → l[j]? = some y → l[j + 1]? = some x → y.1 ≤ x.1) ∧ Hid (Only nob w wr)) (fun i _ => (intOf i).toNat)
    case atStart =>
      refine ⟨l.length - 1, by omega, ?_, fun j y x hj _ hx => ?_, Only.refl _ _⟩
      · show Value.int .i64 _ = Value.int .i64 _
        congr 1
        omega
      · have := (List.getElem?_eq_some_iff.1 hx).1
        omega
    case round =>
      obtain ⟨k, hk, rfl, HS, HX⟩ := hrel
      rcases Nat.eq_zero_or_pos k with rfl | hk0
      · have HK := Lib.hid (decide_eq_true (rising_all fun j y x => HS.out j y x (Nat.zero_le _)))
        go_wp2
        go_ret
        exact ⟨ret_bool (by rw [HK.out]), HX.out⟩
      · obtain ⟨m, rfl⟩ : ∃ m, k = m + 1 := ⟨k - 1, by omega⟩
        obtain ⟨x, hx⟩ : ∃ x, l[m + 1]? = some x := ⟨_, List.getElem?_eq_getElem hk⟩
        obtain ⟨y, hy⟩ : ∃ y, l[m]? = some y := ⟨_, List.getElem?_eq_getElem (by omega)⟩
        obtain ⟨b, o, rfl, hb, c0, c1⟩ := sl_span HA.out (HX.out.below hB fun _ h => h.elim) hx
        obtain ⟨b3, o3, e3, -, d0, d1⟩ := sl_span HA.out (HX.out.below hB fun _ h => h.elim) hy
        obtain ⟨rfl, rfl⟩ : b3 = b ∧ o3 = o := by simpa using e3.symm
        have HXX := Lib.hid hx
        have HY := Lib.hid hy
        obtain ⟨c, hc⟩ : ∃ c, c = cmpI x.1 y.1 := ⟨_, rfl⟩
        have HC := Lib.hid hc
        have H1 := Lib.hid (show ∀ (n : Nat) (os : Array Obj), Calls Tryz.prog 124 #[.agg #[.int .i64 x.1, .int .i64 x.2], .agg #[.int .i64 y.1, .int .i64 y.2]] (wat wr n os) fun e w' => e = .returned (.int .i64 c) ∧ Only nob (wat wr n os) w' from fun n os => by
          rw [hc]; exact byAt_any x y _)
        have g0 := wat_cell c0
        have g1 := wat_cell c1
        have g2 := wat_cell d0
        have g3 := wat_cell d1
        clear hx hy hc e3 c0 c1 d0 d1
        have jz : (m : Int) + 1 < (l.length : Int) := by omega
        have jz1 : (m : Int) < (l.length : Int) := by omega
        have p0 : (0 : Int) ≤ (m : Int) + 1 := by omega
        have e0 : ((m : Int) + 1).toNat = m + 1 := by omega
        have hwp : IntKind.i64.wrap (m : Int) = (m : Int) := by rw [IntKind.wrap_i64]; omega
        by_cases hlt : c < 0
        · have HN := Lib.hid (decide_eq_false (rising_not HY.out HXX.out (cmpI_neg.1 (by rw [← HC.out]; exact hlt))))
          go_wp2_with fail
          refine wp_region_only mixedLed (by kernel_rfl) ?_
          repeat (quiet_step ((go_at_call 124; with_reducible refine wat_call (H1.out _ _))))
          refine wpQuiet_nil ?_
          rintro w' ⟨⟨nq, osq⟩, rfl⟩
          obtain ⟨W3, hW3, O4⟩ := wat_name wr nq osq
          rw [hW3]
          clear hW3 g0 g1 g2 g3
          have O5 := Lib.hid (HX.out.trans O4.out)
          go_wp2
          go_ret
          exact ⟨ret_bool (by rw [HN.out]), O5.out⟩
        · have HN := Lib.hid (show y.1 ≤ x.1 by
            have : ¬ x.1 < y.1 := fun e => hlt (by rw [HC.out]; exact cmpI_neg.2 e)
            omega)
          go_wp2_with fail
          refine wp_region_only mixedLed (by kernel_rfl) ?_
          repeat (quiet_step ((go_at_call 124; with_reducible refine wat_call (H1.out _ _))))
          refine wpQuiet_nil ?_
          rintro w' ⟨⟨nq, osq⟩, rfl⟩
          obtain ⟨W3, hW3, O4⟩ := wat_name wr nq osq
          rw [hW3]
          clear hW3 g0 g1 g2 g3
          have O5 := Lib.hid (HX.out.trans O4.out)
          go_wp2
          go_roundw
          case rel =>
            refine ⟨m, by omega, by go_num, fun j z u hj hz hu => ?_, O5.out⟩
            rcases Nat.lt_or_ge m j with h' | h'
            · exact HS.out j z u h' hz hu
            · obtain rfl : j = m := by omega
              rw [HY.out] at hz
              rw [HXX.out] at hu
              obtain rfl := Option.some.inj hz
              obtain rfl := Option.some.inj hu
              exact HN.out
          case measure => simp [intOf]
end Go.Proofs.YtciidodmhigpdaaGreatDoor

/- Contracts of package ledger: Add, Drop, Right. -/
namespace Go.Proofs.YtciidodmhigpdaaGreatDoor
set_option maxRecDepth 100000
open Go.RowKit Go.Lib Go.Sort

theorem new_lt (w : World) (o : Obj) : w.heap.size < (w.alloc o).heap.size := by simp

def SpTable : Prop := ∀ (all : Sp) (v u : Value) (l m : List Sp) (B : Nat) (w : World), Sl w B 2 v l.length (spc l) → Sl w B 2 u m.length (spc m) → B ≤ w.heap.size → l.length ≤ 10000 → Fits l → Fit all →
  Calls Tryz.prog 104 #[.agg #[.int .i64 all.1, .int .i64 all.2], v, u] w fun e w' => e = .returned (.bool (decide (TableP all l m))) ∧ Only nob w w'
set_option maxHeartbeats 4000000 in
theorem spTable : SpTable := by
  intro all v u l m B w h k hB hl hf ha
  have HA := Lib.hid h
  have HU := Lib.hid k
  have HF := Lib.hid hf
  obtain ⟨A, ca, rfl, -, -⟩ := h.form
  obtain ⟨A', ca', rfl, -, -⟩ := k.form
  have HB := Lib.hid (Blk.new w 50 #[.int .i64 all.1, .int .i64 all.2])
  have O0 := Lib.hid ((Only.refl nob w).alloc (.cells #[.int .i64 all.1, .int .i64 all.2] 50))
  clear h k hf
  obtain ⟨q, hq⟩ : ∃ q, q = l.any (fun x => !decide (Sp.within x all)) := ⟨_, rfl⟩
  have HQ := Lib.hid hq
  clear hq
  cases q with
  | true =>
    have HK := Lib.hid (show decide (TableP all l m) = false from decide_eq_false fun h => by have := any_within.2 h.1; rw [← HQ.out] at this; cases this)
    go_enter Tryz.func104, Tryz.ntmps104
    go_wp2_with fail
    go_at_call 122
    refine (containsFunc_any _ _ _ _ l B _ (rightL_pred ha HB.out) (HA.out.below (O0.out.below hB fun _ h => h.elim)) (Nat.le_trans hB O0.out.size) HF.out).mono ?_
    rw [← HQ.out]
    rintro e w1 ⟨rfl, o⟩
    have O1 := Lib.hid (O0.out.trans o)
    clear o
    go_wp2
    go_ret
    exact ⟨ret_bool (by rw [HK.out]), O1.out⟩
  | false =>
    have HW := Lib.hid (any_within.1 HQ.out.symm)
    by_cases h2 : l.Pairwise fun x y => x.1 ≤ y.1
    · have H2 := Lib.hid h2
      have HD2 := Lib.hid (decide_eq_true h2)
      clear h2
      by_cases h3 : ApartL l
      · have H3 := Lib.hid h3
        have HD3 := Lib.hid (decide_eq_true h3)
        clear h3
        go_enter Tryz.func104, Tryz.ntmps104
        go_wp2_with fail
        go_at_call 122
        refine (containsFunc_any _ _ _ _ l B _ (rightL_pred ha HB.out) (HA.out.below (O0.out.below hB fun _ h => h.elim)) (Nat.le_trans hB O0.out.size) HF.out).mono ?_
        rw [← HQ.out]
        rintro e w1 ⟨rfl, o⟩
        have O1 := Lib.hid (O0.out.trans o)
        have HB1 := Lib.hid (HB.out.keep o id)
        clear o
        go_wp2_with fail
        go_at_call 123
        refine (isSorted_any _ l B _ (HA.out.below (O1.out.below hB fun _ h => h.elim)) (Nat.le_trans hB O1.out.size)).mono ?_
        rw [HD2.out]
        rintro e w2 ⟨rfl, o⟩
        have O2 := Lib.hid (O1.out.trans o)
        have HB2 := Lib.hid (HB1.out.keep o id)
        clear o
        go_wp2_with fail
        go_at_call 125
        refine (spApart _ l B _ (HA.out.below (O2.out.below hB fun _ h => h.elim)) (Nat.le_trans hB O2.out.size) (by omega) HF.out).mono ?_
        rw [HD3.out]
        rintro e w3 ⟨rfl, o⟩
        have O3 := Lib.hid (O2.out.trans o)
        have HB3 := Lib.hid (HB2.out.keep o id)
        have c0 := HB3.out.cell 0
        have c1 := HB3.out.cell 1
        simp at c0 c1
        clear o
        go_wp2_with fail
        go_at_call 46
        refine (spGaps all _ l B _ (HA.out.below (O3.out.below hB fun _ h => h.elim)) (Nat.le_trans hB O3.out.size) (by omega) HF.out ha).mono ?_
        rintro e w4 ⟨v4, O, rfl, hj, hc, hsl, o⟩
        have HE := Lib.hid (table_iff (m := m) HW.out H2.out H3.out hj hc)
        have S4 := Lib.hid hsl
        have O4 := Lib.hid (O3.out.trans o)
        clear hj hc hsl o c0 c1
        go_wp2_with fail
        go_at_call 56
        refine (equal_any _ _ m O B _ w4 (HU.out.below (O4.out.below hB fun _ h => h.elim)) S4.out).mono ?_
        rw [← HE.out]
        obtain ⟨j, hj⟩ : ∃ j, j = decide (TableP all l m) := ⟨_, rfl⟩
        rw [← hj]
        have HJ := Lib.hid hj
        clear hj
        rintro e w5 ⟨rfl, o⟩
        have O5 := Lib.hid (O4.out.trans o)
        clear o
        go_wp2
        go_ret
        exact ⟨ret_bool (by rw [HJ.out]), O5.out⟩
      · have HK := Lib.hid (show decide (TableP all l m) = false from decide_eq_false fun h => h3 h.2.2.1)
        have HD3 := Lib.hid (decide_eq_false h3)
        clear h3
        go_enter Tryz.func104, Tryz.ntmps104
        go_wp2_with fail
        go_at_call 122
        refine (containsFunc_any _ _ _ _ l B _ (rightL_pred ha HB.out) (HA.out.below (O0.out.below hB fun _ h => h.elim)) (Nat.le_trans hB O0.out.size) HF.out).mono ?_
        rw [← HQ.out]
        rintro e w1 ⟨rfl, o⟩
        have O1 := Lib.hid (O0.out.trans o)
        clear o
        go_wp2_with fail
        go_at_call 123
        refine (isSorted_any _ l B _ (HA.out.below (O1.out.below hB fun _ h => h.elim)) (Nat.le_trans hB O1.out.size)).mono ?_
        rw [HD2.out]
        rintro e w2 ⟨rfl, o⟩
        have O2 := Lib.hid (O1.out.trans o)
        clear o
        go_wp2_with fail
        go_at_call 125
        refine (spApart _ l B _ (HA.out.below (O2.out.below hB fun _ h => h.elim)) (Nat.le_trans hB O2.out.size) (by omega) HF.out).mono ?_
        rw [HD3.out]
        rintro e w3 ⟨rfl, o⟩
        have O3 := Lib.hid (O2.out.trans o)
        clear o
        go_wp2
        go_ret
        exact ⟨ret_bool (by rw [HK.out]), O3.out⟩
    · have HK := Lib.hid (show decide (TableP all l m) = false from decide_eq_false fun h => h2 h.2.1)
      have HD2 := Lib.hid (decide_eq_false h2)
      clear h2
      go_enter Tryz.func104, Tryz.ntmps104
      go_wp2_with fail
      go_at_call 122
      refine (containsFunc_any _ _ _ _ l B _ (rightL_pred ha HB.out) (HA.out.below (O0.out.below hB fun _ h => h.elim)) (Nat.le_trans hB O0.out.size) HF.out).mono ?_
      rw [← HQ.out]
      rintro e w1 ⟨rfl, o⟩
      have O1 := Lib.hid (O0.out.trans o)
      clear o
      go_wp2_with fail
      go_at_call 123
      refine (isSorted_any _ l B _ (HA.out.below (O1.out.below hB fun _ h => h.elim)) (Nat.le_trans hB O1.out.size)).mono ?_
      rw [HD2.out]
      rintro e w2 ⟨rfl, o⟩
      have O2 := Lib.hid (O1.out.trans o)
      clear o
      go_wp2
      go_ret
      exact ⟨ret_bool (by rw [HK.out]), O2.out⟩
end Go.Proofs.YtciidodmhigpdaaGreatDoor
