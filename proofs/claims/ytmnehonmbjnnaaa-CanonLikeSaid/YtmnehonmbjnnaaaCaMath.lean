/- Graphs that are alike: nodes paired; what is met of two of them, in order; as they are seen from their roots. No program in it. -/
import Derived.Test.YtmnehonmbjnnaaaReSameM
namespace Go.Proofs.Ytmnehonmbjnnaaa
open Go.RowKit Go.Lib
set_option linter.unusedVariables false
set_option linter.unusedSimpArgs false

/-! ### Two lists, place by place -/
def All2 {α β : Type} (R : α → β → Prop) : List α → List β → Prop
  | [], [] => True
  | x :: l, y :: m => R x y ∧ All2 R l m
  | _, _ => False
section
variable {α β γ δ : Type} {R : α → β → Prop}
theorem All2.len : ∀ {l : List α} {m : List β}, All2 R l m → l.length = m.length
  | [], [], _ => rfl
  | _ :: _, _ :: _, h => by simpa using h.2.len
  | [], _ :: _, h => h.elim
  | _ :: _, [], h => h.elim
theorem All2.mono {S : α → β → Prop} : ∀ {l : List α} {m : List β}, All2 R l m → (∀ x y, x ∈ l → y ∈ m → R x y → S x y) → All2 S l m
  | [], [], _, _ => trivial
  | x :: l, y :: m, h, k => ⟨k x y List.mem_cons_self List.mem_cons_self h.1, h.2.mono fun x y hx hy => k x y (List.mem_cons_of_mem _ hx) (List.mem_cons_of_mem _ hy)⟩
  | [], _ :: _, h, _ => h.elim
  | _ :: _, [], h, _ => h.elim
theorem All2.at_ : ∀ {l : List α} {m : List β}, All2 R l m → ∀ {j : Nat} {x : α} {y : β}, l[j]? = some x → m[j]? = some y → R x y
  | [], [], _, j, x, y, hx, _ => by simp at hx
  | _ :: _, _ :: _, h, 0, x, y, hx, hy => by
    obtain rfl := Option.some.inj hx
    obtain rfl := Option.some.inj hy
    exact h.1
  | _ :: _, _ :: _, h, j + 1, x, y, hx, hy => h.2.at_ (j := j) (by simpa using hx) (by simpa using hy)
  | [], _ :: _, h, _, _, _, _, _ => h.elim
  | _ :: _, [], h, _, _, _, _, _ => h.elim
theorem All2.of_at : ∀ {l : List α} {m : List β}, l.length = m.length → (∀ (j : Nat) x y, l[j]? = some x → m[j]? = some y → R x y) → All2 R l m
  | [], [], _, _ => trivial
  | x :: l, y :: m, h, k => ⟨k 0 x y rfl rfl, All2.of_at (by simpa using h) fun j x y hx hy => k (j + 1) x y (by simpa using hx) (by simpa using hy)⟩
  | [], _ :: _, h, _ => by simp at h
  | _ :: _, [], h, _ => by simp at h
theorem All2.snoc : ∀ {l : List α} {m : List β} {x : α} {y : β}, All2 R l m → R x y → All2 R (l ++ [x]) (m ++ [y])
  | [], [], _, _, _, h => ⟨h, trivial⟩
  | _ :: _, _ :: _, _, _, h, k => ⟨h.1, h.2.snoc k⟩
  | [], _ :: _, _, _, h, _ => h.elim
  | _ :: _, [], _, _, h, _ => h.elim
theorem All2.flip : ∀ {l : List α} {m : List β}, All2 R l m → All2 (fun y x => R x y) m l
  | [], [], _ => trivial
  | _ :: _, _ :: _, h => ⟨h.1, h.2.flip⟩
  | [], _ :: _, h => h.elim
  | _ :: _, [], h => h.elim
theorem All2.left : ∀ {l : List α} {m : List β}, All2 R l m → ∀ {x : α}, x ∈ l → ∃ y, y ∈ m ∧ R x y
  | [], [], _, x, hx => by cases hx
  | a :: l, b :: m, h, x, hx => by
    rcases List.mem_cons.1 hx with rfl | hx
    · exact ⟨b, List.mem_cons_self, h.1⟩
    · obtain ⟨y, hy, hr⟩ := h.2.left hx
      exact ⟨y, List.mem_cons_of_mem _ hy, hr⟩
  | [], _ :: _, h, _, _ => h.elim
  | _ :: _, [], h, _, _ => h.elim
theorem All2.map_eq {f : α → γ} {g : β → γ} : ∀ {l : List α} {m : List β}, All2 R l m → (∀ x y, x ∈ l → y ∈ m → R x y → f x = g y) → l.map f = m.map g
  | [], [], _, _ => rfl
  | x :: l, y :: m, h, k => by
    rw [List.map_cons, List.map_cons, k x y List.mem_cons_self List.mem_cons_self h.1, h.2.map_eq fun x y hx hy => k x y (List.mem_cons_of_mem _ hx) (List.mem_cons_of_mem _ hy)]
  | [], _ :: _, h, _ => h.elim
  | _ :: _, [], h, _ => h.elim
theorem All2.of_map {f : α → γ} {g : β → γ} : ∀ {l : List α} {m : List β}, l.map f = m.map g → All2 (fun x y => f x = g y) l m
  | [], [], _ => trivial
  | x :: l, y :: m, h => by
    rw [List.map_cons, List.map_cons] at h
    injection h with h1 h2
    exact ⟨h1, All2.of_map h2⟩
  | [], _ :: _, h => by simp at h
  | _ :: _, [], h => by simp at h
end

/-! ### Pairings -/
/-- Two values are the same, or lead to nodes that are paired. -/
def RelV (f : Int → Int → Prop) (x y : Sp) : Prop := x.1 = y.1 ∧ (x.1 = 2 → f x.2 y.2) ∧ (x.1 ≠ 2 → x.2 = y.2)
def RelN (f : Int → Int → Prop) (d e : Nd) : Prop := d.kd = e.kd ∧ d.rs = e.rs ∧ All2 (RelV f) d.fs e.fs
/-- A pairing of nodes of a with nodes of b: what is paired has the same parts, each with one alone; roots are paired. -/
structure Iso (a b : Gr) (f : Int → Int → Prop) : Prop where
  rt : All2 (RelV f) a.rt b.rt
  nd : ∀ i k, f i k → RelN f (ndAt a i) (ndAt b k)
  rng : ∀ i k, f i k → (0 ≤ i ∧ i < (a.nd.length : Int)) ∧ 0 ≤ k ∧ k < (b.nd.length : Int)
  fn : ∀ i k k', f i k → f i k' → k = k'
  inj : ∀ i i' k, f i k → f i' k → i = i'
theorem RelV.flip {f : Int → Int → Prop} {x y : Sp} (h : RelV f x y) : RelV (fun k i => f i k) y x := ⟨h.1.symm, fun e => h.2.1 (h.1.trans e), fun e => (h.2.2 fun e' => e (h.1 ▸ e')).symm⟩
theorem Iso.flip {a b : Gr} {f : Int → Int → Prop} (h : Iso a b f) : Iso b a fun k i => f i k :=
  ⟨h.rt.flip.mono fun _ _ _ _ h => h.flip, fun k i hf => ⟨(h.nd i k hf).1.symm, (h.nd i k hf).2.1.symm, (h.nd i k hf).2.2.flip.mono fun _ _ _ _ h => h.flip⟩, fun k i hf => ⟨(h.rng i k hf).2, (h.rng i k hf).1⟩, fun k i i' h1 h2 => h.inj i i' k h1 h2, fun k k' i h1 h2 => h.fn i k k' h1 h2⟩
theorem relN_sz {f : Int → Int → Prop} {d e : Nd} (h : RelN f d e) : ndSz d = ndSz e := by
  unfold ndSz ndRaw
  rw [h.2.1, h.2.2.len]

/-! ### What is met, in order -/
/-- Two states of a plan with no node large are the same but for the pairing. -/
structure SimP (f : Int → Int → Prop) (s t : PSt) : Prop where
  sm : All2 f s.small t.small
  bg : s.begins = t.begins
  lk : s.looked = t.looked
  l1 : s.large = []
  l2 : t.large = []
  p1 : s.pile = []
  p2 : t.pile = []
  tp : s.top = t.top
theorem SimP.mark {f : Int → Int → Prop} {s t : PSt} (h : SimP f s t) (i : Nat) : SimP f (s.mark i) (t.mark i) := ⟨h.sm, h.bg, by unfold PSt.mark; rw [h.lk], h.l1, h.l2, h.p1, h.p2, h.tp⟩
section
variable {a b : Gr} {f : Int → Int → Prop} {lim : Int}
theorem sim_mem (I : Iso a b f) {l m : List Int} (h : All2 f l m) {x y : Int} (hf : f x y) : x ∈ l ↔ y ∈ m := by
  constructor
  · intro hx
    obtain ⟨y', hy, hr⟩ := h.left hx
    rw [I.fn x y y' hf hr]; exact hy
  · intro hy
    obtain ⟨x', hx, hr⟩ := h.flip.left hy
    rw [I.inj x x' y hf hr]; exact hx
theorem sim_meet (ha : grOk a = true) (hb : grOk b = true) (I : Iso a b f) (hl : 8193 ≤ lim) {v u : Sp} (hv : RelV f v u) {s t : PSt} (h : SimP f s t) : SimP f (meetS a lim v s) (meetS b lim u t) := by
  have n1 : ¬ lim < ndSz (ndAt a v.2) := by have := nd_sz17 ha v.2; omega
  have n2 : ¬ lim < ndSz (ndAt b u.2) := by have := nd_sz17 hb u.2; omega
  unfold meetS
  rw [if_neg n1, if_neg n2]
  by_cases h2 : v.1 = 2
  · have hf := hv.2.1 h2
    have e1 : decide (v.2 ∈ s.small) = decide (u.2 ∈ t.small) := decide_eq_decide.2 (sim_mem I h.sm hf)
    have e2 : decide (v.1 = 2) = decide (u.1 = 2) := decide_eq_decide.2 (by rw [hv.1])
    have e : newS v s = newS u t := by
      unfold newS
      rw [h.l1, h.l2, e1, e2]
      simp
    rw [e]
    by_cases hn : newS u t = true
    · rw [if_pos hn, if_pos hn]
      refine ⟨h.sm.snoc hf, ?_, ?_, h.l1, h.l2, h.p1, h.p2, ?_⟩
      · show s.begins ++ [s.top] = t.begins ++ [t.top]
        rw [h.bg, h.tp]
      · show s.looked ++ [false] = t.looked ++ [false]
        rw [h.lk]
      · show wrap64 (s.top + ndSz (ndAt a v.2)) = wrap64 (t.top + ndSz (ndAt b u.2))
        rw [h.tp, relN_sz (I.nd _ _ hf)]
    · rw [if_neg hn, if_neg hn]; exact h
  · have e1 : newS v s = false := by unfold newS; rw [decide_eq_false h2]; rfl
    have e2 : newS u t = false := by unfold newS; rw [decide_eq_false (fun e => h2 (hv.1.trans e))]; rfl
    rw [e1, e2, if_neg (by decide), if_neg (by decide)]
    exact h
theorem sim_look (ha : grOk a = true) (hb : grOk b = true) (I : Iso a b f) (hl : 8193 ≤ lim) : ∀ (l m : List Sp) (s t : PSt), All2 (RelV f) l m → SimP f s t → SimP f (lookW a lim l s) (lookW b lim m t)
  | [], [], s, t, _, h => h
  | v :: l, u :: m, s, t, hv, h => sim_look ha hb I hl l m _ _ hv.2 (sim_meet ha hb I hl hv.1 h)
  | [], _ :: _, _, _, hv, _ => hv.elim
  | _ :: _, [], _, _, hv, _ => hv.elim
theorem sim_next {block : Int} {s t : PSt} (h : SimP f s t) : nextS 0 block s = nextS 0 block t := by
  unfold nextS
  rw [if_neg (by rintro ⟨e, -⟩; cases e), if_neg (by rintro ⟨e, -⟩; cases e)]
  unfold firstS
  rw [h.sm.len, h.lk, h.bg]
theorem next_lt {block : Int} {s : PSt} {i : Nat} (h : nextS 0 block s = some i) : i < s.small.length := by
  unfold nextS at h
  rw [if_neg (by rintro ⟨e, -⟩; cases e)] at h
  unfold firstS at h
  have := List.mem_of_find?_eq_some h
  exact List.mem_range.1 this
theorem sim_step (ha : grOk a = true) (hb : grOk b = true) (I : Iso a b f) (hl : 8193 ≤ lim) (block : Int) {s t : PSt} (h : SimP f s t) :
    (stepS a lim 0 block s = none ∧ stepS b lim 0 block t = none) ∨ ∃ s' t', stepS a lim 0 block s = some s' ∧ stepS b lim 0 block t = some t' ∧ SimP f s' t' := by
  unfold stepS
  rw [← sim_next h]
  cases hn : nextS 0 block s with
  | none =>
    rw [h.p1, h.p2]
    exact .inl ⟨rfl, rfl⟩
  | some i =>
    refine .inr ⟨_, _, rfl, rfl, ?_⟩
    have hi := next_lt hn
    have hi2 : i < t.small.length := by rw [← h.sm.len]; exact hi
    have hf : f (s.small.getD i 0) (t.small.getD i 0) := h.sm.at_ (j := i) (by rw [List.getD_eq_getElem?_getD, List.getElem?_eq_getElem hi]; rfl) (by rw [List.getD_eq_getElem?_getD, List.getElem?_eq_getElem hi2]; rfl)
    unfold lookO
    rw [if_neg (by decide), if_neg (by decide)]
    exact sim_look ha hb I hl _ _ _ _ (I.nd _ _ hf).2.2 (h.mark i)
theorem sim_runC (ha : grOk a = true) (hb : grOk b = true) (I : Iso a b f) (hl : 8193 ≤ lim) (block : Int) : ∀ (n : Nat) (s t : PSt), SimP f s t → SimP f (runS a lim 0 block n s) (runS b lim 0 block n t)
  | 0, s, t, h => h
  | n + 1, s, t, h => by
    rw [runS, runS]
    rcases sim_step ha hb I hl block h with ⟨e1, e2⟩ | ⟨s', t', e1, e2, h'⟩
    · rw [e1, e2]; exact h
    · rw [e1, e2]; exact sim_runC ha hb I hl block n s' t' h'
theorem run_more {g : Gr} {lim order block : Int} : ∀ (n : Nat) (s : PSt), stepS g lim order block (runS g lim order block n s) = none → ∀ k, runS g lim order block (n + k) s = runS g lim order block n s
  | 0, s, h, k => by
    rw [runS] at h ⊢
    cases k with
    | zero => rw [Nat.zero_add, runS]
    | succ k => rw [Nat.zero_add, runS, h]
  | n + 1, s, h, k => by
    rw [runS] at h ⊢
    rw [Nat.add_right_comm, runS]
    cases e : stepS g lim order block s with
    | none => rfl
    | some s' =>
      rw [e] at h
      exact run_more n s' h k
theorem none_sim : SimP f .none .none := ⟨trivial, rfl, rfl, rfl, rfl, rfl, rfl, rfl⟩
theorem sim_plan17 (ha : grOk a = true) (hb : grOk b = true) (I : Iso a b f) (hl : 8193 ≤ lim) (block : Int) : SimP f (planS a lim 0 block) (planS b lim 0 block) := by
  obtain ⟨wa, ca⟩ := start_wf lim 0 ha
  obtain ⟨wb, cb⟩ := start_wf lim 0 hb
  have ea := (run_wf (lim := lim) (order := 0) (block := block) ha (a.nd.length + 1) _ wa ca (by omega)).2.2
  have eb := (run_wf (lim := lim) (order := 0) (block := block) hb (b.nd.length + 1) _ wb cb (by omega)).2.2
  have q1 := run_more _ _ ea b.nd.length
  have q2 := run_more _ _ eb a.nd.length
  unfold planS
  rw [← q1, ← q2, show a.nd.length + 1 + b.nd.length = b.nd.length + 1 + a.nd.length by omega]
  refine sim_runC ha hb I hl block _ _ _ ?_
  unfold lookO
  rw [if_neg (by decide), if_neg (by decide)]
  exact sim_look ha hb I hl _ _ _ _ I.rt none_sim
/-- What is met of graphs that are alike is paired, in order. -/
theorem flat_pairs (ha : grOk a = true) (hb : grOk b = true) (I : Iso a b f) : All2 f (flatL a 0) (flatL b 0) := by
  unfold flatL
  rw [if_pos ha, if_pos hb]
  exact (sim_plan17 ha hb I (by decide) 1).sm
end

/-! ### As they are seen from their roots -/
theorem flat_rng {g : Gr} (hg : grOk g = true) : ordOk g.nd.length (flatL g 0) = true := by
  rw [ordOk_iff]
  unfold flatL
  rw [if_pos hg]
  have w := plan_wf17 hg 1000000 0 1
  exact ⟨fun x hx => w.rng x (List.mem_append.2 (.inl hx)), (List.nodup_append.1 w.nodup).1⟩
theorem flat_rch {g : Gr} (hg : grOk g = true) (x : Int) : x ∈ flatL g 0 ↔ Rch g x := by
  have := (plan_all (g := g) 1000000 0 1 hg).2 x
  rw [← this]
  unfold PSt.met flatL
  rw [flat_large hg, if_pos hg, List.append_nil]
theorem flat_ok {g : Gr} (hg : grOk g = true) : RnOk g (flatL g 0) := by
  refine ⟨hg, flat_rng hg, ?_, ?_⟩
  · rw [List.all_eq_true]
    intro d hd
    obtain ⟨x, hx, rfl⟩ := List.mem_map.1 hd
    unfold canT
    rw [List.all_eq_true]
    intro v hv
    unfold turnB
    by_cases h2 : v.1 = 2
    · rw [decide_eq_true h2, decide_eq_true ((flat_rch hg _).2 (Rch.next ((flat_rch hg x).1 hx) hv h2))]; rfl
    · rw [decide_eq_false h2]; rfl
  · unfold canT
    rw [List.all_eq_true]
    intro v hv
    unfold turnB
    by_cases h2 : v.1 = 2
    · rw [decide_eq_true h2, decide_eq_true ((flat_rch hg _).2 (Rch.root hv h2))]; rfl
    · rw [decide_eq_false h2]; rfl
/-- A graph as it is seen from its roots. -/
def canG (g : Gr) : Gr := rnG g (flatL g 0)
theorem canG_is {g : Gr} (hg : grOk g = true) : canG g = ⟨(pick g (flatL g 0)).map (ndT (flatL g 0)), turnT (flatL g 0) g.rt⟩ := if_pos (rnE_iff.2 (flat_ok hg))
section
variable {a b : Gr} {f : Int → Int → Prop}
theorem plc_pair (I : Iso a b f) {l m : List Int} (h : All2 f l m) (hl : l.Nodup) (hm : m.Nodup) {x y : Int} (hf : f x y) : plc l x = plc m y := by
  by_cases hx : x ∈ l
  · obtain ⟨j, h1, h2⟩ := plc_at hx
    have hjl := (List.getElem?_eq_some_iff.1 h2).1
    obtain ⟨y', hy'⟩ : ∃ y', m[j]? = some y' := ⟨_, List.getElem?_eq_getElem (by rw [← h.len]; exact hjl)⟩
    have hr := h.at_ h2 hy'
    rw [h1, I.fn x y y' hf hr, plc_nodup hm hy']
  · have hy : y ∉ m := fun hy => hx ((sim_mem I h hf).2 hy)
    rw [plc_out hx, plc_out hy]
theorem turn_pair (I : Iso a b f) {l m : List Int} (h : All2 f l m) (hl : l.Nodup) (hm : m.Nodup) {x y : Sp} (hf : RelV f x y) : turnD l x = turnD m y := by
  unfold turnD
  by_cases h2 : x.1 = 2
  · rw [if_pos h2, if_pos (hf.1 ▸ h2), plc_pair I h hl hm (hf.2.1 h2)]
  · rw [if_neg h2, if_neg (fun e => h2 (hf.1.trans e))]
    exact Prod.ext hf.1 (hf.2.2 h2)
/-- Graphs that are alike look the same from their roots. -/
theorem canon_same (ha : grOk a = true) (hb : grOk b = true) (I : Iso a b f) : canG a = canG b := by
  have h := flat_pairs ha hb I
  have n1 := (ordOk_iff.1 (flat_rng ha)).2
  have n2 := (ordOk_iff.1 (flat_rng hb)).2
  rw [canG_is ha, canG_is hb]
  have e1 : (pick a (flatL a 0)).map (ndT (flatL a 0)) = (pick b (flatL b 0)).map (ndT (flatL b 0)) := by
    unfold pick
    rw [List.map_map, List.map_map]
    refine h.map_eq fun x y hx hy hf => ?_
    have hn := I.nd x y hf
    show ndT (flatL a 0) (ndAt a x) = ndT (flatL b 0) (ndAt b y)
    unfold ndT turnT
    rw [hn.1, hn.2.1, hn.2.2.map_eq fun v u _ _ hv => turn_pair I h n1 n2 hv]
  have e2 : turnT (flatL a 0) a.rt = turnT (flatL b 0) b.rt := by
    unfold turnT
    exact I.rt.map_eq fun v u _ _ hv => turn_pair I h n1 n2 hv
  rw [e1, e2]
end

/-! ### Alike -/
theorem ndAt_mem {g : Gr} {x : Int} (h : 0 ≤ x ∧ x < (g.nd.length : Int)) : ndAt g x ∈ g.nd := by
  unfold ndAt
  rw [List.getD_eq_getElem?_getD, List.getElem?_eq_getElem (by omega)]
  exact List.getElem_mem _
/-- The pairs of two orders. -/
def PairL (l m : List Int) (i k : Int) : Prop := ∃ j : Nat, l[j]? = some i ∧ m[j]? = some k
theorem turn_rel {l m : List Int} (hl : l.Nodup) (hm : m.Nodup) (hlen : l.length = m.length) {v u : Sp} (h1 : turnB l v = true) (h2 : turnB m u = true) (h : turnD l v = turnD m u) : RelV (PairL l m) v u := by
  unfold turnD at h
  unfold turnB at h1 h2
  by_cases a : v.1 = 2 <;> by_cases b : u.1 = 2
  · rw [if_pos a, if_pos b] at h
    rw [decide_eq_true a] at h1
    rw [decide_eq_true b] at h2
    have q1 : v.2 ∈ l := by simpa using h1
    have q2 : u.2 ∈ m := by simpa using h2
    obtain ⟨j, e1, e2⟩ := plc_at q1
    obtain ⟨k, e3, e4⟩ := plc_at q2
    have he : plc l v.2 = plc m u.2 := congrArg Prod.snd h
    have : j = k := by omega
    subst this
    exact ⟨a.trans b.symm, fun _ => ⟨j, e2, e4⟩, fun e => absurd a e⟩
  · rw [if_pos a, if_neg b] at h
    exact absurd (congrArg Prod.fst h).symm b
  · rw [if_neg a, if_pos b] at h
    exact absurd (congrArg Prod.fst h) a
  · rw [if_neg a, if_neg b] at h
    exact ⟨by rw [h], fun e => absurd e a, fun _ => by rw [h]⟩
/-- What looks the same from its roots is alike: what is met is paired, in order. -/
theorem canon_iso {a b : Gr} (ha : grOk a = true) (hb : grOk b = true) (h : canG a = canG b) : (flatL a 0).length = (flatL b 0).length ∧ Iso a b (PairL (flatL a 0) (flatL b 0)) := by
  rw [canG_is ha, canG_is hb] at h
  injection h with h1 h2
  have oa := flat_ok ha
  have ob := flat_ok hb
  obtain ⟨ra, na⟩ := ordOk_iff.1 oa.ord
  obtain ⟨rb, nb⟩ := ordOk_iff.1 ob.ord
  have hlen : (flatL a 0).length = (flatL b 0).length := by
    have := congrArg List.length h1
    simpa [pick] using this
  refine ⟨hlen, ?_, fun i k hf => ?_, fun i k hf => ?_, fun i k k' h1 h2 => ?_, fun i i' k h1 h2 => ?_⟩
  · have := All2.of_map (show a.rt.map (turnD (flatL a 0)) = b.rt.map (turnD (flatL b 0)) from h2)
    exact this.mono fun v u hv hu e => turn_rel na nb hlen (List.all_eq_true.1 oa.rts v hv) (List.all_eq_true.1 ob.rts u hu) e
  · obtain ⟨j, e1, e2⟩ := hf
    have p1 : (pick a (flatL a 0))[j]? = some (ndAt a i) := by unfold pick; rw [List.getElem?_map, e1]; rfl
    have p2 : (pick b (flatL b 0))[j]? = some (ndAt b k) := by unfold pick; rw [List.getElem?_map, e2]; rfl
    have hn : ndT (flatL a 0) (ndAt a i) = ndT (flatL b 0) (ndAt b k) := (All2.of_map h1).at_ p1 p2
    unfold ndT at hn
    injection hn with q1 q2 q3
    refine ⟨q1, q3, ?_⟩
    have c1 := List.all_eq_true.1 oa.nds _ (List.mem_of_getElem? p1)
    have c2 := List.all_eq_true.1 ob.nds _ (List.mem_of_getElem? p2)
    exact (All2.of_map q2).mono fun v u hv hu e => turn_rel na nb hlen (List.all_eq_true.1 c1 v hv) (List.all_eq_true.1 c2 u hu) e
  · obtain ⟨j, e1, e2⟩ := hf
    exact ⟨ra i (List.mem_of_getElem? e1), rb k (List.mem_of_getElem? e2)⟩
  · obtain ⟨j, e1, e2⟩ := h1
    obtain ⟨j', e3, e4⟩ := h2
    have := nodup_at na e1 e3
    subst this
    exact Option.some.inj (e2.symm.trans e4)
  · obtain ⟨j, e1, e2⟩ := h1
    obtain ⟨j', e3, e4⟩ := h2
    have := nodup_at nb e2 e4
    subst this
    exact Option.some.inj (e1.symm.trans e3)
/-- Two graphs that may be are alike. -/
noncomputable def alikeB (a b : Gr) : Bool := grOk a && (grOk b && sameG (canG a) (canG b))
theorem alike_iff {a b : Gr} : alikeB a b = true ↔ grOk a = true ∧ grOk b = true ∧ canG a = canG b := by
  unfold alikeB sameG
  simp
theorem alike_of {a b : Gr} {f : Int → Int → Prop} (ha : grOk a = true) (hb : grOk b = true) (I : Iso a b f) : alikeB a b = true := alike_iff.2 ⟨ha, hb, canon_same ha hb I⟩
theorem alike_self (a : Gr) : alikeB a a = grOk a := by
  unfold alikeB sameG
  cases grOk a <;> simp
theorem alike_flip (a b : Gr) : alikeB a b = alikeB b a := by
  apply Bool.eq_iff_iff.2
  rw [alike_iff, alike_iff]
  exact ⟨fun ⟨h1, h2, h3⟩ => ⟨h2, h1, h3.symm⟩, fun ⟨h1, h2, h3⟩ => ⟨h2, h1, h3.symm⟩⟩
theorem alike_on {a b c : Gr} (h : alikeB a b = true) : alikeB b c = alikeB a c := by
  obtain ⟨h1, h2, h3⟩ := alike_iff.1 h
  apply Bool.eq_iff_iff.2
  rw [alike_iff, alike_iff, h3]
  exact ⟨fun ⟨_, q, e⟩ => ⟨h1, q, e⟩, fun ⟨_, q, e⟩ => ⟨h2, q, e⟩⟩
/-- With which node of b each node of a is paired. -/
def toL (a b : Gr) : List Int := (List.range a.nd.length).map fun i : Nat => if (i : Int) ∈ flatL a 0 then (flatL b 0).getD (plc (flatL a 0) (i : Int)).toNat (-1) else -1
noncomputable def matchL (a b : Gr) : List Int := if alikeB a b = true then toL a b else []
theorem to_at {a b : Gr} (ha : grOk a = true) (hlen : (flatL a 0).length = (flatL b 0).length) {i : Nat} (hi : i < a.nd.length) : ∃ k, (toL a b)[i]? = some k ∧ (((i : Int) ∈ flatL a 0 ∧ PairL (flatL a 0) (flatL b 0) i k) ∨ ((i : Int) ∉ flatL a 0 ∧ k = -1)) := by
  unfold toL
  rw [List.getElem?_map, List.getElem?_range hi]
  refine ⟨_, rfl, ?_⟩
  dsimp only
  by_cases h : (i : Int) ∈ flatL a 0
  · rw [if_pos h]
    obtain ⟨j, e1, e2⟩ := plc_at h
    have hj := (List.getElem?_eq_some_iff.1 e2).1
    refine .inl ⟨h, j, e2, ?_⟩
    rw [e1, show ((j : Int)).toNat = j from rfl, List.getD_eq_getElem?_getD, List.getElem?_eq_getElem (by omega)]
    rfl
  · rw [if_neg h]; exact .inr ⟨h, rfl⟩

/-! ### In another order -/
theorem vOk_turn2 {n m : Nat} {o : List Int} {v : Sp} (h : vOk n v = true) (hn : o.length ≤ 1000000) (ht : turnB o v = true) (hm : o.length = m) : vOk m (turnD o v) = true := by
  unfold turnD
  by_cases h2 : v.1 = 2
  · rw [if_pos h2]
    unfold turnB at ht
    rw [decide_eq_true h2] at ht
    have hx : v.2 ∈ o := by simpa using ht
    obtain ⟨j, e1, e2⟩ := plc_at hx
    have hj := (List.getElem?_eq_some_iff.1 e2).1
    rw [e1]
    unfold vOk vmay
    simp [vin]
    omega
  · rw [if_neg h2]
    unfold vOk at h ⊢
    rw [decide_eq_false h2] at h ⊢
    simpa using h
theorem rn_may2 {g : Gr} {o : List Int} (h : RnOk g o) (hn : o.length ≤ 1000000) : grOk ⟨(pick g o).map (ndT o), turnT o g.rt⟩ = true := by
  obtain ⟨h1, h2⟩ := grOk_iff.1 h.may
  have ho := ordOk_iff.1 h.ord
  have hlen : ((pick g o).map (ndT o)).length = o.length := by unfold pick; simp
  refine grOk_iff.2 ⟨fun d hd => ?_, fun v hv => ?_⟩
  · simp only at hd ⊢
    rw [hlen]
    obtain ⟨d0, hd0, rfl⟩ := List.mem_map.1 hd
    obtain ⟨a1, a2, a3, a4⟩ := ndOk_iff.1 (h1 d0 (mem_pick ho.1 hd0))
    have c := List.all_eq_true.1 h.nds d0 hd0
    refine ndOk_iff.2 ⟨a1, by unfold ndT turnT; simpa using a2, a3, fun v hv => ?_⟩
    unfold ndT turnT at hv
    obtain ⟨v0, hv0, rfl⟩ := List.mem_map.1 hv
    exact vOk_turn2 (a4 v0 hv0) hn (List.all_eq_true.1 c v0 hv0) rfl
  · simp only at hv ⊢
    rw [hlen]
    unfold turnT at hv
    obtain ⟨v0, hv0, rfl⟩ := List.mem_map.1 hv
    exact vOk_turn2 (h2 v0 hv0) hn (List.all_eq_true.1 h.rts v0 hv0) rfl
theorem relV_turn {o : List Int} {v : Sp} (ht : turnB o v = true) : RelV (fun i k => ∃ j : Nat, o[j]? = some i ∧ k = j) v (turnD o v) := by
  unfold turnD
  by_cases h2 : v.1 = 2
  · rw [if_pos h2]
    unfold turnB at ht
    rw [decide_eq_true h2] at ht
    have hx : v.2 ∈ o := by simpa using ht
    obtain ⟨j, e1, e2⟩ := plc_at hx
    exact ⟨h2, fun _ => ⟨j, e2, e1⟩, fun e => absurd h2 e⟩
  · rw [if_neg h2]
    exact ⟨rfl, fun e => absurd e h2, fun _ => rfl⟩
theorem all2_map {α β : Type} {R : α → β → Prop} {f : α → β} : ∀ {l : List α}, (∀ x ∈ l, R x (f x)) → All2 R l (l.map f)
  | [], _ => trivial
  | x :: l, h => ⟨h x List.mem_cons_self, all2_map fun y hy => h y (List.mem_cons_of_mem _ hy)⟩
/-- A graph in another order is alike: each node is paired with itself where it is now. -/
theorem rn_iso {g : Gr} {o : List Int} (h : RnOk g o) : Iso g ⟨(pick g o).map (ndT o), turnT o g.rt⟩ (fun i k => ∃ j : Nat, o[j]? = some i ∧ k = j) := by
  obtain ⟨ro, no⟩ := ordOk_iff.1 h.ord
  refine ⟨?_, ?_, ?_, ?_, ?_⟩
  · exact all2_map fun v hv => relV_turn (List.all_eq_true.1 h.rts v hv)
  · rintro i k ⟨j, e1, rfl⟩
    have p1 : (pick g o)[j]? = some (ndAt g i) := by unfold pick; rw [List.getElem?_map, e1]; rfl
    have c1 := List.all_eq_true.1 h.nds _ (List.mem_of_getElem? p1)
    have e2 : ndAt ⟨(pick g o).map (ndT o), turnT o g.rt⟩ (j : Int) = ndT o (ndAt g i) := by
      unfold ndAt
      rw [show ((j : Int)).toNat = j from rfl, List.getD_eq_getElem?_getD]
      simp only
      rw [List.getElem?_map, p1]; rfl
    rw [e2]
    exact ⟨rfl, rfl, all2_map fun v hv => relV_turn (List.all_eq_true.1 c1 v hv)⟩
  · rintro i k ⟨j, e1, rfl⟩
    refine ⟨ro i (List.mem_of_getElem? e1), ?_⟩
    have := (List.getElem?_eq_some_iff.1 e1).1
    simp [pick]
    omega
  · rintro i k k' ⟨j, e1, rfl⟩ ⟨j', e2, rfl⟩
    rw [nodup_at no e1 e2]
  · rintro i i' k ⟨j, e1, rfl⟩ ⟨j', e2, e3⟩
    have : j = j' := by omega
    subst this
    exact Option.some.inj (e1.symm.trans e2)
theorem flat_len2 {g : Gr} (hg : grOk g = true) : (flatL g 0).length ≤ g.nd.length := by
  obtain ⟨r, n⟩ := ordOk_iff.1 (flat_rng hg)
  exact int_len n r
/-- As it is seen from its roots it may be, is alike, and looks the same. -/
theorem canG_ok {g : Gr} (hg : grOk g = true) (hn : g.nd.length ≤ 1000000) : grOk (canG g) = true ∧ canG (canG g) = canG g ∧ alikeB g (canG g) = true := by
  have ho := flat_ok hg
  have hl := flat_len2 hg
  have h1 := rn_may2 ho (by omega)
  have h2 := canon_same hg h1 (rn_iso ho)
  rw [← canG_is hg] at h1 h2
  exact ⟨h1, h2.symm, alike_iff.2 ⟨hg, h1, h2⟩⟩
/-- So it is in any other order. -/
theorem canG_rn {g : Gr} {o : List Int} (h : rnE g o = 0) (hn : o.length ≤ 1000000) : grOk (rnG g o) = true ∧ canG (rnG g o) = canG g := by
  have ho := rnE_iff.1 h
  have e : rnG g o = ⟨(pick g o).map (ndT o), turnT o g.rt⟩ := by unfold rnG; rw [if_pos h]
  have h1 := rn_may2 ho hn
  rw [e]
  exact ⟨h1, (canon_same ho.may h1 (rn_iso ho)).symm⟩
end Go.Proofs.Ytmnehonmbjnnaaa
