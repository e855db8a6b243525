/- Values of a graph, turned one by one: what has come of it when some of them have been. -/
import Derived.Test.YtdlaigghejahdaaGrTurn
namespace Go.Proofs.Ytdlaigghejahdaa
open Go.RowKit Go.Lib
set_option maxRecDepth 100000
set_option linter.unusedSimpArgs false
set_option linter.unusedVariables false

def itT (o : List Int) : Nat → Sp → Sp
  | 0, v => v
  | n + 1, v => turnD o (itT o n v)
def cntP {g : Gr} (pre : List (Plc g)) (p : Nat × Nat) : Nat := (pre.map (·.1)).count p
theorem cntP_snoc {g : Gr} (pre : List (Plc g)) (x : Plc g) (p : Nat × Nat) : cntP (pre ++ [x]) p = cntP pre p + if x.1 = p then 1 else 0 := by
  unfold cntP
  rw [List.map_append, List.count_append]
  congr 1
  simp [List.count_singleton]
theorem turnD_b64 {o : List Int} (ho : o.length ≤ 100) {v : Sp} (h : B64 v.2) : B64 (turnD o v).2 := by
  unfold turnD
  split
  · unfold B64
    simp only
    by_cases hm : v.2 ∈ o
    · obtain ⟨k, e, hk⟩ := plc_at hm
      have := (List.getElem?_eq_some_iff.1 hk).1
      rw [e]
      omega
    · rw [plc_out hm]; omega
  · exact h
theorem itT_b64 {o : List Int} (ho : o.length ≤ 100) {v : Sp} (h : B64 v.2) : ∀ n, B64 (itT o n v).2
  | 0 => h
  | n + 1 => turnD_b64 ho (itT_b64 ho h n)
/-- What has come of graph g when the values at pre have been turned, one by one. -/
structure TurnI (g : Gr) (o : List Int) (pre : List (Plc g)) (cur : Gr) : Prop where
  sh : ShG g cur
  val : ∀ p : Nat × Nat, p.2 < ((lsts g).getD p.1 []).length → plcV cur p = itT o (cntP pre p) (plcV g p)
  ok : ∀ p : Nat × Nat, p.2 < ((lsts g).getD p.1 []).length → ∀ j, j < cntP pre p → turnB o (itT o j (plcV g p)) = true
theorem TurnI.nil (g : Gr) (o : List Int) : TurnI g o [] g := ⟨ShG.refl g, fun _ _ => rfl, fun _ _ j h => absurd h (Nat.not_lt_zero j)⟩
theorem TurnI.next {g cur cur' : Gr} {o : List Int} {pre : List (Plc g)} (h : TurnI g o pre cur) (x : Plc g) (hs : ShG cur cur') (hb : turnB o (plcV cur x.1) = true) (hv : ∀ q, plcV cur' q = if q = x.1 then turnD o (plcV cur x.1) else plcV cur q) : TurnI g o (pre ++ [x]) cur' := by
  refine ⟨h.sh.trans hs, fun p hp => ?_, fun p hp j hj => ?_⟩
  · rw [hv, cntP_snoc]
    by_cases e : p = x.1
    · subst e
      rw [if_pos rfl, if_pos rfl, h.val _ hp]
      rfl
    · rw [if_neg e, if_neg (fun e' => e e'.symm), h.val p hp]
      rfl
  · rw [cntP_snoc] at hj
    by_cases e : x.1 = p
    · subst e
      rw [if_pos rfl] at hj
      rcases Nat.lt_or_ge j (cntP pre x.1) with h' | h'
      · exact h.ok _ hp j h'
      · obtain rfl : j = cntP pre x.1 := by omega
        rw [← h.val _ hp]; exact hb
    · rw [if_neg e] at hj
      exact h.ok p hp j hj
theorem TurnI.same {g cur : Gr} {o : List Int} {pre : List (Plc g)} (h : TurnI g o pre cur) (x : Plc g) (hk : (plcV cur x.1).1 ≠ 2) : TurnI g o (pre ++ [x]) cur := by
  have e : turnD o (plcV cur x.1) = plcV cur x.1 := by unfold turnD; rw [if_neg hk]
  refine h.next x (ShG.refl _) (by unfold turnB; simp [hk]) fun q => ?_
  rw [e]
  by_cases h' : q = x.1
  · rw [if_pos h', h']
  · rw [if_neg h']
theorem TurnI.lt {g cur : Gr} {o : List Int} {pre : List (Plc g)} (h : TurnI g o pre cur) (x : Plc g) : x.1.2 < ((lsts cur).getD x.1.1 []).length := by rw [h.sh.lens]; exact x.2
theorem plc_le {g : Gr} {p : Nat × Nat} (hp : p.2 < ((lsts g).getD p.1 []).length) : p.1 ≤ g.nd.length := by
  rcases Nat.lt_or_ge g.nd.length p.1 with h' | h'
  · rw [lsts_gt h'] at hp; simp at hp
  · exact h'
theorem TurnI.turn {g cur : Gr} {o : List Int} {pre : List (Plc g)} (h : TurnI g o pre cur) (x : Plc g) (hk : (plcV cur x.1).1 = 2) (hm : (plcV cur x.1).2 ∈ o) : TurnI g o (pre ++ [x]) (setG cur x.1 ((plcV cur x.1).1, plc o (plcV cur x.1).2)) := by
  refine h.next x (setG_sh _ _ _) (by unfold turnB; simp [hm]) fun q => ?_
  rw [setG_plc _ _ _ (plc_le (h.lt x)) (h.lt x)]
  have e : turnD o (plcV cur x.1) = ((plcV cur x.1).1, plc o (plcV cur x.1).2) := by unfold turnD; rw [if_pos hk, hk]
  rw [e]
theorem plc_b64 {g : Gr} (hf : GrFit g) {p : Nat × Nat} (hp : p.2 < ((lsts g).getD p.1 []).length) : B64 (plcV g p).2 := by
  obtain ⟨l, hl, hv⟩ := plc_mem g ⟨p, hp⟩
  have hm : plcV g p ∈ l := List.mem_of_getElem? hv
  have hl2 : l ∈ lsts g := List.mem_of_getElem? hl
  unfold lsts at hl2
  rcases List.mem_append.1 hl2 with h | h
  · obtain ⟨d, hd, rfl⟩ := List.mem_map.1 h
    exact (hf.fs d hd _ hm).2
  · rw [List.mem_singleton.1 h] at hm
    exact (hf.rt _ hm).2
theorem allUp_nodup (g : Gr) : ∀ k, (allUp g k).Nodup
  | 0 => by simp [allUp]
  | k + 1 => by
    rw [allUp_succ, List.nodup_append]
    refine ⟨allUp_nodup g k, ?_, fun a ha b hb e => ?_⟩
    · rw [List.Nodup, List.pairwise_map]
      exact List.Pairwise.imp (fun h e => h (Prod.mk.inj e).2) List.nodup_range
    · subst e
      obtain ⟨j, -, rfl⟩ := List.mem_map.1 hb
      unfold allUp at ha
      simp only [List.mem_flatMap, List.mem_range, List.mem_map] at ha
      obtain ⟨i, hi, j', -, e⟩ := ha
      have := (Prod.mk.inj e).1
      omega
theorem canAll (g : Gr) (o : List Int) : (g.nd.all (fun d => canT o d.fs) && canT o g.rt) = (allV g).all (turnB o) := by
  unfold allV lsts canT
  rw [List.flatten_append, List.all_append]
  congr 1
  · induction g.nd with
    | nil => rfl
    | cons d l ih => simp [ih]
  · simp
theorem turnG_lsts (g : Gr) (o : List Int) (i : Nat) : (lsts ⟨g.nd.map (ndT o), turnT o g.rt⟩).getD i [] = turnT o ((lsts g).getD i []) := by
  have e : lsts ⟨g.nd.map (ndT o), turnT o g.rt⟩ = (lsts g).map (turnT o) := by
    unfold lsts
    rw [List.map_append, List.map_map, List.map_map]
    rfl
  rw [e, List.getD_eq_getElem?_getD, List.getElem?_map, List.getD_eq_getElem?_getD]
  cases (lsts g)[i]? with
  | none => rfl
  | some l => rfl
theorem count_one16 : ∀ {l : List (Nat × Nat)} {p : Nat × Nat}, l.Nodup → p ∈ l → l.count p = 1
  | [], _, _, h => by cases h
  | x :: l, p, hn, hm => by
    obtain ⟨h1, h2⟩ := List.nodup_cons.1 hn
    rw [List.count_cons]
    by_cases e : x = p
    · subst e
      rw [List.count_eq_zero.2 h1]
      simp
    · have hm' : p ∈ l := by
        rcases List.mem_cons.1 hm with h | h
        · exact absurd h.symm e
        · exact h
      rw [count_one16 h2 hm']
      simp [e]
/-- All have been turned, each once. -/
theorem TurnI.done {g cur : Gr} {o : List Int} {ys : List (Plc g)} (h : TurnI g o ys cur) (hy : ys.map (·.1) = allP g) : cur = ⟨g.nd.map (ndT o), turnT o g.rt⟩ ∧ (allV g).all (turnB o) = true := by
  have h1 : ∀ p : Nat × Nat, p.2 < ((lsts g).getD p.1 []).length → cntP ys p = 1 := by
    intro p hp
    unfold cntP
    rw [hy]
    exact count_one16 (allUp_nodup g _) (mem_allP.2 ⟨by have := plc_le hp; omega, hp⟩)
  constructor
  · have hsh : ShG g ⟨g.nd.map (ndT o), turnT o g.rt⟩ := ⟨by simp, fun i d e hd he => by
      simp only [List.getElem?_map, hd, Option.map_some, Option.some.injEq] at he
      rw [← he]
      exact ⟨rfl, rfl, by simp [ndT, turnT]⟩, by simp [turnT]⟩
    have hsc : ShG ⟨g.nd.map (ndT o), turnT o g.rt⟩ cur := ⟨h.sh.len.trans hsh.len.symm, fun i d e hd he => by
      obtain ⟨x, hx⟩ : ∃ x, g.nd[i]? = some x := ⟨_, List.getElem?_eq_getElem (by have := (List.getElem?_eq_some_iff.1 hd).1; rw [hsh.len] at this; exact this)⟩
      obtain ⟨p1, p2, p3⟩ := hsh.nd i x d hx hd
      obtain ⟨q1, q2, q3⟩ := h.sh.nd i x e hx he
      exact ⟨q1.trans p1.symm, q2.trans p2.symm, q3.trans p3.symm⟩, h.sh.rt.trans hsh.rt.symm⟩
    refine hsc.eq fun p hp => ?_
    rw [hsh.lens] at hp
    rw [h.val p hp, h1 p hp]
    show turnD o (plcV g p) = _
    unfold plcV
    rw [turnG_lsts]
    unfold turnT
    generalize (lsts g).getD p.1 [] = l at hp
    rw [List.getD_eq_getElem?_getD, List.getElem?_eq_getElem hp, List.getD_eq_getElem?_getD, List.getElem?_map, List.getElem?_eq_getElem hp]
    rfl
  · rw [List.all_eq_true]
    intro v hv
    obtain ⟨p, hp, rfl⟩ := plc_of hv
    have := h.ok p (mem_allP.1 hp).2 0 (by rw [h1 p (mem_allP.1 hp).2]; omega)
    exact this
/-- One can't be. -/
theorem TurnI.stop {g cur : Gr} {o : List Int} {pre : List (Plc g)} {x : Plc g} (h : TurnI g o pre cur) (hp : (pre ++ [x]).map (·.1) <+: allP g) (hb : turnB o (plcV cur x.1) = false) : (allV g).all (turnB o) = false := by
  have hn : ((pre ++ [x]).map (·.1)).Nodup := hp.sublist.nodup (allUp_nodup g _)
  have hc : cntP pre x.1 = 0 := by
    unfold cntP
    rw [List.map_append, List.nodup_append] at hn
    refine List.count_eq_zero.2 fun hm => ?_
    exact hn.2.2 x.1 hm x.1 (by simp) rfl
  have hv := h.val x.1 x.2
  rw [hc] at hv
  rw [hv] at hb
  obtain ⟨l, hl, hv2⟩ := plc_mem g x
  rw [List.all_eq_false]
  exact ⟨plcV g x.1, List.mem_flatten.2 ⟨l, List.mem_of_getElem? hl, List.mem_of_getElem? hv2⟩, by rw [show itT o 0 (plcV g x.1) = plcV g x.1 from rfl] at hb; rw [hb]; simp⟩
theorem rn_ways (g : Gr) (o : List Int) : (grOk g = false ∧ rnE g o = 4 ∧ rnG g o = ⟨[], []⟩) ∨ (grOk g = true ∧ ordOk g.nd.length o = false ∧ rnE g o = 1 ∧ rnG g o = ⟨[], []⟩) ∨
    (grOk g = true ∧ ordOk g.nd.length o = true ∧ ((allV ⟨pick g o, g.rt⟩).all (turnB o) = false → rnE g o = 2 ∧ rnG g o = ⟨[], []⟩) ∧ ((allV ⟨pick g o, g.rt⟩).all (turnB o) = true → rnE g o = 0 ∧ rnG g o = ⟨(pick g o).map (ndT o), turnT o g.rt⟩)) := by
  have hG : ∀ n, rnE g o = n → n ≠ 0 → rnG g o = ⟨[], []⟩ := fun n h h0 => by unfold rnG; rw [if_neg (by rw [h]; exact h0)]
  cases h1 : grOk g with
  | false =>
    have : rnE g o = 4 := by unfold rnE; rw [if_neg (by rw [h1]; simp)]
    exact .inl ⟨rfl, this, hG _ this (by decide)⟩
  | true =>
    cases h2 : ordOk g.nd.length o with
    | false =>
      have : rnE g o = 1 := by unfold rnE; rw [if_pos h1, if_neg (by rw [h2]; simp)]
      exact .inr (.inl ⟨rfl, rfl, this, hG _ this (by decide)⟩)
    | true =>
      refine .inr (.inr ⟨rfl, rfl, fun h => ?_, fun h => ?_⟩)
      · rw [← canAll] at h
        have : rnE g o = 2 := by unfold rnE; rw [if_pos h1, if_pos h2, if_neg (by simp only at h; rw [h]; simp)]
        exact ⟨this, hG _ this (by decide)⟩
      · rw [← canAll] at h
        have : rnE g o = 0 := by unfold rnE; rw [if_pos h1, if_pos h2, if_pos h]
        exact ⟨this, by unfold rnG; rw [if_pos this]⟩
theorem rd_none (w : World) : RdG w w.heap.size ⟨[], []⟩ (.slice none 0 0) (.slice none 0 0) [] := ⟨rfl, Sl.nil_, (fun i d h hd _ => by simp at hd), Sl.nil_⟩
theorem fit_pick {g : Gr} (h : GrFit g) {o : List Int} (ho : ∀ x ∈ o, 0 ≤ x ∧ x < (g.nd.length : Int)) : GrFit ⟨pick g o, g.rt⟩ :=
  ⟨fun d hd => h.kd d (mem_pick ho hd), fun d hd => h.fs d (mem_pick ho hd), fun d hd => h.rs d (mem_pick ho hd), h.rt⟩
end Go.Proofs.Ytdlaigghejahdaa
