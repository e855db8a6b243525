/- A graph in plain words: whether it may be, where nodes lead, how much nodes are; its nodes in another order, and back. No program in it. -/
import Derived.Test.YtdlaigghejahdaaSpanBase
import Derived.Test.YtdlaigghejahdaaVal
import Derived.Test.YtdlaigghejahdaaBase
namespace Go.Proofs.Ytdlaigghejahdaa
open Go.RowKit

/-- A node, a graph; a value is a pair of numbers, its Kind and its X. -/
structure Nd where
  kd : Int
  fs : List Sp
  rs : List Nat
structure Gr where
  nd : List Nd
  rt : List Sp
/-- May a value of a graph of n nodes be? -/
def vOk (n : Nat) (v : Sp) : Bool := vmay v.1 v.2 && !(decide (v.1 = 2) && decide ((n : Int) ≤ v.2))
def ndOk (n : Nat) (d : Nd) : Bool := decide (0 ≤ d.kd ∧ d.kd ≤ 31) && (decide (d.fs.length ≤ 4096) && (decide (d.rs.length ≤ 4096) && d.fs.all (vOk n)))
def grOk (g : Gr) : Bool := g.nd.all (ndOk g.nd.length) && g.rt.all (vOk g.nd.length)
/-- How many words a node has; as a number of 64 bits. -/
def ndRaw (d : Nd) : Int := 1 + (d.fs.length : Int) + (d.rs.length : Int)
def ndSz (d : Nd) : Int := wrap64 (ndRaw d)
theorem wrap_add16 (a b : Int) : wrap64 (wrap64 a + b) = wrap64 (a + b) := by unfold wrap64; omega
theorem wrap_add16' (a b : Int) : wrap64 (a + wrap64 b) = wrap64 (a + b) := by unfold wrap64; omega
/-- The places to which fields lead. -/
def refsOf (l : List Sp) : List Int := (l.filter fun v => decide (v.1 = 2)).map (·.2)
def leadsG (g : Gr) (i : Int) : List Int := if 0 ≤ i ∧ i < (g.nd.length : Int) then (match g.nd[i.toNat]? with | some d => refsOf d.fs | none => []) else []
/-- The node at a place, where there is one. -/
def nodeAt (g : Gr) (i : Int) : Option Nd := if 0 ≤ i then g.nd[i.toNat]? else none
def wAt (g : Gr) (i : Int) : Int := match nodeAt g i with | some d => ndRaw d | none => 0
def fAt (g : Gr) (i : Int) : Int := match nodeAt g i with | some d => (d.fs.length : Int) | none => 0
def sumW (g : Gr) (l : List Int) : Int := wrap64 (l.map (wAt g)).sum
def sumF (g : Gr) (l : List Int) : Int := wrap64 (l.map (fAt g)).sum
theorem sumW_next {g : Gr} {l : List Int} {k : Nat} {x : Int} (h : l[k]? = some x) : sumW g (l.take (k + 1)) = wrap64 (sumW g (l.take k) + wAt g x) := by
  unfold sumW
  rw [List.take_add_one, h, wrap_add16]
  simp [List.sum_append]
theorem sumF_next {g : Gr} {l : List Int} {k : Nat} {x : Int} (h : l[k]? = some x) : sumF g (l.take (k + 1)) = wrap64 (sumF g (l.take k) + fAt g x) := by
  unfold sumF
  rw [List.take_add_one, h, wrap_add16]
  simp [List.sum_append]
theorem wrap_wrap16 (a : Int) : wrap64 (wrap64 a) = wrap64 a := by have := wrap_add16 a 0; simpa using this

/-- The place of a number in a list; -1. -/
def plc (l : List Int) (x : Int) : Int := if x ∈ l then (l.idxOf x : Nat) else -1
theorem plc_in {l : List Int} {x : Int} (h : x ∈ l) : plc l x = (l.idxOf x : Nat) := if_pos h
theorem plc_out {l : List Int} {x : Int} (h : x ∉ l) : plc l x = -1 := if_neg h
theorem plc_neg {l : List Int} {x : Int} : plc l x < 0 ↔ x ∉ l := by
  unfold plc
  split
  · constructor
    · intro h; omega
    · intro h; exact absurd (by assumption) h
  · constructor
    · intro _; assumption
    · intro _; omega
/-- The first place where x stands. -/
theorem plc_first {l : List Int} {x : Int} {k : Nat} (hx : l[k]? = some x) (hn : ∀ (j : Nat) y, j < k → l[j]? = some y → y ≠ x) : plc l x = k := by
  have hm : x ∈ l := List.mem_of_getElem? hx
  rw [plc_in hm]
  obtain ⟨hk, e⟩ := List.getElem?_eq_some_iff.1 hx
  have h1 : l.idxOf x < l.length := List.idxOf_lt_length_iff.2 hm
  have h2 : l[l.idxOf x]? = some x := by rw [List.getElem?_eq_getElem h1]; simp
  rcases Nat.lt_trichotomy (l.idxOf x) k with h | h | h
  · exact absurd rfl (hn _ _ h h2)
  · rw [h]
  · exfalso
    have h3 := List.not_of_lt_findIdx (p := (· == x)) (xs := l) (i := k) h
    rw [e] at h3
    simp at h3
theorem plc_none {l : List Int} {x : Int} (hn : ∀ (j : Nat) y, l[j]? = some y → y ≠ x) : plc l x = -1 := by
  refine plc_out fun hm => ?_
  obtain ⟨j, hj⟩ := List.getElem?_of_mem hm
  exact hn j x hj rfl
theorem plc_at {l : List Int} {x : Int} (h : x ∈ l) : ∃ k : Nat, plc l x = k ∧ l[k]? = some x := by
  refine ⟨l.idxOf x, plc_in h, ?_⟩
  have h1 : l.idxOf x < l.length := List.idxOf_lt_length_iff.2 h
  rw [List.getElem?_eq_getElem h1]; simp

/-- A value whose reference leads to where the node is now; none: it leads nowhere. -/
def turnV (o : List Int) (v : Sp) : Option Sp := if v.1 = 2 then (if v.2 ∈ o then some (2, plc o v.2) else none) else some v
def turnB (o : List Int) (v : Sp) : Bool := !decide (v.1 = 2) || decide (v.2 ∈ o)
def turnD (o : List Int) (v : Sp) : Sp := if v.1 = 2 then (2, plc o v.2) else v
/-- All of a list can be turned; the list, turned. -/
def canT (o : List Int) (l : List Sp) : Bool := l.all (turnB o)
def turnT (o : List Int) (l : List Sp) : List Sp := l.map (turnD o)
/-- An order: places, each once. -/
def ordOk (n : Nat) (o : List Int) : Bool := o.all (fun x => decide (0 ≤ x ∧ x < (n : Int))) && decide o.Nodup
def ndT (o : List Int) (d : Nd) : Nd := ⟨d.kd, turnT o d.fs, d.rs⟩
def noNd : Nd := ⟨0, [], []⟩
def pick (g : Gr) (o : List Int) : List Nd := o.map fun i => g.nd.getD i.toNat noNd
def rnE (g : Gr) (o : List Int) : Int :=
  if grOk g = true then (if ordOk g.nd.length o = true then (if (pick g o).all (fun d => canT o d.fs) && canT o g.rt then 0 else 2) else 1) else 4
def rnG (g : Gr) (o : List Int) : Gr := if rnE g o = 0 then ⟨(pick g o).map (ndT o), turnT o g.rt⟩ else ⟨[], []⟩
structure RnOk (g : Gr) (o : List Int) : Prop where
  may : grOk g = true
  ord : ordOk g.nd.length o = true
  nds : (pick g o).all (fun d => canT o d.fs) = true
  rts : canT o g.rt = true
theorem rnE_iff {g : Gr} {o : List Int} : rnE g o = 0 ↔ RnOk g o := by
  unfold rnE
  constructor
  · intro h
    repeat' split at h
    all_goals first | cases h | skip
    rename_i h1 h2 h3
    rw [Bool.and_eq_true] at h3
    exact ⟨h1, h2, h3.1, h3.2⟩
  · rintro ⟨h1, h2, h3, h4⟩
    rw [if_pos h1, if_pos h2, if_pos (by rw [h3, h4]; rfl)]

/-! ### To and fro -/
/-- The way back of an order. -/
def backO (n : Nat) (o : List Int) : List Int := (List.range n).map fun k => plc o (k : Nat)
theorem ordOk_iff {n : Nat} {o : List Int} : ordOk n o = true ↔ (∀ x ∈ o, 0 ≤ x ∧ x < (n : Int)) ∧ o.Nodup := by
  unfold ordOk
  simp [List.all_eq_true]
theorem nodup_len : ∀ {l m : List Nat}, l.Nodup → (∀ x ∈ l, x ∈ m) → l.length ≤ m.length
  | [], _, _, _ => Nat.zero_le _
  | x :: l, m, hn, hs => by
    obtain ⟨h1, h2⟩ := List.nodup_cons.1 hn
    have hx : x ∈ m := hs x List.mem_cons_self
    have ih := nodup_len (m := m.erase x) h2 fun y hy => (List.mem_erase_of_ne (fun e => h1 (by rw [← e]; exact hy))).2 (hs y (List.mem_cons_of_mem _ hy))
    rw [List.length_erase_of_mem hx] at ih
    have : 0 < m.length := List.length_pos_of_mem hx
    simp only [List.length_cons]
    omega
/-- An order of all places has each of them. -/
theorem ord_all {n : Nat} {o : List Int} (h : ordOk n o = true) (hl : o.length = n) (k : Nat) (hk : k < n) : (k : Int) ∈ o := by
  obtain ⟨h1, h2⟩ := ordOk_iff.1 h
  have hnd : (o.map Int.toNat).Nodup := by
    rw [List.Nodup, List.pairwise_map]
    refine List.Pairwise.imp_of_mem ?_ h2
    intro a b ha hb hne e
    have := h1 a ha
    have := h1 b hb
    exact hne (by omega)
  have hsub : ∀ x ∈ o.map Int.toNat, x ∈ List.range n := by
    intro x hx
    obtain ⟨y, hy, rfl⟩ := List.mem_map.1 hx
    have := h1 y hy
    exact List.mem_range.2 (by omega)
  have hm : k ∈ o.map Int.toNat := by
    refine Classical.byContradiction fun hk' => ?_
    have h3 := nodup_len (m := (List.range n).erase k) hnd fun x hx => (List.mem_erase_of_ne (fun e => hk' (by rw [← e]; exact hx))).2 (hsub x hx)
    rw [List.length_erase_of_mem (List.mem_range.2 hk), List.length_range, List.length_map, hl] at h3
    omega
  obtain ⟨y, hy, e⟩ := List.mem_map.1 hm
  have := h1 y hy
  have : y = (k : Int) := by omega
  rw [← this]; exact hy
theorem nodup_at {l : List Int} (h : l.Nodup) {i j : Nat} {x : Int} (hi : l[i]? = some x) (hj : l[j]? = some x) : i = j := by
  obtain ⟨h1, e1⟩ := List.getElem?_eq_some_iff.1 hi
  obtain ⟨h2, e2⟩ := List.getElem?_eq_some_iff.1 hj
  exact (List.getElem_inj (h₀ := h1) (h₁ := h2) h).1 (e1.trans e2.symm)
theorem plc_nodup {l : List Int} (h : l.Nodup) {k : Nat} {x : Int} (hk : l[k]? = some x) : plc l x = k := by
  obtain ⟨j, h1, h2⟩ := plc_at (List.mem_of_getElem? hk)
  rw [h1, nodup_at h h2 hk]
theorem vOk_ref {n : Nat} {v : Sp} (h : vOk n v = true) (h2 : v.1 = 2) : 0 ≤ v.2 ∧ v.2 < (n : Int) := by
  unfold vOk vmay at h
  rw [h2] at h
  simp [vin] at h
  omega
theorem vOk_turn {n : Nat} {o : List Int} {v : Sp} (h : vOk n v = true) (hn : n ≤ 1000000) (hb : turnB o v = true) (ho : ∀ k : Nat, k < o.length → k < n) : vOk n (turnD o v) = true := by
  unfold turnD
  split
  · rename_i h2
    unfold turnB at hb
    rw [h2] at hb
    simp at hb
    obtain ⟨k, e, hk⟩ := plc_at hb
    rw [e]
    have := ho k (List.getElem?_eq_some_iff.1 hk).1
    unfold vOk vmay
    simp [vin]
    omega
  · exact h
/-- In an order of all places each reference leads somewhere. -/
theorem turnB_all {n : Nat} {o : List Int} (h : ordOk n o = true) (hl : o.length = n) {v : Sp} (hv : vOk n v = true) : turnB o v = true := by
  unfold turnB
  by_cases h2 : v.1 = 2
  · obtain ⟨a, b⟩ := vOk_ref hv h2
    have := ord_all h hl v.2.toNat (by omega)
    rw [show ((v.2.toNat : Nat) : Int) = v.2 by omega] at this
    simp [this]
  · simp [h2]
theorem back_at {n : Nat} {o : List Int} {k : Nat} (hk : k < n) : (backO n o)[k]? = some (plc o (k : Nat)) := by
  unfold backO
  simp [hk]
theorem back_len (n : Nat) (o : List Int) : (backO n o).length = n := by simp [backO]
theorem back_ok {n : Nat} {o : List Int} (h : ordOk n o = true) (hl : o.length = n) : ordOk n (backO n o) = true := by
  refine ordOk_iff.2 ⟨fun x hx => ?_, ?_⟩
  · obtain ⟨k, hk, rfl⟩ := List.mem_map.1 hx
    obtain ⟨j, e, hj⟩ := plc_at (ord_all h hl k (List.mem_range.1 hk))
    rw [e]
    have := (List.getElem?_eq_some_iff.1 hj).1
    omega
  · unfold backO
    rw [List.Nodup, List.pairwise_map]
    refine List.Pairwise.imp_of_mem ?_ (List.nodup_range (n := n))
    intro a b ha hb hne e
    obtain ⟨i, e1, h1⟩ := plc_at (ord_all h hl a (List.mem_range.1 ha))
    obtain ⟨j, e2, h2⟩ := plc_at (ord_all h hl b (List.mem_range.1 hb))
    rw [e1, e2] at e
    have : i = j := by omega
    subst this
    rw [h1] at h2
    have := Option.some.inj h2
    omega
theorem back_plc {n : Nat} {o : List Int} (h : ordOk n o = true) (hl : o.length = n) {k : Nat} (hk : k < n) : plc (backO n o) (plc o (k : Nat)) = k :=
  plc_nodup (ordOk_iff.1 (back_ok h hl)).2 (back_at hk)
theorem turn_back {n : Nat} {o : List Int} (h : ordOk n o = true) (hl : o.length = n) {v : Sp} (hv : vOk n v = true) : turnD (backO n o) (turnD o v) = v := by
  by_cases h2 : v.1 = 2
  · obtain ⟨a, b⟩ := vOk_ref hv h2
    have h1 : turnD o v = (2, plc o v.2) := by unfold turnD; rw [if_pos h2]
    rw [h1]
    unfold turnD
    rw [if_pos rfl]
    have := back_plc h hl (k := v.2.toNat) (by omega)
    rw [show ((v.2.toNat : Nat) : Int) = v.2 by omega] at this
    simp only
    rw [this]
    exact Prod.ext h2.symm rfl
  · have h1 : turnD o v = v := by unfold turnD; rw [if_neg h2]
    rw [h1]
    unfold turnD
    rw [if_neg h2]
theorem turnT_back {n : Nat} {o : List Int} (h : ordOk n o = true) (hl : o.length = n) {l : List Sp} (hv : ∀ v ∈ l, vOk n v = true) : turnT (backO n o) (turnT o l) = l := by
  unfold turnT
  rw [List.map_map]
  have : l.map (turnD (backO n o) ∘ turnD o) = l.map id := List.map_congr_left fun v hm => turn_back h hl (hv v hm)
  rw [this, List.map_id]
theorem pick_at {g : Gr} {o : List Int} {k : Nat} {i : Int} {d : Nd} (hk : o[k]? = some i) (hd : g.nd[i.toNat]? = some d) : (pick g o)[k]? = some d := by
  unfold pick
  rw [List.getElem?_map, hk]
  simp [hd]
theorem mem_pick {g : Gr} {o : List Int} (ho : ∀ x ∈ o, 0 ≤ x ∧ x < (g.nd.length : Int)) {d : Nd} (hd : d ∈ pick g o) : d ∈ g.nd := by
  obtain ⟨i, hi, rfl⟩ := List.mem_map.1 hd
  have := ho i hi
  have hlt : i.toNat < g.nd.length := by omega
  rw [List.getD_eq_getElem?_getD, List.getElem?_eq_getElem hlt]
  exact List.getElem_mem hlt
theorem ndOk_iff {n : Nat} {d : Nd} : ndOk n d = true ↔ (0 ≤ d.kd ∧ d.kd ≤ 31) ∧ d.fs.length ≤ 4096 ∧ d.rs.length ≤ 4096 ∧ ∀ v ∈ d.fs, vOk n v = true := by
  unfold ndOk
  simp [List.all_eq_true]
theorem grOk_iff {g : Gr} : grOk g = true ↔ (∀ d ∈ g.nd, ndOk g.nd.length d = true) ∧ ∀ v ∈ g.rt, vOk g.nd.length v = true := by
  unfold grOk
  simp [List.all_eq_true]
/-- What is renumbered may be. -/
theorem rn_may {g : Gr} {o : List Int} (h : RnOk g o) (hl : o.length = g.nd.length) (hn : g.nd.length ≤ 1000000) : grOk ⟨(pick g o).map (ndT o), turnT o g.rt⟩ = true := by
  obtain ⟨h1, h2⟩ := grOk_iff.1 h.may
  have ho := ordOk_iff.1 h.ord
  have hlen : ((pick g o).map (ndT o)).length = g.nd.length := by unfold pick; simp [hl]
  have hk : ∀ k : Nat, k < o.length → k < g.nd.length := fun k hk => by omega
  refine grOk_iff.2 ⟨fun d hd => ?_, fun v hv => ?_⟩
  · simp only at hd ⊢
    rw [hlen]
    obtain ⟨d0, hd0, rfl⟩ := List.mem_map.1 hd
    obtain ⟨a1, a2, a3, a4⟩ := ndOk_iff.1 (h1 d0 (mem_pick ho.1 hd0))
    refine ndOk_iff.2 ⟨a1, by unfold ndT turnT; simpa using a2, a3, fun v hv => ?_⟩
    unfold ndT turnT at hv
    obtain ⟨v0, hv0, rfl⟩ := List.mem_map.1 hv
    exact vOk_turn (a4 v0 hv0) hn (turnB_all h.ord hl (a4 v0 hv0)) hk
  · simp only at hv ⊢
    rw [hlen]
    unfold turnT at hv
    obtain ⟨v0, hv0, rfl⟩ := List.mem_map.1 hv
    exact vOk_turn (h2 v0 hv0) hn (turnB_all h.ord hl (h2 v0 hv0)) hk
/-- To and fro. -/
theorem rn_back {g : Gr} {o : List Int} (h : RnOk g o) (hl : o.length = g.nd.length) (hn : g.nd.length ≤ 1000000) :
    RnOk ⟨(pick g o).map (ndT o), turnT o g.rt⟩ (backO g.nd.length o) ∧ (pick ⟨(pick g o).map (ndT o), turnT o g.rt⟩ (backO g.nd.length o)).map (ndT (backO g.nd.length o)) = g.nd ∧ turnT (backO g.nd.length o) (turnT o g.rt) = g.rt := by
  obtain ⟨h1, h2⟩ := grOk_iff.1 h.may
  have hm := rn_may h hl hn
  obtain ⟨m1, m2⟩ := grOk_iff.1 hm
  have hlen : ((pick g o).map (ndT o)).length = g.nd.length := by unfold pick; simp [hl]
  have hbo := back_ok h.ord hl
  have hbl := back_len g.nd.length o
  have hb := ordOk_iff.1 hbo
  simp only at m1 m2
  rw [hlen] at m1 m2
  have hpick : (pick ⟨(pick g o).map (ndT o), turnT o g.rt⟩ (backO g.nd.length o)) = g.nd.map (ndT o) := by
    refine List.ext_getElem? fun k => ?_
    rcases Nat.lt_or_ge k g.nd.length with hk | hk
    · obtain ⟨j, e, hj⟩ := plc_at (ord_all h.ord hl k hk)
      have h3 : (pick g o)[j]? = some g.nd[k] := pick_at hj (by simp [hk])
      have h4 : ((pick g o).map (ndT o))[j]? = some (ndT o g.nd[k]) := by rw [List.getElem?_map, h3]; rfl
      have h5 := pick_at (g := ⟨(pick g o).map (ndT o), turnT o g.rt⟩) (back_at (o := o) hk) (d := ndT o g.nd[k]) (by rw [e]; exact h4)
      rw [h5, List.getElem?_map, List.getElem?_eq_getElem hk]
      rfl
    · rw [List.getElem?_eq_none (by unfold pick; simp [hbl, hk]), List.getElem?_eq_none (by simpa using hk)]
  refine ⟨⟨hm, by rw [hlen]; exact hbo, ?_, ?_⟩, ?_, turnT_back h.ord hl h2⟩
  · rw [List.all_eq_true]
    intro d hd
    have hd' := mem_pick (g := ⟨(pick g o).map (ndT o), turnT o g.rt⟩) (o := backO g.nd.length o) (by rw [hlen]; exact hb.1) hd
    obtain ⟨-, -, -, a4⟩ := ndOk_iff.1 (m1 d hd')
    unfold canT
    rw [List.all_eq_true]
    exact fun v hv => turnB_all hbo hbl (a4 v hv)
  · unfold canT
    rw [List.all_eq_true]
    exact fun v hv => turnB_all hbo hbl (m2 v hv)
  · rw [hpick, List.map_map]
    have : g.nd.map (ndT (backO g.nd.length o) ∘ ndT o) = g.nd.map id := List.map_congr_left fun d hd => by
      obtain ⟨-, -, -, a4⟩ := ndOk_iff.1 (h1 d hd)
      show (⟨d.kd, turnT _ (turnT o d.fs), d.rs⟩ : Nd) = d
      rw [turnT_back h.ord hl a4]
    rw [this, List.map_id]
end Go.Proofs.Ytdlaigghejahdaa
