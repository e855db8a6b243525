/- A graph in plain words: whether it may be, where nodes lead, how much nodes are; its nodes in another order, and back. No program in it. -/
import Derived.Test.YtmnehonmbjnnaaaSpanBase
import Derived.Test.YtmnehonmbjnnaaaVal
import Derived.Test.YtmnehonmbjnnaaaBase
import Derived.Test.YtmnehonmbjnnaaaSmalls
import Derived.Test.YtmnehonmbjnnaaaOpens
import Derived.SizedLaws
namespace Go.Proofs.Ytmnehonmbjnnaaa
open Go.RowKit

/-- A node, a graph; a value is a pair of numbers, its Kind and its X. -/
structure Nd where
  kd : Int
  fs : List Sp
  rs : List Nat
structure Gr where
  nd : List Nd
  rt : List Sp
/-- May a value of a graph of n nodes be? -/
def vOk (n : Nat) (v : Sp) : Bool := vmay v.1 v.2 && !(decide (v.1 = 2) && decide ((n : Int) ≤ v.2))
def ndOk (n : Nat) (d : Nd) : Bool := decide (0 ≤ d.kd ∧ d.kd ≤ 31) && (decide (d.fs.length ≤ 4096) && (decide (d.rs.length ≤ 4096) && d.fs.all (vOk n)))
def grOk (g : Gr) : Bool := g.nd.all (ndOk g.nd.length) && g.rt.all (vOk g.nd.length)
/-- How many words a node has; as a number of 64 bits. -/
def ndRaw (d : Nd) : Int := 1 + (d.fs.length : Int) + (d.rs.length : Int)
def ndSz (d : Nd) : Int := wrap64 (ndRaw d)
theorem wrap_add16 (a b : Int) : wrap64 (wrap64 a + b) = wrap64 (a + b) := by unfold wrap64; omega
theorem wrap_add16' (a b : Int) : wrap64 (a + wrap64 b) = wrap64 (a + b) := by unfold wrap64; omega
/-- The places to which fields lead. -/
def refsOf (l : List Sp) : List Int := (l.filter fun v => decide (v.1 = 2)).map (·.2)
def leadsG (g : Gr) (i : Int) : List Int := if 0 ≤ i ∧ i < (g.nd.length : Int) then (match g.nd[i.toNat]? with | some d => refsOf d.fs | none => []) else []
/-- The node at a place, where there is one. -/
def nodeAt (g : Gr) (i : Int) : Option Nd := if 0 ≤ i then g.nd[i.toNat]? else none
def wAt (g : Gr) (i : Int) : Int := match nodeAt g i with | some d => ndRaw d | none => 0
def fAt (g : Gr) (i : Int) : Int := match nodeAt g i with | some d => (d.fs.length : Int) | none => 0
def sumW (g : Gr) (l : List Int) : Int := wrap64 (l.map (wAt g)).sum
def sumF (g : Gr) (l : List Int) : Int := wrap64 (l.map (fAt g)).sum
theorem sumW_next {g : Gr} {l : List Int} {k : Nat} {x : Int} (h : l[k]? = some x) : sumW g (l.take (k + 1)) = wrap64 (sumW g (l.take k) + wAt g x) := by
  unfold sumW
  rw [List.take_add_one, h, wrap_add16]
  simp [List.sum_append]
theorem sumF_next {g : Gr} {l : List Int} {k : Nat} {x : Int} (h : l[k]? = some x) : sumF g (l.take (k + 1)) = wrap64 (sumF g (l.take k) + fAt g x) := by
  unfold sumF
  rw [List.take_add_one, h, wrap_add16]
  simp [List.sum_append]
theorem wrap_wrap16 (a : Int) : wrap64 (wrap64 a) = wrap64 a := by have := wrap_add16 a 0; simpa using this

/-- The place of a number in a list; -1. -/
def plc (l : List Int) (x : Int) : Int := if x ∈ l then (l.idxOf x : Nat) else -1
theorem plc_in {l : List Int} {x : Int} (h : x ∈ l) : plc l x = (l.idxOf x : Nat) := if_pos h
theorem plc_out {l : List Int} {x : Int} (h : x ∉ l) : plc l x = -1 := if_neg h
theorem plc_neg {l : List Int} {x : Int} : plc l x < 0 ↔ x ∉ l := by
  unfold plc
  split
  · constructor
    · intro h; omega
    · intro h; exact absurd (by assumption) h
  · constructor
    · intro _; assumption
    · intro _; omega
/-- The first place where x stands. -/
theorem plc_first {l : List Int} {x : Int} {k : Nat} (hx : l[k]? = some x) (hn : ∀ (j : Nat) y, j < k → l[j]? = some y → y ≠ x) : plc l x = k := by
  have hm : x ∈ l := List.mem_of_getElem? hx
  rw [plc_in hm]
  obtain ⟨hk, e⟩ := List.getElem?_eq_some_iff.1 hx
  have h1 : l.idxOf x < l.length := List.idxOf_lt_length_iff.2 hm
  have h2 : l[l.idxOf x]? = some x := by rw [List.getElem?_eq_getElem h1]; simp
  rcases Nat.lt_trichotomy (l.idxOf x) k with h | h | h
  · exact absurd rfl (hn _ _ h h2)
  · rw [h]
  · exfalso
    have h3 := List.not_of_lt_findIdx (p := (· == x)) (xs := l) (i := k) h
    rw [e] at h3
    simp at h3
theorem plc_none {l : List Int} {x : Int} (hn : ∀ (j : Nat) y, l[j]? = some y → y ≠ x) : plc l x = -1 := by
  refine plc_out fun hm => ?_
  obtain ⟨j, hj⟩ := List.getElem?_of_mem hm
  exact hn j x hj rfl
theorem plc_at {l : List Int} {x : Int} (h : x ∈ l) : ∃ k : Nat, plc l x = k ∧ l[k]? = some x := by
  refine ⟨l.idxOf x, plc_in h, ?_⟩
  have h1 : l.idxOf x < l.length := List.idxOf_lt_length_iff.2 h
  rw [List.getElem?_eq_getElem h1]; simp

/-- A value whose reference leads to where the node is now; none: it leads nowhere. -/
def turnV (o : List Int) (v : Sp) : Option Sp := if v.1 = 2 then (if v.2 ∈ o then some (2, plc o v.2) else none) else some v
def turnB (o : List Int) (v : Sp) : Bool := !decide (v.1 = 2) || decide (v.2 ∈ o)
def turnD (o : List Int) (v : Sp) : Sp := if v.1 = 2 then (2, plc o v.2) else v
/-- All of a list can be turned; the list, turned. -/
def canT (o : List Int) (l : List Sp) : Bool := l.all (turnB o)
def turnT (o : List Int) (l : List Sp) : List Sp := l.map (turnD o)
/-- An order: places, each once. -/
def ordOk (n : Nat) (o : List Int) : Bool := o.all (fun x => decide (0 ≤ x ∧ x < (n : Int))) && decide o.Nodup
def ndT (o : List Int) (d : Nd) : Nd := ⟨d.kd, turnT o d.fs, d.rs⟩
def noNd : Nd := ⟨0, [], []⟩
def pick (g : Gr) (o : List Int) : List Nd := o.map fun i => g.nd.getD i.toNat noNd
def rnE (g : Gr) (o : List Int) : Int :=
  if grOk g = true then (if ordOk g.nd.length o = true then (if (pick g o).all (fun d => canT o d.fs) && canT o g.rt then 0 else 2) else 1) else 4
def rnG (g : Gr) (o : List Int) : Gr := if rnE g o = 0 then ⟨(pick g o).map (ndT o), turnT o g.rt⟩ else ⟨[], []⟩
structure RnOk (g : Gr) (o : List Int) : Prop where
  may : grOk g = true
  ord : ordOk g.nd.length o = true
  nds : (pick g o).all (fun d => canT o d.fs) = true
  rts : canT o g.rt = true
theorem rnE_iff {g : Gr} {o : List Int} : rnE g o = 0 ↔ RnOk g o := by
  unfold rnE
  constructor
  · intro h
    repeat' split at h
    all_goals first | cases h | skip
    rename_i h1 h2 h3
    rw [Bool.and_eq_true] at h3
    exact ⟨h1, h2, h3.1, h3.2⟩
  · rintro ⟨h1, h2, h3, h4⟩
    rw [if_pos h1, if_pos h2, if_pos (by rw [h3, h4]; rfl)]

/-! ### To and fro -/
/-- The way back of an order. -/
def backO (n : Nat) (o : List Int) : List Int := (List.range n).map fun k => plc o (k : Nat)
theorem ordOk_iff {n : Nat} {o : List Int} : ordOk n o = true ↔ (∀ x ∈ o, 0 ≤ x ∧ x < (n : Int)) ∧ o.Nodup := by
  unfold ordOk
  simp [List.all_eq_true]
theorem nodup_len : ∀ {l m : List Nat}, l.Nodup → (∀ x ∈ l, x ∈ m) → l.length ≤ m.length
  | [], _, _, _ => Nat.zero_le _
  | x :: l, m, hn, hs => by
    obtain ⟨h1, h2⟩ := List.nodup_cons.1 hn
    have hx : x ∈ m := hs x List.mem_cons_self
    have ih := nodup_len (m := m.erase x) h2 fun y hy => (List.mem_erase_of_ne (fun e => h1 (by rw [← e]; exact hy))).2 (hs y (List.mem_cons_of_mem _ hy))
    rw [List.length_erase_of_mem hx] at ih
    have : 0 < m.length := List.length_pos_of_mem hx
    simp only [List.length_cons]
    omega
/-- An order of all places has each of them. -/
theorem ord_all {n : Nat} {o : List Int} (h : ordOk n o = true) (hl : o.length = n) (k : Nat) (hk : k < n) : (k : Int) ∈ o := by
  obtain ⟨h1, h2⟩ := ordOk_iff.1 h
  have hnd : (o.map Int.toNat).Nodup := by
    rw [List.Nodup, List.pairwise_map]
    refine List.Pairwise.imp_of_mem ?_ h2
    intro a b ha hb hne e
    have := h1 a ha
    have := h1 b hb
    exact hne (by omega)
  have hsub : ∀ x ∈ o.map Int.toNat, x ∈ List.range n := by
    intro x hx
    obtain ⟨y, hy, rfl⟩ := List.mem_map.1 hx
    have := h1 y hy
    exact List.mem_range.2 (by omega)
  have hm : k ∈ o.map Int.toNat := by
    refine Classical.byContradiction fun hk' => ?_
    have h3 := nodup_len (m := (List.range n).erase k) hnd fun x hx => (List.mem_erase_of_ne (fun e => hk' (by rw [← e]; exact hx))).2 (hsub x hx)
    rw [List.length_erase_of_mem (List.mem_range.2 hk), List.length_range, List.length_map, hl] at h3
    omega
  obtain ⟨y, hy, e⟩ := List.mem_map.1 hm
  have := h1 y hy
  have : y = (k : Int) := by omega
  rw [← this]; exact hy
theorem nodup_at {l : List Int} (h : l.Nodup) {i j : Nat} {x : Int} (hi : l[i]? = some x) (hj : l[j]? = some x) : i = j := by
  obtain ⟨h1, e1⟩ := List.getElem?_eq_some_iff.1 hi
  obtain ⟨h2, e2⟩ := List.getElem?_eq_some_iff.1 hj
  exact (List.getElem_inj (h₀ := h1) (h₁ := h2) h).1 (e1.trans e2.symm)
theorem plc_nodup {l : List Int} (h : l.Nodup) {k : Nat} {x : Int} (hk : l[k]? = some x) : plc l x = k := by
  obtain ⟨j, h1, h2⟩ := plc_at (List.mem_of_getElem? hk)
  rw [h1, nodup_at h h2 hk]
theorem vOk_ref {n : Nat} {v : Sp} (h : vOk n v = true) (h2 : v.1 = 2) : 0 ≤ v.2 ∧ v.2 < (n : Int) := by
  unfold vOk vmay at h
  rw [h2] at h
  simp [vin] at h
  omega
theorem vOk_turn {n : Nat} {o : List Int} {v : Sp} (h : vOk n v = true) (hn : n ≤ 1000000) (hb : turnB o v = true) (ho : ∀ k : Nat, k < o.length → k < n) : vOk n (turnD o v) = true := by
  unfold turnD
  split
  · rename_i h2
    unfold turnB at hb
    rw [h2] at hb
    simp at hb
    obtain ⟨k, e, hk⟩ := plc_at hb
    rw [e]
    have := ho k (List.getElem?_eq_some_iff.1 hk).1
    unfold vOk vmay
    simp [vin]
    omega
  · exact h
/-- In an order of all places each reference leads somewhere. -/
theorem turnB_all {n : Nat} {o : List Int} (h : ordOk n o = true) (hl : o.length = n) {v : Sp} (hv : vOk n v = true) : turnB o v = true := by
  unfold turnB
  by_cases h2 : v.1 = 2
  · obtain ⟨a, b⟩ := vOk_ref hv h2
    have := ord_all h hl v.2.toNat (by omega)
    rw [show ((v.2.toNat : Nat) : Int) = v.2 by omega] at this
    simp [this]
  · simp [h2]
theorem back_at {n : Nat} {o : List Int} {k : Nat} (hk : k < n) : (backO n o)[k]? = some (plc o (k : Nat)) := by
  unfold backO
  simp [hk]
theorem back_len (n : Nat) (o : List Int) : (backO n o).length = n := by simp [backO]
theorem back_ok {n : Nat} {o : List Int} (h : ordOk n o = true) (hl : o.length = n) : ordOk n (backO n o) = true := by
  refine ordOk_iff.2 ⟨fun x hx => ?_, ?_⟩
  · obtain ⟨k, hk, rfl⟩ := List.mem_map.1 hx
    obtain ⟨j, e, hj⟩ := plc_at (ord_all h hl k (List.mem_range.1 hk))
    rw [e]
    have := (List.getElem?_eq_some_iff.1 hj).1
    omega
  · unfold backO
    rw [List.Nodup, List.pairwise_map]
    refine List.Pairwise.imp_of_mem ?_ (List.nodup_range (n := n))
    intro a b ha hb hne e
    obtain ⟨i, e1, h1⟩ := plc_at (ord_all h hl a (List.mem_range.1 ha))
    obtain ⟨j, e2, h2⟩ := plc_at (ord_all h hl b (List.mem_range.1 hb))
    rw [e1, e2] at e
    have : i = j := by omega
    subst this
    rw [h1] at h2
    have := Option.some.inj h2
    omega
theorem back_plc {n : Nat} {o : List Int} (h : ordOk n o = true) (hl : o.length = n) {k : Nat} (hk : k < n) : plc (backO n o) (plc o (k : Nat)) = k :=
  plc_nodup (ordOk_iff.1 (back_ok h hl)).2 (back_at hk)
theorem turn_back {n : Nat} {o : List Int} (h : ordOk n o = true) (hl : o.length = n) {v : Sp} (hv : vOk n v = true) : turnD (backO n o) (turnD o v) = v := by
  by_cases h2 : v.1 = 2
  · obtain ⟨a, b⟩ := vOk_ref hv h2
    have h1 : turnD o v = (2, plc o v.2) := by unfold turnD; rw [if_pos h2]
    rw [h1]
    unfold turnD
    rw [if_pos rfl]
    have := back_plc h hl (k := v.2.toNat) (by omega)
    rw [show ((v.2.toNat : Nat) : Int) = v.2 by omega] at this
    simp only
    rw [this]
    exact Prod.ext h2.symm rfl
  · have h1 : turnD o v = v := by unfold turnD; rw [if_neg h2]
    rw [h1]
    unfold turnD
    rw [if_neg h2]
theorem turnT_back {n : Nat} {o : List Int} (h : ordOk n o = true) (hl : o.length = n) {l : List Sp} (hv : ∀ v ∈ l, vOk n v = true) : turnT (backO n o) (turnT o l) = l := by
  unfold turnT
  rw [List.map_map]
  have : l.map (turnD (backO n o) ∘ turnD o) = l.map id := List.map_congr_left fun v hm => turn_back h hl (hv v hm)
  rw [this, List.map_id]
theorem pick_at {g : Gr} {o : List Int} {k : Nat} {i : Int} {d : Nd} (hk : o[k]? = some i) (hd : g.nd[i.toNat]? = some d) : (pick g o)[k]? = some d := by
  unfold pick
  rw [List.getElem?_map, hk]
  simp [hd]
theorem mem_pick {g : Gr} {o : List Int} (ho : ∀ x ∈ o, 0 ≤ x ∧ x < (g.nd.length : Int)) {d : Nd} (hd : d ∈ pick g o) : d ∈ g.nd := by
  obtain ⟨i, hi, rfl⟩ := List.mem_map.1 hd
  have := ho i hi
  have hlt : i.toNat < g.nd.length := by omega
  rw [List.getD_eq_getElem?_getD, List.getElem?_eq_getElem hlt]
  exact List.getElem_mem hlt
theorem ndOk_iff {n : Nat} {d : Nd} : ndOk n d = true ↔ (0 ≤ d.kd ∧ d.kd ≤ 31) ∧ d.fs.length ≤ 4096 ∧ d.rs.length ≤ 4096 ∧ ∀ v ∈ d.fs, vOk n v = true := by
  unfold ndOk
  simp [List.all_eq_true]
theorem grOk_iff {g : Gr} : grOk g = true ↔ (∀ d ∈ g.nd, ndOk g.nd.length d = true) ∧ ∀ v ∈ g.rt, vOk g.nd.length v = true := by
  unfold grOk
  simp [List.all_eq_true]
/-- What is renumbered may be. -/
theorem rn_may {g : Gr} {o : List Int} (h : RnOk g o) (hl : o.length = g.nd.length) (hn : g.nd.length ≤ 1000000) : grOk ⟨(pick g o).map (ndT o), turnT o g.rt⟩ = true := by
  obtain ⟨h1, h2⟩ := grOk_iff.1 h.may
  have ho := ordOk_iff.1 h.ord
  have hlen : ((pick g o).map (ndT o)).length = g.nd.length := by unfold pick; simp [hl]
  have hk : ∀ k : Nat, k < o.length → k < g.nd.length := fun k hk => by omega
  refine grOk_iff.2 ⟨fun d hd => ?_, fun v hv => ?_⟩
  · simp only at hd ⊢
    rw [hlen]
    obtain ⟨d0, hd0, rfl⟩ := List.mem_map.1 hd
    obtain ⟨a1, a2, a3, a4⟩ := ndOk_iff.1 (h1 d0 (mem_pick ho.1 hd0))
    refine ndOk_iff.2 ⟨a1, by unfold ndT turnT; simpa using a2, a3, fun v hv => ?_⟩
    unfold ndT turnT at hv
    obtain ⟨v0, hv0, rfl⟩ := List.mem_map.1 hv
    exact vOk_turn (a4 v0 hv0) hn (turnB_all h.ord hl (a4 v0 hv0)) hk
  · simp only at hv ⊢
    rw [hlen]
    unfold turnT at hv
    obtain ⟨v0, hv0, rfl⟩ := List.mem_map.1 hv
    exact vOk_turn (h2 v0 hv0) hn (turnB_all h.ord hl (h2 v0 hv0)) hk
/-- To and fro. -/
theorem rn_back {g : Gr} {o : List Int} (h : RnOk g o) (hl : o.length = g.nd.length) (hn : g.nd.length ≤ 1000000) :
    RnOk ⟨(pick g o).map (ndT o), turnT o g.rt⟩ (backO g.nd.length o) ∧ (pick ⟨(pick g o).map (ndT o), turnT o g.rt⟩ (backO g.nd.length o)).map (ndT (backO g.nd.length o)) = g.nd ∧ turnT (backO g.nd.length o) (turnT o g.rt) = g.rt := by
  obtain ⟨h1, h2⟩ := grOk_iff.1 h.may
  have hm := rn_may h hl hn
  obtain ⟨m1, m2⟩ := grOk_iff.1 hm
  have hlen : ((pick g o).map (ndT o)).length = g.nd.length := by unfold pick; simp [hl]
  have hbo := back_ok h.ord hl
  have hbl := back_len g.nd.length o
  have hb := ordOk_iff.1 hbo
  simp only at m1 m2
  rw [hlen] at m1 m2
  have hpick : (pick ⟨(pick g o).map (ndT o), turnT o g.rt⟩ (backO g.nd.length o)) = g.nd.map (ndT o) := by
    refine List.ext_getElem? fun k => ?_
    rcases Nat.lt_or_ge k g.nd.length with hk | hk
    · obtain ⟨j, e, hj⟩ := plc_at (ord_all h.ord hl k hk)
      have h3 : (pick g o)[j]? = some g.nd[k] := pick_at hj (by simp [hk])
      have h4 : ((pick g o).map (ndT o))[j]? = some (ndT o g.nd[k]) := by rw [List.getElem?_map, h3]; rfl
      have h5 := pick_at (g := ⟨(pick g o).map (ndT o), turnT o g.rt⟩) (back_at (o := o) hk) (d := ndT o g.nd[k]) (by rw [e]; exact h4)
      rw [h5, List.getElem?_map, List.getElem?_eq_getElem hk]
      rfl
    · rw [List.getElem?_eq_none (by unfold pick; simp [hbl, hk]), List.getElem?_eq_none (by simpa using hk)]
  refine ⟨⟨hm, by rw [hlen]; exact hbo, ?_, ?_⟩, ?_, turnT_back h.ord hl h2⟩
  · rw [List.all_eq_true]
    intro d hd
    have hd' := mem_pick (g := ⟨(pick g o).map (ndT o), turnT o g.rt⟩) (o := backO g.nd.length o) (by rw [hlen]; exact hb.1) hd
    obtain ⟨-, -, -, a4⟩ := ndOk_iff.1 (m1 d hd')
    unfold canT
    rw [List.all_eq_true]
    exact fun v hv => turnB_all hbo hbl (a4 v hv)
  · unfold canT
    rw [List.all_eq_true]
    exact fun v hv => turnB_all hbo hbl (m2 v hv)
  · rw [hpick, List.map_map]
    have : g.nd.map (ndT (backO g.nd.length o) ∘ ndT o) = g.nd.map id := List.map_congr_left fun d hd => by
      obtain ⟨-, -, -, a4⟩ := ndOk_iff.1 (h1 d hd)
      show (⟨d.kd, turnT _ (turnT o d.fs), d.rs⟩ : Nd) = d
      rw [turnT_back h.ord hl a4]
    rw [this, List.map_id]
end Go.Proofs.Ytmnehonmbjnnaaa

/- A graph in memory: rows of nodes, each with two rows of its own; what is asked of package graph, and of the document's own. -/
namespace Go.Proofs.Ytmnehonmbjnnaaa
open Go.RowKit
set_option maxRecDepth 100000

/-- A node's two rows read. -/
structure NdR (w : World) (B : Nat) (d : Nd) (h : Value × Value) : Prop where
  fields : Sl w B 2 h.1 d.fs.length (spc d.fs)
  raws : Sl w B 1 h.2 d.rs.length (u64s d.rs)
def ndE (d : Nd) (h : Value × Value) : List Value := [.int .i64 d.kd, h.1, h.2]
def ndc : List Nd → List (Value × Value) → List Value
  | d :: l, h :: hs => .int .i64 d.kd :: h.1 :: h.2 :: ndc l hs
  | _, _ => []
theorem ndc_len : ∀ (l : List Nd) (hs : List (Value × Value)), hs.length = l.length → (ndc l hs).length = l.length * 3
  | [], [], _ => rfl
  | [], _ :: _, h => by cases h
  | _ :: _, [], h => by cases h
  | d :: l, h :: hs, e => by
    have := ndc_len l hs (by simpa using e)
    simp only [ndc, List.length_cons, this]
    omega
theorem ndc_get : ∀ (l : List Nd) (hs : List (Value × Value)) (k : Nat) (d : Nd) (h : Value × Value), l[k]? = some d → hs[k]? = some h → (ndc l hs)[k * 3]? = some (.int .i64 d.kd) ∧ (ndc l hs)[k * 3 + 1]? = some h.1 ∧ (ndc l hs)[k * 3 + 2]? = some h.2
  | [], _, _, _, _, hd, _ => by cases hd
  | _ :: _, [], _, _, _, _, hh => by cases hh
  | x :: l, y :: hs, 0, d, h, hd, hh => by
    obtain rfl : x = d := by simpa using hd
    obtain rfl : y = h := by simpa using hh
    exact ⟨rfl, rfl, rfl⟩
  | x :: l, y :: hs, k + 1, d, h, hd, hh => by
    have := ndc_get l hs k d h (by simpa using hd) (by simpa using hh)
    have e : (k + 1) * 3 = k * 3 + 3 := by omega
    rw [e]
    exact this
/-- A graph's rows read. -/
structure RdG (w : World) (B : Nat) (g : Gr) (vn vr : Value) (hs : List (Value × Value)) : Prop where
  len : hs.length = g.nd.length
  nodes : Sl w B 3 vn g.nd.length (ndc g.nd hs)
  each : ∀ (i : Nat) d h, g.nd[i]? = some d → hs[i]? = some h → NdR w B d h
  roots : Sl w B 2 vr g.rt.length (spc g.rt)
section
variable {w w' : World} {B B' : Nat} {g : Gr} {vn vr : Value} {hs : List (Value × Value)} {d : Nd} {h : Value × Value}
theorem NdR.below (H : NdR w B d h) (b : Below B w w') : NdR w' B d h := ⟨H.fields.below b, H.raws.below b⟩
theorem NdR.more (H : NdR w B d h) (b : B ≤ B') : NdR w B' d h := ⟨H.fields.more b, H.raws.more b⟩
theorem RdG.below (H : RdG w B g vn vr hs) (b : Below B w w') : RdG w' B g vn vr hs := ⟨H.len, H.nodes.below b, fun i d h h1 h2 => (H.each i d h h1 h2).below b, H.roots.below b⟩
theorem RdG.more (H : RdG w B g vn vr hs) (b : B ≤ B') : RdG w B' g vn vr hs := ⟨H.len, H.nodes.more b, fun i d h h1 h2 => (H.each i d h h1 h2).more b, H.roots.more b⟩
theorem RdG.only (H : RdG w B g vn vr hs) (o : Only nob w w') (hB : B ≤ w.heap.size) : RdG w' B g vn vr hs := H.below (o.below hB fun _ h => h.elim)
/-- A node's cells; its rows. -/
theorem RdG.at_ {A : Option Addr} {c k : Nat} (H : RdG w B g (.slice A g.nd.length c) vr hs) (b : Below B w w') (hd : g.nd[k]? = some d) :
    ∃ bb o fv rv, A = some ⟨bb, o, none⟩ ∧ bb < B ∧ hs[k]? = some (fv, rv) ∧ w'.cell? ⟨bb, o + k * 3, none⟩ = some (.int .i64 d.kd) ∧ w'.cell? ⟨bb, o + k * 3 + 1, none⟩ = some fv ∧ w'.cell? ⟨bb, o + k * 3 + 2, none⟩ = some rv ∧ NdR w' B d (fv, rv) := by
  have hk : k < g.nd.length := (List.getElem?_eq_some_iff.1 hd).1
  obtain ⟨⟨fv, rv⟩, hh⟩ : ∃ h, hs[k]? = some h := ⟨_, List.getElem?_eq_getElem (by rw [H.len]; exact hk)⟩
  obtain ⟨bb, o, c', e, _, _, hlt, hc⟩ := (H.nodes.below b).at_ (by omega)
  obtain ⟨rfl, rfl⟩ : A = some ⟨bb, o, none⟩ ∧ c = c' := by simpa using e
  obtain ⟨g0, g1, g2⟩ := ndc_get g.nd hs k d (fv, rv) hd hh
  exact ⟨bb, o, fv, rv, rfl, hlt, hh, hc _ _ g0, by have := hc _ _ g1; rwa [← Nat.add_assoc] at this, by have := hc _ _ g2; rwa [← Nat.add_assoc] at this, (H.each k d _ hd hh).below b⟩
end
/-- Numbers of 64 bits. -/
def VlOk (l : List Sp) : Prop := ∀ v ∈ l, (-9223372036854775808 ≤ v.1 ∧ v.1 ≤ 9223372036854775807) ∧ -9223372036854775808 ≤ v.2 ∧ v.2 ≤ 9223372036854775807
structure GrFit (g : Gr) : Prop where
  kd : ∀ d ∈ g.nd, -9223372036854775808 ≤ d.kd ∧ d.kd ≤ 9223372036854775807
  fs : ∀ d ∈ g.nd, VlOk d.fs
  rs : ∀ d ∈ g.nd, Words d.rs
  rt : VlOk g.rt

/-! ### What is asked of package graph, and of the document's own -/
noncomputable instance (a b : Gr) : Decidable (a = b) := Classical.propDecidable _
noncomputable def sameG (a b : Gr) : Bool := decide (a = b)
def RightGC (f : FuncId) : Prop := ∀ (g : Gr) (vn vr : Value) (hs : List (Value × Value)) (B : Nat) (w : World), RdG w B g vn vr hs → B ≤ w.heap.size → GrFit g →
  Calls Try.prog f #[.agg #[vn, vr]] w fun e w' => e = .returned (.bool (grOk g)) ∧ Only nob w w'
def SizeGC (f : FuncId) : Prop := ∀ (d : Nd) (h : Value × Value) (B : Nat) (w : World), NdR w B d h →
  Calls Try.prog f #[.agg #[.int .i64 d.kd, h.1, h.2]] w fun e w' => e = .returned (.int .i64 (ndSz d)) ∧ Only nob w w'
def LeadsGC (f : FuncId) : Prop := ∀ (g : Gr) (i : Int) (vn vr : Value) (hs : List (Value × Value)) (B : Nat) (w : World), RdG w B g vn vr hs → B ≤ w.heap.size → GrFit g →
  Calls Try.prog f #[.agg #[vn, vr], .int .i64 i] w fun e w' => ∃ v', e = .returned v' ∧ Sl w' w'.heap.size 1 v' (leadsG g i).length (i64s (leadsG g i)) ∧ Only nob w w'
def SumGC (S : Gr → List Int → Int) (f : FuncId) : Prop := ∀ (g : Gr) (l : List Int) (vn vr v : Value) (hs : List (Value × Value)) (B : Nat) (w : World), RdG w B g vn vr hs → Sl w B 1 v l.length (i64s l) → B ≤ w.heap.size → GrFit g → l.length ≤ 100 →
  Calls Try.prog f #[.agg #[vn, vr], v] w fun e w' => e = .returned (.int .i64 (S g l)) ∧ Only nob w w'
def SameGC (f : FuncId) : Prop := ∀ (g k : Gr) (vn vr un ur : Value) (hs js : List (Value × Value)) (B B' : Nat) (w : World), RdG w B g vn vr hs → RdG w B' k un ur js → B ≤ w.heap.size → B' ≤ w.heap.size → GrFit g → GrFit k →
  Calls Try.prog f #[.agg #[vn, vr], .agg #[un, ur]] w fun e w' => e = .returned (.bool (sameG g k)) ∧ Only nob w w'
def RenGC (f : FuncId) : Prop := ∀ (g : Gr) (o : List Int) (vn vr v : Value) (hs : List (Value × Value)) (B : Nat) (w : World), RdG w B g vn vr hs → Sl w B 1 v o.length (i64s o) → B ≤ w.heap.size → GrFit g → g.nd.length ≤ 60 → g.rt.length ≤ 100 → o.length ≤ 100 → (∀ x ∈ o, -9223372036854775808 ≤ x ∧ x ≤ 9223372036854775807) →
  Calls Try.prog f #[.agg #[vn, vr], v] w fun e w' => ∃ un ur js, e = .returned (.tuple #[.agg #[un, ur], .int .i64 (rnE g o)]) ∧ RdG w' w'.heap.size (rnG g o) un ur js ∧ Only nob w w'
end Go.Proofs.Ytmnehonmbjnnaaa

/- A graph that came in by value, opened: rows of nodes, each with two rows. (Written ahead of stage 16's code.) -/
namespace Go.Proofs.Ytmnehonmbjnnaaa
open Go.ChangeShapes Go.WideShapes Go.RowKit Go.Deep
set_option maxRecDepth 100000

theorem list_of {α : Type} {P : Nat → α → Prop} : ∀ (n : Nat), (∀ i, i < n → ∃ x, P i x) → ∃ l : List α, l.length = n ∧ ∀ i x, l[i]? = some x → P i x
  | 0, _ => ⟨[], rfl, fun _ _ h => by cases h⟩
  | n + 1, h => by
    obtain ⟨l, hl, hp⟩ := list_of n fun i hi => h i (by omega)
    obtain ⟨x, hx⟩ := h n (by omega)
    refine ⟨l ++ [x], by simp [hl], fun i y hy => ?_⟩
    rcases Nat.lt_or_ge i n with hi | hi
    · rw [List.getElem?_append_left (by omega)] at hy
      exact hp i y hy
    · have hi2 : i = n := by
        have := (List.getElem?_eq_some_iff.1 hy).1
        simp [hl] at this
        omega
      subst hi2
      rw [List.getElem?_append_right (by omega), hl] at hy
      simp at hy
      rw [← hy]; exact hx
theorem ndc_of : ∀ (l : List Nd) (hs : List (Value × Value)) (xs : List Value), hs.length = l.length → xs.length = l.length * 3 →
    (∀ i d h, l[i]? = some d → hs[i]? = some h → xs[i * 3 + 0]? = some (.int .i64 d.kd) ∧ xs[i * 3 + 1]? = some h.1 ∧ xs[i * 3 + 2]? = some h.2) → xs = ndc l hs
  | [], [], xs, _, hx, _ => by simpa [ndc] using hx
  | [], _ :: _, _, h, _, _ => by cases h
  | _ :: _, [], _, h, _, _ => by cases h
  | _ :: _, _ :: _, [], _, hx, _ => by simp at hx
  | _ :: _, _ :: _, [_], _, hx, _ => by simp at hx; omega
  | _ :: _, _ :: _, [_, _], _, hx, _ => by simp at hx; omega
  | d :: l, h :: hs, a :: b :: c :: xs, hl, hx, H => by
    obtain ⟨e0, e1, e2⟩ := H 0 d h rfl rfl
    obtain rfl : a = .int .i64 d.kd := by simpa using e0
    obtain rfl : b = h.1 := by simpa using e1
    obtain rfl : c = h.2 := by simpa using e2
    have ih := ndc_of l hs xs (by simpa using hl) (by simp at hx; omega) fun i d h hd hh => by
      have := H (i + 1) d h (by simpa using hd) (by simpa using hh)
      simpa [Nat.add_mul] using this
    simp only [ndc]
    rw [← ih]
theorem pairs_spc16 : ∀ (n : Nat) (xs : List Value), xs.length = n * 2 → (∀ j, j < n * 2 → ∃ z : Int, xs[j]? = some (.int .i64 z) ∧ -9223372036854775808 ≤ z ∧ z ≤ 9223372036854775807) → ∃ l : List Sp, l.length = n ∧ xs = spc l ∧ VlOk l
  | 0, [], _, _ => ⟨[], rfl, rfl, fun _ h => by cases h⟩
  | 0, _ :: _, hl, _ => by simp at hl
  | n + 1, [], hl, _ => by simp at hl
  | n + 1, [_], hl, _ => by simp at hl; omega
  | n + 1, a :: b :: xs, hl, h => by
    obtain ⟨x, e0, b0⟩ := h 0 (by omega)
    obtain ⟨y, e1, b1⟩ := h 1 (by omega)
    obtain rfl : a = .int .i64 x := by simpa using e0
    obtain rfl : b = .int .i64 y := by simpa using e1
    obtain ⟨l, hl', rfl, hF⟩ := pairs_spc16 n xs (by simp at hl; omega) fun j hj => by
      have := h (j + 2) (by omega)
      simpa using this
    exact ⟨(x, y) :: l, by simp [hl'], by simp [spc], fun z hz => by
      rcases List.mem_cons.1 hz with rfl | hz
      · exact ⟨b0, b1⟩
      · exact hF z hz⟩
section
variable {H : Type} {enc : TypeId × Value → H} {w : World} {base b0 : Nat} {r : Reach} {sp : Nat → Bool} {held : Bool}
theorem vals_of_trod {fuel : Nat} {u : Value} {x : DataW H × List MemPlace} (h : DataW.trod enc Try.prog w base sp held fuel 23 [u] = some x) : ∃ l : List Sp, Sl w w.heap.size 2 u l.length (spc l) ∧ VlOk l := by
  obtain ⟨hv, ht⟩ := slice_of_trod Try.underlying23 h
  obtain ⟨n, xs, hs, hf⟩ := open_structs_of 2 Try.underlying23 Try.underlying43 (by kernel_rfl) (by kernel_rfl) (by kernel_rfl) (by decide) hv ht
  have hcell : ∀ j, j < n * 2 → ∃ z : Int, xs[j]? = some (.int .i64 z) ∧ -9223372036854775808 ≤ z ∧ z ≤ 9223372036854775807 := by
    intro j hj
    have hi : j / 2 < n := by omega
    have h2 : j % 2 = 0 ∨ j % 2 = 1 := by omega
    have hj2 : j / 2 * 2 + j % 2 = j := by omega
    rcases h2 with h2 | h2
    · obtain ⟨u, y, k, hu, hd⟩ := hf (j / 2) 0 _ hi rfl
      obtain ⟨z, e0, -, w0⟩ := DataW.trod_int (k := .i64) (by kernel_rfl) hd
      obtain rfl : u = .int .i64 z := by simpa using e0
      exact ⟨z, by rw [← hj2, h2]; exact hu, bounds_i64 w0⟩
    · obtain ⟨u, y, k, hu, hd⟩ := hf (j / 2) 1 _ hi rfl
      obtain ⟨z, e0, -, w0⟩ := DataW.trod_int (k := .i64) (by kernel_rfl) hd
      obtain rfl : u = .int .i64 z := by simpa using e0
      exact ⟨z, by rw [← hj2, h2]; exact hu, bounds_i64 w0⟩
  obtain ⟨A, c, rfl, _, _, hl, _⟩ := id hs
  obtain ⟨l, rfl, rfl, hF⟩ := pairs_spc16 n xs hl hcell
  exact ⟨l, hs, hF⟩
theorem words16_of_trod {fuel : Nat} {u : Value} {x : DataW H × List MemPlace} (h : DataW.trod enc Try.prog w base sp held fuel 39 [u] = some x) : ∃ l : List Nat, Sl w w.heap.size 1 u l.length (u64s l) ∧ Words l := by
  obtain ⟨hv, ht⟩ := slice_of_trod Try.underlying39 h
  exact open_words_of Try.underlying39 Try.underlying71 (by kernel_rfl) hv ht
theorem nodes_of_trod {fuel : Nat} {u : Value} {x : DataW H × List MemPlace} (h : DataW.trod enc Try.prog w base sp held fuel 22 [u] = some x) :
    ∃ (l : List Nd) (hs : List (Value × Value)), hs.length = l.length ∧ Sl w w.heap.size 3 u l.length (ndc l hs) ∧ (∀ (i : Nat) d h, l[i]? = some d → hs[i]? = some h → NdR w w.heap.size d h) ∧
      (∀ d ∈ l, -9223372036854775808 ≤ d.kd ∧ d.kd ≤ 9223372036854775807) ∧ (∀ d ∈ l, VlOk d.fs) ∧ ∀ d ∈ l, Words d.rs := by
  obtain ⟨hv, ht⟩ := slice_of_trod Try.underlying22 h
  obtain ⟨n, xs, hS, hf⟩ := open_structs_of 3 Try.underlying22 Try.underlying41 (by kernel_rfl) (by kernel_rfl) (by kernel_rfl) (by decide) hv ht
  obtain ⟨A, c, rfl, _, _, hl, _⟩ := id hS
  have hone : ∀ i, i < n → ∃ p : Nd × (Value × Value), xs[i * 3 + 0]? = some (.int .i64 p.1.kd) ∧ xs[i * 3 + 1]? = some p.2.1 ∧ xs[i * 3 + 2]? = some p.2.2 ∧ NdR w w.heap.size p.1 p.2 ∧ (-9223372036854775808 ≤ p.1.kd ∧ p.1.kd ≤ 9223372036854775807) ∧ VlOk p.1.fs ∧ Words p.1.rs := by
    intro i hi
    obtain ⟨u0, y0, k0, e0, d0⟩ := hf i 0 _ hi rfl
    obtain ⟨z, i0, -, w0⟩ := DataW.trod_int (k := .i64) (by kernel_rfl) d0
    obtain rfl : u0 = .int .i64 z := by simpa using i0
    obtain ⟨u1, y1, k1, e1, d1⟩ := hf i 1 _ hi rfl
    obtain ⟨fs, s1, f1⟩ := vals_of_trod d1
    obtain ⟨u2, y2, k2, e2, d2⟩ := hf i 2 _ hi rfl
    obtain ⟨rs, s2, f2⟩ := words16_of_trod d2
    exact ⟨(⟨z, fs, rs⟩, (u1, u2)), e0, e1, e2, ⟨s1, s2⟩, bounds_i64 w0, f1, f2⟩
  obtain ⟨ps, hpl, hp⟩ := list_of n hone
  have hg : ∀ (i : Nat) d h, (ps.map (·.1))[i]? = some d → (ps.map (·.2))[i]? = some h → ps[i]? = some (d, h) := by
    intro i d h hd hh
    rw [List.getElem?_map] at hd hh
    cases hq : ps[i]? with
    | none => rw [hq] at hd; cases hd
    | some q =>
      rw [hq] at hd hh
      simp at hd hh
      rw [← hd, ← hh]
  have hmem : ∀ d ∈ ps.map (·.1), ∃ (i : Nat) (q : Nd × (Value × Value)), ps[i]? = some q ∧ q.1 = d := by
    intro d hd
    obtain ⟨q, hq, rfl⟩ := List.mem_map.1 hd
    obtain ⟨i, hi⟩ := List.getElem?_of_mem hq
    exact ⟨i, q, hi, rfl⟩
  have hxs : xs = ndc (ps.map (·.1)) (ps.map (·.2)) := ndc_of _ _ xs (by simp) (by simp [hpl, hl]) fun i d h hd hh => by
    obtain ⟨a, b, c, -⟩ := hp i _ (hg i d h hd hh)
    exact ⟨a, b, c⟩
  refine ⟨ps.map (·.1), ps.map (·.2), by simp, ?_, fun i d h hd hh => (hp i _ (hg i d h hd hh)).2.2.2.1, fun d hd => ?_, fun d hd => ?_, fun d hd => ?_⟩
  · rw [← hxs, List.length_map, hpl]; exact hS
  · obtain ⟨i, q, hi, rfl⟩ := hmem d hd; exact (hp i q hi).2.2.2.2.1
  · obtain ⟨i, q, hi, rfl⟩ := hmem d hd; exact (hp i q hi).2.2.2.2.2.1
  · obtain ⟨i, q, hi, rfl⟩ := hmem d hd; exact (hp i q hi).2.2.2.2.2.2
theorem open_graph {v : Value} {d : DataW H} {p : List MemPlace} (hv : Value.okWide Try.prog w r b0 25 v) (h : DataW.Trod enc Try.prog w base sp held 25 v d p) :
    ∃ (g : Gr) (vn vr : Value) (hs : List (Value × Value)), v = .agg #[vn, vr] ∧ RdG w w.heap.size g vn vr hs ∧ GrFit g := by
  obtain ⟨⟨cs⟩, rfl, hsz⟩ := okWide_struct Try.underlying25 hv
  obtain ⟨fuel, hf⟩ := h
  obtain ⟨ys, n, -, -, hl, hyl, hg⟩ := DataW.trod_struct Try.underlying25 hf
  have hl2 : cs.length = 2 := by
    have : Try.prog.cellsOf 25 = 2 := by kernel_rfl
    rw [this] at hl
    simpa [Value.cells] using hl
  match cs, hl2 with
  | [u0, u1], _ =>
    have key : ∀ {x : Option (DataW H × List MemPlace)} {j : Nat}, j < ys.length → x = ys[j]? → ∃ y, x = some y := fun hj e => ⟨_, e.trans (List.getElem?_eq_getElem hj)⟩
    have hys : ys.length = 2 := hyl
    obtain ⟨y0, h0⟩ := key (by omega) (hg 0 _ rfl)
    obtain ⟨y1, h1⟩ := key (by omega) (hg 1 _ rfl)
    have g0 : DataW.trod enc Try.prog w base sp held n 22 [u0] = some y0 := h0
    have g1 : DataW.trod enc Try.prog w base sp held n 23 [u1] = some y1 := h1
    obtain ⟨l, hs, e0, e1, e2, e3, e4, e5⟩ := nodes_of_trod g0
    obtain ⟨rt, s1, f1⟩ := vals_of_trod g1
    exact ⟨⟨l, rt⟩, u0, u1, hs, rfl, ⟨e0, e1, e2, s1⟩, ⟨e3, e4, e5, f1⟩⟩
end
end Go.Proofs.Ytmnehonmbjnnaaa

/- How long a row inside a graph that came in can be: the form's own reach. -/
namespace Go.Proofs.Ytmnehonmbjnnaaa
open Go.ChangeShapes Go.WideShapes Go.RowKit Go.Deep
set_option maxRecDepth 100000

section
variable {H : Type} {enc : TypeId × Value → H} {P : Program} {w : World} {base : Nat} {sp : Nat → Bool} {held : Bool}
theorem weights_all_mem {e : TypeId} : ∀ (l : List (DataW H)) (d : DataW H), d ∈ l → ∀ n ∈ d.weights P e, n ∈ DataW.weightsAll P e l
  | [], _, h, _, _ => by cases h
  | x :: l, d, h, n, hn => by
    unfold DataW.weightsAll
    rcases List.mem_cons.1 h with rfl | h
    · exact List.mem_append.2 (.inl hn)
    · exact List.mem_append.2 (.inr (weights_all_mem l d h n hn))
theorem slice_weight {t e : TypeId} {fuel : Nat} {A : Option Addr} {n c : Nat} {x : DataW H × List MemPlace} (ht : P.underlying t = some (.slice e)) (h : DataW.trod enc P w base sp held fuel t [.slice A n c] = some x) :
    n = 0 ∨ ∃ m, m ∈ x.1.weights P t ∧ n * P.bytesOf e ≤ m := by
  rcases DataW.trod_slice ht h with ⟨hcs, _⟩ | ⟨a, len, cap, elems, rest, k, _, hcs, hx, _, _, _, hlen, _⟩
  · left; simpa using (by simpa using hcs : A = none ∧ n = 0 ∧ c = 0).2.1
  · right
    obtain ⟨-, rfl, -⟩ : A = some a ∧ n = len ∧ c = cap := by simpa using hcs
    refine ⟨((elems.map (·.1)).length + (rest.map (·.1)).length) * P.bytesOf e, ?_, Nat.mul_le_mul_right _ (by rw [List.length_map, hlen]; omega)⟩
    rw [hx]
    simp [DataW.weights, ht]
theorem slice_elem_weight {t e : TypeId} {fuel : Nat} {a : Addr} {n c : Nat} {x : DataW H × List MemPlace} (ht : P.underlying t = some (.slice e)) (h : DataW.trod enc P w base sp held fuel t [.slice (some a) n c] = some x) {i : Nat} (hi : i < n) :
    ∃ (k : Nat) (cs : List Value) (y : DataW H × List MemPlace), w.cells? base (a.add (i * P.cellsOf e)) (P.cellsOf e) = some cs ∧ DataW.trod enc P w base sp held k e cs = some y ∧ ∀ m ∈ y.1.weights P e, m ∈ x.1.weights P t := by
  rcases DataW.trod_slice ht h with ⟨hcs, _⟩ | ⟨a', len, cap, elems, rest, k, _, hcs, hx, _, _, _, hlen, hel, _⟩
  · simp at hcs
  · obtain ⟨rfl, rfl, rfl⟩ : a = a' ∧ n = len ∧ c = cap := by simpa using hcs
    have h1 := hel i hi
    rw [List.getElem?_eq_getElem (by omega : i < elems.length)] at h1
    cases hc : w.cells? base (a.add (i * P.cellsOf e)) (P.cellsOf e) with
    | none => rw [hc] at h1; cases h1
    | some cs =>
      rw [hc] at h1
      refine ⟨k, cs, _, rfl, h1, fun m hm => ?_⟩
      rw [hx]
      simp only [DataW.weights, ht, List.mem_cons, List.mem_append]
      exact .inr (.inl (weights_all_mem _ _ (List.mem_map.2 ⟨_, List.getElem_mem _, rfl⟩) m hm))
theorem struct_weight {t : TypeId} {fs : Array Field} {fuel : Nat} {cs : List Value} {x : DataW H × List MemPlace} (ht : P.underlying t = some (.struct fs)) (h : DataW.trod enc P w base sp held fuel t cs = some x) {j : Nat} {f : Field} (hf : fs[j]? = some f) :
    ∃ (k : Nat) (y : DataW H × List MemPlace), DataW.trod enc P w base sp held k f.type ((cs.drop f.offset).take (P.cellsOf f.type)) = some y ∧ ∀ m ∈ y.1.weights P f.type, m ∈ x.1.weights P t := by
  obtain ⟨ys, n, -, rfl, -, hyl, hg⟩ := DataW.trod_struct ht h
  have hj : j < ys.length := by
    rw [hyl]
    exact (Array.getElem?_eq_some_iff.1 hf).1
  have h1 := hg j f hf
  rw [List.getElem?_eq_getElem hj] at h1
  refine ⟨n, _, h1, fun m hm => ?_⟩
  simp only [DataW.weights, ht]
  exact DataW.weights_mem_each (j := j) (t := f.type) (d := (ys[j]).1) (by rw [List.getElem?_map, Array.getElem?_toList, hf]; rfl) (by rw [List.getElem?_map, List.getElem?_eq_getElem hj]; rfl) m hm
end
theorem addr_add16 (b o i j : Nat) : ((⟨b, o, none⟩ : Addr).add i).add j = ⟨b, o + i + j, none⟩ := by
  have h : ∀ (o k : Nat), (⟨b, o, none⟩ : Addr).add k = ⟨b, o + k, none⟩ := fun o k => by
    unfold Addr.add
    by_cases hk : k = 0
    · simp [hk]
    · simp [hk]
  rw [h, h]
theorem bytes_val16 : Try.prog.bytesOf 43 = 16 := by kernel_rfl
theorem bytes_word16 : Try.prog.bytesOf 71 = 8 := by kernel_rfl
section
variable {H : Type} {enc : TypeId × Value → H} {w : World} {base : Nat} {sp : Nat → Bool} {held : Bool}
theorem rows_reach {g : Gr} {vn vr : Value} {hs : List (Value × Value)} {d : DataW H} {p : List MemPlace} (h : DataW.Trod enc Try.prog w base sp held 25 (.agg #[vn, vr]) d p) (hr : RdG w w.heap.size g vn vr hs)
    (hw : ∀ n ∈ d.weights Try.prog 25, n ≤ reachBytes) : ∀ x ∈ g.nd, x.fs.length * 16 ≤ reachBytes ∧ x.rs.length * 8 ≤ reachBytes := by
  intro x hx
  obtain ⟨i, hi⟩ := List.getElem?_of_mem hx
  have hlt : i < g.nd.length := (List.getElem?_eq_some_iff.1 hi).1
  obtain ⟨fuel, hf⟩ := h
  obtain ⟨k0, y0, t0, m0⟩ := struct_weight Try.underlying25 hf (j := 0) rfl
  have t0' : DataW.trod enc Try.prog w base sp held k0 22 [vn] = some y0 := t0
  have m0' : ∀ m ∈ y0.1.weights Try.prog 22, m ∈ d.weights Try.prog 25 := m0
  obtain ⟨A, c, rfl, -⟩ := hr.nodes.form
  obtain ⟨bb, o, fv, rv, hA, -, hh, -, e1, e2, hnd⟩ := hr.at_ (Below.refl _ _) hi
  obtain rfl : A = some ⟨bb, o, none⟩ := by simpa using hA
  obtain ⟨k1, cs, y1, hc, t1, m1⟩ := slice_elem_weight Try.underlying22 t0' hlt
  obtain ⟨hcl, hcl2, hat⟩ := World.cells?_some hc
  have hC : Try.prog.cellsOf 41 = 3 := by kernel_rfl
  rw [hC] at hat hcl2 hc
  have c1 : cs[1]? = some fv := by
    have := hat 1 (by omega)
    rw [← this]; rw [addr_add16]; exact e1
  have c2 : cs[2]? = some rv := by
    have := hat 2 (by omega)
    rw [← this]; rw [addr_add16]; exact e2
  match cs, hcl2 with
  | [u0, u1, u2], _ =>
    obtain rfl : u1 = fv := by simpa using c1
    obtain rfl : u2 = rv := by simpa using c2
    obtain ⟨k2, y2, t2, m2⟩ := struct_weight Try.underlying41 t1 (j := 1) rfl
    obtain ⟨k3, y3, t3, m3⟩ := struct_weight Try.underlying41 t1 (j := 2) rfl
    have t2' : DataW.trod enc Try.prog w base sp held k2 23 [u1] = some y2 := t2
    have t3' : DataW.trod enc Try.prog w base sp held k3 39 [u2] = some y3 := t3
    obtain ⟨Af, cf, hfv, -⟩ := hnd.fields.form
    obtain ⟨Ar, cr, hrv, -⟩ := hnd.raws.form
    simp only at hfv hrv
    subst hfv hrv
    constructor
    · rcases slice_weight Try.underlying23 t2' with h0 | ⟨m, hm, hle⟩
      · rw [h0]; exact Nat.zero_le _
      · rw [bytes_val16] at hle
        exact Nat.le_trans hle (hw m (m0' m (m1 m (m2 m hm))))
    · rcases slice_weight Try.underlying39 t3' with h0 | ⟨m, hm, hle⟩
      · rw [h0]; exact Nat.zero_le _
      · rw [bytes_word16] at hle
        exact Nat.le_trans hle (hw m (m0' m (m1 m (m3 m hm))))
end
end Go.Proofs.Ytmnehonmbjnnaaa
