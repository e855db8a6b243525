/- A heap in plain words: its objects, the rules by which it may be; words that no object has may be any. No program in it. -/
import Derived.Test.YtciidodmhigpdaaGreatDoorWalks
import Derived.Test.YtciidodmhigpdaaGreatDoorLayPlain
import Derived.Test.YtciidodmhigpdaaGreatDoorLedA
import Derived.Test.YtciidodmhigpdaaGreatDoorSlotAll
import Derived.Test.YtciidodmhigpdaaGreatDoorSpanBase
namespace Go.Proofs.YtciidodmhigpdaaGreatDoor
open Go.RowKit

/-- A heap. -/
structure St where
  cf : Cf
  sec : Bool
  ws : List Nat
  top : Int
  tb : List Sp
  fr : List Sp
  sl : List Slt
def St.frm (s : St) : Sp := cFrom s.cf s.sec
def St.steps (s : St) : List It := walkL (hAr s.ws) s.frm s.top
def St.smalls (s : St) : List Int := wkL s.steps
def St.objs (s : St) : List Int := s.smalls ++ s.tb.map (·.1)
/-- An object has nothing of a collection. -/
def idle (l : List Nat) (p : Int) : Bool := !ohM l p && decide (ohC l p = 0)
/-- A word is a value's, and, if it leads somewhere, it leads to one of all. -/
def leads (all : List Int) (x : Nat) : Bool := decide (dE x = 0) && (!decide (dK x = 2) || isOne all (dX x))
def r3 (s : St) : Bool := decide (s.frm.1 ≤ s.top ∧ s.top ≤ s.frm.1 + s.frm.2)
def low (c : Cf) (l : List Nat) (p : Int) : Bool := idle l p && cSmall c (osz (hAr l) p)
def r5 (s : St) : Bool := s.smalls.all (low s.cf s.ws)
def big (c : Cf) (l : List Nat) (x : Sp) : Bool := decide (ohE l x.1 = 0) && (decide (osz (hAr l) x.1 = x.2) && (idle l x.1 && !cSmall c x.2))
noncomputable def r6 (s : St) : Bool := decide (TableP (cLarge s.cf) s.tb s.fr) && s.tb.all (big s.cf s.ws)
def r7 (s : St) : Bool := rightS dE s.sl s.cf.slots
def fieldsR (all : List Int) (l : List Nat) (p : Int) : Bool := (List.range (ohF l p).toNat).all fun k => leads all (wd l (p + 1 + (k : Nat)).toNat)
def r8 (s : St) : Bool := s.objs.all (fieldsR s.objs s.ws)
def r9 (s : St) : Bool := s.sl.all fun t => !t.1 || leads s.objs t.2.2
/-- The number of the first rule that does not hold. -/
noncomputable def chkS (s : St) : Int :=
  if s.cf.ok then (if (s.ws.length : Int) = cWords s.cf then (if r3 s = true then (if wkE s.steps = 0 then (if r5 s = true then (if r6 s = true then (if r7 s = true then (if r8 s = true then (if r9 s = true then 0 else 9) else 8) else 7) else 6) else 5) else 4) else 3) else 2) else 1
structure May15 (s : St) : Prop where
  ok : s.cf.ok
  many : (s.ws.length : Int) = cWords s.cf
  top : r3 s = true
  walk : wkE s.steps = 0
  low : r5 s = true
  big : r6 s = true
  slots : r7 s = true
  fields : r8 s = true
  leads : r9 s = true
theorem chkS_iff {s : St} : chkS s = 0 ↔ May15 s := by
  constructor
  · intro h
    unfold chkS at h
    repeat' split at h
    all_goals first | (exact ⟨by assumption, by assumption, by assumption, by assumption, by assumption, by assumption, by assumption, by assumption, by assumption⟩) | cases h
  · rintro ⟨h1, h2, h3, h4, h5, h6, h7, h8, h9⟩
    unfold chkS
    rw [if_pos h1, if_pos h2, if_pos h3, if_pos h4, if_pos h5, if_pos h6, if_pos h7, if_pos h8, if_pos h9]
theorem chkS_range (s : St) : 0 ≤ chkS s ∧ chkS s ≤ 9 := by
  unfold chkS
  repeat' split
  all_goals omega

theorem hAr_set {l : List Nat} {a : Nat} {w : Nat} {p : Int} (h : p ≠ a) (h0 : 0 ≤ p) : hAr (l.set a w) p = hAr l p := by
  have hw : wd (l.set a w) p.toNat = wd l p.toNat := by
    unfold wd
    rw [List.getD_eq_getElem?_getD, List.getD_eq_getElem?_getD, List.getElem?_set_ne (by omega)]
  unfold hAr ohE ohK ohF ohR ohM ohC ohE
  rw [hw, List.length_set]
theorem tr_congr {h h' : Int → Hd} (H : HdOk h) (H' : HdOk h') (top a : Int) (he : ∀ y ∈ tr h top a, y.e = 0) (hh : ∀ y ∈ tr h top a, h' y.at_ = h y.at_) : tr h' top a = tr h top a := by
  refine tr_ind (P := fun a => (∀ y ∈ tr h top a, y.e = 0) → (∀ y ∈ tr h top a, h' y.at_ = h y.at_) → tr h' top a = tr h top a) H top ?_ ?_ ?_ a he hh
  · intro a ha _ _
    rw [tr_end ha, tr_end ha]
  · intro a ha hs he _
    exfalso
    rw [tr_err ha hs] at he
    have := he _ (List.mem_singleton.2 rfl)
    rw [item_e] at this
    exact hs this
  · intro a ha hs ih he hh
    rw [tr_ok H ha hs] at he hh
    have h1 := hh _ (List.mem_cons_self ..)
    rw [item_at] at h1
    have h2 : swE h' top a = swE h top a := by unfold swE osz; rw [h1]
    have h3 : osz h' a = osz h a := by unfold osz; rw [h1]
    have h4 : item h' top a = item h top a := by unfold item; rw [h2, h1]
    rw [tr_ok H ha hs, tr_ok H' ha (h2.trans hs), h3, h4]
    congr 1
    exact ih (fun y hy => he y (List.mem_cons_of_mem _ hy)) (fun y hy => hh y (List.mem_cons_of_mem _ hy))
theorem cFrom_bounds {c : Cf} (h : c.ok) (b : Bool) : 0 ≤ (cFrom c b).1 ∧ 1 ≤ (cFrom c b).2 ∧ (cFrom c b).1 + (cFrom c b).2 ≤ c.semi + c.semi ∧ (cFrom c b).1 ≤ 32768 ∧ (cFrom c b).2 ≤ 32768 := by
  have h' := h
  unfold Cf.ok at h
  unfold cFrom cHalf
  rcases b with _ | _
  · simp only [Bool.false_eq_true, if_false, if_pos h']; omega
  · simp only [if_true, if_pos h']; omega
theorem smalls_len (s : St) : s.smalls.length ≤ 32768 := by
  unfold St.smalls wkL
  split
  · rw [ats_len]
    unfold St.steps walkL
    split
    · rename_i hm
      have := tr_len (hAr_ok s.ws) (top := s.top) s.frm.1
      unfold St.frm at hm this ⊢
      by_cases hc : s.cf.ok
      · have hb := cFrom_bounds hc s.sec
        obtain ⟨-, h1, h2⟩ := hm
        split at this <;> omega
      · exfalso
        have : cFrom s.cf s.sec = (0, 0) := by
          unfold cFrom cHalf
          simp [hc]
        rw [this] at hm
        obtain ⟨⟨-, h1, -⟩, -⟩ := hm
        simp at h1
    · simp
  · simp
/-- Each small object has its header, where the walk ends well. -/
theorem small_head {s : St} (h4 : wkE s.steps = 0) {p : Int} (hp : p ∈ s.smalls) : ohE s.ws p = 0 := by
  have hok := wkE_zero h4
  have hats : s.smalls = ats s.steps := (wk_ok hok s.top).2.2
  rw [hats] at hp
  obtain ⟨y, hy, rfl⟩ := List.mem_map.1 hp
  have h0 := hok y hy
  unfold St.steps walkL at hy
  split at hy
  · obtain ⟨e1, -⟩ := tr_all (hAr_ok _) _ y hy
    rw [e1, item_e] at h0
    exact (sw_zero h0).1
  · rw [List.mem_singleton] at hy
    rw [hy] at h0
    exact absurd h0 (by decide)
section
variable {s : St}
theorem May15.may9 (h : May15 s) : may9 s.frm s.top := by
  have h1 := cFrom_bounds h.ok s.sec
  have h2 := of_decide_eq_true h.top
  unfold Proofs.YtciidodmhigpdaaGreatDoor.may9 Sp.ok most
  unfold St.frm at h2 ⊢
  omega
theorem May15.steps_tr (h : May15 s) : s.steps = tr (hAr s.ws) s.top s.frm.1 := by
  unfold St.steps walkL
  rw [if_pos h.may9]
theorem May15.steps_ok (h : May15 s) : ∀ y ∈ s.steps, y.e = 0 := wkE_zero h.walk
theorem May15.smalls_ats (h : May15 s) : s.smalls = ats s.steps := (wk_ok h.steps_ok s.top).2.2
/-- Where there is an object, there is its header. -/
theorem May15.head (h : May15 s) {p : Int} (hp : p ∈ s.objs) : ohE s.ws p = 0 ∧ 0 ≤ p := by
  have key : ohE s.ws p = 0 := by
    unfold St.objs at hp
    rcases List.mem_append.1 hp with hp | hp
    · rw [h.smalls_ats] at hp
      obtain ⟨y, hy, rfl⟩ := List.mem_map.1 hp
      have h0 := h.steps_ok y hy
      rw [h.steps_tr] at hy
      obtain ⟨e1, -⟩ := tr_all (hAr_ok _) _ y hy
      rw [e1, item_e] at h0
      exact (sw_zero h0).1
    · obtain ⟨x, hx, rfl⟩ := List.mem_map.1 hp
      have h6 := h.big
      unfold r6 at h6
      rw [Bool.and_eq_true, List.all_eq_true] at h6
      have := h6.2 x hx
      unfold Proofs.YtciidodmhigpdaaGreatDoor.big at this
      rw [Bool.and_eq_true, decide_eq_true_iff] at this
      exact this.1
  refine ⟨key, ?_⟩
  obtain ⟨n, rfl, -⟩ := ob_of key
  omega
theorem May15.far (h : May15 s) {p : Int} (hp : p ∈ s.objs) : ∃ n : Nat, p = n ∧ n < s.ws.length ∧ p + osz (hAr s.ws) p ≤ s.ws.length ∧ 0 ≤ ohF s.ws p ∧ 0 ≤ ohR s.ws p := by
  obtain ⟨h0, -⟩ := h.head hp
  obtain ⟨n, rfl, hb⟩ := ob_of h0
  obtain ⟨-, -, h3, h4, -⟩ := oh_yes hb
  have hf := hb.far
  have ha := hAr_ok s.ws n h0
  have hm := hmay_iff.1 ha
  refine ⟨n, rfl, hb.there, ?_, ?_, ?_⟩
  · show (n : Int) + (1 + ohF s.ws n + ohR s.ws n) ≤ _
    rw [h3, h4]; omega
  · have : (0 : Int) ≤ (hAr s.ws n).f := by omega
    exact this
  · have : (0 : Int) ≤ (hAr s.ws n).r := by omega
    exact this
/-- A word that no object has may be any. -/
theorem May15.idle (h : May15 s) {a : Nat} (w : Nat) (hn : ∀ p ∈ s.objs, ¬ (p ≤ a ∧ (a : Int) < p + 1 + ohF s.ws p + ohR s.ws p)) : May15 { s with ws := s.ws.set a w } := by
  have hh : ∀ p ∈ s.objs, hAr (s.ws.set a w) p = hAr s.ws p := fun p hp => by
    obtain ⟨n, rfl, -, -, h3, h4⟩ := h.far hp
    refine hAr_set (fun e => hn _ hp ?_) (by omega)
    omega
  have hE : ∀ p ∈ s.objs, ohE (s.ws.set a w) p = ohE s.ws p := fun p hp => congrArg Hd.e (hh p hp)
  have hF : ∀ p ∈ s.objs, ohF (s.ws.set a w) p = ohF s.ws p := fun p hp => congrArg Hd.f (hh p hp)
  have hM : ∀ p ∈ s.objs, ohM (s.ws.set a w) p = ohM s.ws p := fun p hp => congrArg Hd.m (hh p hp)
  have hC : ∀ p ∈ s.objs, ohC (s.ws.set a w) p = ohC s.ws p := fun p hp => congrArg Hd.c (hh p hp)
  have hZ : ∀ p ∈ s.objs, osz (hAr (s.ws.set a w)) p = osz (hAr s.ws) p := fun p hp => by unfold osz; rw [hh p hp]
  have hI : ∀ p ∈ s.objs, Proofs.YtciidodmhigpdaaGreatDoor.idle (s.ws.set a w) p = Proofs.YtciidodmhigpdaaGreatDoor.idle s.ws p := fun p hp => by unfold Proofs.YtciidodmhigpdaaGreatDoor.idle; rw [hM p hp, hC p hp]
  have hsm : ∀ p ∈ s.smalls, p ∈ s.objs := fun p hp => List.mem_append_left _ hp
  have hst : St.steps { s with ws := s.ws.set a w } = s.steps := by
    have e1 : St.steps { s with ws := s.ws.set a w } = tr (hAr (s.ws.set a w)) s.top s.frm.1 := by
      unfold St.steps walkL
      exact if_pos h.may9
    rw [e1, h.steps_tr]
    have hok := h.steps_ok
    have hats := h.smalls_ats
    rw [h.steps_tr] at hok hats
    refine tr_congr (hAr_ok _) (hAr_ok _) _ _ hok fun y hy => hh _ (hsm _ ?_)
    rw [hats]
    exact List.mem_map.2 ⟨y, hy, rfl⟩
  have hob : St.objs { s with ws := s.ws.set a w } = s.objs := by
    unfold St.objs St.smalls
    rw [hst]
  refine ⟨h.ok, by rw [List.length_set]; exact h.many, h.top, by rw [hst]; exact h.walk, ?_, ?_, h.slots, ?_, ?_⟩
  · have h5 := h.low
    unfold r5 at h5 ⊢
    rw [List.all_eq_true] at h5 ⊢
    intro p hp
    have hp' : p ∈ s.smalls := by unfold St.smalls at hp ⊢; rw [hst] at hp; exact hp
    have := h5 p hp'
    unfold Proofs.YtciidodmhigpdaaGreatDoor.low at this ⊢
    show (Proofs.YtciidodmhigpdaaGreatDoor.idle (s.ws.set a w) p && cSmall s.cf (osz (hAr (s.ws.set a w)) p)) = true
    rw [hI p (hsm p hp'), hZ p (hsm p hp')]
    exact this
  · have h6 := h.big
    unfold r6 at h6 ⊢
    rw [Bool.and_eq_true, List.all_eq_true] at h6 ⊢
    refine ⟨h6.1, fun x hx => ?_⟩
    have hp : x.1 ∈ s.objs := List.mem_append_right _ (List.mem_map.2 ⟨x, hx, rfl⟩)
    have := h6.2 x hx
    unfold Proofs.YtciidodmhigpdaaGreatDoor.big at this ⊢
    show (decide (ohE (s.ws.set a w) x.1 = 0) && (decide (osz (hAr (s.ws.set a w)) x.1 = x.2) && (Proofs.YtciidodmhigpdaaGreatDoor.idle (s.ws.set a w) x.1 && !cSmall s.cf x.2))) = true
    rw [hI _ hp, hZ _ hp, hE _ hp]
    exact this
  · have h8 := h.fields
    unfold r8 at h8 ⊢
    rw [hob]
    rw [List.all_eq_true] at h8 ⊢
    intro p hp
    have := h8 p hp
    unfold fieldsR at this ⊢
    show ((List.range (ohF (s.ws.set a w) p).toNat).all fun k => Proofs.YtciidodmhigpdaaGreatDoor.leads s.objs (wd (s.ws.set a w) (p + 1 + (k : Nat)).toNat)) = true
    rw [hF p hp]
    rw [List.all_eq_true] at this ⊢
    intro k hk
    have hk' := List.mem_range.1 hk
    obtain ⟨n, rfl, -, -, h3, h4⟩ := h.far hp
    have hw : wd (s.ws.set a w) ((n : Int) + 1 + (k : Nat)).toNat = wd s.ws ((n : Int) + 1 + (k : Nat)).toNat := by
      unfold wd
      rw [List.getD_eq_getElem?_getD, List.getD_eq_getElem?_getD, List.getElem?_set_ne]
      intro e
      have := hn _ hp
      omega
    rw [hw]
    exact this k hk
  · have h9 := h.leads
    unfold r9 at h9 ⊢
    rw [hob]
    exact h9
end
end Go.Proofs.YtciidodmhigpdaaGreatDoor

/- A heap in memory; what is asked of package state, and of the document's own. -/
namespace Go.Proofs.YtciidodmhigpdaaGreatDoor
open Go.RowKit
set_option maxRecDepth 100000

/-- A heap's lists read. -/
structure Rd (w : World) (B : Nat) (s : St) (vw vt vf vs : Value) : Prop where
  words : Sl w B 1 vw s.ws.length (u64s s.ws)
  tab : Sl w B 2 vt s.tb.length (spc s.tb)
  free : Sl w B 2 vf s.fr.length (spc s.fr)
  slots : Sl w B 3 vs s.sl.length (slc s.sl)
section
variable {w w' : World} {B B' : Nat} {s : St} {vw vt vf vs : Value}
theorem Rd.below (h : Rd w B s vw vt vf vs) (b : Below B w w') : Rd w' B s vw vt vf vs := ⟨h.words.below b, h.tab.below b, h.free.below b, h.slots.below b⟩
theorem Rd.more (h : Rd w B s vw vt vf vs) (b : B ≤ B') : Rd w B' s vw vt vf vs := ⟨h.words.more b, h.tab.more b, h.free.more b, h.slots.more b⟩
theorem Rd.only (h : Rd w B s vw vt vf vs) (o : Only nob w w') (hB : B ≤ w.heap.size) : Rd w' B s vw vt vf vs := h.below (o.below hB fun _ h => h.elim)
end
/-- Numbers of 64 bits; sizes. -/
def SpOk (l : List Sp) : Prop := ∀ x ∈ l, I64 x.1 ∧ I64 x.2
theorem SpOk.fits {l : List Sp} (h : SpOk l) : Fits l := fun x hx => (h x hx).1.2
structure StOk (s : St) : Prop where
  cf : CFit s.cf
  ws : Words s.ws
  top : I64 s.top
  tb : SpOk s.tb
  fr : SpOk s.fr
  sl : SlOk s.sl
  few : s.ws.length ≤ 98304 ∧ s.tb.length ≤ 1000 ∧ s.fr.length ≤ 1000 ∧ s.sl.length ≤ 2000

/-- A heap's box. -/
structure SBox (W : World) (b : Nat) (s : St) (vw vt vf vs : Value) : Prop where
  c0 : W.cell? ⟨b, 0, none⟩ = some (.int .i64 s.cf.semi)
  c1 : W.cell? ⟨b, 1, none⟩ = some (.int .i64 s.cf.large)
  c2 : W.cell? ⟨b, 2, none⟩ = some (.int .i64 s.cf.slots)
  c3 : W.cell? ⟨b, 3, none⟩ = some (.int .i64 s.cf.limit)
  c4 : W.cell? ⟨b, 4, none⟩ = some (.bool s.sec)
  c5 : W.cell? ⟨b, 5, none⟩ = some vw
  c6 : W.cell? ⟨b, 6, none⟩ = some (.int .i64 s.top)
  c7 : W.cell? ⟨b, 7, none⟩ = some vt
  c8 : W.cell? ⟨b, 8, none⟩ = some vf
  c9 : W.cell? ⟨b, 9, none⟩ = some vs
section
variable {W W' : World} {b : Nat} {s : St} {vw vt vf vs : Value}
theorem SBox.keep (h : SBox W b s vw vt vf vs) (o : Only nob W W') : SBox W' b s vw vt vf vs := ⟨o.keeps h.c0, o.keeps h.c1, o.keeps h.c2, o.keeps h.c3, o.keeps h.c4, o.keeps h.c5, o.keeps h.c6, o.keeps h.c7, o.keeps h.c8, o.keeps h.c9⟩
theorem SBox.keepF {F : Nat → Prop} (h : SBox W b s vw vt vf vs) (o : Only F W W') (hn : ¬ F b) : SBox W' b s vw vt vf vs :=
  have hb : b < W.heap.size := World.block_lt_of_cell? W _ h.c0
  have k : ∀ {i : Nat} {v : Value}, W.cell? ⟨b, i, none⟩ = some v → W'.cell? ⟨b, i, none⟩ = some v := fun {i _} hc => (o.cell (p := ⟨b, i, none⟩) hb hn).trans hc
  ⟨k h.c0, k h.c1, k h.c2, k h.c3, k h.c4, k h.c5, k h.c6, k h.c7, k h.c8, k h.c9⟩
theorem SBox.of (h : Blk W b 28 #[.int .i64 s.cf.semi, .int .i64 s.cf.large, .int .i64 s.cf.slots, .int .i64 s.cf.limit, .bool s.sec, vw, .int .i64 s.top, vt, vf, vs]) : SBox W b s vw vt vf vs := ⟨h.cell 0, h.cell 1, h.cell 2, h.cell 3, h.cell 4, h.cell 5, h.cell 6, h.cell 7, h.cell 8, h.cell 9⟩
theorem box_state (w : World) (s : St) (vw vt vf vs : Value) : ∃ W, w.alloc (.cells #[.int .i64 s.cf.semi, .int .i64 s.cf.large, .int .i64 s.cf.slots, .int .i64 s.cf.limit, .bool s.sec, vw, .int .i64 s.top, vt, vf, vs] 28) = W ∧ Hid (Only nob w W ∧ Blk W w.heap.size 28 #[.int .i64 s.cf.semi, .int .i64 s.cf.large, .int .i64 s.cf.slots, .int .i64 s.cf.limit, .bool s.sec, vw, .int .i64 s.top, vt, vf, vs] ∧ SBox W w.heap.size s vw vt vf vs) :=
  ⟨_, rfl, Lib.hid ⟨(Only.refl nob w).alloc _, Blk.new _ _ _, SBox.of (Blk.new _ _ _)⟩⟩
end

/-- What Check, Objects, Head, Used, Same, New, Copy answer. -/
noncomputable def obE (s : St) : Int := if chkS s = 0 then 0 else 4
noncomputable def obL (s : St) : List Int := if chkS s = 0 then s.objs else []
def usT (s : St) : Int := if s.cf.ok ∧ r3 s = true then s.top - s.frm.1 else 0
noncomputable instance (a b : St) : Decidable (a = b) := Classical.propDecidable _
noncomputable def sameS (a b : St) : Bool := decide (a = b)
theorem sameS_yes {a b : St} (h : a = b) : sameS a b = true := by unfold sameS; exact decide_eq_true h
theorem sameS_no {a b : St} (h : ¬ a = b) : sameS a b = false := by unfold sameS; exact decide_eq_false h
def noSt : St := ⟨⟨0, 0, 0, 0⟩, false, [], 0, [], [], []⟩
def newS (c : Cf) : St := if c.ok then ⟨c, false, List.replicate (cWords c).toNat 0, 0, [], if 0 < c.large then [cLarge c] else [], List.replicate c.slots.toNat (false, 0, 0)⟩ else noSt
def nwE (c : Cf) : Int := if c.ok then 0 else 1

def CheckC (f : FuncId) : Prop := ∀ (s : St) (vw vt vf vs : Value) (B : Nat) (w : World), Rd w B s vw vt vf vs → B ≤ w.heap.size → StOk s → Par w →
  Calls Tryz.prog f #[.agg #[.int .i64 s.cf.semi, .int .i64 s.cf.large, .int .i64 s.cf.slots, .int .i64 s.cf.limit, .bool s.sec, vw, .int .i64 s.top, vt, vf, vs]] w fun e w' => e = .returned (.int .i64 (chkS s)) ∧ Only nob w w'
def ObjectsC (f : FuncId) : Prop := ∀ (s : St) (vw vt vf vs : Value) (B : Nat) (w : World), Rd w B s vw vt vf vs → B ≤ w.heap.size → StOk s → Par w →
  Calls Tryz.prog f #[.agg #[.int .i64 s.cf.semi, .int .i64 s.cf.large, .int .i64 s.cf.slots, .int .i64 s.cf.limit, .bool s.sec, vw, .int .i64 s.top, vt, vf, vs]] w fun e w' => ∃ v', e = .returned (.tuple #[v', .int .i64 (obE s)]) ∧ Sl w' w'.heap.size 1 v' (obL s).length (i64s (obL s)) ∧ Only nob w w'
def HeadC (f : FuncId) : Prop := ∀ (s : St) (a : Int) (vw vt vf vs : Value) (B : Nat) (w : World), Rd w B s vw vt vf vs → B ≤ w.heap.size → StOk s → Par w →
  Calls Tryz.prog f #[.agg #[.int .i64 s.cf.semi, .int .i64 s.cf.large, .int .i64 s.cf.slots, .int .i64 s.cf.limit, .bool s.sec, vw, .int .i64 s.top, vt, vf, vs], .int .i64 a] w fun e w' => e = .returned (.tuple #[.agg #[.int .i64 (ohK s.ws a), .int .i64 (ohF s.ws a), .int .i64 (ohR s.ws a), .bool (ohM s.ws a), .int .i64 (ohC s.ws a)], .int .i64 (ohE s.ws a)]) ∧ Only nob w w'
def UsedC15 (f : FuncId) : Prop := ∀ (s : St) (vw vt vf vs : Value) (w : World), StOk s →
  Calls Tryz.prog f #[.agg #[.int .i64 s.cf.semi, .int .i64 s.cf.large, .int .i64 s.cf.slots, .int .i64 s.cf.limit, .bool s.sec, vw, .int .i64 s.top, vt, vf, vs]] w fun e w' => e = .returned (.int .i64 (usT s)) ∧ Only nob w w'
def SameC (f : FuncId) : Prop := ∀ (s t : St) (vw vt vf vs uw ut uf us : Value) (B B' : Nat) (w : World), Rd w B s vw vt vf vs → Rd w B' t uw ut uf us → B ≤ w.heap.size → B' ≤ w.heap.size →
  Calls Tryz.prog f #[.agg #[.int .i64 s.cf.semi, .int .i64 s.cf.large, .int .i64 s.cf.slots, .int .i64 s.cf.limit, .bool s.sec, vw, .int .i64 s.top, vt, vf, vs], .agg #[.int .i64 t.cf.semi, .int .i64 t.cf.large, .int .i64 t.cf.slots, .int .i64 t.cf.limit, .bool t.sec, uw, .int .i64 t.top, ut, uf, us]] w fun e w' => e = .returned (.bool (sameS s t)) ∧ Only nob w w'
def NewC15 (f : FuncId) : Prop := ∀ (c : Cf) (w : World), CFit c →
  Calls Tryz.prog f #[.agg #[.int .i64 c.semi, .int .i64 c.large, .int .i64 c.slots, .int .i64 c.limit]] w fun e w' => ∃ s vw vt vf vs, s = newS c ∧ e = .returned (.tuple #[.agg #[.int .i64 s.cf.semi, .int .i64 s.cf.large, .int .i64 s.cf.slots, .int .i64 s.cf.limit, .bool s.sec, vw, .int .i64 s.top, vt, vf, vs], .int .i64 (nwE c)]) ∧ Rd w' w'.heap.size s vw vt vf vs ∧ Only nob w w'
/-- Lists of the call's own, no two of which lie in one row. -/
structure Own4 (w : World) (base : Nat) (s : St) (vw vt vf vs : Value) : Prop where
  words : w.ownsRow base 48 1 vw s.ws.length (u64s s.ws)
  tab : w.ownsRow base 50 2 vt s.tb.length (spc s.tb)
  free : w.ownsRow base 50 2 vf s.fr.length (spc s.fr)
  slots : w.ownsRow base 52 3 vs s.sl.length (slc s.sl)
  apart : ∀ k, vt.ownBlock = some k → vf.ownBlock ≠ some k
def CopyC (f : FuncId) : Prop := ∀ (s : St) (vw vt vf vs : Value) (B : Nat) (w : World), Rd w B s vw vt vf vs → B ≤ w.heap.size → StOk s →
  Calls Tryz.prog f #[.agg #[.int .i64 s.cf.semi, .int .i64 s.cf.large, .int .i64 s.cf.slots, .int .i64 s.cf.limit, .bool s.sec, vw, .int .i64 s.top, vt, vf, vs]] w fun e w' => ∃ uw ut uf us, e = .returned (.agg #[.int .i64 s.cf.semi, .int .i64 s.cf.large, .int .i64 s.cf.slots, .int .i64 s.cf.limit, .bool s.sec, uw, .int .i64 s.top, ut, uf, us]) ∧ Own4 w' w.heap.size s uw ut uf us ∧ Only nob w w'
end Go.Proofs.YtciidodmhigpdaaGreatDoor

/- New heaps may be; the heaps of the chapter's example. No program in it. -/
namespace Go.Proofs.YtciidodmhigpdaaGreatDoor
open Go.RowKit

theorem cWords_ok {c : Cf} (h : c.ok) : cWords c = c.semi + c.semi + c.large ∧ 0 ≤ cWords c ∧ cWords c ≤ 98304 := by
  unfold cWords
  rw [if_pos h]
  unfold Cf.ok at h
  omega
theorem cFrom_first {c : Cf} (h : c.ok) : cFrom c false = (0, c.semi) := by
  unfold cFrom cHalf
  simp [h]
theorem steps_none (h : Int → Hd) (x : Sp) : walkL h x x.1 = [] ∨ walkL h x x.1 = [badIt] := by
  unfold walkL
  split
  · exact .inl (tr_end (by omega))
  · exact .inr rfl
theorem tableP_none {x : Sp} (h : ¬ x.ok) : TableP x [] [] :=
  ⟨(fun _ h => by cases h), List.Pairwise.nil, ⟨(fun _ h => by cases h), List.Pairwise.nil⟩, ⟨(fun _ h => by cases h), List.Pairwise.nil⟩, fun p => ⟨fun ⟨_, h, _⟩ => (by cases h), fun ⟨h1, _⟩ => absurd h1.1 h⟩⟩
theorem tableP_all {x : Sp} (h : x.ok) : TableP x [] [x] :=
  ⟨(fun _ h => by cases h), List.Pairwise.nil, ⟨(fun _ h => by cases h), List.Pairwise.nil⟩, ⟨(fun y hy => by rw [List.mem_singleton.1 hy]; exact h), List.pairwise_singleton _ _⟩, fun p => ⟨fun ⟨y, hy, hp⟩ => ⟨by rw [← List.mem_singleton.1 hy]; exact hp, fun ⟨_, h, _⟩ => by cases h⟩, fun ⟨h1, _⟩ => ⟨x, List.mem_singleton.2 rfl, h1⟩⟩⟩
theorem newS_ok {c : Cf} (h : c.ok) : newS c = ⟨c, false, List.replicate (cWords c).toNat 0, 0, [], if 0 < c.large then [cLarge c] else [], List.replicate c.slots.toNat (false, 0, 0)⟩ := by unfold newS; rw [if_pos h]
theorem cLarge_ok {c : Cf} (h : c.ok) (h0 : 0 < c.large) : Sp.ok (cLarge c) := by
  have h' := h
  unfold Cf.ok at h'
  unfold cLarge
  rw [if_pos ⟨h, by omega⟩]
  unfold Sp.ok most
  simp only
  omega
/-- New heaps may be. -/
theorem may_new {c : Cf} (h : c.ok) : May15 (newS c) := by
  rw [newS_ok h]
  have h' := h
  unfold Cf.ok at h'
  have hw := cWords_ok h
  have hfr : cFrom c false = (0, c.semi) := cFrom_first h
  have hst : St.steps ⟨c, false, List.replicate (cWords c).toNat 0, 0, [], if 0 < c.large then [cLarge c] else [], List.replicate c.slots.toNat (false, 0, 0)⟩ = [] := by
    unfold St.steps St.frm walkL
    simp only [hfr]
    rw [if_pos (by unfold may9 Sp.ok most; simp only; omega)]
    exact tr_end (by omega)
  have hob : St.objs ⟨c, false, List.replicate (cWords c).toNat 0, 0, [], if 0 < c.large then [cLarge c] else [], List.replicate c.slots.toNat (false, 0, 0)⟩ = [] := by
    unfold St.objs St.smalls
    rw [hst]
    rfl
  refine ⟨h, ?_, ?_, ?_, ?_, ?_, ?_, ?_, ?_⟩
  · show ((List.replicate (cWords c).toNat 0).length : Int) = cWords c
    rw [List.length_replicate]; omega
  · unfold r3 St.frm
    simp only [hfr]
    exact decide_eq_true (by omega)
  · rw [hst]; rfl
  · unfold r5 St.smalls
    rw [hst]; rfl
  · unfold r6
    rw [Bool.and_eq_true]
    refine ⟨?_, rfl⟩
    rw [decide_eq_true_iff]
    show TableP (cLarge c) [] (if 0 < c.large then [cLarge c] else [])
    split
    · exact tableP_all (cLarge_ok h (by assumption))
    · refine tableP_none fun e => ?_
      unfold cLarge at e
      rw [if_neg (by omega)] at e
      unfold Sp.ok at e
      simp only at e
      omega
  · unfold r7
    show rightS dE (List.replicate c.slots.toNat ((false, 0, 0) : Slt)) c.slots = true
    refine rightS_yes (by rw [List.length_replicate]; omega) fun j y hj hy => ?_
    have := List.mem_of_getElem? hy
    rw [List.mem_replicate] at this
    rw [this.2]
    exact rslot_free (by omega)
  · unfold r8
    rw [hob]; rfl
  · unfold r9
    rw [List.all_eq_true]
    intro t ht
    have ht' : t ∈ List.replicate c.slots.toNat ((false, 0, 0) : Slt) := ht
    rw [List.mem_replicate] at ht'
    rw [ht'.2]; rfl
theorem stOk_new (c : Cf) (hc : CFit c) : StOk (newS c) := by
  unfold newS
  split
  · rename_i h
    have h' := h
    unfold Cf.ok at h'
    have hw := cWords_ok h
    refine ⟨hc, ?_, (show I64 0 by unfold I64; omega), (fun _ h => by cases h), ?_, ?_, ?_⟩
    · intro x hx
      have hx' : x ∈ List.replicate (cWords c).toNat 0 := hx
      rw [(List.mem_replicate.1 hx').2]; decide
    · intro x hx
      have hx' : x ∈ (if 0 < c.large then [cLarge c] else []) := hx
      split at hx'
      · rw [List.mem_singleton.1 hx']
        unfold cLarge I64
        rw [if_pos ⟨h, by omega⟩]
        simp only
        omega
      · cases hx'
    · intro x hx
      have hx' : x ∈ List.replicate c.slots.toNat ((false, 0, 0) : Slt) := hx
      rw [(List.mem_replicate.1 hx').2]
      exact ⟨by simp, by simp, by decide⟩
    · refine ⟨?_, by simp, ?_, ?_⟩
      · show (List.replicate (cWords c).toNat 0).length ≤ _
        rw [List.length_replicate]; omega
      · show (if 0 < c.large then [cLarge c] else []).length ≤ _
        split <;> simp
      · show (List.replicate c.slots.toNat ((false, 0, 0) : Slt)).length ≤ _
        rw [List.length_replicate]; omega
  · exact ⟨⟨by unfold I64 noSt; simp, by unfold I64 noSt; simp, by unfold I64 noSt; simp, by unfold I64 noSt; simp⟩, (fun _ h => by cases h), (by unfold I64 noSt; simp), (fun _ h => by cases h), (fun _ h => by cases h), (fun _ h => by cases h), by unfold noSt; simp⟩
theorem chkS_new {c : Cf} (h : c.ok) : chkS (newS c) = 0 := chkS_iff.2 (may_new h)
end Go.Proofs.YtciidodmhigpdaaGreatDoor
