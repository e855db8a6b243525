/- For the walk of LosKeeps: rows of marks, headers that come in, Put of any header. -/
import Derived.Test.YtoeccbbjncgmlaaGreatDoorLosLaw1
import Derived.Test.YtoeccbbjncgmlaaGreatDoorRef11
import Derived.Test.YtoeccbbjncgmlaaGreatDoorOpens
import Derived.Test.YtoeccbbjncgmlaaGreatDoorHeadLaw1
namespace Go.Proofs.YtoeccbbjncgmlaaGreatDoor
open Go.RowKit
set_option maxRecDepth 100000

/-- Which places are on a list, as cells. -/
def flags (n : Nat) (rs : List Nat) : Array Value := ((List.range n).map fun j => Value.bool (decide (j ∈ rs))).toArray
theorem flags_at {n : Nat} {rs : List Nat} {k : Nat} (h : k < n) : (flags n rs)[k]? = some (.bool (decide (k ∈ rs))) := by simp [flags, h]
theorem flags_put {n : Nat} {rs : List Nat} {k : Nat} : (flags n rs).setIfInBounds k (.bool true) = flags n (k :: rs) := by
  apply Array.ext'
  simp only [flags, Array.toList_setIfInBounds]
  apply List.ext_getElem?
  intro j
  rw [List.getElem?_set]
  by_cases e : k = j
  · subst e
    by_cases hj : k < n
    · simp [hj]
    · simp [hj]
  · rw [if_neg e]
    by_cases hj : j < n
    · simp [hj, Ne.symm e]
    · simp [hj]
theorem flags_again {n : Nat} {rs : List Nat} {k : Nat} (h : k ∈ rs) : flags n (k :: rs) = flags n rs := by
  unfold flags
  congr 2
  funext j
  congr 2
  by_cases e : j = k
  · subst e; simp [h]
  · simp [e]
theorem info_bool : (Tryz.prog.info? 4).map (fun i => (i.zero, i.size, i.bytes)) = some (some (.bool false), 1, 1) := by kernel_rfl
/-- make([]bool, n). -/
theorem make_bool (n : Nat) (hn : n ≤ 1000000) (w : World) : (Instr.makeSlice 40 (.int .i64 (n : Int)) (.int .i64 (n : Int))).run Tryz.prog w = .ok (.slice (some ⟨w.heap.size, 0, none⟩) n n) (w.alloc (.cells (flags n []) 4)) := by
  obtain ⟨i0, hi0, hz0, hz1, hz2⟩ := info_parts info_bool
  have h := run_make (P := Tryz.prog) w 40 4 i0 _ Tryz.underlying40 hi0 hz0 .i64 .i64 n n (by omega) (Int.le_refl _) (by rw [hz2]; omega) (by omega)
  rw [h]
  simp only [Int.toNat_natCast, hz1, Nat.mul_one]
  have e : madeCells (Value.bool false).cells n = flags n [] := by
    apply Array.ext'
    show (madeCells #[.bool false] n).toList = _
    rw [toList_madeCells_one]
    apply List.ext_getElem?
    intro j
    simp [flags, List.getElem?_replicate]
    split <;> simp_all
  rw [e]
/-- The marks, as a list. -/
def inL (qs : List Nat) (j : Nat) : Bool := decide (j ∈ qs)
theorem inL_cons (k : Nat) (qs : List Nat) : (fun j => if j = k then true else inL qs j) = inL (k :: qs) := by
  funext j
  unfold inL
  by_cases e : j = k
  · subst e; simp
  · simp [e]
theorem inL_nil : (fun _ : Nat => false) = inL [] := by funext j; simp [inL]

/-- Headers that come in. -/
def Hds (n : Nat) (xs : List Value) : Prop := ∀ i, i < n → ∃ (k f r : Int) (m : Bool) (c : Int), xs[i * 5]? = some (.int .i64 k) ∧ xs[i * 5 + 1]? = some (.int .i64 f) ∧ xs[i * 5 + 2]? = some (.int .i64 r) ∧ xs[i * 5 + 3]? = some (.bool m) ∧ xs[i * 5 + 4]? = some (.int .i64 c)

/-- A part, as the law has it: its table, what is free, its marks, its list; and the span of all its words in box qa. -/
structure Kp (all : Sp) (w : World) (p b g qa : Nat) (T F : List Sp) (ms : Nat → Bool) (qs : List Nat) (wr : World) : Prop where
  part : ∃ l vt vf, LoS all wr p b g T F ms qs l vt vf
  box : Blk wr qa 30 #[.int .i64 all.1, .int .i64 all.2]
  only : Only nob w wr
  par : Par wr
  qp : qa ≠ p
  qg : qa ≠ g
  wp : w.heap.size ≤ p
  wg : w.heap.size ≤ g
section
variable {all : Sp} {w wr wz : World} {p b g qa : Nat} {T F T' F' : List Sp} {ms ms' : Nat → Bool} {qs qs' : List Nat}
theorem Kp.keep (h : Kp all w p b g qa T F ms qs wr) (o : Only nob wr wz) : Kp all w p b g qa T F ms qs wz := by
  obtain ⟨l, vt, vf, h1⟩ := h.part
  exact ⟨⟨l, vt, vf, h1.keep o⟩, h.box.keep o id, h.only.trans o, h.par.old o, h.qp, h.qg, h.wp, h.wg⟩
theorem Kp.turn (h : Kp all w p b g qa T F ms qs wr) (h' : ∃ l vt vf, LoS all wz p b g T' F' ms' qs' l vt vf) (o : Only (pgb p g) wr wz) : Kp all w p b g qa T' F' ms' qs' wz := by
  obtain ⟨l, vt, vf, h1⟩ := h.part
  exact ⟨h', h.box.keep o (fun e => e.elim h.qp h.qg), h.only.pgb_new h.wp h.wg o, h.par.pg h1.lo o, h.qp, h.qg, h.wp, h.wg⟩
/-- A row of the law's own has turned. -/
theorem Kp.row {v : Value} {B : Nat} (h : Kp all w p b g qa T F ms qs wr) (hs : ∀ j, v.ownBlock = some j → B ≤ j) (o : Only (fun j => v.ownBlock = some j) wr wz) (hB : B ≤ wr.heap.size) (hw : w.heap.size ≤ B) {B0 : Nat} (h0 : B0 ≤ B)
    (hp : p < B) (hb : b < B) (hg : g < B) (hq : qa < B) (hpar : 0 < B) (ht : ∃ l vt vf, LoS all wr p b g T F ms qs l vt vf ∧ Sl wr B0 2 vt T.length (spc T) ∧ Sl wr B0 2 vf F.length (spc F)) : Kp all w p b g qa T F ms qs wz := by
  obtain ⟨l, vt, vf, h1, h2, h3⟩ := ht
  have hz := o.size
  refine ⟨⟨l, vt, vf, ⟨h1.lo.ar.keep o (fun e => by have := hs _ e; omega) (fun e => by have := hs _ e; omega), h1.lo.box.keep o (fun e => by have := hs _ e; omega), (h2.only o (by omega) fun j e => by have := hs j e; omega).more (by omega), (h3.only o (by omega) fun j e => by have := hs j e; omega).more (by omega)⟩, h1.los⟩, h.box.keep o (fun e => by have := hs _ e; omega), h.only.andThen o (fun i hi e => by have := hs i e; omega), ?_, h.qp, h.qg, h.wp, h.wg⟩
  obtain ⟨t, fr, hh⟩ := h.par
  exact ⟨t, fr, (o.block _ (Par.lt ⟨t, fr, hh⟩) fun e => by have := hs _ e; omega).trans hh⟩
end

/-- Put of any header that is not marked. -/
theorem kPut {all : Sp} {w : World} {p b g qa : Nat} {T F : List Sp} {wr : World} (h : Kp all w p b g qa T F (fun _ => false) [] wr) (hT : T.length ≤ 900) (k f r c : Int) :
    Calls Tryz.prog 7 #[.pointer (some ⟨p, 0, none⟩), .agg #[.int .i64 k, .int .i64 f, .int .i64 r, .bool false, .int .i64 c]] wr fun e w' => (∃ v, e = .returned v) ∧ ∃ T' F', T'.length ≤ T.length + 1 ∧ Kp all w p b g qa T' F' (fun _ => false) [] w' := by
  obtain ⟨l, vt, vf, h1⟩ := h.part
  have hF := h1.los.lenF
  have hno : putE F (hSz k f r c) ≠ 0 → Calls Tryz.prog 7 #[.pointer (some ⟨p, 0, none⟩), .agg #[.int .i64 k, .int .i64 f, .int .i64 r, .bool false, .int .i64 c]] wr fun e w' => (∃ v, e = .returned v) ∧ ∃ T' F', T'.length ≤ T.length + 1 ∧ Kp all w p b g qa T' F' (fun _ => false) [] w' := fun hn => by
    refine (lPut_no p b g l T F _ vt vf k f r false c wr h1.lo h.par h1.los.fitsF (by omega) hn).mono ?_
    rintro e w' ⟨rfl, o⟩
    exact ⟨⟨_, rfl⟩, T, F, by omega, h.keep o⟩
  rcases hm : hmay k f r c with _ | _
  · exact hno (by rw [hSz_no hm, putE_arg]; decide)
  · have hb := hmay_iff.1 hm
    rcases take_right (n := 1 + f + r) (table_right h1.los.tab) with ⟨-, e, h2, h3⟩ | ⟨-, -, a, s, h2, h3⟩
    · refine hno ?_
      rw [hSz_yes hm, putE_take (by omega), h2]
      show e ≠ 0
      omega
    · refine (sPut_ok h1 h.par (by omega) hm h2).mono ?_
      rintro e w' ⟨rfl, h4, o⟩
      exact ⟨⟨_, rfl⟩, _, a, by rw [insAt_len _ (placeT_le _ _)]; exact Nat.le_refl _, h.turn h4 o⟩
end Go.Proofs.YtoeccbbjncgmlaaGreatDoor
