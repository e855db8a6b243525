/- For RootsOnce: a table with its told handles stays right; rows of marks; where the rows lie. -/
import Derived.Test.YtcfiimedmhohaaaRootLaw3
namespace Go.Proofs.Ytcfiimedmhohaaa
open Go.RowKit
set_option maxRecDepth 100000

/-- All slots are right. -/
def AllR (l : List Slt) : Prop := ∀ s ∈ l, rightSlot dE s = true
theorem allR_of {l : List Slt} {n : Int} (h : rightS dE l n = true) : AllR l ∧ (l.length : Int) = n ∧ 1 ≤ n ∧ n ≤ 1024 := by
  unfold rightS at h
  rw [Bool.and_eq_true, decide_eq_true_iff, List.all_eq_true] at h
  exact ⟨h.2, h.1⟩
theorem rightS_of {l : List Slt} (h : AllR l) (h1 : 1 ≤ l.length) (h2 : l.length ≤ 1024) : rightS dE l l.length = true := rightS_yes (by omega) fun _ y _ hy => h y (List.mem_of_getElem? hy)
theorem allR_gen {l : List Slt} (h : AllR l) : ∀ s ∈ l, 0 ≤ s.2.1 := fun s hs => by
  have := h s hs
  obtain ⟨u, g, x⟩ := s
  unfold rightSlot Slt.good at this
  rcases u with _ | _
  · simp at this; exact this.1.1.1
  · simp at this; exact this.1.1
theorem AllR.set {l : List Slt} (h : AllR l) (k : Nat) {s : Slt} (hs : rightSlot dE s = true) : AllR (l.set k s) := fun y hy => by
  rcases List.mem_or_eq_of_mem_set hy with hy | rfl
  · exact h y hy
  · exact hs
theorem dE_odd (k : Nat) : dE ((4 * k + 1 : Nat) : Int) = 0 := by unfold dE; rw [if_pos]; right; left; omega
theorem rslot_put {g : Int} (h : 0 ≤ g ∧ g < 1099511627776) (k : Nat) : rightSlot dE (true, g, 4 * k + 1) = true := by
  rw [rslot_used (decide_eq_true h), dE_odd]; rfl
theorem rslot_drop {g : Int} (h : 0 ≤ g ∧ g < 1099511627776) : rightSlot dE (false, g + 1, 0) = true := rslot_free (by omega)

/-- Marks as cells. -/
def bls (l : List Bool) : List Value := l.map Value.bool
theorem bls_append (l m : List Bool) : bls (l ++ m) = bls l ++ bls m := by simp [bls]
theorem bls_one (l : List Bool) : ∀ v ∈ bls l, v.oneCell' = true := by
  intro v hv
  simp only [bls, List.mem_map] at hv
  obtain ⟨b, _, rfl⟩ := hv
  rfl
theorem bls_at {l : List Bool} {k : Nat} {b : Bool} (h : l[k]? = some b) : (bls l)[k]? = some (.bool b) := by simp [bls, h]
theorem bls_set (l : List Bool) (k : Nat) (b : Bool) : (bls l).set k (.bool b) = bls (l.set k b) := by simp [bls, List.map_set]
def liveL (ts : List Tld) : List Bool := ts.map (·.2.2)
def toldL (ts : List Tld) : List Int := ts.map tH
theorem info_bool14 : (Try.prog.info? 4).map (fun i => (i.zero, i.size, i.bytes)) = some (some (.bool false), 1, 1) := by kernel_rfl
theorem one_bool (w : World) (b : Bool) : Sl (w.alloc (.cells #[.bool b] 4)) (w.heap.size + 1) 1 (.slice (some ⟨w.heap.size, 0, none⟩) 1 1) 1 (bls [b]) := by
  have := Sl.of_blk (size := 1) (n := 1) (c := 1) (Blk.new w 4 #[.bool b]) (by simp) (Nat.le_refl _) (by decide)
  simpa [bls] using this

/-- A slice's block is new since w, or that of v. -/
def FoS (w : World) (v v' : Value) : Prop := ∀ (b o n c : Nat), v' = .slice (some ⟨b, o, none⟩) n c → w.heap.size ≤ b ∨ ∃ o' n' c', v = .slice (some ⟨b, o', none⟩) n' c'
/-- Put, Drop, with where what they answer lies. -/
def PutF (f : FuncId) : Prop := ∀ (v : Value) (l : List Slt) (x B : Nat) (w : World), Sl w B 3 v l.length (slc l) → B ≤ w.heap.size → l.length ≤ 2000 → SlOk l → x < full →
  Calls Try.prog f #[v, .int .u64 (x : Nat)] w fun e w' => ∃ v', e = .returned (.tuple #[v', .int .i64 (putSH l), .int .i64 (putSE l)]) ∧ Sl w' w'.heap.size 3 v' (putSL l x).length (slc (putSL l x)) ∧ Only nob w w' ∧ FoS w v v'
def DropF (f : FuncId) : Prop := ∀ (v : Value) (l : List Slt) (h : Int) (B : Nat) (w : World), Sl w B 3 v l.length (slc l) → B ≤ w.heap.size → l.length ≤ 2000 → SlOk l →
  Calls Try.prog f #[v, .int .i64 h] w fun e w' => ∃ v', e = .returned (.tuple #[v', .int .i64 (getE l h)]) ∧ Sl w' w'.heap.size 3 v' (dropSL l h).length (slc (dropSL l h)) ∧ Only nob w w' ∧ FoS w v v'

/-- What holds ahead of each round of RootsOnce: the table, the handles that were told, which of them are alive. -/
structure On14 (w : World) (B : Nat) (L : List Slt) (ts : List Tld) (vL vT vA : Value) (wr : World) : Prop where
  tab : Sl wr wr.heap.size 3 vL L.length (slc L)
  told : wr.ownsRow B 3 1 vT ts.length (i64s (toldL ts))
  live : wr.ownsRow B 4 1 vA ts.length (bls (liveL ts))
  ap1 : ∀ (b o n c : Nat), vL = .slice (some ⟨b, o, none⟩) n c → vT.ownBlock ≠ some b ∧ vA.ownBlock ≠ some b
  ap2 : ∀ k, vT.ownBlock = some k → vA.ownBlock ≠ some k
  only : Only nob w wr
  wB : w.heap.size ≤ B
  base : B ≤ wr.heap.size
  pos : 0 < L.length
/-- A table that reads stays, where a row turns that it does not lie in. -/
theorem slc_row {w w' : World} {v u : Value} {L : List Slt} (h : Sl w w.heap.size 3 v L.length (slc L)) (o : Only (fun k => u.ownBlock = some k) w w') (ha : ∀ (b o n c : Nat), v = .slice (some ⟨b, o, none⟩) n c → u.ownBlock ≠ some b) : Sl w' w'.heap.size 3 v L.length (slc L) := by
  obtain ⟨A, c, rfl, h1, h2, h3, h4⟩ := h
  refine ⟨A, c, rfl, h1, h2, h3, fun hn => ?_⟩
  obtain ⟨b, oo, rfl, hb, hc⟩ := h4 hn
  exact ⟨b, oo, rfl, Nat.lt_of_lt_of_le hb o.size, fun k y hy => (o.cell (p := ⟨b, oo + k, none⟩) hb (ha b oo _ _ rfl)).trans (hc k y hy)⟩
section
variable {w wr wz : World} {B : Nat} {L L' : List Slt} {ts : List Tld} {vL vL' vT vT' vA vA' : Value}
theorem On14.old (h : On14 w B L ts vL vT vA wr) (o : Only nob wr wz) : On14 w B L ts vL vT vA wz :=
  ⟨(h.tab.below o.whole).more o.size, own_only h.told o (fun _ _ => id), own_only h.live o (fun _ _ => id), h.ap1, h.ap2, h.only.trans o, h.wB, Nat.le_trans h.base o.size, h.pos⟩
/-- Another table. -/
theorem On14.next (h : On14 w B L ts vL vT vA wr) (o : Only nob wr wz) (hs : Sl wz wz.heap.size 3 vL' L'.length (slc L')) (hf : FoS wr vL vL') (hp : 0 < L'.length) : On14 w B L' ts vL' vT vA wz := by
  have h2 := h.old o
  refine ⟨hs, h2.told, h2.live, fun b o' n c e => ?_, h.ap2, h2.only, h2.wB, h2.base, hp⟩
  rcases hf b o' n c e with hb | ⟨o'', n', c', e'⟩
  · exact ⟨fun e => by have := (own_lt h.told e).2; omega, fun e => by have := (own_lt h.live e).2; omega⟩
  · exact h.ap1 b o'' n' c' e'
/-- One that was told is no more alive. -/
theorem On14.mark (h : On14 w B L ts vL vT vA wr) {g c i : Nat} (e : vA = .slice (some ⟨g, 0, none⟩) ts.length c) {t : Tld} (ht : ts[i]? = some t) :
    On14 w B L (ts.set i (t.1, t.2.1, false)) vL vT vA (wr.setCell ⟨g, i, none⟩ (.bool false)) := by
  obtain ⟨hi, rfl⟩ := List.getElem?_eq_some_iff.1 ht
  have hB : vA.ownBlock = some g := by rw [e]; rfl
  have o : Only (fun k => vA.ownBlock = some k) wr (wr.setCell ⟨g, i, none⟩ (.bool false)) := (only_set wr g i _).mono fun k _ hk => by unfold isb at hk; rw [hk]; exact hB
  have hge := (own_lt h.live hB).1
  have htold : toldL (ts.set i (ts[i].1, ts[i].2.1, false)) = toldL ts := by
    unfold toldL
    rw [List.map_set]
    refine List.ext_getElem? fun j => ?_
    rw [List.getElem?_set]
    split
    · rename_i e1
      subst e1
      simp [hi, tH]
    · rfl
  have hlive : liveL (ts.set i (ts[i].1, ts[i].2.1, false)) = (liveL ts).set i false := by unfold liveL; rw [List.map_set]
  refine ⟨slc_row h.tab o (fun b o' n c' e' => (h.ap1 b o' n c' e').2), ?_, ?_, h.ap1, h.ap2, h.only.andThen o (fun j hj ej => by have h1 := (own_lt h.live ej).1; have := h.wB; omega), h.wB, Nat.le_trans h.base o.size, h.pos⟩
  · rw [htold, List.length_set]
    exact own_only h.told o fun k hk => h.ap2 k hk
  · rw [hlive, List.length_set, ← bls_set]
    have hl := h.live
    rw [e] at hl ⊢
    exact (hl.stored i (.bool false)).1
/-- One more was told. -/
theorem On14.tell (h : On14 w B L ts vL vT vA wr) {t : Tld} {w1 w2 w3 w4 : World} {o1 o2 : Obj} (e1 : w1 = wr.alloc o1) (r1 : w2.ownsRow B 3 1 vT' (ts.length + 1) (i64s (toldL ts) ++ i64s [tH t])) (f1 : Only (fun k => vT.ownBlock = some k) w1 w2) (n1 : vT'.ownBlock = vT.ownBlock ∨ vT'.ownBlock = some (wr.heap.size + 1))
    (e2 : w3 = w2.alloc o2) (r2 : w4.ownsRow B 4 1 vA' (ts.length + 1) (bls (liveL ts) ++ bls [t.2.2])) (f2 : Only (fun k => vA.ownBlock = some k) w3 w4) (n2 : vA'.ownBlock = vA.ownBlock ∨ vA'.ownBlock = some (w2.heap.size + 1)) :
    On14 w B L (ts ++ [t]) vL vT' vA' w4 := by
  subst e1 e2
  have a1 : Only nob wr (wr.alloc o1) := (Only.refl nob wr).alloc o1
  have a2 : Only nob w2 (w2.alloc o2) := (Only.refl nob w2).alloc o2
  have z1 : (wr.alloc o1).heap.size = wr.heap.size + 1 := by simp
  have z2 : (w2.alloc o2).heap.size = w2.heap.size + 1 := by simp
  have zz := f1.size
  have t1 := (h.tab.below a1.whole).more a1.size
  have t2 := slc_row t1 f1 (fun b o' n c e => (h.ap1 b o' n c e).1)
  have t3 := (t2.below a2.whole).more a2.size
  have t4 := slc_row t3 f2 (fun b o' n c e => (h.ap1 b o' n c e).2)
  have l2 := own_only (own_only h.live a1 (fun _ _ => id)) f1 (fun k hk e => h.ap2 k e hk)
  have lo : ∀ (b o n c : Nat), vL = .slice (some ⟨b, o, none⟩) n c → b < wr.heap.size := fun b o n c e => by
    obtain ⟨b', o', c', e', -, -, hb, -⟩ := h.tab.at_ h.pos
    rw [e] at e'
    obtain ⟨⟨rfl, rfl⟩, rfl, rfl⟩ := (by simpa using e' : (b = b' ∧ o = o') ∧ n = L.length ∧ c = c')
    exact hb
  have hAT : ∀ k, vT'.ownBlock = some k → vA.ownBlock ≠ some k := fun k hk e => by
    rcases n1 with n | n
    · rw [n] at hk; exact h.ap2 k hk e
    · rw [n] at hk
      have h1 := Option.some.inj hk
      have h2 := (own_lt h.live e).2
      omega
  refine ⟨t4, ?_, ?_, fun b o' n c e => ⟨fun e1 => ?_, fun e1 => ?_⟩, fun k hk e => ?_, ?_, h.wB, ?_, h.pos⟩
  · rw [show toldL (ts ++ [t]) = toldL ts ++ [tH t] by simp [toldL], i64s_append, List.length_append, List.length_singleton]
    exact own_only (own_only r1 a2 (fun _ _ => id)) f2 hAT
  · rw [show liveL (ts ++ [t]) = liveL ts ++ [t.2.2] by simp [liveL], bls_append, List.length_append, List.length_singleton]
    exact r2
  · have hb := lo b o' n c e
    rcases n1 with n | n
    · rw [n] at e1; exact (h.ap1 b _ _ _ e).1 e1
    · rw [n] at e1
      have := Option.some.inj e1
      omega
  · have hb := lo b o' n c e
    rcases n2 with n | n
    · rw [n] at e1; exact (h.ap1 b _ _ _ e).2 e1
    · rw [n] at e1
      have := Option.some.inj e1
      omega
  · rcases n2 with n | n
    · rw [n] at e; exact hAT k hk e
    · rw [n] at e
      have h1 := Option.some.inj e
      have h2 := (own_lt r1 hk).2
      omega
  · have b1 := h.base
    have b2 := h.wB
    refine ((h.only.trans a1).andThen f1 fun i hi e => ?_).trans a2 |>.andThen f2 fun i hi e => ?_
    · have := (own_lt h.told e).1; omega
    · have := (own_lt h.live e).1; omega
  · have b1 := h.base
    have z3 := f2.size
    omega
end
end Go.Proofs.Ytcfiimedmhohaaa
