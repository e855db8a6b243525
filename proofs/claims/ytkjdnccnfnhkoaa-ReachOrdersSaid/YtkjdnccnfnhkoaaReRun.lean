/- Package reach: a plan's run, whatever tells what is looked at next. -/
import Derived.Test.YtkjdnccnfnhkoaaReFollow
namespace Go.Proofs.Ytkjdnccnfnhkoaa
open Go.RowKit Go.Lib
set_option maxRecDepth 100000
set_option linter.unusedSimpArgs false
set_option linter.unusedVariables false

/-- The least number that p tells. -/
theorem least_ex {p : Nat → Prop} : ∀ n, p n → ∃ m, p m ∧ ∀ k, p k → m ≤ k := by
  intro n
  induction n using Nat.strongRecOn with
  | ind n ih =>
    intro h
    by_cases hk : ∃ k, k < n ∧ p k
    · obtain ⟨k, hlt, hp⟩ := hk
      exact ih k hlt hp
    · exact ⟨n, h, fun k hp => Nat.le_of_not_lt fun hlt => hk ⟨k, hlt, hp⟩⟩
noncomputable def leastN (p : Nat → Prop) : Nat := open Classical in if h : ∃ m, p m ∧ ∀ k, p k → m ≤ k then Classical.choose h else 0
theorem leastN_is {p : Nat → Prop} (h : ∃ n, p n) : p (leastN p) := by
  obtain ⟨n, hn⟩ := h
  have hx := least_ex n hn
  unfold leastN
  rw [dif_pos hx]
  exact (Classical.choose_spec hx).1
theorem leastN_le {p : Nat → Prop} {n : Nat} (h : p n) : leastN p ≤ n := by
  have hx := least_ex n h
  unfold leastN
  rw [dif_pos hx]
  exact (Classical.choose_spec hx).2 n h
/-- Blocks from 'base' on. -/
def geB (base : Nat) (k : Nat) : Prop := base ≤ k
def followQ (q : QSt) (l : List Sp) : QSt := withAh q (refsOf l ++ q.ah)
def offQ (q : QSt) : QSt := { q with s := { q.s with pile := q.s.pile.dropLast } }
/-- A run of n steps; G holds of each state from which it goes on. -/
inductive RunQ (g : Gr) (nx : QSt → Option Int × QSt) (G : QSt → Prop) : Nat → QSt → QSt → Prop
  | stop {q : QSt} : G q → (nx q).1 = none → (nx q).2.s.pile.getLast? = none → RunQ g nx G 0 q (offQ (nx q).2)
  | small {q e : QSt} {i : Int} {n : Nat} : G q → (nx q).1 = some i → (0 ≤ i ∧ i < (g.nd.length : Int)) → (fsAt g i).length + (nx q).2.ah.length ≤ 16000000000 → RunQ g nx G n (followQ (nx q).2 (fsAt g i)) e → RunQ g nx G (n + 1) q e
  | large {q e : QSt} {k : Int} {n : Nat} : G q → (nx q).1 = none → (nx q).2.s.pile.getLast? = some k → (0 ≤ k ∧ k < (g.nd.length : Int)) → (fsAt g k).length + (offQ (nx q).2).ah.length ≤ 16000000000 → RunQ g nx G n (followQ (offQ (nx q).2) (fsAt g k)) e → RunQ g nx G (n + 1) q e
/-- What a run is asked of: what is looked at next, the pile, the references put ahead. -/
structure RunC (b base B : Nat) (g : Gr) (vn vr : Value) (nf : FuncId) (rp : Addr) (nx : QSt → Option Int × QSt) (G : QSt → Prop) (R : World → QSt → Prop) : Prop where
  enters : ∀ args w, (callFunc nf args).run Try.prog w = .ok (.enter nf args) w
  next : ∀ W q, base ≤ W.heap.size → R W q → G q → Calls Try.prog nf #[.pointer (some rp)] W fun e w' => e = .returned (.tuple #[.int .i64 ((nx q).1.getD 0), .bool (nx q).1.isSome]) ∧ R w' (nx q).2 ∧ Only (geB base) W w'
  off : ∀ W q, base ≤ W.heap.size → R W q → Calls Try.prog 37 #[.pointer (some ⟨b, 0, none⟩)] W fun e w' => e = .returned (.tuple #[.int .i64 (q.s.pile.getLast?.getD 0), .bool q.s.pile.getLast?.isSome]) ∧ R w' (offQ q) ∧ Only (geB base) W w'
  fol : ∀ W q A c l, base ≤ W.heap.size → R W q → Sl W B 2 (.slice A l.length c) l.length (spc l) → l.length + q.ah.length ≤ 16000000000 → Calls Try.prog 36 #[.pointer (some ⟨b, 0, none⟩), .slice A l.length c] W fun e w' => e = .returned (.tuple #[]) ∧ R w' (followQ q l) ∧ Only (geB base) W w'
  cn : ∀ W q, R W q → W.cell? ⟨b, 0, none⟩ = some vn ∧ W.cell? ⟨b, 1, none⟩ = some vr
theorem fs_at17 {g : Gr} {n : Nat} {d : Nd} (h : g.nd[n]? = some d) : fsAt g (n : Int) = d.fs := by
  unfold fsAt ndAt
  rw [Int.toNat_natCast, List.getD_eq_getElem?_getD, h]; rfl
set_option maxHeartbeats 4000000 in
theorem run17 (b base B : Nat) (g : Gr) (vn vr : Value) (hs : List (Value × Value)) (nf : FuncId) (rp : Addr) (nx : QSt → Option Int × QSt) (G : QSt → Prop) (R : World → QSt → Prop) (C : RunC b base B g vn vr nf rp nx G R) (hB : B ≤ base)
    (W : World) (q e : QSt) (n : Nat) (hR : R W q) (hr : RdG W B g vn vr hs) (hbase : base ≤ W.heap.size) (hrun : RunQ g nx G n (followQ q g.rt) e) (hrt : g.rt.length + q.ah.length ≤ 16000000000) :
    Calls Try.prog 21 #[.pointer (some ⟨b, 0, none⟩), .func (.func nf) #[.pointer (some rp)] #[]] W fun en w' => en = .returned (.tuple #[]) ∧ R w' e ∧ Only (geB base) W w' := by
  have HC := Lib.hid C
  have HG := Lib.hid hr
  have HRUN := Lib.hid hrun
  have HBB := Lib.hid (And.intro hB hbase)
  have hen := C.enters
  obtain ⟨An, cn, rfl, hacn, hcmn⟩ := hr.nodes.form
  obtain ⟨Ar, cr, rfl, hacr, hcmr⟩ := hr.roots.form
  obtain ⟨c0, c1⟩ := C.cn W q hR
  have HF := Lib.hid (C.fol W q Ar cr g.rt hbase hR hr.roots hrt)
  unfold maxLen at hcmn
  clear hrun C hR hr hB hbase c0 hacr hcmr hrt
  go_enter Try.func21, Try.ntmps21
  go_wp2_with fail
  go_at_call 36
  refine HF.out.mono ?_
  rintro en w1 ⟨rfl, hR1, o1⟩
  have HR1 := Lib.hid hR1
  have HO1 := Lib.hid o1
  clear c1 hR1 o1 HF
  go_wp2_with fail
  go_loopw [4, 5] (fun _ _ wr => Hid (∃ n, ∃ q, R wr q ∧ RunQ g nx G n q e) ∧ Hid (Only (geB base) W wr)) (fun _ _ wr => leastN fun n => ∃ q, R wr q ∧ RunQ g nx G n q e)
  case atStart => exact ⟨Lib.hid ⟨n, _, HR1.out, HRUN.out⟩, HO1⟩
  case round =>
    obtain ⟨HP, HO⟩ := hrel
    obtain ⟨m, hm⟩ : ∃ m, m = leastN fun n => ∃ q, R wr q ∧ RunQ g nx G n q e := ⟨_, rfl⟩
    have HM := Lib.hid hm
    have hmin := leastN_is HP.out
    rw [← hm] at hmin
    obtain ⟨q1, hR2, hr2⟩ := hmin
    have hbw := Lib.hid (Nat.le_trans HBB.out.2 HO.out.size)
    have HR2 := Lib.hid hR2
    clear hm hR2 HP
    cases hr2 with
    | stop h0 h1 h2 =>
      have HN := Lib.hid (HC.out.next wr q1 hbw.out HR2.out h0)
      have H2 := Lib.hid h2
      rw [h1] at HN
      simp only [Option.getD_none, Option.isSome_none] at HN
      clear h1 h2
      go_wp2_with fail
      refine HN.out.mono ?_
      rintro en w2 ⟨rfl, hR3, o2⟩
      have HO2 := Lib.hid (HO.out.trans o2)
      have HOF := Lib.hid (HC.out.off w2 _ (Nat.le_trans HBB.out.2 HO2.out.size) hR3)
      rw [H2.out] at HOF
      simp only [Option.getD_none, Option.isSome_none] at HOF
      clear hR3 o2
      go_wp2_with fail
      go_at_call 37
      refine HOF.out.mono ?_
      rintro en w3 ⟨rfl, hR4, o3⟩
      have HR4 := Lib.hid hR4
      have HO3 := Lib.hid (HO2.out.trans o3)
      clear hR4 o3
      go_wp2
      exact bodyPost_ret (results_none rfl _ _ _) rfl ⟨rfl, HR4.out, HO3.out⟩
    | @small _ _ i _ h0 h1 h2 h22 h3 =>
      have HN := Lib.hid (HC.out.next wr q1 hbw.out HR2.out h0)
      rw [h1] at HN
      simp only [Option.getD_some, Option.isSome_some] at HN
      clear h1
      go_wp2_with fail
      refine HN.out.mono ?_
      rintro en w2 ⟨rfl, hR3, o2⟩
      have HO2 := Lib.hid (HO.out.trans o2)
      have HR3 := Lib.hid hR3
      clear hR3 o2
      obtain ⟨k, rfl⟩ : ∃ k : Nat, i = k := ⟨i.toNat, by have := h2; omega⟩
      have hlt : k < g.nd.length := by have := h2; omega
      obtain ⟨d, hd⟩ : ∃ d, g.nd[k]? = some d := ⟨_, List.getElem?_eq_getElem hlt⟩
      have HBl := Lib.hid (show Below B W w2 from HO2.out.below (Nat.le_trans HBB.out.1 HBB.out.2) fun _ hk => Nat.le_trans HBB.out.1 hk)
      obtain ⟨bb, oo, fv, rv, hA, hbb, hh', g0, g1, g2, hnd⟩ := HG.out.at_ HBl.out hd
      obtain ⟨Af, cf, hfv, hafc, hcfm⟩ := hnd.fields.form
      simp only at hfv
      subst hfv
      subst hA
      obtain ⟨c0, c1⟩ := HC.out.cn w2 _ HR3.out
      have HFS := Lib.hid (fs_at17 hd)
      have HFO := Lib.hid (HC.out.fol w2 _ Af cf d.fs (Nat.le_trans HBB.out.2 HO2.out.size) HR3.out hnd.fields (by rw [← HFS.out]; exact h22))
      have HRX := Lib.hid h3
      clear g0 g2 hnd hh' hbb hd hafc hcfm c1
      go_wp2_with fail
      go_at_call 36
      refine HFO.out.mono ?_
      rintro en w5 ⟨rfl, hR5, o5⟩
      have HR5 := Lib.hid hR5
      have HO5 := Lib.hid (HO2.out.trans o5)
      rw [← HFS.out] at HR5
      clear hR5 o5 c0 g1
      go_wp2
      go_roundw
      case rel => exact ⟨Lib.hid ⟨_, _, HR5.out, HRX.out⟩, HO5⟩
      case measure =>
        rw [← HM.out]
        exact Nat.lt_of_le_of_lt (leastN_le ⟨_, HR5.out, HRX.out⟩) (Nat.lt_succ_self _)
    | @large _ _ i _ h0 h1 h2 h3 h33 h4 =>
      have HN := Lib.hid (HC.out.next wr q1 hbw.out HR2.out h0)
      have H2 := Lib.hid h2
      rw [h1] at HN
      simp only [Option.getD_none, Option.isSome_none] at HN
      clear h1 h2
      go_wp2_with fail
      refine HN.out.mono ?_
      rintro en w2 ⟨rfl, hR3, o2⟩
      have HO2 := Lib.hid (HO.out.trans o2)
      have HOF := Lib.hid (HC.out.off w2 _ (Nat.le_trans HBB.out.2 HO2.out.size) hR3)
      rw [H2.out] at HOF
      simp only [Option.getD_some, Option.isSome_some] at HOF
      clear hR3 o2
      go_wp2_with fail
      go_at_call 37
      refine HOF.out.mono ?_
      rintro en w3 ⟨rfl, hR4, o3⟩
      have HR4 := Lib.hid hR4
      have HO3 := Lib.hid (HO2.out.trans o3)
      clear hR4 o3 HOF H2
      obtain ⟨k, rfl⟩ : ∃ k : Nat, i = k := ⟨i.toNat, by have := h3; omega⟩
      have hlt : k < g.nd.length := by have := h3; omega
      obtain ⟨d, hd⟩ : ∃ d, g.nd[k]? = some d := ⟨_, List.getElem?_eq_getElem hlt⟩
      have HBl := Lib.hid (show Below B W w3 from HO3.out.below (Nat.le_trans HBB.out.1 HBB.out.2) fun _ hk => Nat.le_trans HBB.out.1 hk)
      obtain ⟨bb, oo, fv, rv, hA, hbb, hh', g0, g1, g2, hnd⟩ := HG.out.at_ HBl.out hd
      obtain ⟨Af, cf, hfv, hafc, hcfm⟩ := hnd.fields.form
      simp only at hfv
      subst hfv
      subst hA
      obtain ⟨c0, c1⟩ := HC.out.cn w3 _ HR4.out
      have HFS := Lib.hid (fs_at17 hd)
      have HFO := Lib.hid (HC.out.fol w3 _ Af cf d.fs (Nat.le_trans HBB.out.2 HO3.out.size) HR4.out hnd.fields (by rw [← HFS.out]; exact h33))
      have HRX := Lib.hid h4
      clear g0 g2 hnd hh' hbb hd hafc hcfm c1
      go_wp2_with fail
      go_at_call 36
      refine HFO.out.mono ?_
      rintro en w5 ⟨rfl, hR5, o5⟩
      have HR5 := Lib.hid hR5
      have HO5 := Lib.hid (HO3.out.trans o5)
      rw [← HFS.out] at HR5
      clear hR5 o5 c0 g1
      go_wp2
      go_roundw
      case rel => exact ⟨Lib.hid ⟨_, _, HR5.out, HRX.out⟩, HO5⟩
      case measure =>
        rw [← HM.out]
        exact Nat.lt_of_le_of_lt (leastN_le ⟨_, HR5.out, HRX.out⟩) (Nat.lt_succ_self _)
end Go.Proofs.Ytkjdnccnfnhkoaa
