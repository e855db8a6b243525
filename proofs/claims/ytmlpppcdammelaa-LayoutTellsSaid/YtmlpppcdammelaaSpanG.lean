/- Contract: the library's merge in place (symMerge), over a row of spans. -/
import Derived.Test.YtmlpppcdammelaaSpanF
namespace Go.Proofs.Ytmlpppcdammelaa
open Go.RowKit Go.Sort

section
variable {α : Type} [Inhabited α] {lt : α → α → Bool}
theorem Halves.leftNo {d e : Array α} {a mid b s en : Nat} (H : Halves lt d e a mid b s en) (h : s ≤ a ∨ mid ≤ s) : SortedIn lt a mid e := by
  have h1 := H.as
  have h2 := H.sm
  rcases h with h | h
  · obtain rfl : s = a := by omega
    exact H.s2
  · obtain rfl : s = mid := by omega
    exact H.s1
theorem Halves.left {d e : Array α} {a mid b s en : Nat} (H : Halves lt d e a mid b s en) (h1 : a < s) (h2 : s < mid) (hb : mid ≤ e.size) : Mrg lt e a s mid := ⟨h1, h2, hb, H.s1, H.s2⟩
theorem Halves.rightNo {d e f : Array α} {a mid b s en : Nat} (H : Halves lt d e a mid b s en) (hf : PermIn a mid e f) (h : en ≤ mid ∨ b ≤ en) : SortedIn lt mid b f := by
  have h1 := H.me
  have h2 := H.eb
  have hx : ∀ q, mid ≤ q → f[q]! = e[q]! := fun q hq => hf.2.1 q (.inr hq)
  rcases h with h | h
  · obtain rfl : en = mid := by omega
    exact sortedSame H.s4 fun q hq _ => hx q hq
  · obtain rfl : en = b := by omega
    exact sortedSame H.s3 fun q hq _ => hx q hq
theorem Halves.right {d e f : Array α} {a mid b s en : Nat} (H : Halves lt d e a mid b s en) (hf : PermIn a mid e f) (h1 : mid < en) (h2 : en < b) (hb : b ≤ e.size) : Mrg lt f mid en b := by
  have hx : ∀ q, mid ≤ q → f[q]! = e[q]! := fun q hq => hf.2.1 q (.inr hq)
  exact ⟨h1, h2, by rw [hf.1]; exact hb, sortedSame H.s3 fun q hq _ => hx q hq, sortedSame H.s4 fun q hq _ => hx q (by omega)⟩
theorem Halves.done {d e f k : Array α} {a mid b s en : Nat} (H : Halves lt d e a mid b s en) (hb : b ≤ d.size) (pf : PermIn a mid e f) (sf : SortedIn lt a mid f) (pk : PermIn mid b f k) (sk : SortedIn lt mid b k) : PermIn a b d k ∧ SortedIn lt a b k := by
  have h1 := H.as
  have h2 := H.sm
  have h3 := H.me
  have h4 := H.eb
  obtain ⟨p, s⟩ := join_halves (lt := lt) (by omega) (by omega) (by rw [H.perm.1]; exact hb) H.cross pf sf pk sk
  exact ⟨permTr H.perm p, s⟩
end

def MrgC (g o cap N K : Nat) : Prop := ∀ (a m b : Nat) (d : Array Sp) (w : World), b - a ≤ K → d.size = N → HoldsK enc 2 w g o d → g < w.heap.size → Mrg ltO d a m b →
    Calls Try.prog 41 #[.slice (some ⟨g, o, none⟩) N cap, .int .i64 a, .int .i64 m, .int .i64 b, ordV] w fun e w' => e = .returned (.tuple #[]) ∧ ∃ d', Sw w g o d' w' ∧ PermIn a b d d' ∧ SortedIn ltO a b d'

set_option maxRecDepth 100000 in
set_option maxHeartbeats 16000000 in
theorem symMore_any (g o cap N K : Nat) (IH : MrgC g o cap N K) (a m b : Nat) (d : Array Sp) (w : World) (hK : b - a ≤ K + 1) (hN : d.size = N) (hH : HoldsK enc 2 w g o d) (hg : g < w.heap.size) (hsz : N < 1099511627776) (M : Mrg ltO d a m b) (h0 : m ≠ a + 1) (h1 : b ≠ m + 1) :
    Calls Try.prog 41 #[.slice (some ⟨g, o, none⟩) N cap, .int .i64 a, .int .i64 m, .int .i64 b, ordV] w fun e w' => e = .returned (.tuple #[]) ∧ ∃ d', Sw w g o d' w' ∧ PermIn a b d d' ∧ SortedIn ltO a b d' := by
  have HN := Lib.hid hN
  have HH := Lib.hid hH
  have S0 := Lib.hid (show Sw w g o d w from SWK.start hH)
  have ham := M.am
  have hmb := M.mb
  have hbs : b ≤ N := by rw [← hN]; exact M.bs
  have e0 : ((m : Int) - (a : Int) == 1) = false := by rw [beq_eq_false_iff_ne]; omega
  have e1 : ((b : Int) - (m : Int) == 1) = false := by rw [beq_eq_false_iff_ne]; omega
  obtain ⟨mid, hmid⟩ : ∃ mid, mid = midI a b := ⟨_, rfl⟩
  have hz := st0_le ham hmb
  have hm1 : a < mid ∧ mid < b ∧ mid ≤ 1099511627776 := by rw [hmid]; unfold midI; omega
  have hmz : ((a : Int) + (b : Int)) / 2 = (mid : Int) := by rw [hmid]; unfold midI; omega
  have HMID := Lib.hid hmid
  have HM := Lib.hid M
  have hsr : (mid < m ∧ st0I a m b = mid + m - b ∧ r0I a m b = mid) ∨ (¬ mid < m ∧ st0I a m b = a ∧ r0I a m b = m) := by
    rw [hmid]
    unfold st0I r0I
    split
    · exact .inl ⟨by assumption, rfl, rfl⟩
    · exact .inr ⟨by assumption, rfl, rfl⟩
  obtain ⟨st0, hst0⟩ : ∃ z, z = st0I a m b := ⟨_, rfl⟩
  obtain ⟨r0, hr0⟩ : ∃ z, z = r0I a m b := ⟨_, rfl⟩
  have hq := Srch.start (lt := ltO) d (p := midI a b + m - 1) hz.1
  rw [← hst0, ← hr0, ← hmid] at hq hz
  rw [← hst0, ← hr0] at hsr
  have HQ := Lib.hid hq
  have HZ5 := Lib.hid hz.2.2.2.2
  have hz1 := hz.1
  have hz2 := hz.2.1
  have hz3 := hz.2.2.1
  have hz4 := hz.2.2.2.1
  have HST := Lib.hid (And.intro hst0 hr0)
  clear hH M h0 h1 hmid hq hz hst0 hr0 hN
  obtain ⟨st1, r1, HV, HQ1⟩ : ∃ st1 r1 : Nat, Hid ((mid < m ∧ (mid : Int) + (m : Int) - (b : Int) = (st1 : Int) ∧ r1 = mid) ∨ (¬ mid < m ∧ st1 = a ∧ r1 = m)) ∧ Hid (Srch ltO d st0 r0 (mid + m - 1) st1 r1) := by
    rcases hsr with ⟨hlm, hs0, hr⟩ | ⟨hlm, hs0, hr⟩
    · exact ⟨st0, r0, .inl ⟨hlm, by omega, hr⟩, HQ⟩
    · exact ⟨st0, r0, .inr ⟨hlm, hs0, hr⟩, HQ⟩
  clear hsr HQ
  by_cases hlm : mid < m
  case' pos =>
    have hst : (mid : Int) + (m : Int) - (b : Int) = (st1 : Int) := by rcases HV.out with ⟨_, h, _⟩ | ⟨h, _, _⟩; exact h; omega
    have HR1 := Lib.hid (show r1 = mid by rcases HV.out with ⟨_, _, h⟩ | ⟨h, _, _⟩; exact h; omega)
  case' neg =>
    have HS1 := Lib.hid (show st1 = a by rcases HV.out with ⟨h, _, _⟩ | ⟨_, h, _⟩; omega; exact h)
    have HR1 := Lib.hid (show r1 = m by rcases HV.out with ⟨h, _, _⟩ | ⟨_, _, h⟩; omega; exact h)
  all_goals
    clear HV
    go_enter Try.func41, Try.ntmps41
    go_wp2
    clear e0 e1 hmz hlm
    try clear hst
    go_loopw [20, 21] (fun vi vj wr => ∃ (st r : Nat), vi = .int .i64 st ∧ vj = .int .i64 r ∧ st0 ≤ st ∧ st ≤ r ∧ r ≤ r0 ∧ Hid (Sw w g o d wr) ∧ Hid (Srch ltO d st0 r0 (mid + m - 1) st r)) (fun vi vj _ => (intOf vj).toNat - (intOf vi).toNat)
    case atStart => first | exact ⟨st1, mid, rfl, rfl, HQ1.out.st_ge, by have := HQ1.out.st_le; have := HR1.out; omega, by have := HQ1.out.r_le; have := HR1.out; omega, S0, by have := HQ1; rw [HR1.out] at this; exact this⟩ | exact ⟨a, m, rfl, rfl, by have := HQ1.out.st_ge; have := HS1.out; omega, by have := HQ1.out.st_le; have := HS1.out; have := HR1.out; omega, by have := HQ1.out.r_le; have := HR1.out; omega, S0, by have := HQ1; rw [HR1.out, HS1.out] at this; exact this⟩
    case round =>
      clear S0 HR1 HQ1
      try clear HS1
      obtain ⟨st, r, rfl, rfl, b0, b1, b2, S1, Q1⟩ := hrel
      by_cases hlt : st < r
      · have hltz : (st : Int) < (r : Int) := by omega
        have HW := S1.out.holds hg HH.out rfl
        have hds := HN.out
        obtain ⟨c, hc⟩ : ∃ c, c = (st + r) / 2 := ⟨_, rfl⟩
        have c1 : st ≤ c := by omega
        have c2 : c < r := by omega
        have hcz : ((st : Int) + (r : Int)) / 2 = (c : Int) := by omega
        obtain ⟨pc, hpc⟩ : ∃ pc, pc = mid + m - 1 - c := ⟨_, rfl⟩
        have hp1 : m ≤ pc := by rw [hpc]; exact HZ5.out c (by omega)
        have hp2 : pc < b := by omega
        have hpz : (mid : Int) + (m : Int) - 1 - (c : Int) = (pc : Int) := by omega
        have hwp : IntKind.i64.wrap ((mid : Int) + (m : Int) - 1 - (c : Int)) = (pc : Int) := by rw [IntKind.wrap_i64]; omega
        have hwc : IntKind.i64.wrap (pc : Int) = (pc : Int) := by rw [IntKind.wrap_i64]; omega
        have xall := (cell2 HW (i := pc) (by omega)).all
        have yall := (cell2 HW (i := c) (by omega)).all
        have hcs : (c : Int) < (N : Int) := by omega
        have has : (pc : Int) < (N : Int) := by omega
        have HL := Lib.hid fun (hl : ltO d[pc]! d[c]! = false) => (show Srch ltO d st0 r0 (mid + m - 1) (c + 1) r by
          have q := Q1.out
          rw [HST.out.1, HST.out.2, HMID.out] at q ⊢
          exact Srch.up swo HM.out q c1 c2 (by rw [← HMID.out, ← hpc]; exact hl))
        have HR := Lib.hid fun (hl : ltO d[pc]! d[c]! = true) => (show Srch ltO d st0 r0 (mid + m - 1) st c by
          have q := Q1.out
          rw [HST.out.1, HST.out.2, HMID.out] at q ⊢
          exact Srch.down swo HM.out q c1 c2 (by rw [← HMID.out, ← hpc]; exact hl))
        obtain ⟨x, hx⟩ : ∃ x, x = d[pc]! := ⟨_, rfl⟩
        obtain ⟨y, hy⟩ : ∃ y, y = d[c]! := ⟨_, rfl⟩
        rw [← hx] at xall
        rw [← hy] at yall
        have HX := Lib.hid hx
        have HY := Lib.hid hy
        obtain ⟨x0, x1⟩ := xall
        obtain ⟨y0, y1⟩ := yall
        have mixed := mixed_
        clear HW hx hy hc hpc hds
        by_cases hlv : ordI x y < 0
        case' pos =>
          have H2 := Lib.hid (HR.out (by rw [← HX.out, ← HY.out]; exact decide_eq_true hlv))
          have hlw : decide (ordI x y < 0) = true := decide_eq_true (by omega)
        case' neg =>
          have H2 := Lib.hid (HL.out (by rw [← HX.out, ← HY.out]; exact decide_eq_false hlv))
          have hlw : decide (ordI x y < 0) = false := decide_eq_false (by omega)
        all_goals
          go_wp2_with fail
          go_quiet_grown (first | (go_at_call 36; with_reducible refine grw_of (order_any _ _ _)))
          obtain ⟨W3, hW3, HG⟩ := grown_name wr nq osq
          rw [hW3]
          clear hW3 x0 x1 y0 y1 hcz hpz hwp hwc
          have S3 := Lib.hid (sw_grw S1.out HG.out)
          go_wp2
          go_roundw
          case rel => first | exact ⟨c + 1, r, by go_num, rfl, by omega, by omega, by omega, S3, H2⟩ | exact ⟨st, c, rfl, rfl, by omega, by omega, by omega, S3, H2⟩
          case measure => simp [intOf]; omega
      · obtain rfl : st = r := by omega
        have hP : Parts ltO d a m b mid st (mid + m - st) := by
          have q := Q1.out
          rw [HST.out.1, HST.out.2, HMID.out] at q
          rw [HMID.out]
          exact Srch.parts swo HM.out q
        obtain ⟨en, hen⟩ : ∃ en, en = mid + m - st := ⟨_, rfl⟩
        rw [← hen] at hP
        have henz : (mid : Int) + (m : Int) - (st : Int) = (en : Int) := by omega
        have HEN := Lib.hid hen
        have q1 := hP.a_le
        have q2 := hP.s_le
        have q3 := hP.m_le
        have q4 := hP.e_le
        have q5 := hP.sum
        have HP := Lib.hid hP
        have HALF : Hid (∀ e : Array Sp, Rotd d e st m en → Halves ltO d e a mid b st en) := fun e R => by
          have hpm := permIn_mono d e st en a b q1 q4 (by rw [HN.out]; exact hbs) R.perm
          rw [HMID.out] at hP ⊢
          exact halves HM.out hP R hpm
        have ways : (¬ st < m ∧ st < mid) ∨ (¬ st < m ∧ ¬ st < mid) ∨ (st < m ∧ ¬ m < en) ∨ (st < m ∧ m < en ∧ a < st ∧ en < b) ∨ (st < m ∧ m < en ∧ a < st ∧ ¬ en < b) ∨ (st < m ∧ m < en ∧ ¬ a < st ∧ en < b) ∨ (st < m ∧ m < en ∧ ¬ a < st ∧ ¬ en < b) := by omega
        clear hP hen
        rcases ways with h | h | h | h | h | h | h
        · have t0 : ¬ st < m := by omega
          have u0 : decide (st < m) = false := decide_eq_false t0
          have t2 : a < st := by omega
          have t3 : st < mid := by omega
          have t4 : ¬ mid < en := by omega
          have u4 : decide (mid < en) = false := decide_eq_false t4
          have HV := Lib.hid (HALF.out d (Rotd.none (by omega) (by omega) (by omega)))
          have ES := Lib.hid (show d.size = N from HV.out.perm.1.trans HN.out)
          go_wp2_with fail
          go_at_call 41
          refine (IH a st mid d _ (by omega) ES.out (S1.out.holds hg HH.out HV.out.perm.1) (S1.out.lt hg) (HV.out.left (by omega) (by omega) (by rw [ES.out]; omega))).mono ?_
          rintro e2 w2 ⟨rfl, f, S4, pf, sf⟩
          have PF := Lib.hid (And.intro pf sf)
          have S5 := Lib.hid (sw_trans S1.out hg S4 pf.1)
          clear S4 pf sf
          have PK := Lib.hid (And.intro (permIn_refl f mid b) (HV.out.rightNo PF.out.1 (by omega)))
          have FIN := Lib.hid (HV.out.done (by rw [HN.out]; exact hbs) PF.out.1 PF.out.2 PK.out.1 PK.out.2)
          go_wp2
          go_end0
          exact ⟨rfl, f, S5.out, FIN.out.1, FIN.out.2⟩
        · have t0 : ¬ st < m := by omega
          have u0 : decide (st < m) = false := decide_eq_false t0
          have t2 : a < st := by omega
          have t3 : ¬ st < mid := by omega
          have u3 : decide (st < mid) = false := decide_eq_false t3
          have t4 : ¬ mid < en := by omega
          have u4 : decide (mid < en) = false := decide_eq_false t4
          have HV := Lib.hid (HALF.out d (Rotd.none (by omega) (by omega) (by omega)))
          have ES := Lib.hid (show d.size = N from HV.out.perm.1.trans HN.out)
          have PF := Lib.hid (And.intro (permIn_refl d a mid) (HV.out.leftNo (by omega)))
          have PK := Lib.hid (And.intro (permIn_refl d mid b) (HV.out.rightNo PF.out.1 (by omega)))
          have FIN := Lib.hid (HV.out.done (by rw [HN.out]; exact hbs) PF.out.1 PF.out.2 PK.out.1 PK.out.2)
          go_wp2
          go_end0
          exact ⟨rfl, d, S1.out, FIN.out.1, FIN.out.2⟩
        · have t0 : st < m := by omega
          have t1 : ¬ m < en := by omega
          have u1 : decide (m < en) = false := decide_eq_false t1
          have t2 : a < st := by omega
          have t3 : ¬ st < mid := by omega
          have u3 : decide (st < mid) = false := decide_eq_false t3
          have t4 : mid < en := by omega
          have t5 : en < b := by omega
          have HV := Lib.hid (HALF.out d (Rotd.none (by omega) (by omega) (by omega)))
          have ES := Lib.hid (show d.size = N from HV.out.perm.1.trans HN.out)
          have PF := Lib.hid (And.intro (permIn_refl d a mid) (HV.out.leftNo (by omega)))
          go_wp2_with fail
          go_at_call 41
          refine (IH mid en b d _ (by omega) (PF.out.1.1.trans ES.out) (S1.out.holds hg HH.out (PF.out.1.1.trans HV.out.perm.1)) (S1.out.lt hg) (HV.out.right PF.out.1 (by omega) (by omega) (by rw [ES.out]; omega))).mono ?_
          rintro e3 w3 ⟨rfl, k, S6, pk, sk⟩
          have PK := Lib.hid (And.intro pk sk)
          have S7 := Lib.hid (sw_trans S1.out hg S6 pk.1)
          clear S6 pk sk
          have FIN := Lib.hid (HV.out.done (by rw [HN.out]; exact hbs) PF.out.1 PF.out.2 PK.out.1 PK.out.2)
          go_wp2
          go_end0
          exact ⟨rfl, k, S7.out, FIN.out.1, FIN.out.2⟩
        · have t0 : st < m := by omega
          have t1 : m < en := by omega
          have t2 : a < st := by omega
          have t3 : st < mid := by omega
          have t4 : mid < en := by omega
          have t5 : en < b := by omega
          go_wp2_with fail
          go_at_call 43
          refine (rotate_any ordV g o cap st m en N d HN.out _ (S1.out.holds hg HH.out rfl) (S1.out.lt hg) (by rw [HN.out]; exact hsz) (by omega) (by omega) (by rw [HN.out]; omega)).mono ?_
          rintro e1 w1 ⟨rfl, e, S2, R2⟩
          have HV := Lib.hid (HALF.out _ R2)
          have S3 := Lib.hid (sw_trans S1.out hg S2 R2.perm.1)
          clear S2 R2
          have ES := Lib.hid (show e.size = N from HV.out.perm.1.trans HN.out)
          go_wp2_with fail
          go_at_call 41
          refine (IH a st mid e _ (by omega) ES.out (S3.out.holds hg HH.out HV.out.perm.1) (S3.out.lt hg) (HV.out.left (by omega) (by omega) (by rw [ES.out]; omega))).mono ?_
          rintro e2 w2 ⟨rfl, f, S4, pf, sf⟩
          have PF := Lib.hid (And.intro pf sf)
          have S5 := Lib.hid (sw_trans S3.out hg S4 pf.1)
          clear S4 pf sf
          go_wp2_with fail
          go_at_call 41
          refine (IH mid en b f _ (by omega) (PF.out.1.1.trans ES.out) (S5.out.holds hg HH.out (PF.out.1.1.trans HV.out.perm.1)) (S5.out.lt hg) (HV.out.right PF.out.1 (by omega) (by omega) (by rw [ES.out]; omega))).mono ?_
          rintro e3 w3 ⟨rfl, k, S6, pk, sk⟩
          have PK := Lib.hid (And.intro pk sk)
          have S7 := Lib.hid (sw_trans S5.out hg S6 pk.1)
          clear S6 pk sk
          have FIN := Lib.hid (HV.out.done (by rw [HN.out]; exact hbs) PF.out.1 PF.out.2 PK.out.1 PK.out.2)
          go_wp2
          go_end0
          exact ⟨rfl, k, S7.out, FIN.out.1, FIN.out.2⟩
        · have t0 : st < m := by omega
          have t1 : m < en := by omega
          have t2 : a < st := by omega
          have t3 : st < mid := by omega
          have t4 : mid < en := by omega
          have t5 : ¬ en < b := by omega
          have u5 : decide (en < b) = false := decide_eq_false t5
          go_wp2_with fail
          go_at_call 43
          refine (rotate_any ordV g o cap st m en N d HN.out _ (S1.out.holds hg HH.out rfl) (S1.out.lt hg) (by rw [HN.out]; exact hsz) (by omega) (by omega) (by rw [HN.out]; omega)).mono ?_
          rintro e1 w1 ⟨rfl, e, S2, R2⟩
          have HV := Lib.hid (HALF.out _ R2)
          have S3 := Lib.hid (sw_trans S1.out hg S2 R2.perm.1)
          clear S2 R2
          have ES := Lib.hid (show e.size = N from HV.out.perm.1.trans HN.out)
          go_wp2_with fail
          go_at_call 41
          refine (IH a st mid e _ (by omega) ES.out (S3.out.holds hg HH.out HV.out.perm.1) (S3.out.lt hg) (HV.out.left (by omega) (by omega) (by rw [ES.out]; omega))).mono ?_
          rintro e2 w2 ⟨rfl, f, S4, pf, sf⟩
          have PF := Lib.hid (And.intro pf sf)
          have S5 := Lib.hid (sw_trans S3.out hg S4 pf.1)
          clear S4 pf sf
          have PK := Lib.hid (And.intro (permIn_refl f mid b) (HV.out.rightNo PF.out.1 (by omega)))
          have FIN := Lib.hid (HV.out.done (by rw [HN.out]; exact hbs) PF.out.1 PF.out.2 PK.out.1 PK.out.2)
          go_wp2
          go_end0
          exact ⟨rfl, f, S5.out, FIN.out.1, FIN.out.2⟩
        · have t0 : st < m := by omega
          have t1 : m < en := by omega
          have t2 : ¬ a < st := by omega
          have u2 : decide (a < st) = false := decide_eq_false t2
          have t3 : st < mid := by omega
          have t4 : mid < en := by omega
          have t5 : en < b := by omega
          go_wp2_with fail
          go_at_call 43
          refine (rotate_any ordV g o cap st m en N d HN.out _ (S1.out.holds hg HH.out rfl) (S1.out.lt hg) (by rw [HN.out]; exact hsz) (by omega) (by omega) (by rw [HN.out]; omega)).mono ?_
          rintro e1 w1 ⟨rfl, e, S2, R2⟩
          have HV := Lib.hid (HALF.out _ R2)
          have S3 := Lib.hid (sw_trans S1.out hg S2 R2.perm.1)
          clear S2 R2
          have ES := Lib.hid (show e.size = N from HV.out.perm.1.trans HN.out)
          have PF := Lib.hid (And.intro (permIn_refl e a mid) (HV.out.leftNo (by omega)))
          go_wp2_with fail
          go_at_call 41
          refine (IH mid en b e _ (by omega) (PF.out.1.1.trans ES.out) (S3.out.holds hg HH.out (PF.out.1.1.trans HV.out.perm.1)) (S3.out.lt hg) (HV.out.right PF.out.1 (by omega) (by omega) (by rw [ES.out]; omega))).mono ?_
          rintro e3 w3 ⟨rfl, k, S6, pk, sk⟩
          have PK := Lib.hid (And.intro pk sk)
          have S7 := Lib.hid (sw_trans S3.out hg S6 pk.1)
          clear S6 pk sk
          have FIN := Lib.hid (HV.out.done (by rw [HN.out]; exact hbs) PF.out.1 PF.out.2 PK.out.1 PK.out.2)
          go_wp2
          go_end0
          exact ⟨rfl, k, S7.out, FIN.out.1, FIN.out.2⟩
        · have t0 : st < m := by omega
          have t1 : m < en := by omega
          have t2 : ¬ a < st := by omega
          have u2 : decide (a < st) = false := decide_eq_false t2
          have t3 : st < mid := by omega
          have t4 : mid < en := by omega
          have t5 : ¬ en < b := by omega
          have u5 : decide (en < b) = false := decide_eq_false t5
          go_wp2_with fail
          go_at_call 43
          refine (rotate_any ordV g o cap st m en N d HN.out _ (S1.out.holds hg HH.out rfl) (S1.out.lt hg) (by rw [HN.out]; exact hsz) (by omega) (by omega) (by rw [HN.out]; omega)).mono ?_
          rintro e1 w1 ⟨rfl, e, S2, R2⟩
          have HV := Lib.hid (HALF.out _ R2)
          have S3 := Lib.hid (sw_trans S1.out hg S2 R2.perm.1)
          clear S2 R2
          have ES := Lib.hid (show e.size = N from HV.out.perm.1.trans HN.out)
          have PF := Lib.hid (And.intro (permIn_refl e a mid) (HV.out.leftNo (by omega)))
          have PK := Lib.hid (And.intro (permIn_refl e mid b) (HV.out.rightNo PF.out.1 (by omega)))
          have FIN := Lib.hid (HV.out.done (by rw [HN.out]; exact hbs) PF.out.1 PF.out.2 PK.out.1 PK.out.2)
          go_wp2
          go_end0
          exact ⟨rfl, e, S3.out, FIN.out.1, FIN.out.2⟩

theorem symMerge_any (g o cap N : Nat) (hsz : N < 1099511627776) : ∀ K : Nat, MrgC g o cap N K := by
  intro K
  induction K with
  | zero => intro a m b d w hK _ _ _ M; have := M.am; have := M.mb; omega
  | succ K IH =>
    intro a m b d w hK hN hH hg M
    by_cases h0 : m = a + 1
    · exact symOne_any g o cap a m b N d hN w hH hg (by rw [hN]; exact hsz) M h0
    · by_cases h1 : b = m + 1
      · exact symLast_any g o cap a m b N d hN w hH hg (by rw [hN]; exact hsz) M h0 h1
      · exact symMore_any g o cap N K IH a m b d w hK hN hH hg hsz M h0 h1
end Go.Proofs.Ytmlpppcdammelaa
