/- The document's own answer for layer 18: two graphs matched. (Written ahead of stage 18's code.) -/
import Derived.Test.YtmnehonmbjnnaaaRef18C
namespace Go.Proofs.Ytmnehonmbjnnaaa
open Go.RowKit Go.Lib
set_option maxRecDepth 100000
set_option linter.unusedSimpArgs false
set_option linter.unusedVariables false

theorem pairs18 {p tb fb base B : Nat} {a b : Gr} {an ar bn br : Value} {hs js : List (Value × Value)} (hB : B ≤ base) (ha : grOk a = true) (hb : grOk b = true) : ∀ n, PairP p tb fb base B a b an ar bn br hs js n
  | 0 => fun W s i k _ _ _ _ _ hc _ _ _ => absurd hc (Nat.not_lt_zero _)
  | n + 1 => pair18 hB ha hb n (vals18 hB ha hb n (pairs18 hB ha hb n))
theorem none18b (n : Nat) (hn : n ≤ 1000000) (base : Nat) (W : World) (hb : base ≤ W.heap.size) :
    Calls Try.prog 22 #[.int .i64 n] W fun e w' => ∃ b, e = .returned (.slice (some ⟨b, 0, none⟩) n n) ∧ (W.heap.size ≤ b ∧ b < w'.heap.size) ∧ w'.ownsRow base 3 1 (.slice (some ⟨b, 0, none⟩) n n) n (i64s (List.replicate n (-1))) ∧ Only nob W w' :=
  (none18 n hn W).mono fun e w' ⟨h1, h2, h3⟩ => ⟨_, h1, ⟨Nat.le_refl _, by obtain ⟨cs, hb⟩ := own_blk16 h2 (k := W.heap.size) rfl; exact hb.lt⟩, by
    refine ⟨h2.1, ?_⟩
    rcases h2.2 with h | ⟨g, cap, cur, e, hbg, rest⟩
    · exact .inl h
    · exact .inr ⟨g, cap, cur, e, Nat.le_trans hb hbg, rest⟩, h3⟩
theorem boxes18 (w : World) (an ar bn br : Value) : ∃ V, ((w.alloc (.cells #[an, ar] 25)).alloc (.cells #[bn, br] 25)) = V ∧ Hid (Only nob w V ∧ Blk V w.heap.size 25 #[an, ar] ∧ Blk V (w.heap.size + 1) 25 #[bn, br]) :=
  ⟨_, rfl, Lib.hid ⟨((Only.refl nob w).alloc _).alloc _, (Blk.new w _ _).alloc _, Blk.newAt _ _ _ _ (by simp)⟩⟩
def MatGC (f : FuncId) : Prop := ∀ (a b : Gr) (an ar bn br : Value) (hs js : List (Value × Value)) (B : Nat) (W : World), RdG W B a an ar hs → RdG W B b bn br js → B ≤ W.heap.size → GrFit a → GrFit b → a.nd.length ≤ 60 → a.rt.length ≤ 100 → b.nd.length ≤ 60 → b.rt.length ≤ 100 →
  Calls Try.prog f #[.agg #[an, ar], .agg #[bn, br]] W fun e w' => ∃ v, e = .returned (.tuple #[v, .bool (alikeB a b)]) ∧ OwR w' W.heap.size 3 v (matchL a b).length (i64s (matchL a b)) ∧ Only nob W w'
theorem alike_no {a b : Gr} (h : grOk a = false ∨ grOk b = false) : alikeB a b = false ∧ matchL a b = [] := by
  have e : alikeB a b = false := by
    unfold alikeB
    rcases h with h | h <;> rw [h] <;> simp
  exact ⟨e, by unfold matchL; rw [e]; rfl⟩
set_option maxHeartbeats 16000000 in
theorem rMatch18 : MatGC 9 := by
  intro a b an ar bn br hs js B W hra hrb hB hfa hfb hna hta hnb htb
  obtain ⟨A, ca, rfl, hac, hcm⟩ := hra.nodes.form
  obtain ⟨A', cb, rfl, hbc, hcm'⟩ := hrb.nodes.form
  obtain ⟨Ar, cra, rfl, hrac, hrcm⟩ := hra.roots.form
  obtain ⟨Br, crb, rfl, hrbc, hrcm'⟩ := hrb.roots.form
  unfold maxLen at hcm hcm' hrcm hrcm'
  obtain ⟨V, hV, HVB⟩ := boxes18 W (.slice A a.nd.length ca) (.slice Ar a.rt.length cra) (.slice A' b.nd.length cb) (.slice Br b.rt.length crb)
  have HVE := Lib.hid hV
  have HGA := Lib.hid (fun (W' : World) (o : Only nob W W') => hra.only o hB)
  have HGB := Lib.hid (fun (W' : World) (o : Only nob W W') => hrb.only o hB)
  have HBW := Lib.hid hB
  have HRA := Lib.hid (rRight16 a _ _ hs B V (HGA.out V HVB.out.1) (Nat.le_trans hB HVB.out.1.size) hfa)
  have HRB := Lib.hid (fun (W' : World) (o : Only nob W W') => rRight16 b _ _ js B W' (HGB.out W' o) (Nat.le_trans hB o.size) hfb)
  have HNO := Lib.hid (And.intro hna hnb)
  have c0 : V.cell? ⟨W.heap.size, 0, none⟩ = some (.slice A a.nd.length ca) := HVB.out.2.1.cell 0
  have c1 : V.cell? ⟨W.heap.size, 1, none⟩ = some (.slice Ar a.rt.length cra) := HVB.out.2.1.cell 1
  have e0 : V.cell? ⟨W.heap.size + 1, 0, none⟩ = some (.slice A' b.nd.length cb) := HVB.out.2.2.cell 0
  have e1 : V.cell? ⟨W.heap.size + 1, 1, none⟩ = some (.slice Br b.rt.length crb) := HVB.out.2.2.cell 1
  clear hV hra hrb hB hfa hfb hna hta hnb htb
  go_enter Try.func9, Try.ntmps9
  go_upto_region 1 with fail
  rw [HVE.out]
  go_wp2_with fail
  go_at_call 21
  refine HRA.out.mono ?_
  cases hoa : grOk a with
  | false =>
    rintro e w1 ⟨rfl, o1⟩
    have O1 := Lib.hid (HVB.out.1.trans o1)
    have HE := Lib.hid (alike_no (a := a) (b := b) (.inl hoa))
    clear o1 c0 c1 e0 e1 hoa
    go_wp2
    go_ret2
    exact ⟨.slice none 0 0, by rw [HE.out.1]; rfl, by rw [HE.out.2]; exact OwR.nil_, O1.out⟩
  | true =>
    rintro e w1 ⟨rfl, o1⟩
    have O1 := Lib.hid (HVB.out.1.trans o1)
    have d0 := o1.keeps c0
    have d1 := o1.keeps c1
    have f0 := o1.keeps e0
    have f1 := o1.keeps e1
    clear o1 c0 c1 e0 e1
    go_wp2_with fail
    go_at_call 21
    refine (HRB.out w1 O1.out).mono ?_
    cases hob : grOk b with
    | false =>
      rintro e w2 ⟨rfl, o2⟩
      have O2 := Lib.hid (O1.out.trans o2)
      have HE := Lib.hid (alike_no (a := a) (b := b) (.inr hob))
      clear o2 d0 d1 f0 f1 hoa hob
      go_wp2
      go_ret2
      exact ⟨.slice none 0 0, by rw [HE.out.1]; rfl, by rw [HE.out.2]; exact OwR.nil_, O2.out⟩
    | true =>
      rintro e w2 ⟨rfl, o2⟩
      have O2 := Lib.hid (O1.out.trans o2)
      have c0 := o2.keeps d0
      have c1 := o2.keeps d1
      have e0 := o2.keeps f0
      have e1 := o2.keeps f1
      clear o2 d0 d1 f0 f1
      have HS0 := Lib.hid (show ∀ W' : World, Only nob w2 W' → W'.cell? ⟨W.heap.size, 0, none⟩ = some (.slice A a.nd.length ca) ∧ W'.cell? ⟨W.heap.size, 1, none⟩ = some (.slice Ar a.rt.length cra) ∧ W'.cell? ⟨W.heap.size + 1, 0, none⟩ = some (.slice A' b.nd.length cb) ∧ W'.cell? ⟨W.heap.size + 1, 1, none⟩ = some (.slice Br b.rt.length crb) from fun W' o => ⟨o.keeps c0, o.keeps c1, o.keeps e0, o.keeps e1⟩)
      obtain ⟨base, hbase⟩ : ∃ base, base = w2.heap.size := ⟨_, rfl⟩
      have HBS := Lib.hid hbase
      have HNA := Lib.hid (fun (W' : World) (o : Only nob w2 W') => none18b a.nd.length (by have := HNO.out.1; omega) base W' (by rw [HBS.out]; exact o.size))
      have HNB := Lib.hid (fun (W' : World) (o : Only nob w2 W') => none18b b.nd.length (by have := HNO.out.2; omega) base W' (by rw [HBS.out]; exact o.size))
      clear hbase
      go_upto_region 3 with fail
      go_cut [6] (fun s6 wx => ∃ p tb fb : Nat, s6 = .pointer (some ⟨p, 0, none⟩) ∧ Hid (MPm wx p tb fb base (.slice A a.nd.length ca) (.slice Ar a.rt.length cra) (.slice A' b.nd.length cb) (.slice Br b.rt.length crb) a.nd.length b.nd.length (.first a b) ∧ Only nob w2 wx))
      case first =>
        have OC := Lib.hid (show Only nob w2 w2.drew from (Only.refl nob w2).drewN 1)
        have mixed := mixed16
        go_region_held3 (fun w' : World => w'.cell? ⟨W.heap.size, 0, none⟩ = some (.slice A a.nd.length ca) ∧ w'.cell? ⟨W.heap.size, 1, none⟩ = some (.slice Ar a.rt.length cra) ∧ w'.cell? ⟨W.heap.size + 1, 0, none⟩ = some (.slice A' b.nd.length cb) ∧ w'.cell? ⟨W.heap.size + 1, 1, none⟩ = some (.slice Br b.rt.length crb)) (first | (with_reducible exact HS0.out _ OC.out) | (with_reducible exact HS0.out _ (OC.out.alloc _)) | go_keep)
          (first
            | (go_at_call 22
               with_reducible refine (HNA.out _ OC.out).mono ?_
               rintro e wt ⟨tb, rfl, htb, hrow, o⟩
               (try have NE := Lib.hid (show tb ≠ fb by have := ZB.out.2; omega))
               (try have RB := Lib.hid (own_only RB.out o fun _ _ h => h))
               have RT := Lib.hid hrow
               have ZT := Lib.hid htb
               have OC := Lib.hid (OC.out.trans o)
               clear o hrow htb)
            | (go_at_call 22
               with_reducible refine (HNB.out _ OC.out).mono ?_
               rintro e wt ⟨fb, rfl, htb, hrow, o⟩
               (try have NE := Lib.hid (show tb ≠ fb by have := ZT.out.2; omega))
               (try have RT := Lib.hid (own_only RT.out o fun _ _ h => h))
               have RB := Lib.hid hrow
               have ZB := Lib.hid htb
               have OC := Lib.hid (OC.out.trans o)
               clear o hrow htb))
        all_goals (go_wp2; go_meet)
        all_goals
          have hbt : base ≤ tb := by first | (rw [HBS.out]; exact ZT.out.1) | (have a1 := ZT.out; have a2 := ZB.out; rw [HBS.out]; exact Nat.le_trans (show w2.heap.size ≤ fb from ZB.out.1) (by omega))
          have hbf : base ≤ fb := by first | (have a1 := ZT.out; have a2 := ZB.out; omega) | (rw [HBS.out]; exact ZB.out.1)
          refine ⟨_, tb, fb, rfl, Lib.hid ⟨⟨Blk.new _ _ _, own_only RT.out ((Only.refl nob _).alloc _) (fun _ _ h => h), own_only RB.out ((Only.refl nob _).alloc _) (fun _ _ h => h), NE.out, by rw [HBS.out]; exact OC.out.size, hbt, hbf⟩, OC.out.alloc _⟩⟩
      case rest =>
      obtain ⟨p, tb, fb, rfl, HC⟩ := hcut
      clear c0 c1 e0 e1
      obtain ⟨-, c1, -, e1⟩ := HS0.out wc HC.out.2
      have hBb : B ≤ base := by rw [HBS.out]; exact Nat.le_trans HBW.out O2.out.size
      have OW := Lib.hid (O2.out.trans HC.out.2)
      have hcnt : (MSt.first a b).pa.count (-1) < a.nd.length + 1 := by
        have := List.count_le_length (a := (-1 : Int)) (l := (MSt.first a b).pa)
        rw [(first_inv a b).1.tl] at this
        omega
      have HV := Lib.hid (show Calls Try.prog 23 #[.pointer (some ⟨p, 0, none⟩), .slice Ar a.rt.length cra, .slice Br b.rt.length crb] wc fun e w' => e = .returned (.tuple #[]) ∧ MPm w' p tb fb base (.slice A a.nd.length ca) (.slice Ar a.rt.length cra) (.slice A' b.nd.length cb) (.slice Br b.rt.length crb) a.nd.length b.nd.length (matchM a b) ∧ Only (nb17 base) wc w' from
        vals18 hBb hoa hob (a.nd.length + 1) (pairs18 hBb hoa hob (a.nd.length + 1)) wc (MSt.first a b) a.rt b.rt _ _ HC.out.1 (HGA.out wc OW.out) (HGB.out wc OW.out) (HGA.out wc OW.out).roots (HGB.out wc OW.out).roots (by rw [HBS.out]; exact HC.out.2.size) (first_inv a b).1 hcnt (leads_rt hoa) (leads_rt hob) rfl)
      have HBD := Lib.hid (match_bad hoa hob)
      clear hcnt hoa hob
      go_wp2_with fail
      go_at_call 23
      refine HV.out.mono ?_
      rintro e w5 ⟨rfl, hmp, o5⟩
      have HMP := Lib.hid hmp
      have O5 := Lib.hid (O2.out.trans (HC.out.2.andThen o5 fun i hi e => absurd (show base ≤ i from e) (by rw [HBS.out]; omega)))
      have c6 : w5.cell? ⟨p, 6, none⟩ = some (.bool (matchM a b).bad) := hmp.box.cell 6
      have c4 : w5.cell? ⟨p, 4, none⟩ = some (.slice (some ⟨tb, 0, none⟩) a.nd.length a.nd.length) := hmp.box.cell 4
      clear hmp o5 c1 e1
      cases hal : alikeB a b with
      | true =>
        have HAL := Lib.hid hal
        have hbd := HBD.out
        rw [hal] at hbd
        rw [hbd] at c6
        have HT := Lib.hid (match_to hal)
        have HML := Lib.hid (show matchL a b = toL a b by unfold matchL; rw [hal]; rfl)
        have HLN := Lib.hid (show (toL a b).length = a.nd.length by simp [toL])
        clear hal hbd
        go_wp2
        go_ret2
        refine ⟨.slice (some ⟨tb, 0, none⟩) a.nd.length a.nd.length, by rw [HAL.out]; rfl, ?_, O5.out⟩
        rw [HML.out, HLN.out, ← HT.out]
        exact (OwR.of_own HMP.out.pa).more (by rw [HBS.out]; exact O2.out.size)
      | false =>
        have HAL := Lib.hid hal
        have hbd := HBD.out
        rw [hal] at hbd
        rw [hbd] at c6
        have HML := Lib.hid (show matchL a b = [] by unfold matchL; rw [hal]; rfl)
        clear hal hbd
        go_wp2
        go_ret2
        exact ⟨.slice none 0 0, by rw [HAL.out]; rfl, by rw [HML.out]; exact OwR.nil_, O5.out⟩
end Go.Proofs.Ytmnehonmbjnnaaa
