/- The document's own answer for layer 18: values paired one by one. (Written ahead of stage 18's code.) -/
import Derived.Test.YtmnehonmbjnnaaaRef18
import Derived.Test.YtmnehonmbjnnaaaReRef1
namespace Go.Proofs.Ytmnehonmbjnnaaa
open Go.RowKit Go.Lib
set_option maxRecDepth 100000
set_option linter.unusedSimpArgs false
set_option linter.unusedVariables false

/-- The document's pairing in memory: its box; the partners. -/
structure MPm (W : World) (p tb fb base : Nat) (an ar bn br : Value) (na nb : Nat) (s : MSt) : Prop where
  box : Blk W p 52 #[an, ar, bn, br, .slice (some ⟨tb, 0, none⟩) na na, .slice (some ⟨fb, 0, none⟩) nb nb, .bool s.bad]
  pa : W.ownsRow base 3 1 (.slice (some ⟨tb, 0, none⟩) na na) na (i64s s.pa)
  pb : W.ownsRow base 3 1 (.slice (some ⟨fb, 0, none⟩) nb nb) nb (i64s s.pb)
  ne : tb ≠ fb
  hp : base ≤ p
  ht : base ≤ tb
  hf : base ≤ fb
section
variable {W w' : World} {p tb fb base na nb : Nat} {an ar bn br : Value} {s : MSt}
theorem MPm.only (h : MPm W p tb fb base an ar bn br na nb s) (o : Only nob W w') : MPm w' p tb fb base an ar bn br na nb s :=
  ⟨h.box.keep o id, own_only h.pa o fun _ _ h => h, own_only h.pb o fun _ _ h => h, h.ne, h.hp, h.ht, h.hf⟩
theorem keep18 {b B i : Nat} {v : Value} (o : Only (nb17 base) W w') (hb : b < B) (hB : B ≤ base) (hW : base ≤ W.heap.size) (h : W.cell? ⟨b, i, none⟩ = some v) : w'.cell? ⟨b, i, none⟩ = some v :=
  (o.cell (p := ⟨b, i, none⟩) (by show b < _; omega) (fun e => by have e' : base ≤ b := e; omega)).trans h
theorem MPm.no (h : MPm W p tb fb base an ar bn br na nb s) : MPm (W.setCell ⟨p, 6, none⟩ (.bool true)) p tb fb base an ar bn br na nb s.no := by
  have q1 : ¬ (Value.slice (some ⟨tb, 0, none⟩) na na).ownBlock = some p := fun e => by
    obtain ⟨cs, hb⟩ := own_blk16 h.pa e
    exact h.box.ne hb (by decide) rfl
  have q2 : ¬ (Value.slice (some ⟨fb, 0, none⟩) nb nb).ownBlock = some p := fun e => by
    obtain ⟨cs, hb⟩ := own_blk16 h.pb e
    exact h.box.ne hb (by decide) rfl
  exact ⟨by simpa [MSt.no] using h.box.put 6 (.bool true), own_only h.pa (only_set W p 6 (.bool true)) (fun k hk e => q1 (by rw [hk]; exact congrArg some e)), own_only h.pb (only_set W p 6 (.bool true)) (fun k hk e => q2 (by rw [hk]; exact congrArg some e)), h.ne, h.hp, h.ht, h.hf⟩
end

def PairP (p tb fb base B : Nat) (a b : Gr) (an ar bn br : Value) (hs js : List (Value × Value)) (n : Nat) : Prop := ∀ (W : World) (s : MSt) (i k : Int), MPm W p tb fb base an ar bn br a.nd.length b.nd.length s → RdG W B a an ar hs → RdG W B b bn br js → base ≤ W.heap.size → MInv a b s → s.pa.count (-1) < n → (0 ≤ i ∧ i < (a.nd.length : Int)) → (0 ≤ k ∧ k < (b.nd.length : Int)) → s.bad = false →
  Calls Try.prog 40 #[.pointer (some ⟨p, 0, none⟩), .int .i64 i, .int .i64 k] W fun e w' => e = .returned (.tuple #[]) ∧ MPm w' p tb fb base an ar bn br a.nd.length b.nd.length (pairM a b n i k s) ∧ Only (nb17 base) W w'
def ValsP (p tb fb base B : Nat) (a b : Gr) (an ar bn br : Value) (hs js : List (Value × Value)) (n : Nat) : Prop := ∀ (W : World) (s : MSt) (l m : List Sp) (vx vy : Value), MPm W p tb fb base an ar bn br a.nd.length b.nd.length s → RdG W B a an ar hs → RdG W B b bn br js → Sl W B 2 vx l.length (spc l) → Sl W B 2 vy m.length (spc m) → base ≤ W.heap.size → MInv a b s → s.pa.count (-1) < n → Leads17 a.nd.length l → Leads17 b.nd.length m → s.bad = false →
  Calls Try.prog 23 #[.pointer (some ⟨p, 0, none⟩), vx, vy] W fun e w' => e = .returned (.tuple #[]) ∧ MPm w' p tb fb base an ar bn br a.nd.length b.nd.length (valsM (pairM a b n) l m s) ∧ Only (nb17 base) W w'
theorem valsP_cons {r : Int → Int → MSt → MSt} {l m : List Sp} {k : Nat} {x y : Sp} {t : MSt} (hx : l[k]? = some x) (hy : m[k]? = some y) (ht : t.bad = false) :
    valsP r (l.drop k) (m.drop k) t = if x.1 ≠ y.1 ∨ (x.1 ≠ 2 ∧ x ≠ y) then t.no else valsP r (l.drop (k + 1)) (m.drop (k + 1)) (if x.1 = 2 then r x.2 y.2 t else t) := by
  obtain ⟨h1, h2⟩ := List.getElem?_eq_some_iff.1 hx
  obtain ⟨h3, h4⟩ := List.getElem?_eq_some_iff.1 hy
  rw [List.drop_eq_getElem_cons h1, List.drop_eq_getElem_cons h3, h2, h4, valsP, if_neg (by rw [ht]; decide)]
theorem only_wide18 {base : Nat} {W w' : World} (o : Only nob W w') : Only (nb17 base) W w' := o.mono fun _ _ h => h.elim
set_option maxHeartbeats 16000000 in
theorem vals18 {p tb fb base B : Nat} {a b : Gr} {an ar bn br : Value} {hs js : List (Value × Value)} (hB : B ≤ base) (ha : grOk a = true) (hb : grOk b = true) (n : Nat) (HPn : PairP p tb fb base B a b an ar bn br hs js n) : ValsP p tb fb base B a b an ar bn br hs js n := by
  intro W s l m vx vy hM hra hrb hx hy hW hI hc hl hm hbad
  have HX := Lib.hid hx
  have HY := Lib.hid hy
  obtain ⟨A, c, rfl, hac, hcm⟩ := hx.form
  obtain ⟨A', c', rfl, hac', hcm'⟩ := hy.form
  unfold maxLen at hcm hcm'
  have HM := Lib.hid hM
  have c6 : W.cell? ⟨p, 6, none⟩ = some (.bool s.bad) := hM.box.cell 6
  have f6 : W.frozen? ⟨p, 6, none⟩ = false := hM.box.free 6
  have HP := Lib.hid HPn
  have HG := Lib.hid (And.intro hra hrb)
  have HW := Lib.hid (And.intro hB hW)
  have HL := Lib.hid (And.intro hl hm)
  have HI := Lib.hid (And.intro hI hc)
  have HAB := Lib.hid (And.intro ha hb)
  clear hx hy hM HPn hra hrb hB hW hl hm hI hc ha hb
  rw [hbad] at c6
  by_cases hlen : l.length = m.length
  · obtain ⟨F, hF⟩ : ∃ F, F = valsM (pairM a b n) l m s := ⟨_, rfl⟩
    have HF := Lib.hid (show valsP (pairM a b n) (l.drop 0) (m.drop 0) s = F by rw [hF]; unfold valsM; rw [if_pos hlen]; rfl)
    rw [← hF]
    have hnb : ((l.length : Int) != (m.length : Int)) = false := by simp [hlen]
    have HLN := Lib.hid hlen
    clear hF
    go_enter Try.func23, Try.ntmps23
    go_wp2_with fail
    clear c6 f6 hnb hlen
    go_loopw [6] (fun vj wr => ∃ (k : Nat) (t : MSt), k ≤ l.length ∧ vj = .int .i64 k ∧ Hid (MPm wr p tb fb base an ar bn br a.nd.length b.nd.length t) ∧ Hid ((MInv a b t ∧ t.pa.count (-1) < n) ∧ valsP (pairM a b n) (l.drop k) (m.drop k) t = F) ∧ Hid (Only (nb17 base) W wr)) (fun vj _ => l.length - (intOf vj).toNat)
    case atStart => exact ⟨0, s, Nat.zero_le _, rfl, HM, Lib.hid ⟨HI.out, HF.out⟩, Lib.hid (Only.refl _ _)⟩
    case round =>
      obtain ⟨k, t, hk, rfl, HMP, HT, HO⟩ := hrel
      have c6 : wr.cell? ⟨p, 6, none⟩ = some (.bool t.bad) := HMP.out.box.cell 6
      by_cases hlt : k < l.length
      · cases htb : t.bad with
        | true =>
          rw [htb] at c6
          have HE := Lib.hid (show t = F by have := HT.out.2; rwa [vals_bad _ _ _ _ htb] at this)
          go_wp2
          go_end0
          exact ⟨rfl, by rw [← HE.out]; exact HMP.out, HO.out⟩
        | false =>
          rw [htb] at c6
          have hlm : k < m.length := by have := HLN.out; omega
          obtain ⟨⟨x1, x2⟩, hx⟩ : ∃ x, l[k]? = some x := ⟨_, List.getElem?_eq_getElem hlt⟩
          obtain ⟨⟨y1, y2⟩, hy⟩ : ∃ x, m[k]? = some x := ⟨_, List.getElem?_eq_getElem hlm⟩
          have HE := Lib.hid (HT.out.2.symm.trans (valsP_cons hx hy htb))
          have HXY := Lib.hid (fun (W' : World) (o : Only (nb17 base) W W') => And.intro (sl_span HX.out (o.below (Nat.le_trans HW.out.1 HW.out.2) fun _ h => Nat.le_trans HW.out.1 h) hx) (sl_span HY.out (o.below (Nat.le_trans HW.out.1 HW.out.2) fun _ h => Nat.le_trans HW.out.1 h) hy))
          obtain ⟨⟨bx, ox, rfl, hbx, g0, g1⟩, ⟨cy, oy, rfl, hby, h0, h1⟩⟩ := HXY.out wr HO.out
          simp only at g0 g1 h0 h1
          have HK := Lib.hid (fun (W' : World) (o : Only (nb17 base) wr W') => And.intro (And.intro (keep18 o hbx HW.out.1 (Nat.le_trans HW.out.2 HO.out.size) g0) (keep18 o hbx HW.out.1 (Nat.le_trans HW.out.2 HO.out.size) g1)) (And.intro (keep18 o hby HW.out.1 (Nat.le_trans HW.out.2 HO.out.size) h0) (keep18 o hby HW.out.1 (Nat.le_trans HW.out.2 HO.out.size) h1)))
          have HLX := Lib.hid (HL.out.1 (x1, x2) (List.mem_of_getElem? hx))
          have HLY := Lib.hid (HL.out.2 (y1, y2) (List.mem_of_getElem? hy))
          clear hx hy HXY hbx hby
          by_cases hne : x1 = y1
          · subst hne
            by_cases h2 : x1 = 2
            · subst h2
              have HF2 := Lib.hid (show F = valsP (pairM a b n) (l.drop (k + 1)) (m.drop (k + 1)) (pairM a b n x2 y2 t) by
                have := HE.out
                rw [if_neg (by simp), if_pos rfl] at this
                exact this)
              have hxr := HLX.out rfl
              have hyr := HLY.out rfl
              have HI2 := Lib.hid (pair_inv HAB.out.1 HAB.out.2 n x2 y2 t HT.out.1.1 hxr hyr)
              have HC := Lib.hid (fun (W' : World) (o : Only nob wr W') => HP.out W' t x2 y2 (HMP.out.only o) (HG.out.1.below ((HO.out.trans (only_wide18 o)).below (Nat.le_trans HW.out.1 HW.out.2) fun _ h => Nat.le_trans HW.out.1 h)) (HG.out.2.below ((HO.out.trans (only_wide18 o)).below (Nat.le_trans HW.out.1 HW.out.2) fun _ h => Nat.le_trans HW.out.1 h)) (Nat.le_trans HW.out.2 (HO.out.trans (only_wide18 o)).size) HT.out.1.1 HT.out.1.2 hxr hyr htb)
              go_wp2
              go_quiet (fail)
              have OQ := Lib.hid ((Only.refl nob wr).drewN nq)
              generalize wr.drewN nq = wq at OQ ⊢
              clear g0 g1 h0 h1 c6
              obtain ⟨⟨g0, g1⟩, h0, h1⟩ := HK.out wq (only_wide18 OQ.out)
              have HS0 := Lib.hid (show ∀ W', Only nob wr W' → W'.cell? ⟨bx, ox + k * 2, none⟩ = some (.int .i64 2) ∧ W'.cell? ⟨bx, ox + k * 2 + 1, none⟩ = some (.int .i64 x2) ∧ W'.cell? ⟨cy, oy + k * 2, none⟩ = some (.int .i64 2) ∧ W'.cell? ⟨cy, oy + k * 2 + 1, none⟩ = some (.int .i64 y2) from fun W' o => ⟨(HK.out W' (only_wide18 o)).1.1, (HK.out W' (only_wide18 o)).1.2, (HK.out W' (only_wide18 o)).2.1, (HK.out W' (only_wide18 o)).2.2⟩)
              have HS1 := Lib.hid (show ∀ W', Only (nb17 base) wr W' → W'.cell? ⟨bx, ox + k * 2, none⟩ = some (.int .i64 2) ∧ W'.cell? ⟨bx, ox + k * 2 + 1, none⟩ = some (.int .i64 x2) ∧ W'.cell? ⟨cy, oy + k * 2, none⟩ = some (.int .i64 2) ∧ W'.cell? ⟨cy, oy + k * 2 + 1, none⟩ = some (.int .i64 y2) from fun W' o => ⟨(HK.out W' o).1.1, (HK.out W' o).1.2, (HK.out W' o).2.1, (HK.out W' o).2.2⟩)
              have OC := Lib.hid (show Only nob wr (World.drew wq) from OQ.out.drewN 1)
              have mixed := mixed16
              go_upto_region 8 with fail
              go_region_held3 (fun w' => w'.cell? ⟨bx, ox + k * 2, none⟩ = some (.int .i64 2) ∧ w'.cell? ⟨bx, ox + k * 2 + 1, none⟩ = some (.int .i64 x2) ∧ w'.cell? ⟨cy, oy + k * 2, none⟩ = some (.int .i64 2) ∧ w'.cell? ⟨cy, oy + k * 2 + 1, none⟩ = some (.int .i64 y2)) (first | (with_reducible exact HS0.out _ OC.out) | (with_reducible exact HS1.out _ OC.out) | go_keep)
                (first
                  | (go_at_call 40
                     with_reducible refine (HC.out _ OC.out).mono ?_
                     rintro e wt ⟨rfl, hmp, o⟩
                     have HMT := Lib.hid hmp
                     have OC := Lib.hid ((only_wide18 OC.out).trans o)
                     clear o hmp))
              all_goals
                have OE := Lib.hid (HO.out.trans OC.out)
                go_wp2
                go_roundw
                case rel => exact ⟨k + 1, _, by omega, by go_num, HMT, Lib.hid ⟨⟨HI2.out.1, Nat.lt_of_le_of_lt HI2.out.2 HT.out.1.2⟩, HF2.out.symm⟩, OE⟩
                case measure => simp [intOf]; omega
            · have hbq : (x1 == 2) = false := by simpa using h2
              have hbn : (x1 != 2) = true := by simpa using h2
              by_cases hx2 : x2 = y2
              · subst hx2
                have HF2 := Lib.hid (show valsP (pairM a b n) (l.drop (k + 1)) (m.drop (k + 1)) t = F by
                  have := HE.out
                  rw [if_neg (by simp), if_neg h2] at this
                  exact this.symm)
                clear h2
                go_wp2
                go_quiet (fail)
                have OQ := Lib.hid ((Only.refl nob wr).drewN nq)
                generalize wr.drewN nq = wq at OQ ⊢
                clear g0 g1 h0 h1 c6
                obtain ⟨⟨g0, g1⟩, h0, h1⟩ := HK.out wq (only_wide18 OQ.out)
                go_wp2
                go_roundw
                case rel => exact ⟨k + 1, t, by omega, by go_num, Lib.hid (HMP.out.only OQ.out), Lib.hid ⟨HT.out.1, HF2.out⟩, Lib.hid (HO.out.trans (only_wide18 OQ.out))⟩
                case measure => simp [intOf]; omega
              · have HF2 := Lib.hid (show F = t.no by
                  have := HE.out
                  rw [if_pos (.inr ⟨h2, fun e => hx2 (congrArg Prod.snd e)⟩)] at this
                  exact this)
                clear h2
                go_wp2
                go_quiet (fail)
                have OQ := Lib.hid ((Only.refl nob wr).drewN nq)
                generalize wr.drewN nq = wq at OQ ⊢
                clear g0 g1 h0 h1 c6
                have HMQ := Lib.hid (HMP.out.only OQ.out)
                have c6 : wq.cell? ⟨p, 6, none⟩ = some (.bool t.bad) := HMQ.out.box.cell 6
                have f6 : wq.frozen? ⟨p, 6, none⟩ = false := HMQ.out.box.free 6
                have HN := Lib.hid HMQ.out.no
                have ON := Lib.hid (show Only (nb17 base) wr (wq.setCell ⟨p, 6, none⟩ (.bool true)) from Only.setCell (F := nb17 base) (p := ⟨p, 6, none⟩) (only_wide18 OQ.out) (fun _ => (show base ≤ p from HMQ.out.hp)) _)
                go_wp2
                refine bodyPost_ret (results_none rfl _ _ _) rfl ?_
                exact ⟨rfl, by rw [HF2.out]; exact HN.out, HO.out.trans ON.out⟩
          · have hbn : (x1 != y1) = true := by simpa using hne
            have HF2 := Lib.hid (show F = t.no by
              have := HE.out
              rw [if_pos (.inl hne)] at this
              exact this)
            clear hne
            go_wp2
            go_quiet (fail)
            have OQ := Lib.hid ((Only.refl nob wr).drewN nq)
            generalize wr.drewN nq = wq at OQ ⊢
            clear g0 g1 h0 h1 c6
            have HMQ := Lib.hid (HMP.out.only OQ.out)
            have c6 : wq.cell? ⟨p, 6, none⟩ = some (.bool t.bad) := HMQ.out.box.cell 6
            have f6 : wq.frozen? ⟨p, 6, none⟩ = false := HMQ.out.box.free 6
            have HN := Lib.hid HMQ.out.no
            have ON := Lib.hid (show Only (nb17 base) wr (wq.setCell ⟨p, 6, none⟩ (.bool true)) from Only.setCell (F := nb17 base) (p := ⟨p, 6, none⟩) (only_wide18 OQ.out) (fun _ => (show base ≤ p from HMQ.out.hp)) _)
            go_wp2
            refine bodyPost_ret (results_none rfl _ _ _) rfl ?_
            exact ⟨rfl, by rw [HF2.out]; exact HN.out, HO.out.trans ON.out⟩
      · obtain rfl : k = l.length := by omega
        have HE := Lib.hid (show t = F by have := HT.out.2; rwa [List.drop_length, valsP] at this)
        go_wp2
        go_end0
        exact ⟨rfl, by rw [← HE.out]; exact HMP.out, HO.out⟩
  · have HE := Lib.hid (show valsM (pairM a b n) l m s = s.no by unfold valsM; rw [if_neg hlen, vals_bad _ _ _ _ rfl])
    have hnb : ((l.length : Int) != (m.length : Int)) = true := by simp; omega
    rw [HE.out]
    have HN := Lib.hid HM.out.no
    have ON := Lib.hid (show Only (nb17 base) W (W.setCell ⟨p, 6, none⟩ (.bool true)) from (Only.refl _ W).setCell (fun _ => HM.out.hp) _)
    obtain ⟨W1, hW1⟩ : ∃ W1, W.setCell ⟨p, 6, none⟩ (.bool true) = W1 := ⟨_, rfl⟩
    have HW1 := Lib.hid hW1
    rw [hW1] at HN ON
    have d6 : W1.cell? ⟨p, 6, none⟩ = some (.bool true) := HN.out.box.cell 6
    clear hW1
    go_enter Try.func23, Try.ntmps23
    go_upto_region 2 with fail
    rw [HW1.out]
    clear c6 f6 hnb
    go_wp2_with fail
    go_loopw [6] (fun vj wr => vj = .int .i64 0 ∧ wr = W1) (fun vj _ => 0)
    case atStart => exact ⟨rfl, rfl⟩
    case round =>
      obtain ⟨rfl, rfl⟩ := hrel
      by_cases h0 : 0 < l.length
      · go_wp2
        go_end0
        exact ⟨rfl, HN.out, ON.out⟩
      · obtain h0' : l.length = 0 := by omega
        go_wp2
        go_end0
        exact ⟨rfl, HN.out, ON.out⟩
end Go.Proofs.Ytmnehonmbjnnaaa
