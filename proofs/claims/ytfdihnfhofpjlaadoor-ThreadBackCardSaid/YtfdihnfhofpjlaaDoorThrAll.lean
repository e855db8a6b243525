/- Contract of package thread's iterator, over a list that may be. -/
import Derived.Test.YtfdihnfhofpjlaaDoorThr
import Derived.Test.YtfdihnfhofpjlaaDoorInts
import Derived.Test.YtfdihnfhofpjlaaDoorQuiets
import Derived.Deep.QuietTactic
import Derived.BigQuiet
namespace Go.Proofs.YtfdihnfhofpjlaaDoor
open Go.RowKit Go.Shelf Go.Sort
attribute [local go_sem] Oper.semAt_some
set_option maxRecDepth 100000

set_option maxHeartbeats 2000000 in
theorem headAt_ok (v vt : Value) (T : List Sp) (n0 : Nat) (h : Int → Hd) (w0 : World) (H : Heads v n0 h w0) (hn0 : n0 ≤ w0.heap.size) (ht : Sl w0 n0 2 vt T.length (spc T)) (k : Nat) (x : Sp) (hx : T[k]? = some x) (hxp : x.1 ≤ 9223372036854775807) (w : World) (hb : Below n0 w0 w) :
    Calls Tryd.prog 28 #[v, vt, .int .i64 k] w fun e w' => e = .returned (.tuple #[.agg #[.int .i64 (h x.1).k, .int .i64 (h x.1).f, .int .i64 (h x.1).r, .bool (h x.1).m, .int .i64 (h x.1).c], .int .i64 (h x.1).e]) ∧ Only nob w w' := by
  have hlt : k < T.length := (List.getElem?_eq_some_iff.1 hx).1
  obtain ⟨W, hW0, HB⟩ := zero_head w
  have HWE := Lib.hid hW0
  have hb1 := Below.trans_only hb HB.out.1 hn0
  have HH := Lib.hid (H.head W x.1 hb1 hxp)
  have HS := Lib.hid (ht.below hb1)
  have HS0 := Lib.hid (ht.below hb)
  obtain ⟨A, c, rfl, hnc, hcm, -⟩ := ht
  unfold maxLen at hcm
  obtain ⟨b1, o1, rfl, -, d0, d1⟩ := sl_span HS.out (Below.refl _ _) hx
  have HI := Lib.hid (isPlace_any (some ⟨b1, o1, none⟩) T.length c k W)
  rw [inT_yes (by omega)] at HI
  obtain ⟨at_, hat⟩ : ∃ a : Int, a = x.1 := ⟨_, rfl⟩
  rw [← hat] at d0 HH ⊢
  rcases hh : h at_ with ⟨he, hk, hf, hr, hm, hc⟩
  rw [hh] at HH
  clear hb hb1 H hW0 hn0 hxp hx d1 HS0 hat hh
  go_enter Tryd.func28, Tryd.ntmps28
  go_wp2_with fail
  rw [HWE.out]
  go_at_call 19
  refine HI.out.mono ?_
  rintro e w1 ⟨rfl, rfl⟩
  go_wp2_with fail
  go_at_call 25
  refine HH.out.mono ?_
  rintro e w2 ⟨rfl, o⟩
  have O2 := Lib.hid (HB.out.1.trans o)
  have B2 := Lib.hid (HB.out.2.keep o id)
  clear o
  obtain ⟨s0, s1, s2, s3, s4⟩ := cells5 B2.out
  obtain ⟨r0, r1, r2, r3, r4⟩ := frees5 B2.out
  go_wp2
  clear s0 s1 s2 s3 s4 r0 r1 r2 r3 r4
  obtain ⟨W6, hW6, O6, B6⟩ := puts5 O2.out (Nat.le_refl _) B2.out (.int .i64 hk) (.int .i64 hf) (.int .i64 hr) (.bool hm) (.int .i64 hc)
  with_reducible rw [hW6]
  obtain ⟨h0, h1, h2, h3, h4⟩ := cells5 B6
  exact bodyPost_ret (v := .tuple #[.agg #[.int .i64 hk, .int .i64 hf, .int .i64 hr, .bool hm, .int .i64 hc], .int .i64 he]) (by simp [results, Tryd.results28, go_sem, h0, h1, h2, h3, h4]) rfl ⟨rfl, O6⟩

/-- The list top is ks. -/
def ChainL (h : Int → Hd) (T : List Sp) : Int → List Nat → Prop
  | top, [] => top = 0
  | top, k :: ks => top = (k : Int) + 1 ∧ ∃ x, T[k]? = some x ∧ x.1 ≤ 9223372036854775807 ∧ (h x.1).e = 0 ∧ ChainL h T (h x.1).c ks

/-- A box of an iterator's own: not the row that the caller's box b names. -/
structure Its (N0 b g : Nat) (t : TypeId) (cs : Array Value) (W : World) : Prop where
  blk : Blk W g t cs
  lo : N0 ≤ g
  no : ¬ mine b W g
theorem Its.only {N0 b g : Nat} {t : TypeId} {cs : Array Value} {W W' : World} (h : Its N0 b g t cs W) (o : Only nob W W') (hb : b < W.heap.size) : Its N0 b g t cs W' := ⟨h.blk.keep o id, h.lo, fun m => h.no (mine_only o hb h.blk.lt m)⟩
theorem Its.keeps {N0 b n0 g : Nat} {t : TypeId} {cs : Array Value} {W W' : World} (h : Its N0 b g t cs W) (k : KeepsB b N0 n0 W W') : Its N0 b g t cs W' := by
  obtain ⟨s1, s2⟩ := k.blk h.blk h.lo h.no
  exact ⟨s1, h.lo, s2⟩
/-- The boxes of the iterator over a list: the top, the arena, the table. -/
structure ThreeT (N0 b bt ba bl : Nat) (top : Int) (v vt : Value) (W : World) : Prop where
  t : Its N0 b bt 3 #[.int .i64 top] W
  a : Its N0 b ba 24 #[v] W
  l : Its N0 b bl 28 #[vt] W
theorem ThreeT.only {N0 b bt ba bl : Nat} {top : Int} {v vt : Value} {W W' : World} (h : ThreeT N0 b bt ba bl top v vt W) (o : Only nob W W') (hb : b < W.heap.size) : ThreeT N0 b bt ba bl top v vt W' := ⟨h.t.only o hb, h.a.only o hb, h.l.only o hb⟩
theorem ThreeT.keeps {N0 b n0 bt ba bl : Nat} {top : Int} {v vt : Value} {W W' : World} (h : ThreeT N0 b bt ba bl top v vt W) (k : KeepsB b N0 n0 W W') : ThreeT N0 b bt ba bl top v vt W' := ⟨h.t.keeps k, h.a.keeps k, h.l.keeps k⟩
theorem ivl_int (z : Int) : ivl (.int .i64 z) = z := rfl
theorem meas_up {n q : Nat} (h : q ≤ n) (z : Int) (hz : z = (q : Int) + 1) : n + 2 - (ivl (.int .i64 z)).toNat < n + 2 - (ivl (.int .i64 (q : Int))).toNat := by
  rw [ivl_int, ivl_int]
  omega
def encT (k : Nat) : Array Value := #[.int .i64 k, .int .i64 0]

set_option maxHeartbeats 4000000 in
theorem places1_in (lp b n₀ N0 bt ba bl : Nat) (v vt : Value) (h : Int → Hd) (T : List Sp) (top : Int) (xs : List Nat) (J Jx : List Nat → World → Prop) (W : World)
    (H : Heads v n₀ h W) (hn : n₀ ≤ N0) (hN0 : N0 ≤ W.heap.size) (hb : b < N0) (ht : Sl W n₀ 2 vt T.length (spc T)) (hc : ChainL h T top xs) (hfew : xs.length ≤ T.length) (hT : T.length ≤ 1000000)
    (h3 : ThreeT N0 b bt ba bl top v vt W) (hsane : Sane b W)
    (hJ : AbidesFrom W.heap.size J)
    (hY : ∀ pre y W1, J pre W1 → pre.length < xs.length → YieldAt Fence.wide 1 Tryd.prog lp (encT y) W1 fun e W' =>
      (e = .returned (.bool true) ∧ J (pre ++ [y]) W' ∧ KeepsS b N0 n₀ W1 W') ∨ (e = .returned (.bool false) ∧ Jx (pre ++ [y]) W'))
    (h0 : J [] W) :
    CallsIn Fence.wide 2 Tryd.prog 27 #[.func (.yield lp) #[] #[], .pointer (some ⟨bt, 0, none⟩), .pointer (some ⟨ba, 0, none⟩), .pointer (some ⟨bl, 0, none⟩)] W fun e W' => (∃ v, e = .returned v) ∧
      ((∃ ys, ys = xs ∧ J ys W') ∨ (∃ pre, pre <+: xs ∧ Jx pre W')) := by
  have HH := Lib.hid H
  have HS := Lib.hid ht
  have HC := Lib.hid hc
  have H3 := Lib.hid h3
  have HSA := Lib.hid hsane
  have HJ := Lib.hid hJ
  have HY := Lib.hid hY
  have H0 := Lib.hid h0
  have t0 := h3.t.blk.cell 0
  simp at t0
  obtain ⟨A, c, rfl, hnc, hcm, -⟩ := ht
  unfold maxLen at hcm
  clear H hc h3 hsane hJ hY h0
  refine callsIn_of_wp Tryd.func27 rfl trivial ?_ rfl
  simp only [Tryd.ntmps27, List.size_toArray, List.length_cons, List.length_nil, Nat.reduceAdd, Nat.reduceSub, Array.replicate_succ, Array.replicate_zero, List.push_toArray, List.append_toArray, List.nil_append, List.cons_append]
  gi_wp2
  gi_loopw [5, 6] (fun s r wr => ∃ (rest : Int) (q : Nat) (pre ks : List Nat), s = .int .i64 rest ∧ r = .int .i64 q ∧ Hid (q = pre.length + 1) ∧ q ≤ T.length + 1 ∧ Hid (pre ++ ks = xs) ∧ Hid (ChainL h T rest ks) ∧ Hid (ThreeT N0 b bt ba bl top v (.slice A T.length c) wr) ∧ Hid (Below n₀ W wr) ∧ Hid (Sane b wr) ∧ Hid (J pre wr)) (fun _ r _ => T.length + 2 - (ivl r).toNat)
  case atStart => exact ⟨top, 1, [], xs, rfl, rfl, rfl, by omega, rfl, HC, H3, Below.refl _ _, HSA, H0⟩
  case round =>
    clear t0
    obtain ⟨rest, q, pre, ks, rfl, rfl, HQ, hq, HP, HCH, T2, HB, SA, HJ2⟩ := hrel
    have a0 := T2.out.a.blk.cell 0
    have l0 := T2.out.l.blk.cell 0
    simp at a0 l0
    have hbr : b < wr.heap.size := by have := HB.out.size; omega
    rcases ks with _ | ⟨k, ks⟩
    · obtain rfl : rest = 0 := HCH.out
      have HE := Lib.hid (show pre = xs by have := HP.out; rwa [List.append_nil] at this)
      gi_wp2
      go_end0
      exact ⟨⟨_, rfl⟩, .inl ⟨_, HE.out, HJ2.out⟩⟩
    · obtain ⟨hr, x, hx, hxp, hxe, hch⟩ := HCH.out
      subst hr
      have hkT : k < T.length := (List.getElem?_eq_some_iff.1 hx).1
      have hpl : pre.length < xs.length := by rw [← HP.out, List.length_append, List.length_cons]; omega
      have hq2 : q ≤ T.length := by have := HQ.out; omega
      have hq3 : ¬ T.length < q := by omega
      have HST := Lib.hid (headAt_ok v (.slice A T.length c) T n₀ h W HH.out (by omega) HS.out k x hx hxp wr HB.out)
      rcases hh : h x.1 with ⟨he, hk, hf, hr, hm, hc⟩
      rw [hh] at HST hxe hch
      obtain rfl : he = 0 := hxe
      have HCH2 := Lib.hid (show ChainL h T hc ks from hch)
      have HPO := Lib.hid (show (pre ++ [k]) ++ ks = xs by rw [← HP.out, List.append_assoc]; rfl)
      have e1 : wrap64 ((k : Int) + 1 - 1) = k := (wrap64_id _ (by omega) (by omega)).trans (by omega)
      have e2 : (k : Int) + 1 - 1 = k := by omega
      have HST2 := Lib.hid (show Calls Tryd.prog 28 #[v, .slice A T.length c, .int .i64 k] wr fun e w' => e = .returned (.tuple #[.agg #[.int .i64 hk, .int .i64 hf, .int .i64 hr, .bool hm, .int .i64 hc], .int .i64 0]) ∧ Only nob wr w' from HST.out)
      clear HST hx hxp hh hch HCH
      gi_wp2_with fail
      refine ⟨trivial, ?_⟩
      gi_at_call 28
      refine (callsIn_wide.2 HST2.out).mono ?_
      rintro e W2 ⟨rfl, o2⟩
      obtain ⟨W4, hW4, HB4⟩ := box_head W2 hk hf hr hm hc
      have HW4 := Lib.hid hW4
      have O4 := Lib.hid (o2.trans HB4.out.1)
      have T4 := Lib.hid (T2.out.only O4.out hbr)
      have SA4 := Lib.hid (SA.out.only O4.out hbr)
      have NM4 := Lib.hid (show ¬ mine b W4 W2.heap.size from hW4 ▸ (SA.out.only o2 hbr).new (Nat.lt_of_lt_of_le hbr o2.size) _)
      have hN2 : N0 ≤ W2.heap.size := by have := HB.out.size; have := o2.size; omega
      have hJ4 : J pre W4 := HJ.out pre wr W4 none HJ2.out (grown_of_only O4.out) (fun _ h => by cases h)
      obtain ⟨fn, tmps, assign, body, hy, hR⟩ := HY.out pre k W4 hJ4 hpl
      dsimp only [encT] at hy
      have l4 := T4.out.l.blk.cell 0
      simp at l4
      clear hJ4 hpl o2 hW4 a0 l0
      gi_wp2_with (with_reducible rw [HW4.out])
      refine hR.mono ?_
      rintro e W5 (⟨rfl, hJ5, hk5⟩ | ⟨rfl, hJx5⟩)
      · have HJ5 := Lib.hid hJ5
        have T5 := Lib.hid (T4.out.keeps hk5.k)
        have HB5 := Lib.hid (show Below n₀ W W5 from (Below.trans_only HB.out O4.out (by omega)).trans hk5.k.below)
        have SA5 := Lib.hid (hk5.sane SA4.out)
        obtain ⟨B5, -⟩ := hk5.k.blk HB4.out.2 hN2 NM4.out
        obtain ⟨c0, c1, c2, c3, c4⟩ := cells5 B5
        clear hJ5 hk5 hy hR B5
        gi_wp2
        go_roundw
        case rel => exact ⟨hc, q + 1, pre ++ [k], ks, rfl, rfl, (show q + 1 = (pre ++ [k]).length + 1 by rw [List.length_append, HQ.out]; rfl), Nat.succ_le_succ hq2, HPO, HCH2, T5, HB5, SA5, HJ5⟩
        case measure => exact meas_up hq2 _ rfl
      · have HJx := Lib.hid hJx5
        clear hJx5 hy hR
        gi_wp2
        refine bodyPost_ret (results_none rfl _ _ _) rfl ?_
        exact ⟨⟨_, rfl⟩, .inr ⟨_, ⟨_, HPO.out⟩, HJx.out⟩⟩

/-- The iterator's contract. -/
theorem itPlaces (b n₀ N0 bt ba bl : Nat) (v vt : Value) (h : Int → Hd) (T : List Sp) (top : Int) (xs : List Nat) (w : World) (H : Heads v n₀ h w) (hn : n₀ ≤ N0) (hN0 : N0 ≤ w.heap.size) (hb : b < N0) (ht : Sl w n₀ 2 vt T.length (spc T)) (hc : ChainL h T top xs) (hfew : xs.length ≤ T.length) (hT : T.length ≤ 1000000) (h3 : ThreeT N0 b bt ba bl top v vt w) (hsane : Sane b w) :
    SeqStopsK Fence.wide 2 Tryd.prog 27 #[.pointer (some ⟨bt, 0, none⟩), .pointer (some ⟨ba, 0, none⟩), .pointer (some ⟨bl, 0, none⟩)] encT (KeepsS b N0 n₀) (fun ys => ys = xs) (fun pre => pre <+: xs) xs.length w := by
  intro lp J Jx W hW hJ hJx hY h0
  have ho : Only nob w W := Below.only hW
  have hbw : b < w.heap.size := by omega
  exact places1_in lp b n₀ N0 bt ba bl v vt h T top xs J Jx W (H.later (hW.mono (by omega)) (Nat.le_refl _)) hn (Nat.le_trans hN0 hW.size) hb (ht.below (hW.mono (by omega))) hc hfew hT (h3.only ho hbw) (hsane.only ho hbw) hJ hY h0
end Go.Proofs.YtfdihnfhofpjlaaDoor
