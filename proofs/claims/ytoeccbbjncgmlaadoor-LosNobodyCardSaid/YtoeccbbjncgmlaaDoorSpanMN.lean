/- Contract of span's iterator over joined rows. -/
import Derived.Test.YtoeccbbjncgmlaaDoorSpanIL
import Derived.Test.YtoeccbbjncgmlaaDoorSpanPure
import Derived.RangeFuncNested
import Derived.RangeFuncBound
import Derived.RangeFuncCalls
import Derived.RangeFuncLeaves
import Derived.RangeFuncBox
import Derived.Shelf.Abstract
import Derived.Shelf.RegionOpen
import Derived.WalkKit
import Derived.OwnWalkIn
import Derived.TacticsInMore
import Derived.LoopNIn
import Derived.LoopIn
import Derived.Maps.AppendAt
import Derived.Maps.OwnIn
namespace Go.Proofs.YtoeccbbjncgmlaaDoor
set_option maxRecDepth 100000
open Go.RowKit Go.Shelf Go.Sort
attribute [local go_sem] Oper.semAt_some

abbrev OkSp := { x : Sp // x.ok }
def plain (l : List OkSp) : List Sp := l.map (·.1)
theorem plain_len (l : List OkSp) : (plain l).length = l.length := List.length_map _
theorem plain_snoc (l : List OkSp) (x : OkSp) : plain (l ++ [x]) = plain l ++ [x.1] := List.map_append
theorem plain_ok (l : List OkSp) : ∀ x ∈ plain l, Sp.ok x := fun x hx => by obtain ⟨y, _, rfl⟩ := List.mem_map.1 hx; exact y.2
theorem lift_ok : ∀ l : List Sp, (∀ x ∈ l, Sp.ok x) → ∃ xs : List OkSp, plain xs = l
  | [], _ => ⟨[], rfl⟩
  | x :: l, h => by
    obtain ⟨xs, hx⟩ := lift_ok l fun y hy => h y (List.mem_cons_of_mem _ hy)
    exact ⟨⟨x, h x List.mem_cons_self⟩ :: xs, by simp [plain] at hx ⊢; exact hx⟩
/-- What joined spans of l are. -/
def JoinOf (l O : List Sp) : Prop := Joined O ∧ ∀ p, cov O p ↔ cov l p

/-- Block k holds the row that box b names. -/
def mine (b : Nat) (W : World) (k : Nat) : Prop := k < W.heap.size ∧ ∃ v, W.cell? ⟨b, 0, none⟩ = some v ∧ v.ownBlock = some k
/-- What a round of a loop over the iterator keeps: what lay below n0; from N0 on every block of cells but the one that holds the row in the caller's box b. -/
structure KeepsB (b N0 n0 : Nat) (W W' : World) : Prop where
  below : Below n0 W W'
  cells : ∀ k o, N0 ≤ k → W.heap[k]? = some o → o.isCells = true → ¬ mine b W k → W'.heap[k]? = some o
  owned : ∀ k, Go.Proofs.YtoeccbbjncgmlaaDoor.mine b W' k → Go.Proofs.YtoeccbbjncgmlaaDoor.mine b W k ∨ W.heap.size ≤ k
theorem KeepsB.refl (b N0 n0 : Nat) (W : World) : KeepsB b N0 n0 W W := ⟨Below.refl _ _, fun _ _ _ h _ _ => h, fun _ h => .inl h⟩
theorem KeepsB.trans {b N0 n0 : Nat} {A B C : World} (h : KeepsB b N0 n0 A B) (g : KeepsB b N0 n0 B C) : KeepsB b N0 n0 A C := by
  refine ⟨h.below.trans g.below, fun k o hk ho hc hm => ?_, fun k hm => ?_⟩
  · have hlt : k < A.heap.size := (Array.getElem?_eq_some_iff.1 ho).1
    refine g.cells k o hk (h.cells k o hk ho hc hm) hc fun hB => ?_
    rcases h.owned k hB with h1 | h1
    · exact hm h1
    · omega
  · rcases g.owned k hm with h1 | h1
    · exact h.owned k h1
    · exact .inr (Nat.le_trans h.below.size h1)
/-- The turn of a block that is no cells. -/
theorem KeepsB.putObj {b N0 n0 : Nat} (W : World) (l : Nat) (o o' : Obj) (hb : b < l) (hn : n0 ≤ l) (hl : W.heap[l]? = some o) (ho : o.isCells = false) : KeepsB b N0 n0 W (W.putObj l o') := by
  have hg := grownBy_putObj' W l o'
  have hlt : l < W.heap.size := (Array.getElem?_eq_some_iff.1 hl).1
  refine ⟨(Below.refl n0 W).grown hg (Nat.le_trans hn (Nat.le_of_lt hlt)) (fun j e => by cases e; exact hn), fun k q _ hq hc _ => ?_, fun k hm => .inl ?_⟩
  · have hne : k ≠ l := fun e => by rw [e, hl] at hq; cases hq; rw [ho] at hc; cases hc
    exact (hg.block k (Array.getElem?_eq_some_iff.1 hq).1 (fun e => hne (Option.some.inj e))).trans hq
  · obtain ⟨h1, v, h2, h3⟩ := hm
    have hs : (W.putObj l o').heap.size = W.heap.size := by simp [World.putObj]
    rw [hs] at h1
    refine ⟨h1, v, ?_, h3⟩
    rw [← h2]
    exact (World.cell?_of_block (a := ⟨b, 0, none⟩) (hg.block b (by omega) (fun e => by have := Option.some.inj e; omega))).symm
/-- Steps that only make memory. -/
theorem mine_only {b : Nat} {W W' : World} (h : Only nob W W') (hb : b < W.heap.size) {k : Nat} (hk : k < W.heap.size) (hm : mine b W' k) : mine b W k := by
  obtain ⟨_, v, h2, h3⟩ := hm
  exact ⟨hk, v, by rw [← h2]; exact (World.cell?_of_block (a := ⟨b, 0, none⟩) (h.block b hb id)).symm, h3⟩
theorem KeepsB.only {b N0 n0 : Nat} {W W' : World} (h : Only nob W W') (hb : b < W.heap.size) (hn : n0 ≤ W.heap.size) : KeepsB b N0 n0 W W' := by
  refine ⟨h.below hn fun _ h => h.elim, fun k q _ hq _ _ => (h.block k (Array.getElem?_eq_some_iff.1 hq).1 id).trans hq, fun k hm => ?_⟩
  rcases Nat.lt_or_ge k W.heap.size with hlt | hge
  · exact .inl (mine_only h hb hlt hm)
  · exact .inr hge
/-- What the iterator has made lies on. -/
theorem KeepsB.blk {b N0 n0 : Nat} {W W' : World} (h : KeepsB b N0 n0 W W') {g : Nat} {t : TypeId} {cs : Array Value} (hb : Blk W g t cs) (hg : N0 ≤ g) (hm : ¬ mine b W g) : Blk W' g t cs ∧ ¬ mine b W' g := by
  refine ⟨h.cells g _ hg hb rfl hm, fun h' => ?_⟩
  rcases h.owned g h' with h1 | h1
  · exact hm h1
  · have := hb.lt
    omega
theorem grown_of_only {W W' : World} (h : Only nob W W') : W.grownBy W' none := ⟨h.os, h.tape, h.output, h.size, fun k hk _ => h.block k hk id⟩

/-- The slice value v reads as xs in block g. -/
def SlG (w : World) (g size : Nat) (v : Value) (n : Nat) (xs : List Value) : Prop :=
  ∃ A c, v = .slice A n c ∧ n ≤ c ∧ c ≤ maxLen ∧ xs.length = n * size ∧ (0 < n → ∃ o, A = some ⟨g, o, none⟩ ∧ ∀ k u, xs[k]? = some u → w.cell? ⟨g, o + k, none⟩ = some u)
theorem SlG.sl {w : World} {g B size n : Nat} {v : Value} {xs : List Value} (h : SlG w g size v n xs) (hB : 0 < n → g < B) : Sl w B size v n xs := by
  obtain ⟨A, c, rfl, h1, h2, h3, h4⟩ := h
  exact ⟨A, c, rfl, h1, h2, h3, fun hn => by obtain ⟨o, rfl, hc⟩ := h4 hn; exact ⟨g, o, rfl, hB hn, hc⟩⟩
theorem SlG.keep {w w' : World} {g size n : Nat} {v : Value} {xs : List Value} (h : SlG w g size v n xs) (hk : 0 < n → w'.heap[g]? = w.heap[g]?) : SlG w' g size v n xs := by
  obtain ⟨A, c, rfl, h1, h2, h3, h4⟩ := h
  exact ⟨A, c, rfl, h1, h2, h3, fun hn => by
    obtain ⟨o, rfl, hc⟩ := h4 hn
    exact ⟨o, rfl, fun k u hu => (World.cell?_of_block (a := ⟨g, o + k, none⟩) (hk hn)).trans (hc k u hu)⟩⟩
theorem SlG.cut {w : World} {g size n c l : Nat} {A : Option Addr} {xs : List Value} (h : SlG w g size (.slice A n c) n xs) (hl : l ≤ n) : SlG w g size (cutv A l n c size) (n - l) (xs.drop (l * size)) := by
  obtain ⟨A', c', e, h1, h2, h3, h4⟩ := h
  obtain ⟨rfl, rfl⟩ : A = A' ∧ c = c' := by simpa using e
  refine ⟨_, _, rfl, by omega, by omega, ?_, fun hp => ?_⟩
  · rw [List.length_drop, h3, ← Nat.sub_mul]
  · obtain ⟨o, rfl, hc⟩ := h4 (by omega)
    refine ⟨o + l * size, ?_, fun j u hu => ?_⟩
    · rw [if_neg (by omega)]
      show some (Addr.add _ _) = _
      rw [Addr.add_lit]
    · rw [Nat.add_assoc]
      refine hc _ u ?_
      rw [List.getElem?_drop] at hu
      exact hu
def slen : Value → Nat
  | .slice _ n _ => n
  | _ => 0
def ItJoined : Prop := ∀ (b Bn n₀ : Nat) (v : Value) (l : List Sp) (w : World), n₀ ≤ w.heap.size → Bn < w.heap.size → b < w.heap.size → w.cell? ⟨Bn, 0, none⟩ = some v → Sl w n₀ 2 v l.length (spc l) → l.length ≤ 40000 → Fits l →
  (∀ u k, w.cell? ⟨b, 0, none⟩ = some u → u.ownBlock = some k → k < w.heap.size) →
  SeqStopsK Fence.wide 2 Tryd.prog 75 #[.pointer (some ⟨Bn, 0, none⟩)] (fun x : OkSp => #[.agg #[.int .i64 x.1.1, .int .i64 x.1.2]]) (KeepsB b w.heap.size n₀) (fun xs => JoinOf l (plain xs)) (fun pre => ∃ xs, pre <+: xs ∧ JoinOf l (plain xs)) l.length w

set_option maxHeartbeats 4000000 in
theorem joined1_in (lp b Bn n₀ N0 : Nat) (v : Value) (l : List Sp) (J Jx : List OkSp → World → Prop)
    (W : World) (hn : n₀ ≤ W.heap.size) (hN0 : N0 ≤ W.heap.size) (hbW : b < N0) (hBn : W.cell? ⟨Bn, 0, none⟩ = some v) (hL : Sl W n₀ 2 v l.length (spc l)) (hlen : l.length ≤ 40000) (hf : Fits l)
    (hsane : ∀ u k, W.cell? ⟨b, 0, none⟩ = some u → u.ownBlock = some k → k < W.heap.size)
    (hJ : AbidesFrom W.heap.size J)
    (hY : ∀ pre x W1, J pre W1 → pre.length < l.length → YieldAt Fence.wide 1 Tryd.prog lp #[.agg #[.int .i64 x.1.1, .int .i64 x.1.2]] W1 fun e W' =>
      (e = .returned (.bool true) ∧ J (pre ++ [x]) W' ∧ KeepsB b N0 n₀ W1 W') ∨ (e = .returned (.bool false) ∧ Jx (pre ++ [x]) W'))
    (h0 : J [] W) :
    CallsIn Fence.wide 2 Tryd.prog 75 #[.func (.yield lp) #[] #[], .pointer (some ⟨Bn, 0, none⟩)] W fun e W' => (∃ v, e = .returned v) ∧
      ((∃ xs, JoinOf l (plain xs) ∧ J xs W') ∨ (∃ pre, (∃ xs, pre <+: xs ∧ JoinOf l (plain xs)) ∧ Jx pre W')) := by
  have HA := Lib.hid hL
  obtain ⟨A, ca, rfl, -⟩ := id hL
  have HF := Lib.hid hf
  have HSA := Lib.hid hsane
  have HJ := Lib.hid hJ
  have HY := Lib.hid hY
  have H0 := Lib.hid h0
  clear hL hf hsane hJ hY h0
  refine callsIn_of_wp Tryd.func75 rfl trivial ?_ rfl
  simp only [Tryd.ntmps75, List.size_toArray, List.length_cons, List.length_nil, Nat.reduceAdd, Nat.reduceSub, Array.replicate_succ, Array.replicate_zero, List.push_toArray, List.append_toArray, List.nil_append, List.cons_append]
  gi_wp2_with fail
  refine ⟨trivial, ?_⟩
  gi_at_call 76
  refine (callsIn_wide.2 (withWords_any _ l n₀ W HA.out hn hlen HF.out)).mono ?_
  rintro e W1 ⟨v1, rfl, own1, o1⟩
  have OW1 := Lib.hid own1
  have O1 := Lib.hid o1
  obtain ⟨A1, c1, rfl, -⟩ := own_len own1
  have hk1 := okL_len l
  clear own1 o1 hBn
  gi_wp2_with fail
  refine ⟨trivial, ?_⟩
  gi_at_call 64
  refine (callsIn_wide.2 (sort_any _ (okL l) W1.heap.size W1 (Sl.of_own OW1.out OW1.out.1) (Nat.le_refl _) (by omega))).mono ?_
  rintro e W2 ⟨v2, L, rfl, hLs, own2, o2⟩
  have hperm : L.Perm (okL l) := by have := hLs.2; rwa [List.take_length] at this
  have HS := Lib.hid hLs.1
  have HOK := Lib.hid (show ∀ x ∈ L, Sp.ok x from fun x hx => okL_ok x (hperm.mem_iff.1 hx))
  have HCV := Lib.hid (show ∀ p, cov L p ↔ cov l p from fun p => (cov_perm hperm p).trans (okL_cov l p))
  have hll : L.length ≤ l.length := by rw [hperm.length_eq]; exact hk1
  have O2 := Lib.hid (O1.out.trans o2)
  have hW2 : W.heap.size ≤ W2.heap.size := O2.out.size
  obtain ⟨g, HG, HB⟩ : ∃ g, Hid (SlG W2 g 2 v2 L.length (spc L)) ∧ Hid (0 < L.length → ∃ cur, Blk W2 g 25 cur ∧ ¬ mine b W2 g ∧ N0 ≤ g) := by
    rcases own2.2 with ⟨rfl, h0⟩ | ⟨g, cap, cur, rfl, hbase, hg, h1, h2, h3, h4⟩
    · exact ⟨0, ⟨none, 0, by rw [h0], by omega, by simp, own2.1, fun h => by omega⟩, fun h => by omega⟩
    · refine ⟨g, ⟨_, cap, rfl, h1, h2, own2.1, fun _ => ⟨0, rfl, fun k u hu => ?_⟩⟩, fun _ => ⟨cur, hg, fun hm => ?_, ?_⟩⟩
      · have hkl : k < L.length * 2 := by have := (List.getElem?_eq_some_iff.1 hu).1; rw [spc_len] at this; exact this
        rw [Nat.zero_add, own2.cellAt k hkl]; exact hu
      · obtain ⟨_, u, hu1, hu2⟩ := hm
        have hbW' : b < W.heap.size := by omega
        have hc : W.cell? ⟨b, 0, none⟩ = some u := by rw [← hu1]; exact (World.cell?_of_block (a := ⟨b, 0, none⟩) (O2.out.block b hbW' id)).symm
        have := HSA.out u g hc hu2
        have := O1.out.size
        omega
      · have := O1.out.size; omega
  have HJ2 := Lib.hid (HJ.out [] W W2 none H0.out (grown_of_only O2.out) (fun _ h => by cases h))
  have HP := Lib.hid (Past.start L)
  clear own2 o2 hLs hperm HSA
  obtain ⟨i0, hi0, hz0, hz1, hz2⟩ := info_parts info_span
  have HZ1 := Lib.hid hz1
  clear hz0 hz1 hz2
  gi_wp2
  gi_loopw [3] (fun s wr => ∃ (k : Nat) (pre : List OkSp), Hid (SlG wr g 2 s (L.drop k).length (spc (L.drop k))) ∧ Hid (0 < L.length → ∃ cur, Blk wr g 25 cur ∧ ¬ mine b wr g ∧ N0 ≤ g) ∧ Hid (Past L k (plain pre)) ∧ Hid (J pre wr) ∧ Hid (W.heap.size ≤ wr.heap.size)) (fun s _ => slen s)
  case atStart => exact ⟨0, [], by simpa using HG, HB, HP, HJ2, hW2⟩
  case round =>
    clear HG HB HP HJ2
    obtain ⟨k, pre, HG, HB, HP, HJ1, HZ⟩ := hrel
    obtain ⟨n, hn1⟩ : ∃ n, n = (L.drop k).length := ⟨_, rfl⟩
    have HN := Lib.hid hn1
    rw [← hn1] at HG
    obtain ⟨A3, c3, rfl, hnc, hcm, -⟩ := id HG.out
    unfold maxLen at hcm
    clear hn1
    by_cases hpos : 0 < n
    · have hkL : k < L.length := by have := HN.out; rw [List.length_drop] at this; omega
      have hwz : 0 < L.length := by omega
      have hSL := Lib.hid (show Sl wr wr.heap.size 2 (.slice A3 n c3) (L.drop k).length (spc (L.drop k)) by
        rw [← HN.out]
        obtain ⟨cur, hb, -⟩ := HB.out hwz
        exact HG.out.sl fun _ => hb.lt)
      gi_wp2_with fail
      refine ⟨trivial, ?_⟩
      gi_at_call 77
      refine (callsIn_wide.2 (first_any _ (L.drop k) wr.heap.size wr hSL.out (Nat.le_refl _) (by rw [← HN.out]; have := HN.out; rw [List.length_drop] at this; omega) (by rw [← HN.out]; exact hpos) (HS.out.sublist (List.drop_sublist _ _)) (fun x hx => HOK.out x (List.mem_of_mem_drop hx)))).mono ?_
      rintro e W3 ⟨r, m, rfl, m1, m2, hM, hN, o3⟩
      have hrok : r.ok := hM.joined.1 r (by simp)
      have HP2 := Lib.hid (show Past L (k + m) (plain (pre ++ [⟨r, hrok⟩])) by rw [plain_snoc]; exact HP.out.next HS.out m1 m2 hM hN)
      have O4 := Lib.hid (o3.alloc (.cells #[.int .i64 r.1, .int .i64 r.2] 25))
      have hmn : m ≤ n := by rw [HN.out]; exact m2
      have hbr : b < wr.heap.size := by have := HZ.out; omega
      have HB4 := Lib.hid (fun (h : 0 < L.length) => (show ∃ cur, Blk (W3.alloc (.cells #[.int .i64 r.1, .int .i64 r.2] 25)) g 25 cur ∧ ¬ mine b (W3.alloc (.cells #[.int .i64 r.1, .int .i64 r.2] 25)) g ∧ N0 ≤ g by
        obtain ⟨cur, hb1, hb2, hb3⟩ := HB.out h
        exact ⟨cur, hb1.keep O4.out id, fun hm => hb2 (mine_only O4.out hbr hb1.lt hm), hb3⟩))
      have HG4 := Lib.hid (show SlG (W3.alloc (.cells #[.int .i64 r.1, .int .i64 r.2] 25)) g 2 (.slice A3 n c3) n (spc (L.drop k)) from HG.out.keep fun _ => by
        obtain ⟨cur, hb1, -⟩ := HB.out hwz
        exact O4.out.block g hb1.lt id)
      have hJ4 : J pre (W3.alloc (.cells #[.int .i64 r.1, .int .i64 r.2] 25)) := HJ.out pre wr _ none HJ1.out (grown_of_only O4.out) (fun _ h => by cases h)
      obtain ⟨fn, tmps, assign, body, hy, hR⟩ := HY.out pre ⟨r, hrok⟩ _ hJ4 (by have := HP.out.len; rw [plain_len] at this; omega)
      dsimp only at hy
      clear hM hN o3 hJ4
      gi_wp2
      refine hR.mono ?_
      rintro e W5 (⟨rfl, hJ5, hk5⟩ | ⟨rfl, hJx5⟩)
      · have HJ5 := Lib.hid hJ5
        have hcut := run_cut_l Tryd.underlying31 hi0 A3 n c3 m hmn
        rw [HZ1.out] at hcut
        have HB5 := Lib.hid (fun (h : 0 < L.length) => (show ∃ cur, Blk W5 g 25 cur ∧ ¬ mine b W5 g ∧ N0 ≤ g by
          obtain ⟨cur, hb1, hb2, hb3⟩ := HB4.out h
          obtain ⟨q1, q2⟩ := hk5.blk hb1 hb3 hb2
          exact ⟨cur, q1, q2, hb3⟩))
        have HG5 := Lib.hid (show SlG W5 g 2 (cutv A3 m n c3 2) (L.drop (k + m)).length (spc (L.drop (k + m))) by
          have h1 : SlG W5 g 2 (.slice A3 n c3) n (spc (L.drop k)) := HG4.out.keep fun _ => by
            obtain ⟨cur, hb1, hb2, hb3⟩ := HB4.out hwz
            exact ((hk5.blk hb1 hb3 hb2).1).trans hb1.symm
          have h2 := h1.cut hmn
          rw [spc_drop, List.drop_drop] at h2
          rw [show (L.drop (k + m)).length = n - m by rw [HN.out, List.length_drop, List.length_drop]; omega]
          exact h2)
        have HZ5 := Lib.hid (show W.heap.size ≤ W5.heap.size from Nat.le_trans HZ.out (Nat.le_trans O4.out.size hk5.below.size))
        clear hJ5 hk5 hy hR
        gi_wp2
        go_roundw
        case rel => exact ⟨k + m, pre ++ [⟨r, hrok⟩], HG5, HB5, HP2, HJ5, HZ5⟩
        case measure => simp [slen, cutv]; omega
      · have HJx := Lib.hid hJx5
        clear hJx5 hy hR
        gi_wp2
        refine bodyPost_ret (results_none rfl _ _ _) rfl ?_
        obtain ⟨Q, hQ, hc⟩ := HP2.out.more HS.out HOK.out
        obtain ⟨ys, hys⟩ := lift_ok Q fun x hx => hQ.1 x (List.mem_append_right _ hx)
        exact ⟨⟨_, rfl⟩, .inr ⟨pre ++ [⟨r, hrok⟩], ⟨pre ++ [⟨r, hrok⟩] ++ ys, ⟨ys, rfl⟩, by
          rw [show plain (pre ++ [⟨r, hrok⟩] ++ ys) = plain (pre ++ [⟨r, hrok⟩]) ++ Q by rw [← hys]; exact List.map_append]
          exact ⟨hQ, fun p => (hc p).trans (HCV.out p)⟩⟩, HJx.out⟩⟩
    · have HE := Lib.hid (show k = L.length by have h1 := HN.out; rw [List.length_drop] at h1; have := HP.out.kle; omega)
      obtain rfl : n = 0 := by omega
      gi_wp2
      go_end0
      have hP := HP.out
      rw [HE.out] at hP
      exact ⟨⟨_, rfl⟩, .inl ⟨pre, ⟨hP.all.1, fun p => (hP.all.2 p).trans (HCV.out p)⟩, HJ1.out⟩⟩
theorem itJoined : ItJoined := by
  intro b Bn n₀ v l w hn hBn hb hc hs hlen hf hsane lp J Jx W hW hJ hJx hY h0
  refine joined1_in lp b Bn n₀ w.heap.size v l J Jx W (Nat.le_trans hn hW.size) hW.size hb ((hW.cell (p := ⟨Bn, 0, none⟩) hBn).trans hc) ((hs.below (hW.mono hn))) hlen hf (fun u k h1 h2 => ?_) hJ hY h0
  have := hsane u k (by rw [← h1]; exact (hW.cell (p := ⟨b, 0, none⟩) hb).symm) h2
  exact Nat.lt_of_lt_of_le this hW.size
end Go.Proofs.YtoeccbbjncgmlaaDoor

/- Contract of package span: Join. -/
namespace Go.Proofs.YtoeccbbjncgmlaaDoor
set_option maxRecDepth 100000
open Go.RowKit Go.Shelf Go.Sort
attribute [local go_sem] Oper.semAt_some

/-- A round that appends to the row in the caller's box. -/
theorem keepsB_appended {W w1 : World} {n₀ N0 b : Nat} {t e : TypeId} {size : Nat} {v v' : Value} {k m : Nat} {xs ys : List Value} {tmp : Obj}
    (hv : Boxed W b t v) (hte : t ≠ e) (hrow : W.ownsRow n₀ e size v k xs) (hn₀ : n₀ ≤ W.heap.size) (hB : n₀ ≤ b) (hbN : b < N0)
    (hown' : w1.ownsRow n₀ e size v' m ys) (hgrow : (W.alloc tmp).grownBy w1 v.ownBlock) (hvv : v'.ownBlock = v.ownBlock ∨ v'.ownBlock = some (W.alloc tmp).heap.size) :
    KeepsB b N0 n₀ W (w1.setCell ⟨b, 0, none⟩ v') := by
  obtain ⟨-, h2, -, -, h5⟩ := hv.appended hte hrow hn₀ hB hown' hgrow
  refine ⟨h5, fun k o hk ho hc hm => ?_, fun k hm => ?_⟩
  · have hlt : k < W.heap.size := (Array.getElem?_eq_some_iff.1 ho).1
    have e1 : (w1.setCell ⟨b, 0, none⟩ v').heap[k]? = w1.heap[k]? := Below.heap_setCell w1 ⟨b, 0, none⟩ v' k (by show k ≠ b; omega)
    have e2 : w1.heap[k]? = (W.alloc tmp).heap[k]? := hgrow.block k (by simp; omega) (fun e => hm ⟨hlt, v, hv.cell, e.symm⟩)
    have e3 : (W.alloc tmp).heap[k]? = W.heap[k]? := Below.heap_alloc W tmp k hlt
    rw [e1, e2, e3]; exact ho
  · obtain ⟨_, u, hu1, hu2⟩ := hm
    rw [h2.cell] at hu1
    obtain rfl := Option.some.inj hu1
    rcases hvv with e | e
    · rw [e] at hu2
      exact .inl ⟨(hrow.lt k hu2).2, v, hv.cell, hu2⟩
    · rw [e] at hu2
      have := Option.some.inj hu2
      exact .inr (by rw [← this]; simp)
theorem cells_new (w : World) (t : TypeId) (cs : Array Value) : ∀ j u, cs.toList[j]? = some u → (w.alloc (.cells cs t)).cell? ((⟨w.heap.size, 0, none⟩ : Addr).add j) = some u := by
  intro j u hj
  have := (Blk.new w t cs).cell j
  rw [Array.getElem?_toList] at hj
  rw [show (⟨w.heap.size, 0, none⟩ : Addr).add j = ⟨w.heap.size, j, none⟩ by simp [Addr.add]; try (intro h; exact h.symm)]
  rw [this, hj]
theorem maxLen_big : 1000000 ≤ maxLen := by unfold maxLen; decide

set_option maxHeartbeats 2000000 in
theorem joined_in (n : Nat) (A : Option Addr) (k c : Nat) (w : World) : CallsIn Fence.wide n Tryd.prog 60 #[.slice A k c] w fun e w' =>
    e = .returned (.func (.func 75) #[] #[.pointer (some ⟨w.heap.size, 0, none⟩)]) ∧ w' = w.alloc (.cells #[.slice A k c] 31) := by
  refine callsIn_wide.2 ?_
  go_enter Tryd.func60, Tryd.ntmps60
  go_wp2_with fail
  go_ret
  exact ⟨rfl, rfl⟩

set_option maxHeartbeats 2000000 in
theorem spJoin : SpJoin := by
  intro v l B w hs hB hlen hf
  have HS := Lib.hid hs
  obtain ⟨A, ca, rfl, hac, ham, -⟩ := hs
  refine (callsIn_wide (n := 3)).1 ?_
  obtain ⟨i0, hi0, hz0, hz1, hz2⟩ := info_parts info_span
  refine callsIn_of_wp_marks Tryd.func29 rfl trivial ?_ rfl
  simp only [Tryd.ntmps29, List.size_toArray, List.length_cons, List.length_nil, Nat.reduceAdd, Nat.reduceSub, Array.replicate_succ, Array.replicate_zero, List.push_toArray, List.append_toArray, List.nil_append, List.cons_append]
  gi_wp2_with (refine ⟨trivial, ?_⟩; gi_at_call 60; refine (joined_in _ _ _ _ _).mono ?_; rintro e w' ⟨rfl, rfl⟩)
  have bO := (Boxed.new w 31 (.slice none 0 0)).alloc (.cells #[.slice A l.length ca] 31)
  have bN := Boxed.new (w.alloc (.cells #[.slice none 0 0] 31)) 31 (.slice A l.length ca)
  rw [World.size_alloc] at bN
  have hB0 : Below w.heap.size w ((w.alloc (.cells #[.slice none 0 0] 31)).alloc (.cells #[.slice A l.length ca] 31)) := ((Below.refl _ w).alloc (Nat.le_refl _) _).alloc (by simp) _
  have hsz : ((w.alloc (.cells #[.slice none 0 0] 31)).alloc (.cells #[.slice A l.length ca] 31)).heap.size = w.heap.size + 2 := by simp
  obtain ⟨W0, hW0⟩ : ∃ W0, (w.alloc (.cells #[.slice none 0 0] 31)).alloc (.cells #[.slice A l.length ca] 31) = W0 := ⟨_, rfl⟩
  rw [hW0] at bO bN hB0 hsz ⊢
  clear hW0
  refine wpIn_rangeFunc_ownH rfl (by decide) (gf := 75) (lb := #[.pointer (some ⟨w.heap.size + 1, 0, none⟩)]) rfl trivial (enters_of Tryd.func75 (by kernel_rfl) rfl)
    (itJoined w.heap.size (w.heap.size + 1) w.heap.size _ l W0 (by omega) (by omega) (by omega) bN.cell ((HS.out.more hB).below hB0) hlen hf (fun u k h1 h2 => by rw [bO.cell] at h1; cases h1; cases h2)) KeepsB.trans (fun W l o o' h1 h2 h3 _ => KeepsB.putObj W l o o' (by omega) (by omega) h2 h3) (Below.refl _ _) (fun _ => rfl)
    (fun pre W => (∃ v, Boxed W w.heap.size 31 v ∧ W.ownsRow w.heap.size 25 2 v (plain pre).length (spc (plain pre)) ∧ True) ∧ Below w.heap.size w W)
    (fun _ _ _ => False)
    (OwnFrom.and (Own.from (holdsRow_own w.heap.size w.heap.size 31 25 2 (fun pre => (plain pre).length) (fun pre => spc (plain pre)) (fun pre v => True)) _) (ownFrom_below (Nat.le_refl _) (by omega)))
    (fun _ _ _ _ _ hs _ _ => hs)
    ⟨⟨_, bO, World.ownsRow_nil _ _ _ _, trivial⟩, hB0⟩
    (fun x a' W => ∃ Bx, w.heap.size < Bx ∧ Blk W Bx 25 #[.int .i64 x.1.1, .int .i64 x.1.2] ∧ a' = { tmps := #[.slice A l.length ca, undef, .slice none 0 0, .pointer (some ⟨w.heap.size, 0, none⟩), .pointer (some ⟨Bx, 0, none⟩), .slice A l.length ca, .func (.func 75) #[] #[.pointer (some ⟨w.heap.size + 1, 0, none⟩)], .agg #[.int .i64 x.1.1, .int .i64 x.1.2], undef, undef, undef, undef, undef], defers := [] })
    (fun x a' _ X Y row hs hg hr => by
      obtain ⟨Bx, h1, h2, h3⟩ := hs
      refine ⟨Bx, h1, ?_, h3⟩
      exact (hg.block Bx h2.lt (fun e => by obtain ⟨o, ho, hc⟩ := (hr Bx e.symm).2; rw [show X.heap[Bx]? = _ from h2] at ho; cases ho; cases hc)).trans h2)
    ?assign ?body ?done ?stop
  case assign =>
    rintro l pre x W K ⟨⟨v, hv, hrow, -⟩, hB1⟩ hK
    gi_wp2
    exact hK _ _ ((KeepsOthers.alloc _ _).from _) (KeepsB.only ((Only.refl nob W).alloc _) hv.lt hB1.size) ⟨⟨v, hv.alloc _, hrow.alloc _, trivial⟩, hB1.alloc hB1.size _⟩ ⟨W.heap.size, hv.lt, Blk.new W 25 _, rfl⟩
  case body =>
    rintro lp pre x a' W hl ⟨r, hr⟩ ⟨⟨v, hv, hrow, -⟩, hB1⟩ ⟨Bx, hBx, bX, rfl⟩ hlt
    have hc := hv.cell
    have x0 : W.cell? ⟨Bx, 0, none⟩ = some (.int .i64 x.1.1) := bX.cell 0
    have x1 : W.cell? ⟨Bx, 1, none⟩ = some (.int .i64 x.1.2) := bX.cell 1
    have hpl := Lib.hid (show (plain pre).length = pre.length from List.length_map _)
    gi_wp2_with (gi_at_builtin; refine wpListIn_append_own_at _ rfl _ _ 31 rfl w.heap.size 25 i0 _ 2 16 Tryd.underlying31 hi0 hz0 hz1 hz2 rfl (by decide) _ _ _ rfl (hrow.alloc _) ⟨W.heap.size, 0, none⟩ 1 1 (spc [x.1]) rfl rfl (cells_new _ _ _) (spc_one _) (by have := maxLen_big; have := hpl.out; omega) (by have := hpl.out; omega) (by have := hB1.size; simp; omega) ?_; intro v' w1 hown' hgrow _ hvv; have HKB := Lib.hid (keepsB_appended (N0 := W0.heap.size) hv (by decide) hrow hB1.size (Nat.le_refl _) (by omega) hown' hgrow hvv); obtain ⟨g', cap', rfl⟩ := ownsRow_succ hown'; clear hvv; obtain ⟨hv1, hv2, hr2, hk2, hb2⟩ := hv.appended (by decide) hrow hB1.size (Nat.le_refl _) hown' hgrow; have hc1 := hv1.cell; have hf1 := hv1.frozen)
    have hsn : plain (pre ++ [x]) = plain pre ++ [x.1] := List.map_append
    exact ⟨hk2.from _, HKB.out, ⟨_, hv2, by rw [hsn, spc_append, List.length_append]; exact hr2, trivial⟩, hB1.trans hb2⟩
  case done =>
    rintro D ys W hD hS ⟨⟨v, hv, hrow, -⟩, hB1⟩ hK
    have hc := hv.cell
    gi_wp2
    refine ⟨by simp, .inl ⟨_, _, rfl, run_takeDeferred hK, ?_⟩⟩
    exact ⟨_, results_tmp rfl _ _ _, v, plain ys, rfl, hS.1, hS.2, Sl.of_own (ownsRow_putObj hrow _ hK rfl) (spc_len _), (show Only nob w _ from ⟨(hB1.trans (belowK_b (w := w) (Nat.le_refl _) W D _ _ (by omega) hK rfl rfl)).os, (hB1.trans (belowK_b (w := w) (Nat.le_refl _) W D _ _ (by omega) hK rfl rfl)).tape, (hB1.trans (belowK_b (w := w) (Nat.le_refl _) W D _ _ (by omega) hK rfl rfl)).output, (hB1.trans (belowK_b (w := w) (Nat.le_refl _) W D _ _ (by omega) hK rfl rfl)).size, fun k hk _ => (hB1.trans (belowK_b (w := w) (Nat.le_refl _) W D _ _ (by omega) hK rfl rfl)).block k hk⟩)⟩
  case stop =>
    rintro D c pre W _ _ h _
    exact h.elim
end Go.Proofs.YtoeccbbjncgmlaaDoor
