/- Package roots: its small words (good, free, standing, handle, place), slices' calls at slots, the closures that are handed in. -/
import Derived.Test.YtcfiimedmhohaaaRef14
import Derived.Lib.SliceRun
import Derived.WalkKit
import Derived.Shelf.Abstract
namespace Go.Proofs.Ytcfiimedmhohaaa
open Go.RowKit Go.Lib
set_option maxRecDepth 100000

theorem box_slot (s : Slt) (w : World) : ∃ W, w.alloc (.cells #[.bool s.1, .int .i64 s.2.1, .int .u64 (s.2.2 : Nat)] 42) = W ∧ Hid (Only nob w W ∧ Blk W w.heap.size 42 #[.bool s.1, .int .i64 s.2.1, .int .u64 (s.2.2 : Nat)] ∧ W.cell? ⟨w.heap.size, 0, none⟩ = some (.bool s.1) ∧ W.cell? ⟨w.heap.size, 1, none⟩ = some (.int .i64 s.2.1) ∧ W.cell? ⟨w.heap.size, 2, none⟩ = some (.int .u64 (s.2.2 : Nat))) := by
  have hb := Blk.new w 42 #[.bool s.1, .int .i64 s.2.1, .int .u64 (s.2.2 : Nat)]
  exact ⟨_, rfl, Lib.hid ⟨(Only.refl nob w).alloc _, hb, hb.cell 0, hb.cell 1, hb.cell 2⟩⟩

set_option maxHeartbeats 400000 in
theorem isGood_any (s : Slt) (w : World) : Calls Try.prog 41 #[.agg #[.bool s.1, .int .i64 s.2.1, .int .u64 (s.2.2 : Nat)]] w fun e w' => e = .returned (.bool s.good) ∧ Only nob w w' := by
  obtain ⟨u, g, x⟩ := s
  obtain ⟨W, hW, HB⟩ := box_slot (u, g, x) w
  have HW := Lib.hid hW
  obtain ⟨-, -, -, c1, -⟩ := HB.out
  simp only at c1
  clear hW
  by_cases h1 : 0 ≤ g
  · by_cases h2 : g < 1099511627776
    · rw [good_yes (s := (u, g, x)) h1 h2]
      go_enter Try.func41, Try.ntmps41
      go_upto_region 1 with fail
      rw [HW.out]
      go_wp2
      go_ret
      exact ⟨rfl, HB.out.1⟩
    · rw [good_no (s := (u, g, x)) (fun h => h2 h.2)]
      go_enter Try.func41, Try.ntmps41
      go_upto_region 1 with fail
      rw [HW.out]
      go_wp2
      go_ret
      exact ⟨rfl, HB.out.1⟩
  · rw [good_no (s := (u, g, x)) (fun h => h1 h.1)]
    go_enter Try.func41, Try.ntmps41
    go_upto_region 1 with fail
    rw [HW.out]
    go_wp2
    go_ret
    exact ⟨rfl, HB.out.1⟩

/-- Free: not used, and good; standing: used, and good. -/
def Slt.free (s : Slt) : Bool := !s.1 && s.good
def Slt.stands (s : Slt) : Bool := s.1 && s.good
set_option maxHeartbeats 400000 in
theorem isFree_any (s : Slt) (w : World) : Calls Try.prog 27 #[.agg #[.bool s.1, .int .i64 s.2.1, .int .u64 (s.2.2 : Nat)]] w fun e w' => e = .returned (.bool s.free) ∧ Only nob w w' := by
  obtain ⟨u, g, x⟩ := s
  obtain ⟨W, hW, HB⟩ := box_slot (u, g, x) w
  have HW := Lib.hid hW
  obtain ⟨-, -, c0, c1, c2⟩ := HB.out
  simp only at c0 c1 c2
  clear hW
  rcases u with _ | _
  · rw [show Slt.free (false, g, x) = Slt.good (false, g, x) from rfl]
    have HG := Lib.hid (isGood_any (false, g, x) W)
    go_enter Try.func27, Try.ntmps27
    go_upto_region 1 with fail
    rw [HW.out]
    go_wp2_with fail
    go_at_call 41
    refine HG.out.mono ?_
    rintro e w1 ⟨rfl, o⟩
    have O := Lib.hid (HB.out.1.trans o)
    clear o c0 c1 c2
    go_wp2
    go_ret
    exact ⟨rfl, O.out⟩
  · rw [show Slt.free (true, g, x) = false from rfl]
    go_enter Try.func27, Try.ntmps27
    go_upto_region 1 with fail
    rw [HW.out]
    go_wp2
    go_ret
    exact ⟨rfl, HB.out.1⟩
set_option maxHeartbeats 400000 in
theorem stands_any (s : Slt) (w : World) : Calls Try.prog 40 #[.agg #[.bool s.1, .int .i64 s.2.1, .int .u64 (s.2.2 : Nat)]] w fun e w' => e = .returned (.bool s.stands) ∧ Only nob w w' := by
  obtain ⟨u, g, x⟩ := s
  obtain ⟨W, hW, HB⟩ := box_slot (u, g, x) w
  have HW := Lib.hid hW
  obtain ⟨-, -, c0, c1, c2⟩ := HB.out
  simp only at c0 c1 c2
  clear hW
  rcases u with _ | _
  · rw [show Slt.stands (false, g, x) = false from rfl]
    go_enter Try.func40, Try.ntmps40
    go_upto_region 1 with fail
    rw [HW.out]
    go_wp2
    go_ret
    exact ⟨rfl, HB.out.1⟩
  · rw [show Slt.stands (true, g, x) = Slt.good (true, g, x) from rfl]
    have HG := Lib.hid (isGood_any (true, g, x) W)
    go_enter Try.func40, Try.ntmps40
    go_upto_region 1 with fail
    rw [HW.out]
    go_wp2_with fail
    go_at_call 41
    refine HG.out.mono ?_
    rintro e w1 ⟨rfl, o⟩
    have O := Lib.hid (HB.out.1.trans o)
    clear o c0 c1 c2
    go_wp2
    go_ret
    exact ⟨rfl, O.out⟩

set_option maxHeartbeats 400000 in
theorem handle_any (k : Nat) (s : Slt) (hk : k ≤ 2000) (hg : s.good = true) (w : World) : Calls Try.prog 28 #[.int .i64 (k : Int), .agg #[.bool s.1, .int .i64 s.2.1, .int .u64 (s.2.2 : Nat)]] w fun e w' => e = .returned (.int .i64 (hOf k s)) ∧ Only nob w w' := by
  obtain ⟨u, g, x⟩ := s
  obtain ⟨W, hW, HB⟩ := box_slot (u, g, x) w
  have HW := Lib.hid hW
  obtain ⟨-, -, -, c1, -⟩ := HB.out
  simp only at c1
  obtain ⟨g1, g2⟩ := of_decide_eq_true hg
  simp only at g1 g2
  clear hW hg
  go_enter Try.func28, Try.ntmps28
  go_upto_region 1 with fail
  rw [HW.out]
  go_wp2
  go_ret
  exact ⟨rfl, HB.out.1⟩

set_option maxHeartbeats 400000 in
theorem isCount_any (n : Int) (w : World) : Calls Try.prog 35 #[.int .i64 n] w fun e w' => e = .returned (.bool (decide (1 ≤ n ∧ n ≤ 1024))) ∧ Only nob w w' := by
  by_cases h1 : 1 ≤ n
  · by_cases h2 : n ≤ 1024
    · rw [decide_eq_true (p := 1 ≤ n ∧ n ≤ 1024) ⟨h1, h2⟩]
      go_enter Try.func35, Try.ntmps35
      go_wp2
      go_ret
      exact ⟨rfl, Only.refl _ _⟩
    · rw [decide_eq_false (p := 1 ≤ n ∧ n ≤ 1024) (fun h => h2 h.2)]
      go_enter Try.func35, Try.ntmps35
      go_wp2
      go_ret
      exact ⟨rfl, Only.refl _ _⟩
  · rw [decide_eq_false (p := 1 ≤ n ∧ n ≤ 1024) (fun h => h1 h.1)]
    go_enter Try.func35, Try.ntmps35
    go_wp2
    go_ret
    exact ⟨rfl, Only.refl _ _⟩

/-- The slots that may have a handle. -/
theorem withHandles_any (A : Option Addr) (c n : Nat) (hn : n ≤ c) (hc : c ≤ 9223372036854775807) (w : World) :
    Calls Try.prog 26 #[.slice A n c] w fun e w' => e = .returned (.slice A (min n 1024) c) ∧ Only nob w w' := by
  rcases Nat.lt_or_ge 1024 n with h | h
  · rw [Nat.min_eq_right (by omega)]
    have hm : min (n : Int) 1024 = 1024 := by omega
    go_enter Try.func26, Try.ntmps26
    go_wp2
    go_ret
    exact ⟨rfl, Only.refl _ _⟩
  · rw [Nat.min_eq_left h]
    have hm : min (n : Int) 1024 = n := by omega
    go_enter Try.func26, Try.ntmps26
    go_wp2
    go_ret
    exact ⟨rfl, Only.refl _ _⟩

/-- A list that reads, its first k slots. -/
theorem Sl.head3 {w : World} {B n k c : Nat} {A : Option Addr} {l : List Slt} (h : Sl w B 3 (.slice A n c) l.length (slc l)) (hn : l.length = n) (hk : k ≤ n) : Sl w B 3 (.slice A k c) (l.take k).length (slc (l.take k)) := by
  obtain ⟨A', c', e, h1, h2, h3, h4⟩ := h
  subst hn
  obtain ⟨rfl, rfl⟩ : A = A' ∧ c = c' := by simpa using e
  have hl : (l.take k).length = k := by rw [List.length_take]; omega
  rw [hl]
  refine ⟨A, c, rfl, by omega, h2, by rw [slc_len, hl], fun hp => ?_⟩
  obtain ⟨b, o, rfl, hb, hc⟩ := h4 (by omega)
  refine ⟨b, o, rfl, hb, fun j u hu => hc j u ?_⟩
  rw [← slc_take, List.getElem?_take] at hu
  split at hu
  · exact hu
  · cases hu

/-- What is asked of a function that is handed in: it tells p of each slot, and only makes memory. -/
def PredS (g : FuncId) (lb : Array Value) (p : Slt → Bool) (w : World) : Prop :=
  (∀ args w, (callFunc g args).run Try.prog w = .ok (.enter g args) w) ∧ ∀ (s : Slt), (-9223372036854775808 ≤ s.2.1 ∧ s.2.1 ≤ 9223372036854775807 ∧ s.2.2 < full) → ∀ (W : World), Only nob w W → Calls Try.prog g (#[.agg #[.bool s.1, .int .i64 s.2.1, .int .u64 (s.2.2 : Nat)]] ++ lb) W fun e w' => e = .returned (.bool (p s)) ∧ Only nob W w'
theorem PredS.on {g : FuncId} {lb : Array Value} {p : Slt → Bool} {w w' : World} (h : PredS g lb p w) (o : Only nob w w') : PredS g lb p w' := ⟨h.1, fun x hx W hW => h.2 x hx W (o.trans hW)⟩
def fstP (p : Slt → Bool) (l : List Slt) : Nat := fstI (fun _ s => p s) l
def idxS (p : Slt → Bool) (l : List Slt) : Int := if fstP p l < l.length then (fstP p l : Nat) else -1
theorem idxS_hit {p : Slt → Bool} {l : List Slt} {k : Nat} (hk : k < l.length) (h : fstP p l = k) : idxS p l = k := by unfold idxS; rw [h, if_pos hk]
theorem idxS_miss {p : Slt → Bool} {l : List Slt} (h : fstP p l = l.length) : idxS p l = -1 := by unfold idxS; rw [h, if_neg (Nat.lt_irrefl _)]
theorem idxS_any (p : Slt → Bool) (l : List Slt) : decide (0 ≤ idxS p l) = l.any p := by
  unfold idxS fstP
  rcases Nat.lt_or_ge (fstI (fun _ s => p s) l) l.length with h | h
  · rw [if_pos h]
    obtain ⟨s, h1, h2⟩ := fstI_lt h
    have : l.any p = true := List.any_eq_true.2 ⟨s, List.mem_of_getElem? h1, h2⟩
    rw [this, decide_eq_true (by omega)]
  · rw [if_neg (by omega)]
    have : l.any p = false := by
      rw [List.any_eq_false]
      intro s hs e
      obtain ⟨j, hj⟩ := List.getElem?_of_mem hs
      have := fstI_lt_iff (p := fun _ s => p s).2 ⟨j, s, hj, e⟩
      omega
    rw [this]; rfl
set_option maxHeartbeats 1000000 in
theorem indexFunc_slots (g : FuncId) (lb : Array Value) (p : Slt → Bool) (v : Value) (l : List Slt) (B : Nat) (w : World) (hp : PredS g lb p w) (h : Sl w B 3 v l.length (slc l)) (hB : B ≤ w.heap.size) (hf : SlOk l) :
    Calls Try.prog 25 #[v, .func (.func g) #[] lb] w fun e w' => e = .returned (.int .i64 (idxS p l)) ∧ Only nob w w' := by
  have HA := Lib.hid h
  have HF := Lib.hid hf
  have HP := Lib.hid hp.2
  have eg := hp.1
  obtain ⟨A, ca, rfl, hac, ham, -⟩ := h
  unfold maxLen at ham
  clear hp hf
  go_enter Try.func25, Try.ntmps25
  go_wp2_with fail
  go_loopw [5, 8] (fun _ i wr => ∃ k : Nat, k ≤ l.length ∧ i = .int .i64 k ∧ Hid (∀ (j : Nat) y, j < k → l[j]? = some y → p y = false) ∧ Only nob w wr) (fun _ i _ => l.length - (intOf i).toNat)
  case atStart => exact ⟨0, Nat.zero_le _, rfl, fun j _ hj _ => absurd hj (Nat.not_lt_zero j), Only.refl _ _⟩
  case round =>
    obtain ⟨k, hk, rfl, hno, hO⟩ := hrel
    have HX := Lib.hid hO
    by_cases hlt : k < l.length
    · obtain ⟨x, hx⟩ : ∃ x, l[k]? = some x := ⟨_, List.getElem?_eq_getElem hlt⟩
      obtain ⟨b, o, rfl, hb, c0, c1, c2⟩ := sl_slot HA.out (hO.below hB fun _ h => h.elim) hx
      have HXX := Lib.hid hx
      clear hO hx
      cases hp : p x with
      | true =>
        have HQ := Lib.hid hp
        have HK := Lib.hid (idxS_hit hlt (fstI_hit (p := fun _ s => p s) HXX.out hp fun j y hj hy => hno.out j y hj hy))
        clear hp
        go_wp2_with fail
        refine (HP.out x (HF.out.get HXX.out) _ HX.out).mono ?_
        rw [HQ.out]
        rintro e w1 ⟨rfl, ho⟩
        have HO := Lib.hid (HX.out.trans ho)
        clear ho
        go_wp2
        go_ret
        exact ⟨ret_i64 (by rw [HK.out]), HO.out⟩
      | false =>
        have HQ := Lib.hid hp
        clear hp
        go_wp2_with fail
        refine (HP.out x (HF.out.get HXX.out) _ HX.out).mono ?_
        rw [HQ.out]
        rintro e w1 ⟨rfl, ho⟩
        have HO := Lib.hid (HX.out.trans ho)
        clear ho
        go_wp2
        go_roundw
        case rel =>
          refine ⟨k + 1, by omega, by go_num, fun j y hj hy => ?_, HO.out⟩
          rcases Nat.lt_or_ge j k with h' | h'
          · exact hno.out j y h' hy
          · obtain rfl : j = k := by omega
            rw [HXX.out] at hy
            obtain rfl := Option.some.inj hy
            exact HQ.out
        case measure => simp [intOf]; omega
    · obtain rfl : k = l.length := by omega
      have HK := Lib.hid (idxS_miss (fstI_none (p := fun _ s => p s) (l := l) fun j y hy => hno.out j y (List.getElem?_eq_some_iff.1 hy).1 hy))
      clear hO
      go_wp2
      go_ret
      exact ⟨ret_i64 (by rw [HK.out]), HX.out⟩
set_option maxHeartbeats 1000000 in
theorem containsFunc_slots (g : FuncId) (lb : Array Value) (p : Slt → Bool) (v : Value) (l : List Slt) (B : Nat) (w : World) (hp : PredS g lb p w) (h : Sl w B 3 v l.length (slc l)) (hB : B ≤ w.heap.size) (hf : SlOk l) :
    Calls Try.prog 38 #[v, .func (.func g) #[] lb] w fun e w' => e = .returned (.bool (l.any p)) ∧ Only nob w w' := by
  have HA := Lib.hid h
  have HP := Lib.hid hp
  have HF := Lib.hid hf
  clear h hp hf
  have HI := Lib.hid (idxS_any p l)
  go_enter Try.func38, Try.ntmps38
  go_wp2_with fail
  go_at_call 25
  refine (indexFunc_slots g lb p v l B w HP.out HA.out hB HF.out).mono ?_
  rintro e w1 ⟨rfl, ho⟩
  have HO := Lib.hid ho
  obtain ⟨i, hi⟩ : ∃ i, i = idxS p l := ⟨_, rfl⟩
  rw [← hi]
  have HII := Lib.hid hi
  clear ho hi
  go_wp2
  go_ret
  exact ⟨ret_bool (by rw [← HI.out, ← HII.out]), HO.out⟩

set_option maxHeartbeats 1000000 in
theorem clone_slots (v : Value) (l : List Slt) (B : Nat) (w : World) (h : Sl w B 3 v l.length (slc l)) (hB : B ≤ w.heap.size) (hl : l.length ≤ 1000000) :
    Calls Try.prog 24 #[v] w fun e w' => ∃ v', e = .returned v' ∧ w'.ownsRow w.heap.size 42 3 v' l.length (slc l) ∧ Only nob w w' := by
  obtain ⟨i0, hi0, hz0, hz1, hz2⟩ := info_parts info_slot
  have HA := Lib.hid h
  obtain ⟨A, ca, rfl, hac, ham, hx, hs⟩ := h
  unfold maxLen at ham
  have q29 : ∀ (w : World) (n : Nat), (binOp .eql 22 (.slice A n ca) (.slice none 0 0)).run Try.prog w = .ok (.bool A.isNone) w := fun w n => Go.Lib.run_eql_slice_nil w _ _ A _ _ _ _ Try.underlying22
  rcases A with _ | ad
  · have h0 : l.length = 0 := by
      rcases Nat.eq_zero_or_pos l.length with h0 | h0
      · exact h0
      · obtain ⟨b, o, hA, -⟩ := hs h0; cases hA
    obtain rfl : l = [] := List.eq_nil_of_length_eq_zero h0
    clear hs hx h0
    go_enter Try.func24, Try.ntmps24
    go_wp2
    go_ret
    exact ⟨_, rfl, World.ownsRow_nil _ _ _ _, Only.refl _ _⟩
  · have HS := Lib.hid hs
    clear hs hx
    go_enter Try.func24, Try.ntmps24
    go_wp2_with (with_reducible refine wpList_append_sl (o := ⟨some 7, _, _, _, _, _⟩) _ rfl (.tmp 5) (.tmp 6) _ rfl w.heap.size 42 i0 _ 3 24 Try.underlying22 hi0 hz0 hz1 hz2 rfl (by decide) (.slice (some ⟨w.heap.size, 0, none⟩) 0 0) 0 [] rfl ?c1 B (.slice (some ad) l.length ca) l.length (slc l) rfl ?c6 (slc_oneCell _) ?c2 ?c3 ?c4 ?c5)
    case c1 => exact lit_own w _ _
    case c6 => exact HA.out.below (((Only.refl nob w).alloc _).below hB fun _ h => h.elim)
    case c2 => unfold maxLen; omega
    case c3 => omega
    case c4 => simp
    case c5 =>
      intro v1 w1 H1 o1 _
      have O1 := Lib.hid (lit_only o1)
      clear o1
      go_wp2
      go_ret
      exact ⟨_, rfl, by simpa using H1.out, O1.out⟩
end Go.Proofs.Ytcfiimedmhohaaa

/- Package roots: a handle's place, a slot that is changed by a closure; Get, Set, Drop, Put. -/
namespace Go.Proofs.Ytcfiimedmhohaaa
open Go.RowKit Go.Lib
set_option maxRecDepth 100000

theorem tmod_hOf {h : Int} {k : Nat} {g : Int} (hk : k < 1024) (hg : 0 ≤ g) (e : h = (k : Int) + 1024 * g) : h.tmod 1024 = k := by
  rw [Int.tmod_eq_emod_of_nonneg (by omega)]
  omega
set_option maxHeartbeats 1000000 in
theorem place_hit (v : Value) (l : List Slt) (h : Int) (B : Nat) (w : World) (hv : Sl w B 3 v l.length (slc l)) {k : Nat} {s : Slt} (hx : l[k]? = some s) (hk4 : k < 1024) (hu : s.1 = true) (hg : s.good = true) (he : h = hOf k s) :
    Calls Try.prog 30 #[v, .int .i64 h] w fun e w' => e = .returned (.tuple #[.int .i64 (k : Int), .bool true]) ∧ Only nob w w' := by
  have HA := Lib.hid hv
  obtain ⟨A, ca, rfl, hac, ham, -⟩ := hv
  unfold maxLen at ham
  have hlt : k < l.length := (List.getElem?_eq_some_iff.1 hx).1
  obtain ⟨b, o, rfl, hb, c0, c1, c2⟩ := sl_slot HA.out (Below.refl _ _) hx
  obtain ⟨u, g, x⟩ := s
  obtain rfl : u = true := hu
  obtain ⟨g1, g2⟩ := of_decide_eq_true hg
  simp only at g1 g2
  have hm := tmod_hOf hk4 g1 he
  have h0 := hOf_bounds hk4 hg
  rw [← he] at h0
  have HS := Lib.hid (fun W => (stands_any (true, g, x) W))
  rw [show Slt.stands (true, g, x) = true from hg] at HS
  have HH := Lib.hid (fun W => (handle_any k (true, g, x) (by omega) hg W))
  rw [← he] at HH
  have HX := Lib.hid hx
  clear hx hg he g1 g2
  go_enter Try.func30, Try.ntmps30
  go_wp2_with fail
  go_at_call 40
  refine (HS.out _).mono ?_
  rintro e w1 ⟨rfl, o1⟩
  have O1 := Lib.hid o1
  have d0 := o1.keeps c0
  have d1 := o1.keeps c1
  have d2 := o1.keeps c2
  clear o1 c0 c1 c2
  go_wp2_with fail
  go_at_call 28
  refine (HH.out _).mono ?_
  rintro e w2 ⟨rfl, o2⟩
  have O2 := Lib.hid (O1.out.trans o2)
  clear o2 d0 d1 d2
  go_wp2
  go_ret2
  exact ⟨rfl, O2.out⟩
set_option maxHeartbeats 2000000 in
theorem place_miss (v : Value) (l : List Slt) (h : Int) (B : Nat) (w : World) (hv : Sl w B 3 v l.length (slc l)) (hf : fstI (isH h) l = l.length) :
    Calls Try.prog 30 #[v, .int .i64 h] w fun e w' => e = .returned (.tuple #[.int .i64 0, .bool false]) ∧ Only nob w w' := by
  have HA := Lib.hid hv
  obtain ⟨A, ca, rfl, hac, ham, -⟩ := hv
  unfold maxLen at ham
  by_cases hneg : h < 0
  · clear hf
    go_enter Try.func30, Try.ntmps30
    go_wp2
    go_ret2
    exact ⟨rfl, Only.refl _ _⟩
  · obtain ⟨k, hk⟩ : ∃ k : Nat, h.tmod 1024 = k := by
      rw [Int.tmod_eq_emod_of_nonneg (by omega)]
      exact ⟨(h % 1024).toNat, by omega⟩
    have hk4 : k < 1024 := by
      rw [Int.tmod_eq_emod_of_nonneg (by omega)] at hk
      omega
    by_cases hlt : k < l.length
    · obtain ⟨s, hx⟩ : ∃ s, l[k]? = some s := ⟨_, List.getElem?_eq_getElem hlt⟩
      obtain ⟨b, o, rfl, hb, c0, c1, c2⟩ := sl_slot HA.out (Below.refl _ _) hx
      have hno : isH h k s = false := by
        cases e : isH h k s
        · rfl
        · have := fstI_lt_iff.2 ⟨k, s, hx, e⟩
          omega
      obtain ⟨u, g, x⟩ := s
      have HS := Lib.hid (fun W => (stands_any (u, g, x) W))
      cases hst : Slt.stands (u, g, x) with
      | false =>
        rw [hst] at HS
        have HX := Lib.hid hx
        clear hx hf hno hst
        go_enter Try.func30, Try.ntmps30
        go_wp2_with fail
        go_at_call 40
        refine (HS.out _).mono ?_
        rintro e w1 ⟨rfl, o1⟩
        have O1 := Lib.hid o1
        clear o1 c0 c1 c2
        go_wp2
        go_ret2
        exact ⟨rfl, O1.out⟩
      | true =>
        rw [hst] at HS
        unfold Slt.stands at hst
        rw [Bool.and_eq_true] at hst
        obtain ⟨hu, hg⟩ := hst
        have HH := Lib.hid (fun W => (handle_any k (u, g, x) (by omega) hg W))
        have hne : hOf k (u, g, x) ≠ h := fun e => by
          rw [isH_yes hk4 hu hg e.symm] at hno
          cases hno
        obtain ⟨z, hz⟩ : ∃ z, z = hOf k (u, g, x) := ⟨_, rfl⟩
        rw [← hz] at HH hne
        have hbq : (z != h) = true := by simpa using hne
        have HX := Lib.hid hx
        clear hx hf hno hg hu hz
        go_enter Try.func30, Try.ntmps30
        go_wp2_with fail
        go_at_call 40
        refine (HS.out _).mono ?_
        rintro e w1 ⟨rfl, o1⟩
        have O1 := Lib.hid o1
        have d0 := o1.keeps c0
        have d1 := o1.keeps c1
        have d2 := o1.keeps c2
        clear o1 c0 c1 c2
        go_wp2_with fail
        go_at_call 28
        refine (HH.out _).mono ?_
        rintro e w2 ⟨rfl, o2⟩
        have O2 := Lib.hid (O1.out.trans o2)
        clear o2 d0 d1 d2
        go_wp2
        go_ret2
        exact ⟨rfl, O2.out⟩
    · clear hf
      go_enter Try.func30, Try.ntmps30
      go_wp2
      go_ret2
      exact ⟨rfl, Only.refl _ _⟩

/-- What is asked of a function that is handed the place of a slot, in a row of the call's own: it turns that slot. -/
def Does (g : FuncId) (lb : Array Value) (F : Slt → Slt) (w : World) : Prop :=
  (∀ args w, (callFunc g args).run Try.prog w = .ok (.enter g args) w) ∧ ∀ (W : World), Only nob w W → ∀ (b cap k : Nat) (cur : Array Value) (l : List Slt) (s : Slt), w.heap.size ≤ b → Blk W b 42 cur → l.length ≤ cap → cap ≤ maxLen → cur.toList.take (l.length * 3) = slc l → l[k]? = some s → s.good = true →
    Calls Try.prog g (#[.pointer (some ⟨b, k * 3, none⟩)] ++ lb) W fun e w' => e = .returned (.tuple #[]) ∧ Only (isb b) W w' ∧ Sl w' w'.heap.size 3 (.slice (some ⟨b, 0, none⟩) l.length cap) l.length (slc (l.set k (F s)))
set_option maxHeartbeats 1000000 in
theorem set1_does {x gp : Nat} {w : World} (hb : Blk w gp 23 #[.int .u64 (x : Nat)]) : Does 33 #[.pointer (some ⟨gp, 0, none⟩)] (fun s => (s.1, s.2.1, x)) w := by
  refine ⟨enters_of Try.func33 (by kernel_rfl) rfl, ?_⟩
  intro W o b cap k cur l s hbb hblk h1 h2 h4 hx hg
  have hb2 := hb.keep o id
  have hq := hb2.cell 0
  simp at hq
  have f2 := hblk.free (k * 3 + 2)
  obtain ⟨d0, d1, d2⟩ := slots_cell hblk h4 hx
  obtain ⟨W3, hW3, HB3⟩ := slots_word hblk h1 h2 h4 hx x
  have HW3 := Lib.hid hW3
  clear hW3 hblk h4 hx hg hb hb2 d0 d1
  go_enter Try.func33, Try.ntmps33
  go_wp2
  rw [HW3.out]
  go_end0
  exact ⟨rfl, HB3.out.1, HB3.out.2⟩
set_option maxHeartbeats 1000000 in
theorem drop1_does {w : World} : Does 34 #[] (fun s => (false, s.2.1 + 1, 0)) w := by
  refine ⟨enters_of Try.func34 (by kernel_rfl) rfl, ?_⟩
  intro W o b cap k cur l s hbb hblk h1 h2 h4 hx hg
  have f0 := hblk.free (k * 3)
  have f1 := hblk.free (k * 3 + 1)
  have f2 := hblk.free (k * 3 + 2)
  obtain ⟨d0, d1, d2⟩ := slots_cell hblk h4 hx
  obtain ⟨W3, hW3, HB3⟩ := slots_put hblk h1 h2 h4 (List.getElem?_eq_some_iff.1 hx).1 false (s.2.1 + 1) 0
  have HW3 := Lib.hid (show ((W.setCell ⟨b, k * 3, none⟩ (.bool false)).setCell ⟨b, k * 3 + 1, none⟩ (.int .i64 (s.2.1 + 1))).setCell ⟨b, k * 3 + 2, none⟩ (.int .u64 0) = W3 from hW3)
  obtain ⟨u, g, y⟩ := s
  obtain ⟨g1, g2⟩ := of_decide_eq_true hg
  simp only at g1 g2 d0 d1 d2 HW3 HB3
  clear hW3 hblk h4 hx hg
  go_enter Try.func34, Try.ntmps34
  go_wp2
  rw [HW3.out]
  go_end0
  exact ⟨rfl, HB3.out.1, HB3.out.2⟩

/-- An own row reads. -/
theorem sl_own {w : World} {base : Nat} {v : Value} {l : List Slt} (h : w.ownsRow base 42 3 v l.length (slc l)) : Sl w w.heap.size 3 v l.length (slc l) := Sl.of_own h (by rw [slc_len])
theorem own_fos {w w' : World} {v : Value} {n : Nat} {xs : List Value} (h : w'.ownsRow w.heap.size 42 3 v n xs) : ∀ (b o m c : Nat), v = .slice (some ⟨b, o, none⟩) m c → w.heap.size ≤ b := by
  intro b o m c e
  rcases h.2 with ⟨h0, _⟩ | ⟨g, cap, cur, h1, h2, _⟩
  · rw [h0] at e; cases e
  · rw [h1] at e
    simp only [Value.slice.injEq, Option.some.injEq, Addr.mk.injEq] at e
    omega

/-- A slot's change by a closure; where the handle is not right, the table as it is. -/
def ChangeT (l : List Slt) (h : Int) (F : Slt → Slt) : List Slt := if fstI (isH h) l < l.length then l.set (fstI (isH h) l) (F (l.getD (fstI (isH h) l) (false, 0, 0))) else l
theorem change_hit {l : List Slt} {h : Int} {F : Slt → Slt} {k : Nat} {s : Slt} (hx : l[k]? = some s) (hk : fstI (isH h) l = k) : ChangeT l h F = l.set k (F s) := by
  have hlt : k < l.length := (List.getElem?_eq_some_iff.1 hx).1
  unfold ChangeT
  rw [hk, if_pos hlt, slt_getD hx]
theorem change_miss {l : List Slt} {h : Int} {F : Slt → Slt} (hk : fstI (isH h) l = l.length) : ChangeT l h F = l := by
  unfold ChangeT
  rw [if_neg (by omega)]
theorem change_set (l : List Slt) (h : Int) (x : Nat) : ChangeT l h (fun s => (s.1, s.2.1, x)) = setSL l h x := by
  rcases plH_cases l h with ⟨k, s, hx, hu, -, hk, -⟩ | hk
  · rw [change_hit hx hk, (found hx hk).2.2.2.1, hu]
  · rw [change_miss hk, (not_found hk).2.2.2.1]
theorem change_drop (l : List Slt) (h : Int) : ChangeT l h (fun s => (false, s.2.1 + 1, 0)) = dropSL l h := by
  rcases plH_cases l h with ⟨k, s, hx, hu, -, hk, -⟩ | hk
  · rw [change_hit hx hk, (found hx hk).2.2.2.2]
  · rw [change_miss hk, (not_found hk).2.2.2.2]
theorem changeT_len (l : List Slt) (h : Int) (F : Slt → Slt) : (ChangeT l h F).length = l.length := by unfold ChangeT; split <;> simp

set_option maxHeartbeats 2000000 in
theorem change_any (g : FuncId) (lb : Array Value) (F : Slt → Slt) (v : Value) (l : List Slt) (h : Int) (B : Nat) (w : World) (hv : Sl w B 3 v l.length (slc l)) (hB : B ≤ w.heap.size) (hl : l.length ≤ 2000) (hd : Does g lb F w) :
    Calls Try.prog 32 #[v, .int .i64 h, .func (.func g) #[] lb] w fun e w' => ∃ v', e = .returned (.tuple #[v', .int .i64 (getE l h)]) ∧ Sl w' w'.heap.size 3 v' (ChangeT l h F).length (slc (ChangeT l h F)) ∧ Only nob w w' ∧ ∀ (b o m c : Nat), v' = .slice (some ⟨b, o, none⟩) m c → w.heap.size ≤ b := by
  have HA := Lib.hid hv
  have HD := Lib.hid hd.2
  have eg := hd.1
  rw [changeT_len]
  clear hd hv
  go_enter Try.func32, Try.ntmps32
  go_wp2_with fail
  go_at_call 24
  refine (clone_slots v l B w HA.out hB (by omega)).mono ?_
  rintro e w1 ⟨v1, rfl, hown, o⟩
  have O1 := Lib.hid o
  have S1 := Lib.hid (sl_own hown)
  have HF := Lib.hid (own_fos hown)
  have HO := Lib.hid hown
  obtain ⟨A1, c1, rfl, hac1, hc1⟩ := own_len hown
  clear hown o
  rcases plH_cases l h with ⟨k, s, hx, hu, hg, hk, hk4⟩ | hk
  · have hr := fstI_lt (p := isH h) (l := l) (by have := (List.getElem?_eq_some_iff.1 hx).1; omega)
    have he : h = hOf k s := by
      obtain ⟨s', h1, h2⟩ := hr
      rw [hk] at h1 h2
      rw [hx] at h1
      obtain rfl := Option.some.inj h1
      unfold isH at h2
      simp only [Bool.and_eq_true, decide_eq_true_eq] at h2
      exact h2.2.2.2
    have HPL := Lib.hid (place_hit _ l h _ w1 S1.out hx hk4 hu hg he)
    have HG := Lib.hid (found hx hk).2.1
    have HC := Lib.hid (change_hit (F := F) hx hk)
    have hlt : k < l.length := (List.getElem?_eq_some_iff.1 hx).1
    have HX := Lib.hid hx
    have HGD := Lib.hid hg
    obtain ⟨g1, cap, cur, e1, hg1, hblk, hc1', hc2, hc4⟩ := own_slots HO.out hlt
    obtain ⟨rfl, rfl⟩ : A1 = some ⟨g1, 0, none⟩ ∧ c1 = cap := by simpa using e1
    have HB := Lib.hid hblk
    have H4 := Lib.hid hc4
    have hcm : c1 ≤ 9223372036854775807 := by unfold maxLen at hc2; omega
    clear hr he hx hg hk hblk hc4 e1 hu
    go_wp2_with fail
    go_at_call 30
    refine HPL.out.mono ?_
    rintro e w2 ⟨rfl, o2⟩
    have O2 := Lib.hid (O1.out.trans o2)
    have HB2 := Lib.hid (HB.out.keep o2 id)
    clear o2
    go_wp2_with fail
    refine (HD.out w2 O2.out g1 c1 k cur l s hg1 HB2.out hc1' hc2 H4.out HX.out HGD.out).mono ?_
    rintro e w3 ⟨rfl, o3, s3⟩
    have O3 := Lib.hid (O2.out.andThen o3 fun i hi e => by unfold isb at e; omega)
    have S3 := Lib.hid s3
    clear o3 s3
    go_wp2
    go_ret2
    exact ⟨_, by rw [HG.out]; rfl, by rw [HC.out]; exact S3.out, O3.out, HF.out⟩
  · have HPL := Lib.hid (place_miss _ l h _ w1 S1.out hk)
    have HG := Lib.hid (not_found hk).2.1
    have HC := Lib.hid (change_miss (F := F) hk)
    clear hk
    go_wp2_with fail
    go_at_call 30
    refine HPL.out.mono ?_
    rintro e w2 ⟨rfl, o2⟩
    have O2 := Lib.hid (O1.out.trans o2)
    have S2 := Lib.hid ((S1.out.below o2.whole).more o2.size)
    clear o2
    go_wp2
    go_ret2
    exact ⟨_, by rw [HG.out]; rfl, by rw [HC.out]; exact S2.out, O2.out, HF.out⟩
end Go.Proofs.Ytcfiimedmhohaaa

/- Package roots: each exported call's contract. -/
namespace Go.Proofs.Ytcfiimedmhohaaa
open Go.RowKit Go.Lib
set_option maxRecDepth 100000

theorem own_put3 {x : Nat} (w : World) : ∃ W, w.alloc (.cells #[.int .u64 (x : Nat)] 23) = W ∧ Hid (Only nob w W ∧ Blk W w.heap.size 23 #[.int .u64 (x : Nat)]) := ⟨_, rfl, Lib.hid ⟨(Only.refl nob w).alloc _, Blk.new _ _ _⟩⟩
set_option maxHeartbeats 1000000 in
theorem set_any14 : SetC 11 := by
  intro v l h x B w hv hB hl hok hx64
  obtain ⟨W, hW, HB⟩ := own_put3 (x := x) w
  have HW := Lib.hid hW
  have HCH := Lib.hid (change_any _ _ _ v l h B W (hv.below (HB.out.1.below hB fun _ h => h.elim)) (Nat.le_trans hB HB.out.1.size) hl (set1_does HB.out.2))
  rw [change_set] at HCH
  obtain ⟨A, ca, rfl, hac, ham, -⟩ := hv
  clear hW hok hx64
  go_enter Try.func11, Try.ntmps11
  go_upto_region 1 with fail
  rw [HW.out]
  go_wp2_with fail
  go_at_call 32
  refine HCH.out.mono ?_
  rintro e w1 ⟨v1, rfl, s1, o1, -⟩
  have O1 := Lib.hid (HB.out.1.trans o1)
  have S1 := Lib.hid s1
  clear s1 o1
  go_wp2
  go_ret2
  exact ⟨_, rfl, S1.out, O1.out⟩
set_option maxHeartbeats 1000000 in
theorem drop_any14 (v : Value) (l : List Slt) (h : Int) (B : Nat) (w : World) (hv : Sl w B 3 v l.length (slc l)) (hB : B ≤ w.heap.size) (hl : l.length ≤ 2000) :
    Calls Try.prog 13 #[v, .int .i64 h] w fun e w' => ∃ v', e = .returned (.tuple #[v', .int .i64 (getE l h)]) ∧ Sl w' w'.heap.size 3 v' (dropSL l h).length (slc (dropSL l h)) ∧ Only nob w w' ∧ ∀ (b o m c : Nat), v' = .slice (some ⟨b, o, none⟩) m c → w.heap.size ≤ b := by
  have HCH := Lib.hid (change_any _ _ _ v l h B w hv hB hl drop1_does)
  rw [change_drop] at HCH
  obtain ⟨A, ca, rfl, hac, ham, -⟩ := hv
  go_enter Try.func13, Try.ntmps13
  go_wp2_with fail
  go_at_call 32
  refine HCH.out.mono ?_
  rintro e w1 ⟨v1, rfl, s1, o1, f1⟩
  have O1 := Lib.hid o1
  have S1 := Lib.hid s1
  have F1 := Lib.hid f1
  clear s1 o1 f1
  go_wp2
  go_ret2
  exact ⟨_, rfl, S1.out, O1.out, F1.out⟩
set_option maxHeartbeats 1000000 in
theorem get_any14 : GetC 9 := by
  intro v l h B w hv hB hl hok
  have HA := Lib.hid hv
  rcases plH_cases l h with ⟨k, s, hx, hu, hg, hk, hk4⟩ | hk
  · have he : h = hOf k s := by
      obtain ⟨s', h1, h2⟩ := fstI_lt (p := isH h) (l := l) (by have := (List.getElem?_eq_some_iff.1 hx).1; omega)
      rw [hk] at h1 h2
      rw [hx] at h1
      obtain rfl := Option.some.inj h1
      unfold isH at h2
      simp only [Bool.and_eq_true, decide_eq_true_eq] at h2
      exact h2.2.2.2
    have HPL := Lib.hid (place_hit v l h B w hv hx hk4 hu hg he)
    obtain ⟨e1, e2, e3, -, -⟩ := found hx hk
    rw [e2, e3]
    obtain ⟨A, ca, rfl, hac, ham, -⟩ := hv
    unfold maxLen at ham
    have hlt : k < l.length := (List.getElem?_eq_some_iff.1 hx).1
    have HX := Lib.hid hx
    clear e1 e2 e3 hk hx hok he hg hu
    go_enter Try.func9, Try.ntmps9
    go_wp2_with fail
    go_at_call 30
    refine HPL.out.mono ?_
    rintro e w1 ⟨rfl, o⟩
    obtain ⟨b, oo, rfl, hb, c0, c1, c2⟩ := sl_slot HA.out (o.below hB fun _ h => h.elim) HX.out
    have O1 := Lib.hid o
    clear o c0 c1
    go_wp2
    go_ret2
    exact ⟨rfl, O1.out⟩
  · have HPL := Lib.hid (place_miss v l h B w hv hk)
    obtain ⟨e1, e2, e3, -, -⟩ := not_found hk
    rw [e2, e3]
    obtain ⟨A, ca, rfl, hac, ham, -⟩ := hv
    clear e1 e2 e3 hk hok
    go_enter Try.func9, Try.ntmps9
    go_wp2_with fail
    go_at_call 30
    refine HPL.out.mono ?_
    rintro e w1 ⟨rfl, o⟩
    have O1 := Lib.hid o
    clear o
    go_wp2
    go_ret2
    exact ⟨rfl, O1.out⟩

theorem slc_set2 : ∀ (l : List Slt) (k : Nat) (s : Slt) (x : Nat), l[k]? = some s → ((slc l).set (k * 3) (.bool true)).set (k * 3 + 2) (.int .u64 (x : Nat)) = slc (l.set k (true, s.2.1, x))
  | [], k, s, x, h => by simp at h
  | y :: l, 0, s, x, h => by
    obtain rfl : y = s := by simpa using h
    simp [slc, slE]
  | y :: l, k + 1, s, x, h => by
    have := slc_set2 l k s x (by simpa using h)
    rw [show (k + 1) * 3 = k * 3 + 1 + 1 + 1 by omega]
    simpa [slc, slE] using this
/-- A slot of a row is taken. -/
theorem slots_take {w : World} {g cap : Nat} {cur : Array Value} {l : List Slt} {k : Nat} {s : Slt} (hB : Blk w g 42 cur) (h1 : l.length ≤ cap) (h2 : cap ≤ maxLen) (h4 : cur.toList.take (l.length * 3) = slc l) (hx : l[k]? = some s) (x : Nat) :
    ∃ W, (w.setCell ⟨g, k * 3, none⟩ (.bool true)).setCell ⟨g, k * 3 + 2, none⟩ (.int .u64 (x : Nat)) = W ∧ Hid (Only (isb g) w W ∧ Sl W W.heap.size 3 (.slice (some ⟨g, 0, none⟩) l.length cap) l.length (slc (l.set k (true, s.2.1, x)))) := by
  refine ⟨_, rfl, Lib.hid ⟨(only_set w g _ _).trans (only_set _ g _ _), ?_⟩⟩
  refine sl_of_slots ((hB.put (k * 3) (.bool true)).put (k * 3 + 2) (.int .u64 (x : Nat))) (by simp) h1 h2 ?_
  rw [Array.toList_setIfInBounds, Array.toList_setIfInBounds, List.take_set, List.take_set, h4]
  exact slc_set2 l k s x hx
theorem free_pred (w : World) : PredS 27 #[] Slt.free w :=
  ⟨enters_of Try.func27 (by kernel_rfl) rfl, fun s _ W _ => isFree_any s W⟩
theorem fst_free (l : List Slt) : fstP Slt.free (l.take 1024) = (if fstI isFree l < l.length then fstI isFree l else (l.take 1024).length) := by
  rcases free_cases l with ⟨k, s, hx, hu, hg, hk, hk4⟩ | hk
  · have hlt : k < l.length := (List.getElem?_eq_some_iff.1 hx).1
    rw [hk, if_pos hlt]
    refine fstI_hit (s := s) (by rw [List.getElem?_take, if_pos hk4]; exact hx) (by show Slt.free s = true; unfold Slt.free; rw [hu, hg]; rfl) fun j y hj hy => ?_
    rw [List.getElem?_take, if_pos (by omega)] at hy
    cases e : Slt.free y
    · rfl
    · exfalso
      unfold Slt.free at e
      simp only [Bool.and_eq_true, Bool.not_eq_true'] at e
      have h1 : ¬ (fstI isFree l ≤ j) := by omega
      have h2 : j < l.zipIdx.findIdx fun x => isFree x.2 x.1 := by unfold fstI at h1; omega
      have h3 := List.not_of_lt_findIdx h2
      obtain ⟨_, rfl⟩ := List.getElem?_eq_some_iff.1 hy
      simp at h3
      rw [isFree_yes (by omega) e.1 e.2] at h3
      cases h3
  · rw [hk, if_neg (Nat.lt_irrefl _)]
    refine fstI_none fun j y hy => ?_
    rw [List.getElem?_take] at hy
    split at hy
    · cases e : Slt.free y
      · rfl
      · exfalso
        unfold Slt.free at e
        simp only [Bool.and_eq_true, Bool.not_eq_true'] at e
        have := fstI_lt_iff.2 ⟨j, y, hy, isFree_yes (by omega) e.1 e.2⟩
        omega
    · cases hy

set_option maxHeartbeats 4000000 in
theorem put_any14 (v : Value) (l : List Slt) (x B : Nat) (w : World) (hv : Sl w B 3 v l.length (slc l)) (hB : B ≤ w.heap.size) (hl : l.length ≤ 2000) (hok : SlOk l) :
    Calls Try.prog 7 #[v, .int .u64 (x : Nat)] w fun e w' => ∃ v', e = .returned (.tuple #[v', .int .i64 (putSH l), .int .i64 (putSE l)]) ∧ Sl w' w'.heap.size 3 v' (putSL l x).length (slc (putSL l x)) ∧ Only nob w w' ∧ ∀ (b o m c : Nat), v' = .slice (some ⟨b, o, none⟩) m c → w.heap.size ≤ b := by
  have HA := Lib.hid hv
  have HOK := Lib.hid (show SlOk (l.take 1024) from fun s hs => hok s (List.mem_of_mem_take hs))
  have HFF := Lib.hid (fst_free l)
  have hml : min l.length 1024 ≤ 1024 := Nat.min_le_right _ _
  clear hv hok
  go_enter Try.func7, Try.ntmps7
  go_wp2_with fail
  go_at_call 24
  refine (clone_slots v l B w HA.out hB (by omega)).mono ?_
  rintro e w1 ⟨v1, rfl, hown, o⟩
  have O1 := Lib.hid o
  have S1 := Lib.hid (sl_own hown)
  have HF := Lib.hid (own_fos hown)
  have HO := Lib.hid hown
  obtain ⟨A1, c1, rfl, hac1, hc1⟩ := own_len hown
  have hcc : c1 ≤ 9223372036854775807 := by unfold maxLen at hc1; omega
  clear hown o
  go_wp2_with fail
  go_at_call 26
  refine (withHandles_any A1 c1 l.length hac1 hcc w1).mono ?_
  rintro e w2 ⟨rfl, o2⟩
  have O2 := Lib.hid (O1.out.trans o2)
  have HO2 := Lib.hid (own_only HO.out o2 fun _ _ => id)
  have S2 := Lib.hid ((S1.out.below o2.whole).more o2.size)
  have SH2 := Lib.hid (show Sl w2 w2.heap.size 3 (.slice A1 (min l.length 1024) c1) (l.take 1024).length (slc (l.take 1024)) by
    have h := S2.out.head3 rfl (Nat.min_le_left l.length 1024)
    rwa [show l.take (min l.length 1024) = l.take 1024 by rw [Nat.min_comm, ← List.take_eq_take_min]] at h)
  clear o2
  go_wp2_with fail
  go_at_call 25
  refine (indexFunc_slots _ #[] Slt.free _ (l.take 1024) _ w2 (free_pred w2) SH2.out (Nat.le_refl _) HOK.out).mono ?_
  rintro e w3 ⟨rfl, o3⟩
  have O3 := Lib.hid (O2.out.trans o3)
  have HO3 := Lib.hid (own_only HO2.out o3 fun _ _ => id)
  have S3 := Lib.hid ((S2.out.below o3.whole).more o3.size)
  clear o3
  rcases free_cases l with ⟨k, s, hx, hu, hg, hk, hk4⟩ | hk
  · have hlt : k < l.length := (List.getElem?_eq_some_iff.1 hx).1
    have hfst := HFF.out
    rw [hk, if_pos hlt] at hfst
    rw [idxS_hit (by rw [List.length_take]; omega) hfst]
    obtain ⟨g1, cap, cur, e1, hg1, hblk, hc1', hc2, hc4⟩ := own_slots HO3.out hlt
    obtain ⟨rfl, rfl⟩ : A1 = some ⟨g1, 0, none⟩ ∧ c1 = cap := by simpa using e1
    have HP := Lib.hid (put_found hx hk)
    obtain ⟨d0, d1, d2⟩ := slots_cell hblk hc4 hx
    have f0 := hblk.free (k * 3)
    have f2 := hblk.free (k * 3 + 2)
    obtain ⟨W4, hW4, HB4⟩ := slots_take hblk hc1' hc2 hc4 hx x
    have HW4 := Lib.hid hW4
    obtain ⟨u, gn, wd0⟩ := s
    obtain rfl : u = false := hu
    have HH := Lib.hid (fun W => (handle_any k (true, gn, x) (by omega) hg W))
    have O4 := Lib.hid (O3.out.andThen HB4.out.1 fun i hi e => by unfold isb at e; omega)
    have hset : (l.set k (true, gn, x))[k]? = some (true, gn, x) := List.getElem?_set_self hlt
    obtain ⟨b5, o5, e5, hb5, c0, c1', c2⟩ := sl_slot (l := l.set k (true, gn, x)) (by rw [List.length_set]; exact HB4.out.2) (Below.refl _ _) hset
    obtain ⟨rfl, rfl⟩ : g1 = b5 ∧ 0 = o5 := by simpa using e5
    rw [Nat.zero_add] at c0 c1' c2
    clear hset e5 e1 hW4 hblk hc4 hfst hk hx hg hml
    go_upto_region 6 with fail
    rw [HW4.out]
    clear d0 d1 d2 f0 f2
    go_wp2_with fail
    go_at_call 28
    refine (HH.out _).mono ?_
    rintro e w5 ⟨rfl, o5⟩
    have O5 := Lib.hid (O4.out.trans o5)
    have S5 := Lib.hid ((HB4.out.2.below o5.whole).more o5.size)
    clear o5 c0 c1' c2
    go_wp2
    go_ret3
    exact ⟨_, by rw [HP.out.1, HP.out.2.1]; rfl, by rw [HP.out.2.2 x, List.length_set]; exact S5.out, O5.out, HF.out⟩
  · have hfst := HFF.out
    rw [hk, if_neg (Nat.lt_irrefl _)] at hfst
    rw [idxS_miss hfst]
    have HP := Lib.hid (put_none hk)
    clear hfst hk hml
    go_wp2
    go_ret3
    exact ⟨_, by rw [HP.out.1, HP.out.2.1]; rfl, by rw [HP.out.2.2 x]; exact S3.out, O3.out, HF.out⟩
end Go.Proofs.Ytcfiimedmhohaaa

/- Package roots: New, Used, Handles, Right. -/
namespace Go.Proofs.Ytcfiimedmhohaaa
open Go.RowKit Go.Lib
set_option maxRecDepth 100000

theorem made_slots (n : Nat) : madeCells (Value.agg #[.bool false, .int .i64 0, .int .u64 0]).cells (n * 3) = (slc (List.replicate n ((false, 0, 0) : Slt))).toArray := by
  have hl : (slc (List.replicate n ((false, 0, 0) : Slt))).length = n * 3 := by rw [slc_len, List.length_replicate]
  apply Array.ext
  · rw [size_madeCells]; simp [hl]
  · intro i h1 h2
    rw [size_madeCells] at h1
    obtain ⟨q, hq, hr⟩ : ∃ q, q < n ∧ (i = q * 3 ∨ i = q * 3 + 1 ∨ i = q * 3 + 2) := ⟨i / 3, by omega, by omega⟩
    obtain ⟨e0, e1, e2⟩ := slc_get (List.replicate n ((false, 0, 0) : Slt)) q (false, 0, 0) (by rw [List.getElem?_replicate, if_pos hq])
    have key : ∀ (i : Nat) (y : Value) (h2 : i < (slc (List.replicate n ((false, 0, 0) : Slt))).toArray.size), (slc (List.replicate n ((false, 0, 0) : Slt)))[i]? = some y → (slc (List.replicate n ((false, 0, 0) : Slt))).toArray[i] = y := fun i y h2 h => by
      simpa using (List.getElem?_eq_some_iff.1 h).2
    rcases hr with rfl | rfl | rfl
    · rw [key _ _ h2 e0]
      simp only [madeCells, Array.getElem_map, Array.getElem_range]
      rw [show (Value.agg #[.bool false, .int .i64 0, .int .u64 0]).cells.size = 3 from rfl, show q * 3 % 3 = 0 by omega]
      rfl
    · rw [key _ _ h2 e1]
      simp only [madeCells, Array.getElem_map, Array.getElem_range]
      rw [show (Value.agg #[.bool false, .int .i64 0, .int .u64 0]).cells.size = 3 from rfl, show (q * 3 + 1) % 3 = 1 by omega]
      rfl
    · rw [key _ _ h2 e2]
      simp only [madeCells, Array.getElem_map, Array.getElem_range]
      rw [show (Value.agg #[.bool false, .int .i64 0, .int .u64 0]).cells.size = 3 from rfl, show (q * 3 + 2) % 3 = 2 by omega]
      rfl
/-- make([]api.Slot, n). -/
theorem make_slots (n : Nat) (hn : n ≤ 1000000) (w : World) : (Instr.makeSlice 22 (.int .i64 (n : Int)) (.int .i64 (n : Int))).run Try.prog w = .ok (.slice (some ⟨w.heap.size, 0, none⟩) n n) (w.alloc (.cells (slc (List.replicate n ((false, 0, 0) : Slt))).toArray 42)) := by
  obtain ⟨i0, hi0, hz0, hz1, hz2⟩ := info_parts info_slot
  have h := run_make (P := Try.prog) w 22 42 i0 _ Try.underlying22 hi0 hz0 .i64 .i64 n n (by omega) (Int.le_refl _) (by rw [hz2]; omega) (by omega)
  rw [h]
  simp only [Int.toNat_natCast, hz1, made_slots n]
def newE (n : Int) : Int := if 1 ≤ n ∧ n ≤ 1024 then 0 else 1
def newL (n : Int) : List Slt := if 1 ≤ n ∧ n ≤ 1024 then List.replicate n.toNat ((false, 0, 0) : Slt) else []
set_option maxHeartbeats 1000000 in
theorem new_core (n : Int) (w : World) : Calls Try.prog 16 #[.int .i64 n] w fun e w' => ∃ v', e = .returned (.tuple #[v', .int .i64 (newE n)]) ∧ Sl w' w'.heap.size 3 v' (newL n).length (slc (newL n)) ∧ Only nob w w' := by
  have HC := Lib.hid (isCount_any n w)
  by_cases hn : 1 ≤ n ∧ n ≤ 1024
  · rw [decide_eq_true hn] at HC
    obtain ⟨m, rfl⟩ : ∃ m : Nat, n = m := ⟨n.toNat, by omega⟩
    have HI := Lib.hid (show newE m = 0 from if_pos hn)
    have HL := Lib.hid (show newL m = List.replicate m ((false, 0, 0) : Slt) by unfold newL; rw [if_pos hn, Int.toNat_natCast])
    have hb := hn.2
    clear hn
    go_enter Try.func16, Try.ntmps16
    go_wp2_with fail
    go_at_call 35
    refine HC.out.mono ?_
    rintro e w1 ⟨rfl, o⟩
    have O := Lib.hid o
    clear o
    have hmk := make_slots m (by omega) w1
    obtain ⟨W2, hW2, H2⟩ : ∃ W2, w1.alloc (.cells (slc (List.replicate m ((false, 0, 0) : Slt))).toArray 42) = W2 ∧ Hid (Only nob w1 W2 ∧ Blk W2 w1.heap.size 42 (slc (List.replicate m ((false, 0, 0) : Slt))).toArray) := ⟨_, rfl, Lib.hid ⟨(Only.refl nob w1).alloc _, Blk.new _ _ _⟩⟩
    rw [hW2] at hmk
    clear hW2
    go_wp2
    go_ret2
    refine ⟨_, by rw [HI.out]; rfl, ?_, O.out.trans H2.out.1⟩
    rw [HL.out, List.length_replicate]
    have := Sl.of_blk (size := 3) (n := m) (c := m) H2.out.2 (by simp [slc_len]) (Nat.le_refl _) (by unfold maxLen; omega)
    simpa using this
  · rw [decide_eq_false hn] at HC
    have HI := Lib.hid (show newE n = 1 from if_neg hn)
    have HL := Lib.hid (show newL n = [] from if_neg hn)
    clear hn
    go_enter Try.func16, Try.ntmps16
    go_wp2_with fail
    go_at_call 35
    refine HC.out.mono ?_
    rintro e w1 ⟨rfl, o⟩
    have O := Lib.hid o
    clear o
    go_wp2
    go_ret2
    exact ⟨_, by rw [HI.out]; rfl, by rw [HL.out]; exact Sl.nil_, O.out⟩
theorem new_any14 : RtNew := by
  intro n w h1 h2
  refine (new_core n w).mono ?_
  rintro e w' ⟨v', rfl, s, o⟩
  exact ⟨v', newL n, rfl, rfl, s, o⟩

set_option maxHeartbeats 1000000 in
theorem used_any14 : UsedC 18 := by
  intro v l B w hv hB hl
  have HA := Lib.hid hv
  obtain ⟨A, ca, rfl, hac, ham, -⟩ := hv
  unfold maxLen at ham
  go_enter Try.func18, Try.ntmps18
  go_wp2_with fail
  go_loopw [3, 8] (fun n i wr => ∃ k : Nat, k ≤ l.length ∧ n = .int .i64 (usedS (l.take k) : Nat) ∧ i = .int .i64 k ∧ Hid (Only nob w wr)) (fun _ i _ => l.length - (intOf i).toNat)
  case atStart => exact ⟨0, Nat.zero_le _, rfl, rfl, Lib.hid (Only.refl _ _)⟩
  case round =>
    obtain ⟨k, hk, rfl, rfl, HO⟩ := hrel
    have hu : usedS (l.take k) ≤ 2000 := by have := usedS_le (l.take k); have := List.length_take_le k l; omega
    by_cases hlt : k < l.length
    · obtain ⟨s, hx⟩ : ∃ s, l[k]? = some s := ⟨_, List.getElem?_eq_getElem hlt⟩
      obtain ⟨b, o, rfl, hb, c0, c1, c2⟩ := sl_slot HA.out (HO.out.below hB fun _ h => h.elim) hx
      have hn := usedS_next hx
      obtain ⟨u, gn, x⟩ := s
      obtain ⟨n, hnn⟩ : ∃ n, n = usedS (l.take k) := ⟨_, rfl⟩
      rw [← hnn] at hn hu ⊢
      have HNN := Lib.hid hnn
      obtain ⟨W, hW, HB⟩ := box_slot (u, gn, x) wr
      have HW := Lib.hid hW
      obtain ⟨-, -, d0, -, -⟩ := HB.out
      have O2 := Lib.hid (HO.out.trans HB.out.1)
      simp only at d0
      clear hnn hx hW
      rcases u with _ | _
      · have HN := Lib.hid (show usedS (l.take (k + 1)) = n by simpa using hn)
        clear hn
        go_upto_region 5 with fail
        rw [HW.out]
        clear c0 c1 c2
        go_wp2
        go_roundw
        case rel => exact ⟨k + 1, by omega, by rw [HN.out], by go_num, O2⟩
        case measure => simp [intOf]; omega
      · have HN := Lib.hid (show usedS (l.take (k + 1)) = n + 1 by simpa using hn)
        clear hn
        go_upto_region 5 with fail
        rw [HW.out]
        clear c0 c1 c2
        go_wp2
        go_roundw
        case rel => exact ⟨k + 1, by omega, by rw [HN.out]; first | rfl | go_num, by go_num, O2⟩
        case measure => simp [intOf]; omega
    · obtain rfl : k = l.length := by omega
      have HN := Lib.hid (show l.take l.length = l from List.take_length)
      go_wp2
      go_ret
      exact ⟨ret_int (by rw [HN.out]), HO.out⟩

set_option maxHeartbeats 4000000 in
theorem handles_any14 : HandlesC 22 := by
  intro v l B w hv hB hl hok
  obtain ⟨j0, hj0, hy0, hy1, hy2⟩ := info_parts info_int
  have HA := Lib.hid hv
  obtain ⟨A, ca, rfl, hac, ham, -⟩ := hv
  unfold maxLen at ham
  have hmin : min l.length 1024 ≤ 1024 ∧ min l.length 1024 ≤ l.length := ⟨Nat.min_le_right _ _, Nat.min_le_left _ _⟩
  obtain ⟨N, hN⟩ : ∃ N, N = min l.length 1024 := ⟨_, rfl⟩
  have hend : handlesS (l.take N) = handlesS l := by
    rcases Nat.lt_or_ge l.length 1024 with h | h
    · rw [hN, Nat.min_eq_left (by omega), List.take_length]
    · rw [hN, Nat.min_eq_right h]
      exact handlesS_cut (Nat.le_refl _)
  rw [← hN] at hmin
  have HNN := Lib.hid hN
  have HE := Lib.hid hend
  clear hok hend hN
  go_enter Try.func22, Try.ntmps22
  go_wp2_with fail
  go_at_call 26
  refine (withHandles_any A ca l.length hac (by omega) w).mono ?_
  rw [← HNN.out]
  rintro e w1 ⟨rfl, o⟩
  have O1 := Lib.hid o
  clear o
  go_wp2_with fail
  go_loopw [3, 9] (fun n i wr => ∃ k : Nat, k ≤ N ∧ i = .int .i64 k ∧ Hid (wr.ownsRow w.heap.size 3 1 n (handlesS (l.take k)).length (i64s (handlesS (l.take k)))) ∧ Hid (Only nob w wr)) (fun _ i _ => N - (intOf i).toNat)
  case atStart => exact ⟨0, Nat.zero_le _, rfl, Lib.hid (World.ownsRow_nil _ _ _ _), O1⟩
  case round =>
    obtain ⟨k, hk, rfl, HR, HO⟩ := hrel
    obtain ⟨Ar, cr, rfl, hcr, hmr⟩ := own_len HR.out
    unfold maxLen at hmr
    by_cases hltN : k < N
    · have hk4 : k < 1024 := by omega
      have hlt : k < l.length := by omega
      obtain ⟨s, hx⟩ : ∃ s, l[k]? = some s := ⟨_, List.getElem?_eq_getElem hlt⟩
      obtain ⟨b, o, rfl, hb, c0, c1, c2⟩ := sl_slot HA.out (HO.out.below hB fun _ h => h.elim) hx
      have HX := Lib.hid hx
      have hhl : (handlesS (l.take k)).length ≤ 2000 := by have := handlesS_len (l := l.take k); have := List.length_take_le k l; omega
      have hsn := handlesS_snoc hx
      obtain ⟨u, gn, wd0⟩ := s
      obtain ⟨W, hW, HB⟩ := box_slot (u, gn, wd0) wr
      have HW := Lib.hid hW
      obtain ⟨-, hblk, d0, d1, d2⟩ := HB.out
      have O2 := Lib.hid (HO.out.trans HB.out.1)
      have HR2 := Lib.hid (own_only HR.out HB.out.1 fun _ _ => id)
      obtain ⟨p, hp⟩ : ∃ p, p = wr.heap.size := ⟨_, rfl⟩
      rw [← hp] at d0 d1 d2 hblk
      have HP := Lib.hid hp
      simp only at d0 d1 d2
      have HS := Lib.hid (stands_any (u, gn, wd0) W)
      cases hst : Slt.stands (u, gn, wd0) with
      | false =>
        rw [hst] at HS
        have hU : isU k (u, gn, wd0) = false := by unfold isU; rw [show (((u, gn, wd0) : Slt).1 && Slt.good (u, gn, wd0)) = false from hst]; simp
        rw [hU, if_neg (by simp), List.append_nil] at hsn
        rw [← hsn] at HR2
        rw [← hsn]
        clear hx hst hU hsn hW hp hblk
        go_upto_region 5 with fail
        rw [HW.out, ← HP.out]
        clear c0 c1 c2
        go_wp2_with fail
        go_at_call 40
        refine HS.out.mono ?_
        rintro e w2 ⟨rfl, o2⟩
        have O3 := Lib.hid (O2.out.trans o2)
        have HR3 := Lib.hid (own_only HR2.out o2 fun _ _ => id)
        clear o2 d0 d1 d2
        go_wp2
        go_roundw
        case rel => exact ⟨k + 1, by omega, by go_num, HR3, O3⟩
        case measure => simp [intOf]; omega
      | true =>
        rw [hst] at HS
        have hst2 := hst
        unfold Slt.stands at hst2
        rw [Bool.and_eq_true] at hst2
        rw [isU_yes hk4 hst2.1 hst2.2, if_pos rfl] at hsn
        have HSN := Lib.hid hsn
        have HH := Lib.hid (fun W => (handle_any k (u, gn, wd0) (by omega) hst2.2 W))
        obtain ⟨z, hz⟩ : ∃ z, z = hOf k (u, gn, wd0) := ⟨_, rfl⟩
        rw [← hz] at HSN HH
        obtain ⟨n, hn⟩ : ∃ n, n = (handlesS (l.take k)).length := ⟨_, rfl⟩
        have HN := Lib.hid hn
        obtain ⟨P, hPP⟩ : ∃ P, P = handlesS (l.take k) := ⟨_, rfl⟩
        have HPP := Lib.hid hPP
        rw [← hn] at hhl hcr HR2 ⊢
        rw [← hPP] at HR2
        have HBLK := Lib.hid hblk
        have hww : w.heap.size ≤ wr.heap.size := HO.out.size
        clear hx hst hst2 hsn hW hp hz hn hPP hblk
        go_upto_region 5 with fail
        rw [HW.out, ← HP.out]
        clear c0 c1 c2
        go_wp2_with fail
        go_at_call 40
        refine HS.out.mono ?_
        rintro e w2 ⟨rfl, o2⟩
        have O3 := Lib.hid (O2.out.trans o2)
        have HR3 := Lib.hid (own_only HR2.out o2 fun _ _ => id)
        have HB3 := Lib.hid (HBLK.out.keep o2 id)
        have d0 := HB3.out.cell 0
        have d1 := HB3.out.cell 1
        have d2 := HB3.out.cell 2
        simp at d0 d1 d2
        clear o2
        go_wp2_with fail
        go_at_call 28
        refine (HH.out _).mono ?_
        rintro e w3 ⟨rfl, o3⟩
        have O4 := Lib.hid (O3.out.trans o3)
        have HR4 := Lib.hid (own_only HR3.out o3 fun _ _ => id)
        have hw3 : w.heap.size ≤ w3.heap.size := O4.out.size
        clear o3 d0 d1 d2
        go_wp2_with (with_reducible refine wpList_append_sl (o := ⟨some 21, _, _, _, _, _⟩) _ rfl (.tmp 16) (.tmp 20) _ rfl w.heap.size 3 j0 _ 1 8 Try.underlying39 hj0 hy0 hy1 hy2 rfl (by decide) (.slice Ar n cr) n (i64s P) rfl ?c1 (w3.heap.size + 1) (.slice (some ⟨w3.heap.size, 0, none⟩) 1 1) 1 (i64s [z]) rfl ?c6 (i64s_one _) ?c2 ?c3 ?c4 ?c5)
        case c1 => exact own_only HR4.out ((Only.refl nob w3).alloc _) (fun _ _ h => h)
        case c6 => exact one_int14 w3 _
        case c2 => unfold maxLen; omega
        case c3 => omega
        case c4 => simp; omega
        case c5 =>
          intro v6 w6 H6 o6 _
          have HR6 := Lib.hid (show w6.ownsRow w.heap.size 3 1 v6 (handlesS (l.take (k + 1))).length (i64s (handlesS (l.take (k + 1)))) by
            rw [HSN.out, List.length_append, i64s_append, ← HN.out, ← HPP.out]
            exact H6.out)
          have O6 := Lib.hid (own_nob (O4.out.alloc (.cells #[.int .i64 z] 3)) (own_only HR4.out ((Only.refl nob w3).alloc (.cells #[.int .i64 z] 3)) (fun _ _ h => h)) o6 (Nat.le_refl _))
          clear H6 o6
          go_wp2
          go_roundw
          case rel => exact ⟨k + 1, by omega, by go_num, HR6, O6⟩
          case measure => simp [intOf]; omega
    · obtain rfl : k = N := by omega
      go_wp2
      go_ret
      exact ⟨_, rfl, by rw [← HE.out]; exact Sl.of_own HR.out HR.out.1, HO.out⟩
end Go.Proofs.Ytcfiimedmhohaaa

/- Package roots: Right. -/
namespace Go.Proofs.Ytcfiimedmhohaaa
open Go.RowKit Go.Lib
set_option maxRecDepth 100000

theorem rslot_end {g : Int} (h : ¬ (0 ≤ g ∧ g < 1099511627776)) : rightSlot dE (false, g, 0) = decide (g = 1099511627776) := by
  by_cases e : g = 1099511627776
  · rw [decide_eq_true e]; exact rslot_free (by omega)
  · rw [decide_eq_false e]; exact rslot_low (by omega)
set_option maxHeartbeats 2000000 in
theorem isRight_any (s : Slt) (hs : s.2.2 < full) (w : World) : Calls Try.prog 37 #[.agg #[.bool s.1, .int .i64 s.2.1, .int .u64 (s.2.2 : Nat)]] w fun e w' => e = .returned (.bool (rightSlot dE s)) ∧ Only nob w w' := by
  obtain ⟨u, g, x⟩ := s
  obtain ⟨W, hW, HB⟩ := box_slot (u, g, x) w
  have HW := Lib.hid hW
  obtain ⟨-, hblk, c0, c1, c2⟩ := HB.out
  have HG := Lib.hid (isGood_any (u, g, x))
  have hx63 : 0 ≤ ((x : Nat) : Int) ∧ ((x : Nat) : Int) < 18446744073709551616 := by unfold full at hs; simp only at hs; omega
  obtain ⟨p, hp⟩ : ∃ p, p = w.heap.size := ⟨_, rfl⟩
  rw [← hp] at c0 c1 c2 hblk
  have HP := Lib.hid hp
  have HBK := Lib.hid hblk
  simp only at c0 c1 c2
  clear hW hp hs hblk
  rcases u with _ | _
  · by_cases hx0 : x = 0
    · have hxq : (((x : Nat) : Int) == 0) = true := by simp [hx0]
      cases hg : Slt.good (false, g, x) with
      | true =>
        rw [hg] at HG
        have HR := Lib.hid (show rightSlot dE (false, g, x) = true by rw [hx0]; exact rslot_free (gn := g) (by have := of_decide_eq_true hg; simp only at this; omega))
        clear hg hx63 hx0
        go_enter Try.func37, Try.ntmps37
        go_upto_region 1 with fail
        rw [HW.out, ← HP.out]
        go_wp2_with fail
        go_at_call 41
        refine (HG.out W).mono ?_
        rintro e w1 ⟨rfl, o⟩
        have O := Lib.hid (HB.out.1.trans o)
        have d1 := o.keeps c1
        clear o c0 c1 c2
        go_wp2
        go_ret
        exact ⟨ret_bool (by rw [HR.out]), O.out⟩
      | false =>
        rw [hg] at HG
        have HR := Lib.hid (show rightSlot dE (false, g, x) = decide (g = 1099511627776) by rw [hx0]; exact rslot_end (g := g) (of_decide_eq_false hg))
        clear hg hx63 hx0
        by_cases he : g = 1099511627776
        · rw [decide_eq_true he] at HR
          have hbq : (g == 1099511627776) = true := by simpa using he
          clear he
          go_enter Try.func37, Try.ntmps37
          go_upto_region 1 with fail
          rw [HW.out, ← HP.out]
          go_wp2_with fail
          go_at_call 41
          refine (HG.out W).mono ?_
          rintro e w1 ⟨rfl, o⟩
          have O := Lib.hid (HB.out.1.trans o)
          have d1 := o.keeps c1
          clear o c0 c1 c2
          go_wp2
          go_ret
          exact ⟨ret_bool (by rw [HR.out]), O.out⟩
        · rw [decide_eq_false he] at HR
          have hbq : (g == 1099511627776) = false := by simpa using he
          go_enter Try.func37, Try.ntmps37
          go_upto_region 1 with fail
          rw [HW.out, ← HP.out]
          go_wp2_with fail
          go_at_call 41
          refine (HG.out W).mono ?_
          rintro e w1 ⟨rfl, o⟩
          have O := Lib.hid (HB.out.1.trans o)
          have d1 := o.keeps c1
          clear o c0 c1 c2
          go_wp2
          go_ret
          exact ⟨ret_bool (by rw [HR.out]), O.out⟩
    · have HR := Lib.hid (rslot_word (gn := g) hx0)
      have hbq : (((x : Nat) : Int) == 0) = false := by simpa using hx0
      go_enter Try.func37, Try.ntmps37
      go_upto_region 1 with fail
      rw [HW.out, ← HP.out]
      go_wp2
      go_ret
      exact ⟨ret_bool (by rw [HR.out]), HB.out.1⟩
  · have HDEC := Lib.hid (dec_any hx63)
    obtain ⟨de, hde⟩ : ∃ de, de = dE (x : Nat) := ⟨_, rfl⟩
    rw [← hde] at HDEC
    have HSB := Lib.hid (fun h => rslot_used_bad (gn := g) (x := x) h)
    have HSU := Lib.hid (fun h => (rslot_used (gn := g) (x := x) h).trans (by rw [← hde]))
    clear hde hx63
    go_enter Try.func37, Try.ntmps37
    go_upto_region 1 with fail
    rw [HW.out, ← HP.out]
    go_wp2_with fail
    go_at_call 42
    refine (HDEC.out W).mono ?_
    rintro e w1 ⟨rfl, o⟩
    have O1 := Lib.hid (HB.out.1.trans o)
    have HB1 := Lib.hid (HBK.out.keep o id)
    clear o c0 c1 c2
    obtain ⟨W3, hW3, H3⟩ := box_val w1 (dK (x : Nat)) (dX (x : Nat))
    have HW3 := Lib.hid hW3
    have O3 := Lib.hid (O1.out.trans H3.out.1)
    have HB3 := Lib.hid (HB1.out.keep H3.out.1 id)
    have d0 := HB3.out.cell 0
    have d1 := HB3.out.cell 1
    have d2 := HB3.out.cell 2
    simp at d0 d1 d2
    clear hW3
    go_upto_region 4 with fail
    rw [HW3.out]
    cases hg : Slt.good (true, g, x) with
    | false =>
      rw [hg] at HG
      have HR := Lib.hid (HSB.out hg)
      clear hg
      go_wp2_with fail
      go_at_call 41
      refine (HG.out W3).mono ?_
      rintro e w4 ⟨rfl, o⟩
      have O4 := Lib.hid (O3.out.trans o)
      clear o d0 d1 d2
      go_wp2
      go_ret
      exact ⟨ret_bool (by rw [HR.out]), O4.out⟩
    | true =>
      rw [hg] at HG
      have HR := Lib.hid (HSU.out hg)
      clear hg
      go_wp2_with fail
      go_at_call 41
      refine (HG.out W3).mono ?_
      rintro e w4 ⟨rfl, o⟩
      have O4 := Lib.hid (O3.out.trans o)
      clear o d0 d1 d2
      by_cases hd : de = 0
      · subst hd
        go_wp2
        go_ret
        exact ⟨ret_bool (by rw [HR.out]; rfl), O4.out⟩
      · have hbq : (de == 0) = false := by simpa using hd
        rw [decide_eq_false hd] at HR
        go_wp2
        go_ret
        exact ⟨ret_bool (by rw [HR.out]), O4.out⟩
set_option maxHeartbeats 1000000 in
theorem right1_any14 (s : Slt) (hs : s.2.2 < full) (w : World) : Calls Try.prog 36 #[.agg #[.bool s.1, .int .i64 s.2.1, .int .u64 (s.2.2 : Nat)]] w fun e w' => e = .returned (.bool (!rightSlot dE s)) ∧ Only nob w w' := by
  obtain ⟨W, hW, HB⟩ := box_slot s w
  have HW := Lib.hid hW
  obtain ⟨-, hblk, c0, c1, c2⟩ := HB.out
  have HR := Lib.hid (isRight_any s hs W)
  obtain ⟨q, hq⟩ : ∃ q, q = rightSlot dE s := ⟨_, rfl⟩
  have HQ := Lib.hid hq
  rw [← hq] at HR ⊢
  obtain ⟨p, hp⟩ : ∃ p, p = w.heap.size := ⟨_, rfl⟩
  rw [← hp] at c0 c1 c2
  have HP := Lib.hid hp
  clear hW hp hblk hq
  go_enter Try.func36, Try.ntmps36
  go_upto_region 1 with fail
  rw [HW.out, ← HP.out]
  go_wp2_with fail
  go_at_call 37
  refine HR.out.mono ?_
  rintro e w1 ⟨rfl, o⟩
  have O := Lib.hid (HB.out.1.trans o)
  clear o c0 c1 c2
  go_wp2
  go_ret
  exact ⟨rfl, O.out⟩
theorem wrong_pred (w : World) : PredS 36 #[] (fun s => !rightSlot dE s) w :=
  ⟨enters_of Try.func36 (by kernel_rfl) rfl, fun s hs W _ => right1_any14 s hs.2.2 W⟩
theorem rightS_all {l : List Slt} {n : Int} (h1 : 1 ≤ n ∧ n ≤ 1024) (h2 : (l.length : Int) = n) : rightS dE l n = !(l.any fun s => !rightSlot dE s) := by
  unfold rightS
  rw [decide_eq_true ⟨h2, h1⟩, Bool.true_and, Bool.eq_iff_iff]
  simp
set_option maxHeartbeats 2000000 in
theorem right_any14 : RightC 17 := by
  intro v l n B w hv hB hl hok
  have HA := Lib.hid hv
  have HOK := Lib.hid hok
  have HC := Lib.hid (isCount_any n w)
  obtain ⟨A, ca, rfl, hac, ham, -⟩ := hv
  unfold maxLen at ham
  clear hok
  by_cases hn : 1 ≤ n ∧ n ≤ 1024
  · rw [decide_eq_true hn] at HC
    by_cases hln : (l.length : Int) = n
    · have HR := Lib.hid (rightS_all (l := l) hn hln)
      obtain ⟨q, hq⟩ : ∃ q, q = l.any fun s => !rightSlot dE s := ⟨_, rfl⟩
      rw [← hq] at HR
      have HQ := Lib.hid hq
      obtain ⟨r, hr⟩ : ∃ r, r = rightS dE l n := ⟨_, rfl⟩
      rw [← hr] at HR ⊢
      clear hq hn hr
      subst hln
      go_enter Try.func17, Try.ntmps17
      go_wp2_with fail
      go_at_call 35
      refine HC.out.mono ?_
      rintro e w1 ⟨rfl, o⟩
      have O := Lib.hid o
      clear o
      go_wp2_with fail
      go_at_call 38
      refine (containsFunc_slots _ #[] _ _ l B w1 (wrong_pred w1) (HA.out.below (O.out.below hB fun _ h => h.elim)) (Nat.le_trans hB O.out.size) HOK.out).mono ?_
      rw [← HQ.out]
      rintro e w2 ⟨rfl, o2⟩
      have O2 := Lib.hid (O.out.trans o2)
      clear o2
      go_wp2
      go_ret
      exact ⟨ret_bool (by rw [HR.out]), O2.out⟩
    · have HR := Lib.hid (rightS_no (l := l) (n := n) (fun h => hln h.1))
      have hbq : ((l.length : Int) == n) = false := by simpa using hln
      clear hn
      go_enter Try.func17, Try.ntmps17
      go_wp2_with fail
      go_at_call 35
      refine HC.out.mono ?_
      rintro e w1 ⟨rfl, o⟩
      have O := Lib.hid o
      clear o
      go_wp2
      go_ret
      exact ⟨ret_bool (by rw [HR.out]), O.out⟩
  · rw [decide_eq_false hn] at HC
    have HR := Lib.hid (rightS_no (l := l) (n := n) (fun h => hn h.2))
    clear hn
    go_enter Try.func17, Try.ntmps17
    go_wp2_with fail
    go_at_call 35
    refine HC.out.mono ?_
    rintro e w1 ⟨rfl, o⟩
    have O := Lib.hid o
    clear o
    go_wp2
    go_ret
    exact ⟨ret_bool (by rw [HR.out]), O.out⟩
end Go.Proofs.Ytcfiimedmhohaaa
