/- The document's own answers for graphs: the same values, words, ints; a number's place; sizes; whether a graph may be. -/
import Derived.Test.YtdlaigghejahdaaGrSay
import Derived.Test.YtdlaigghejahdaaVal
import Derived.Test.YtdlaigghejahdaaOpens
import Derived.StillTailTactics
import Derived.BigQuiet
import Derived.Deep.QuietTactic
namespace Go.Proofs.Ytdlaigghejahdaa
open Go.RowKit
set_option maxRecDepth 100000
set_option linter.unusedSimpArgs false
set_option linter.unusedVariables false

theorem mixed16 : Try.prog.follows .mixedOrders = true := by kernel_rfl
theorem ne_len16 {α : Type} {l m : List α} (h : l.length ≠ m.length) : l ≠ m := fun e => h (by rw [e])
theorem ne_at16 {α : Type} {l m : List α} {k : Nat} {x y : α} (hx : l[k]? = some x) (hy : m[k]? = some y) (h : x ≠ y) : l ≠ m := fun e => h (by rw [e, hy] at hx; exact (Option.some.inj hx).symm)
theorem eq_all16 {α : Type} {l m : List α} (hl : l.length = m.length) (h : ∀ (j : Nat) x, j < l.length → l[j]? = some x → m[j]? = some x) : l = m := by
  refine List.ext_getElem? fun j => ?_
  rcases Nat.lt_or_ge j l.length with hj | hj
  · rw [h j _ hj (List.getElem?_eq_getElem hj)]
    exact List.getElem?_eq_getElem hj
  · rw [List.getElem?_eq_none hj, List.getElem?_eq_none (by omega)]
theorem all_no16 {α : Type} {p : α → Bool} {l : List α} {k : Nat} {x : α} (hx : l[k]? = some x) (hp : p x = false) : l.all p = false := by
  rw [List.all_eq_false]
  exact ⟨x, List.mem_of_getElem? hx, by rw [hp]; simp⟩
theorem all_yes16 {α : Type} {p : α → Bool} {l : List α} (h : ∀ (j : Nat) y, j < l.length → l[j]? = some y → p y = true) : l.all p = true := by
  rw [List.all_eq_true]
  intro y hy
  obtain ⟨j, hj⟩ := List.getElem?_of_mem hy
  exact h j y (List.getElem?_eq_some_iff.1 hj).1 hj
theorem all_next16 {α : Type} {p : α → Bool} {l : List α} {k : Nat} {x : α} (h : ∀ (j : Nat) y, j < k → l[j]? = some y → p y = true) (hx : l[k]? = some x) (hp : p x = true) : ∀ (j : Nat) y, j < k + 1 → l[j]? = some y → p y = true := fun j y hj hy => by
  rcases Nat.lt_or_ge j k with h' | h'
  · exact h j y h' hy
  · obtain rfl : j = k := by omega
    rw [hx] at hy
    obtain rfl := Option.some.inj hy
    exact hp
theorem sl_word16 {w w' : World} {B : Nat} {A : Option Addr} {c k : Nat} {l : List Nat} {x : Nat} (h : Sl w B 1 (.slice A l.length c) l.length (u64s l)) (hb : Below B w w') (hx : l[k]? = some x) :
    ∃ b o, A = some ⟨b, o, none⟩ ∧ b < B ∧ w'.cell? ⟨b, o + k, none⟩ = some (.int .u64 (x : Nat)) := by
  have hk : k < l.length := (List.getElem?_eq_some_iff.1 hx).1
  obtain ⟨b, o, c', e, _, _, hlt, hc⟩ := (h.below hb).at_ (by omega)
  obtain ⟨rfl, rfl⟩ : A = some ⟨b, o, none⟩ ∧ c = c' := by simpa using e
  refine ⟨b, o, rfl, hlt, hc _ _ ?_⟩
  simp [u64s, hx]

set_option maxHeartbeats 2000000 in
/-- The same values? -/
theorem rVals16 (va vb : Value) (l m : List Sp) (B B' : Nat) (w : World) (ha : Sl w B 2 va l.length (spc l)) (hb : Sl w B' 2 vb m.length (spc m)) :
    Calls Try.prog 36 #[va, vb] w fun e w' => e = .returned (.bool (decide (l = m))) ∧ Only nob w w' := by
  have HA := Lib.hid ha
  have HB := Lib.hid hb
  obtain ⟨A, ca, rfl, hac, ham, -⟩ := ha
  obtain ⟨A', cb, rfl, hbc, hbm, -⟩ := hb
  unfold maxLen at ham hbm
  by_cases hlen : l.length = m.length
  · have HL := Lib.hid hlen
    rw [← hlen] at hbc ⊢
    clear hlen
    go_enter Try.func36, Try.ntmps36
    go_wp2
    go_loopw [5] (fun i wr => ∃ k m' : Nat, k ≤ l.length ∧ i = .int .i64 k ∧ Hid (∀ (j : Nat) x, j < k → l[j]? = some x → m[j]? = some x) ∧ wr = w.drewN m') (fun i _ => l.length - (intOf i).toNat)
    case atStart => exact ⟨0, 0, Nat.zero_le _, rfl, fun j _ hj _ => absurd hj (Nat.not_lt_zero j), rfl⟩
    case round =>
      obtain ⟨k, m', hk, rfl, hno, rfl⟩ := hrel
      by_cases hlt : k < l.length
      · obtain ⟨x, hx⟩ : ∃ x, l[k]? = some x := ⟨_, List.getElem?_eq_getElem hlt⟩
        obtain ⟨y, hy⟩ : ∃ y, m[k]? = some y := ⟨_, List.getElem?_eq_getElem (by rw [← HL.out]; exact hlt)⟩
        obtain ⟨b1, o1, rfl, -, c0, c1⟩ := sl_span HA.out (Below.refl _ _) hx
        obtain ⟨b2, o2, rfl, -, d0, d1⟩ := sl_span HB.out (Below.refl _ _) hy
        have HX := Lib.hid hx
        have HY := Lib.hid hy
        clear hx hy
        by_cases h1 : x.1 = y.1
        · by_cases h2 : x.2 = y.2
          · obtain rfl : x = y := Prod.ext h1 h2
            clear h1 h2
            go_wp2
            go_quiet (fail)
            go_wp2
            go_roundw
            case rel =>
              refine ⟨k + 1, _, by omega, by go_num, fun j z hj hz => ?_, rfl⟩
              rcases Nat.lt_or_ge j k with h' | h'
              · exact hno.out j z h' hz
              · obtain rfl : j = k := by omega
                rw [HX.out] at hz
                rw [HY.out]; exact hz
            case measure => simp [intOf]; omega
          · have HN := Lib.hid (decide_eq_false (ne_at16 HX.out HY.out fun e => h2 (by rw [e])))
            rw [h1] at c0
            go_wp2
            go_quiet (fail)
            go_wp2
            go_ret
            exact ⟨ret_bool (by rw [HN.out]), ((Only.refl _ _).drewN _).drewN _⟩
        · have HN := Lib.hid (decide_eq_false (ne_at16 HX.out HY.out fun e => h1 (by rw [e])))
          go_wp2
          go_quiet (fail)
          go_wp2
          go_ret
          exact ⟨ret_bool (by rw [HN.out]), ((Only.refl _ _).drewN _).drewN _⟩
      · obtain rfl : k = l.length := by omega
        have HN := Lib.hid (decide_eq_true (eq_all16 HL.out hno.out))
        go_wp2
        go_ret
        exact ⟨ret_bool (by rw [HN.out]), (Only.refl _ _).drewN _⟩
  · have HN := Lib.hid (decide_eq_false (ne_len16 hlen))
    have hn1 : ¬ ((l.length : Int) = (m.length : Int)) := by omega
    go_enter Try.func36, Try.ntmps36
    go_wp2
    go_ret
    exact ⟨ret_bool (by rw [HN.out]), Only.refl _ _⟩

set_option maxHeartbeats 1000000 in
/-- A number's place in a list. -/
theorem rPlace16 (v : Value) (l : List Int) (x : Int) (B : Nat) (w : World) (h : Sl w B 1 v l.length (i64s l)) :
    Calls Try.prog 34 #[v, .int .i64 x] w fun e w' => e = .returned (.int .i64 (plc l x)) ∧ Only nob w w' := by
  have HA := Lib.hid h
  obtain ⟨A, ca, rfl, hac, ham, -⟩ := h
  unfold maxLen at ham
  obtain ⟨q, hq⟩ : ∃ q, q = plc l x := ⟨_, rfl⟩
  have HQ := Lib.hid hq
  rw [← hq]
  clear hq
  go_enter Try.func34, Try.ntmps34
  go_wp2
  go_loopw [5] (fun i wr => ∃ k : Nat, k ≤ l.length ∧ i = .int .i64 k ∧ Hid (∀ (j : Nat) y, j < k → l[j]? = some y → y ≠ x) ∧ wr = w) (fun i _ => l.length - (intOf i).toNat)
  case atStart => exact ⟨0, Nat.zero_le _, rfl, fun j _ hj _ => absurd hj (Nat.not_lt_zero j), rfl⟩
  case round =>
    obtain ⟨k, hk, rfl, hno, rfl⟩ := hrel
    by_cases hlt : k < l.length
    · obtain ⟨y, hy⟩ : ∃ x, l[k]? = some x := ⟨_, List.getElem?_eq_getElem hlt⟩
      obtain ⟨b1, o1, rfl, -, c0⟩ := sl_int HA.out (Below.refl _ _) hy
      have HY := Lib.hid hy
      clear hy
      by_cases hyx : y = x
      · subst hyx
        have HF := Lib.hid (HQ.out.trans (plc_first HY.out hno.out))
        go_wp2
        go_ret
        exact ⟨ret_int (by rw [HF.out]), Only.refl _ _⟩
      · have hbq : (y == x) = false := by simpa using hyx
        go_wp2
        go_roundw
        case rel =>
          refine ⟨k + 1, by omega, by go_num, fun j z hj hz => ?_, by first | rfl | trivial⟩
          rcases Nat.lt_or_ge j k with h' | h'
          · exact hno.out j z h' hz
          · obtain rfl : j = k := by omega
            rw [HY.out] at hz
            rw [← Option.some.inj hz]; exact hyx
        case measure => simp [intOf]; omega
    · obtain rfl : k = l.length := by omega
      have HF := Lib.hid (HQ.out.trans (plc_none fun j y hy => hno.out j y (List.getElem?_eq_some_iff.1 hy).1 hy))
      go_wp2
      go_ret
      exact ⟨ret_int (by rw [HF.out]), Only.refl _ _⟩

theorem box_graph (w : World) (vn vr : Value) : ∃ W, w.alloc (.cells #[vn, vr] 25) = W ∧ Hid (Only nob w W ∧ Blk W w.heap.size 25 #[vn, vr] ∧ W.cell? ⟨w.heap.size, 0, none⟩ = some vn ∧ W.cell? ⟨w.heap.size, 1, none⟩ = some vr) :=
  ⟨_, rfl, Lib.hid ⟨(Only.refl nob w).alloc _, Blk.new _ _ _, (Blk.new w 25 #[vn, vr]).cell 0, (Blk.new w 25 #[vn, vr]).cell 1⟩⟩
theorem box_node (w : World) (k : Int) (fv rv : Value) : ∃ W, w.alloc (.cells #[.int .i64 k, fv, rv] 34) = W ∧ Hid (Only nob w W ∧ Blk W w.heap.size 34 #[.int .i64 k, fv, rv] ∧ W.cell? ⟨w.heap.size, 0, none⟩ = some (.int .i64 k) ∧ W.cell? ⟨w.heap.size, 1, none⟩ = some fv ∧ W.cell? ⟨w.heap.size, 2, none⟩ = some rv) := by
  have h := Blk.new w 34 #[.int .i64 k, fv, rv]
  exact ⟨_, rfl, Lib.hid ⟨(Only.refl nob w).alloc _, h, h.cell 0, h.cell 1, h.cell 2⟩⟩

end Go.Proofs.Ytdlaigghejahdaa
