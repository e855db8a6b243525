/- Contracts of package slices at spans: IndexFunc, ContainsFunc (whatever they are told a span by), Equal. -/
import Derived.Test.YtlpndkmhdnpifaaRef03B
import Derived.Test.YtlpndkmhdnpifaaExtMath
import Derived.Lib.SliceRun
namespace Go.Proofs.Ytlpndkmhdnpifaa
set_option maxRecDepth 100000
open Go.RowKit Go.Lib

/-- What is asked of a function that is handed in: it tells p of each span, and only makes memory. -/
def Pred (g : FuncId) (lb : Array Value) (p : Sp → Bool) (w : World) : Prop :=
  (∀ args w, (callFunc g args).run Try.prog w = .ok (.enter g args) w) ∧ ∀ (x : Sp), Fit x → ∀ (W : World), Only nob w W → Calls Try.prog g (#[.agg #[.int .i64 x.1, .int .i64 x.2]] ++ lb) W fun e w' => e = .returned (.bool (p x)) ∧ Only nob W w'
theorem Pred.on {g : FuncId} {lb : Array Value} {p : Sp → Bool} {w w' : World} (h : Pred g lb p w) (o : Only nob w w') : Pred g lb p w' := ⟨h.1, fun x hx W hW => h.2 x hx W (o.trans hW)⟩

set_option maxHeartbeats 1000000 in
theorem indexFunc_any (g : FuncId) (lb : Array Value) (p : Sp → Bool) (v : Value) (l : List Sp) (B : Nat) (w : World) (hp : Pred g lb p w) (h : Sl w B 2 v l.length (spc l)) (hB : B ≤ w.heap.size) (hf : Fits l) :
    Calls Try.prog 30 #[v, .func (.func g) #[] lb] w fun e w' => e = .returned (.int .i64 (idxI p l)) ∧ Only nob w w' := by
  have HA := Lib.hid h
  have HF := Lib.hid hf
  have HP := Lib.hid hp.2
  have eg := hp.1
  obtain ⟨A, ca, rfl, hac, ham, -⟩ := h
  unfold maxLen at ham
  clear hp hf
  go_enter Try.func30, Try.ntmps30
  go_wp2_with fail
  go_loopw [5, 8] (fun _ i wr => ∃ k : Nat, k ≤ l.length ∧ i = .int .i64 k ∧ Hid (∀ (j : Nat) y, j < k → l[j]? = some y → p y = false) ∧ Only nob w wr) (fun _ i _ => l.length - (intOf i).toNat)
  case atStart => exact ⟨0, Nat.zero_le _, rfl, fun j _ hj _ => absurd hj (Nat.not_lt_zero j), Only.refl _ _⟩
  case round =>
    obtain ⟨k, hk, rfl, hno, hO⟩ := hrel
    have HX := Lib.hid hO
    by_cases hlt : k < l.length
    · obtain ⟨x, hx⟩ : ∃ x, l[k]? = some x := ⟨_, List.getElem?_eq_getElem hlt⟩
      obtain ⟨b, o, rfl, hb, c0, c1⟩ := sl_span HA.out (hO.below hB fun _ h => h.elim) hx
      have HXX := Lib.hid hx
      clear hO hx
      cases hp : p x with
      | true =>
        have HQ := Lib.hid hp
        have HK := Lib.hid (idxI_hit HXX.out hp hno.out)
        clear hp
        go_wp2_with fail
        refine (HP.out x (HF.out.get HXX.out) _ HX.out).mono ?_
        rw [HQ.out]
        rintro e w1 ⟨rfl, ho⟩
        have HO := Lib.hid (HX.out.trans ho)
        clear ho
        go_wp2
        go_ret
        exact ⟨ret_i64 (by rw [HK.out]), HO.out⟩
      | false =>
        have HQ := Lib.hid hp
        clear hp
        go_wp2_with fail
        refine (HP.out x (HF.out.get HXX.out) _ HX.out).mono ?_
        rw [HQ.out]
        rintro e w1 ⟨rfl, ho⟩
        have HO := Lib.hid (HX.out.trans ho)
        clear ho
        go_wp2
        go_roundw
        case rel =>
          refine ⟨k + 1, by omega, by go_num, fun j y hj hy => ?_, HO.out⟩
          rcases Nat.lt_or_ge j k with h' | h'
          · exact hno.out j y h' hy
          · obtain rfl : j = k := by omega
            rw [HXX.out] at hy
            obtain rfl := Option.some.inj hy
            exact HQ.out
        case measure => simp [intOf]; omega
    · obtain rfl : k = l.length := by omega
      have HK := Lib.hid (idxI_miss hno.out)
      clear hO
      go_wp2
      go_ret
      exact ⟨ret_i64 (by rw [HK.out]), HX.out⟩

theorem idxI_range (p : Sp → Bool) (l : List Sp) : -1 ≤ idxI p l ∧ idxI p l ≤ l.length := by unfold idxI; split <;> omega
set_option maxHeartbeats 1000000 in
theorem containsFunc_any (g : FuncId) (lb : Array Value) (p : Sp → Bool) (v : Value) (l : List Sp) (B : Nat) (w : World) (hp : Pred g lb p w) (h : Sl w B 2 v l.length (spc l)) (hB : B ≤ w.heap.size) (hf : Fits l) :
    Calls Try.prog 24 #[v, .func (.func g) #[] lb] w fun e w' => e = .returned (.bool (l.any p)) ∧ Only nob w w' := by
  have HA := Lib.hid h
  have HP := Lib.hid hp
  have HF := Lib.hid hf
  clear h hp hf
  have HI := Lib.hid (idxI_any p l)
  go_enter Try.func24, Try.ntmps24
  go_wp2_with fail
  go_at_call 30
  refine (indexFunc_any g lb p v l B w HP.out HA.out hB HF.out).mono ?_
  rintro e w1 ⟨rfl, ho⟩
  have HO := Lib.hid ho
  obtain ⟨i, hi⟩ : ∃ i, i = idxI p l := ⟨_, rfl⟩
  rw [← hi]
  have HII := Lib.hid hi
  clear ho hi
  go_wp2
  go_ret
  exact ⟨ret_bool (by rw [← HI.out, ← HII.out]), HO.out⟩

theorem ne_len {l m : List Sp} (h : l.length ≠ m.length) : l ≠ m := fun e => h (by rw [e])
theorem ne_at {l m : List Sp} {k : Nat} {x y : Sp} (hx : l[k]? = some x) (hy : m[k]? = some y) (h : x ≠ y) : l ≠ m := fun e => h (by rw [e, hy] at hx; exact (Option.some.inj hx).symm)
theorem eq_all {l m : List Sp} (hl : l.length = m.length) (h : ∀ (j : Nat) x, j < l.length → l[j]? = some x → m[j]? = some x) : l = m := by
  refine List.ext_getElem? fun j => ?_
  rcases Nat.lt_or_ge j l.length with hj | hj
  · rw [h j _ hj (List.getElem?_eq_getElem hj)]
    exact List.getElem?_eq_getElem hj
  · rw [List.getElem?_eq_none hj, List.getElem?_eq_none (by omega)]
set_option maxHeartbeats 2000000 in
theorem equal_any (va vb : Value) (l m : List Sp) (B B' : Nat) (w : World) (ha : Sl w B 2 va l.length (spc l)) (hb : Sl w B' 2 vb m.length (spc m)) :
    Calls Try.prog 40 #[va, vb] w fun e w' => e = .returned (.bool (decide (l = m))) ∧ Only nob w w' := by
  have HA := Lib.hid ha
  have HB := Lib.hid hb
  obtain ⟨A, ca, rfl, hac, ham, -⟩ := ha
  obtain ⟨A', cb, rfl, hbc, hbm, -⟩ := hb
  unfold maxLen at ham hbm
  by_cases hlen : l.length = m.length
  · have HL := Lib.hid hlen
    rw [← hlen] at hbc ⊢
    clear hlen
    go_enter Try.func40, Try.ntmps40
    go_wp2
    go_loopw [5, 13] (fun _ i wr => ∃ k m' : Nat, k ≤ l.length ∧ i = .int .i64 k ∧ Hid (∀ (j : Nat) x, j < k → l[j]? = some x → m[j]? = some x) ∧ wr = w.drewN m') (fun _ i _ => l.length - (intOf i).toNat)
    case atStart => exact ⟨0, 0, Nat.zero_le _, rfl, fun j _ hj _ => absurd hj (Nat.not_lt_zero j), rfl⟩
    case round =>
      obtain ⟨k, m', hk, rfl, hno, rfl⟩ := hrel
      by_cases hlt : k < l.length
      · obtain ⟨x, hx⟩ : ∃ x, l[k]? = some x := ⟨_, List.getElem?_eq_getElem hlt⟩
        obtain ⟨y, hy⟩ : ∃ y, m[k]? = some y := ⟨_, List.getElem?_eq_getElem (by rw [← HL.out]; exact hlt)⟩
        obtain ⟨b1, o1, rfl, -, c0, c1⟩ := sl_span HA.out (Below.refl _ _) hx
        obtain ⟨b2, o2, rfl, -, d0, d1⟩ := sl_span HB.out (Below.refl _ _) hy
        have HX := Lib.hid hx
        have HY := Lib.hid hy
        clear hx hy
        by_cases h1 : x.1 = y.1
        · by_cases h2 : x.2 = y.2
          · obtain rfl : x = y := Prod.ext h1 h2
            clear h1 h2
            go_wp2
            go_quiet (fail)
            go_wp2
            go_roundw
            case rel =>
              refine ⟨k + 1, _, by omega, by go_num, fun j z hj hz => ?_, rfl⟩
              rcases Nat.lt_or_ge j k with h' | h'
              · exact hno.out j z h' hz
              · obtain rfl : j = k := by omega
                rw [HX.out] at hz
                rw [HY.out]; exact hz
            case measure => simp [intOf]; omega
          · have HN := Lib.hid (decide_eq_false (ne_at HX.out HY.out fun e => h2 (by rw [e])))
            rw [h1] at c0
            go_wp2
            go_quiet (fail)
            go_wp2
            go_ret
            exact ⟨ret_bool (by rw [HN.out]), ((Only.refl _ _).drewN _).drewN _⟩
        · have HN := Lib.hid (decide_eq_false (ne_at HX.out HY.out fun e => h1 (by rw [e])))
          go_wp2
          go_quiet (fail)
          go_wp2
          go_ret
          exact ⟨ret_bool (by rw [HN.out]), ((Only.refl _ _).drewN _).drewN _⟩
      · obtain rfl : k = l.length := by omega
        have HN := Lib.hid (decide_eq_true (eq_all HL.out hno.out))
        go_wp2
        go_ret
        exact ⟨ret_bool (by rw [HN.out]), (Only.refl _ _).drewN _⟩
  · have HN := Lib.hid (decide_eq_false (ne_len hlen))
    have hn1 : ¬ ((l.length : Int) = (m.length : Int)) := by omega
    go_enter Try.func40, Try.ntmps40
    go_wp2
    go_ret
    exact ⟨ret_bool (by rw [HN.out]), Only.refl _ _⟩
end Go.Proofs.Ytlpndkmhdnpifaa
