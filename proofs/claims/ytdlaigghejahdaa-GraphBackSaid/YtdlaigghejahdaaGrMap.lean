/- Package graph: where each place of an order stands, as a map of the call's own. -/
import Derived.Test.YtdlaigghejahdaaGrRight
import Derived.Maps.OwnSet
namespace Go.Proofs.Ytdlaigghejahdaa
open Go.RowKit Go.Maps Go.ChangeMaps
set_option maxRecDepth 100000
set_option linter.unusedSimpArgs false
set_option linter.unusedVariables false

def B64 (z : Int) : Prop := -9223372036854775808 ≤ z ∧ z ≤ 9223372036854775807
def asIs16 (v : Value) : Option (DataW Value × List MemPlace) := some (.held v, [])
theorem keyInt16 : Keyed Try.prog 2 := int_keyed Try.underlying2
theorem keyOf16 {p : Int} (h : B64 p) : keyOf Try.prog 2 (.int .i64 p) = some (.int .i64 p) := keyOf_int_mk Try.underlying2 (WalkArith.wf_i64 h)
theorem isKey16 (p : Int) : WideAt.IsKeyLit (.int .i64 p) := by
  unfold WideAt.IsKeyLit
  simp
theorem zero16 (w : World) : (zeroValue 2).run Try.prog w = .ok (.int .i64 0) w := by kernel_rfl
/-- Block mp is a map that holds where each number of K stands in K, and nothing else. -/
def PMap (w : World) (mp n : Nat) (K : List Int) : Prop :=
  ∃ D : DataW Value, w.ownsMap Try.prog 2 asIs16 mp n D ∧ ∀ p : Int, B64 p → (has D (.int .i64 p) = decide (p ∈ K) ∧ (p ∈ K → ∀ z, D.atKey (.int .i64 p) z = .held (.int .i64 (plc K p))))
theorem PMap.lt {w : World} {mp n : Nat} {K : List Int} (h : PMap w mp n K) : mp < w.heap.size := by
  obtain ⟨D, h, -⟩ := h
  exact h.lt
theorem PMap.keep {F : Nat → Prop} {w w' : World} {mp n : Nat} {K : List Int} (h : PMap w mp n K) (o : Only F w w') (hn : ¬ F mp) : PMap w' mp n K := by
  obtain ⟨D, ⟨es, clock, hb, r⟩, h2⟩ := h
  have hlt : mp < w.heap.size := (Array.getElem?_eq_some_iff.1 hb).1
  exact ⟨D, ⟨es, clock, (o.block mp hlt hn).trans hb, r⟩, h2⟩
theorem PMap.same {w w' : World} {mp n : Nat} {K : List Int} (h : PMap w mp n K) (e : w'.heap[mp]? = w.heap[mp]?) : PMap w' mp n K := by
  obtain ⟨D, ⟨es, clock, hb, r⟩, h2⟩ := h
  exact ⟨D, ⟨es, clock, e.trans hb, r⟩, h2⟩
theorem PMap.obj {w : World} {mp n : Nat} {K : List Int} (h : PMap w mp n K) : ∃ o : Obj, w.heap[mp]? = some o ∧ o.isCells = false := by
  obtain ⟨D, ⟨es, clock, hb, r⟩, h2⟩ := h
  exact ⟨_, hb, rfl⟩
theorem PMap.new (w : World) : PMap (w.alloc (.map #[] 0)) w.heap.size 0 [] :=
  ⟨_, World.ownsMap_made w _ _ _, fun p _ => ⟨rfl, fun h => by cases h⟩⟩
theorem only_turned16 {w w' : World} {mp : Nat} (h : w.mapTurned w' mp) : Only (isb mp) w w' := by
  obtain ⟨es, clock, es', clock', hb, rfl⟩ := h
  exact ⟨rfl, rfl, rfl, by simp [setBlock], fun k _ hn => heap_setBlock_other hb _ hn⟩
theorem plc_snoc_old {K : List Int} {p q : Int} (h : q ∈ K) : plc (K ++ [p]) q = plc K q := by
  rw [plc_in h, plc_in (List.mem_append_left _ h), List.idxOf_append, if_pos h]
theorem plc_snoc_new {K : List Int} {p : Int} (h : p ∉ K) : plc (K ++ [p]) p = K.length := by
  rw [plc_in (by simp), List.idxOf_append, if_neg h]
  simp
/-- A place more. -/
theorem PMap.put {w : World} {mp n : Nat} {K : List Int} (h : PMap w mp n K) (p : Int) (hp : B64 p) (hK : p ∉ K) (hn : n < 1000000) :
    ∃ w', (Instr.mapUpdate 60 (.map (some mp)) (.int .i64 p) (.int .i64 (K.length : Int))).run Try.prog w = .ok () w' ∧ PMap w' mp (n + 1) (K ++ [p]) ∧ Only (isb mp) w w' := by
  obtain ⟨D, h, h2⟩ := h
  obtain ⟨w', e, h', ht⟩ := h.store keyInt16 Try.underlying60 (by unfold maxLen; omega) (keyOf16 hp) (show asIs16 (.int .i64 (K.length : Int)) = some (.held (.int .i64 (K.length : Int)), []) from rfl)
  refine ⟨w', e, ⟨_, h', fun q hq => ?_⟩, only_turned16 ht⟩
  by_cases hpq : p = q
  · subst hpq
    rw [has_put_same h.isMap (isKey16 p)]
    refine ⟨by simp, fun _ z => ?_⟩
    rw [plc_snoc_new hK]
    exact atKey_put_same h.isMap (isKey16 p) _ _
  · have hne : (Lit.int .i64 q) ≠ (.int .i64 p) := fun e => hpq (by injection e with _ e; exact e.symm)
    rw [has_put_other hne]
    obtain ⟨h3, h4⟩ := h2 q hq
    have hb : (q ∈ K ++ [p]) ↔ q ∈ K := by
      rw [List.mem_append, List.mem_singleton]
      exact ⟨fun h => h.elim id fun e => absurd e.symm hpq, .inl⟩
    refine ⟨by rw [h3]; exact decide_eq_decide.2 hb.symm, fun h z => ?_⟩
    rw [atKey_put_other hne, plc_snoc_old (hb.1 h)]
    exact h4 (hb.1 h) z
/-- What is found at a number; whether it is there. -/
theorem PMap.look {w : World} {mp n : Nat} {K : List Int} (h : PMap w mp n K) (p : Int) (hp : B64 p) :
    (Instr.lookup 60 (.map (some mp)) (.int .i64 p) true).run Try.prog w = .ok (.tuple #[.int .i64 (if p ∈ K then plc K p else 0), .bool (decide (p ∈ K))]) w := by
  obtain ⟨D, h, h2⟩ := h
  obtain ⟨v, ps, e, hv⟩ := h.look_ok keyInt16 Try.underlying60 (zero16 w) (show asIs16 (.int .i64 0) = some (.held (.int .i64 0), []) from rfl) (keyOf16 hp)
  obtain ⟨h3, h4⟩ := h2 p hp
  rw [h3] at e
  unfold asIs16 at hv
  simp only [Option.some.injEq, Prod.mk.injEq] at hv
  by_cases hb : p ∈ K
  · rw [h4 hb] at hv
    obtain rfl : v = .int .i64 (plc K p) := by simpa using hv.1
    rw [e, if_pos hb]
  · rw [decide_eq_false hb] at h3
    have : D.atKey (.int .i64 p) (.held (.int .i64 0)) = .held (.int .i64 0) := by
      rw [atKey_of_not_has h3]
    rw [this] at hv
    obtain rfl : v = .int .i64 0 := by simpa using hv.1
    rw [e, if_neg hb]
theorem PMap.ne_blk {w : World} {mp n g : Nat} {K : List Int} {t : TypeId} {cs : Array Value} (h : PMap w mp n K) (b : Blk w g t cs) : g ≠ mp := by
  rintro rfl
  obtain ⟨D, ⟨es, clock, hb, -⟩, -⟩ := h
  unfold Blk at b
  rw [b] at hb
  cases hb
/-- A store into a map, whose run is known. -/
theorem wpList_put16 {P : Program} (w : World) {ops : Array Oper} {rest : List Oper} {o : Oper} {a : Act} {Q : Exit → Act → World → Prop} (hg : o.guard = none) (m x v : Operand) (t : TypeId) (hop : o.op = Op.mapUpdate t m x v) (mv kv vv : Value)
    (hm : a.eval m = mv) (hx : a.eval x = kv) (hv : a.eval v = vv) (w' : World) (hrun : (Instr.mapUpdate t mv kv vv).run P w = .ok () w') (hK : wpList P ops Q rest (a.put o.dst undef) w') : wpList P ops Q (o :: rest) a w := by
  refine wpList_plain hg fun K' hK' => ?_
  unfold Oper.wp
  simp [execOp, hop, hm, hx, hv, hrun, Result.andThen]
  exact hK' _ _ hK
theorem ord_snoc {n : Nat} {o : List Int} {k : Nat} {x : Int} (hx : o[k]? = some x) (h : ordOk n (o.take k) = true) (hk : x ∉ o.take k) (h0 : 0 ≤ x) (h1 : x < (n : Int)) : ordOk n (o.take (k + 1)) = true := by
  obtain ⟨a, b⟩ := ordOk_iff.1 h
  rw [List.take_add_one, hx]
  refine ordOk_iff.2 ⟨fun y hy => ?_, ?_⟩
  · rcases List.mem_append.1 hy with h | h
    · exact a y h
    · obtain rfl : y = x := by simpa using h
      exact ⟨h0, h1⟩
  · rw [List.nodup_append]
    refine ⟨b, by simp, fun y hy z hz e => ?_⟩
    obtain rfl : z = x := by simpa using hz
    exact hk (e ▸ hy)
theorem ord_no {n : Nat} {o : List Int} {k : Nat} {x : Int} (hx : o[k]? = some x) (h : x ∈ o.take k ∨ x < 0 ∨ (n : Int) ≤ x) : ordOk n o = false := by
  cases e : ordOk n o with
  | false => rfl
  | true =>
    obtain ⟨a, b⟩ := ordOk_iff.1 e
    have hm := a x (List.mem_of_getElem? hx)
    rcases h with h | h | h
    · obtain ⟨j, hj⟩ := List.getElem?_of_mem h
      have hjk : j < k := by have := (List.getElem?_eq_some_iff.1 hj).1; rw [List.length_take] at this; omega
      rw [List.getElem?_take, if_pos hjk] at hj
      have := nodup_at b hj hx
      omega
    · omega
    · omega
set_option maxHeartbeats 4000000 in
theorem placesBy_any (o : List Int) (n : Nat) (v : Value) (B : Nat) (w : World) (h : Sl w B 1 v o.length (i64s o)) (hB : B ≤ w.heap.size) (hn : n ≤ 1000000) (hl : o.length ≤ 100) (hf : ∀ x ∈ o, B64 x) :
    Calls Try.prog 32 #[v, .int .i64 n] w fun e w' =>
      (ordOk n o = true → ∃ mp, e = .returned (.tuple #[.map (some mp), .bool true]) ∧ w.heap.size ≤ mp ∧ PMap w' mp o.length o) ∧ (ordOk n o = false → e = .returned (.tuple #[.map none, .bool false])) ∧ Only nob w w' := by
  have HV := Lib.hid h
  have HF := Lib.hid hf
  have hmm := @run_makeMap Try.prog
  obtain ⟨A, c, rfl, hac, hcm⟩ := h.form
  unfold maxLen at hcm
  obtain ⟨q, hq⟩ : ∃ q, q = ordOk n o := ⟨_, rfl⟩
  have HQ := Lib.hid hq
  rw [← hq]
  obtain ⟨W, hW, oW, pW⟩ : ∃ W, w.alloc (.map #[] 0) = W ∧ Only nob w W ∧ PMap W w.heap.size 0 [] := ⟨_, rfl, (Only.refl nob w).alloc _, PMap.new w⟩
  have HW := Lib.hid hW
  have OW := Lib.hid oW
  have PW := Lib.hid pW
  obtain ⟨mp, hmp⟩ : ∃ mp, mp = w.heap.size := ⟨_, rfl⟩
  have HMP := Lib.hid hmp
  rw [← hmp] at PW
  clear hq hW oW pW h hf hmp
  go_enter Try.func32, Try.ntmps32
  go_upto_region 2 with fail
  rw [HW.out, ← HMP.out]
  clear hmm
  go_wp2_with fail
  go_loopw [7, 8, 9, 10, 11, 15] (fun _ _ _ _ _ i wr => ∃ k : Nat, k ≤ o.length ∧ i = .int .i64 k ∧ Hid (ordOk n (o.take k) = true) ∧ Hid (PMap wr mp k (o.take k)) ∧ Hid (Only nob w wr)) (fun _ _ _ _ _ i _ => o.length - (intOf i).toNat)
  case atStart => exact ⟨0, Nat.zero_le _, rfl, Lib.hid (by rw [List.take_zero]; rfl), Lib.hid (by rw [List.take_zero]; exact PW.out), OW⟩
  case round =>
    obtain ⟨k, hk, rfl, HOK, HP, HO⟩ := hrel
    by_cases hlt : k < o.length
    · obtain ⟨x, hx⟩ : ∃ x, o[k]? = some x := ⟨_, List.getElem?_eq_getElem hlt⟩
      obtain ⟨b1, o1, rfl, -, e0⟩ := sl_int HV.out (HO.out.below hB fun _ h => h.elim) hx
      have HX := Lib.hid hx
      have hxb := HF.out x (List.mem_of_getElem? hx)
      have hlk := HP.out.look x hxb
      by_cases hin : x ∈ o.take k
      · have HN := Lib.hid (show q = false from HQ.out.trans (ord_no hx (.inl hin)))
        rw [if_pos hin, decide_eq_true hin] at hlk
        clear hx hin
        unfold B64 at hxb
        go_wp2
        go_ret2
        exact ⟨(fun h => by rw [HN.out] at h; cases h), fun _ => rfl, HO.out⟩
      · rw [if_neg hin, decide_eq_false hin] at hlk
        by_cases h0 : x < 0
        · have HN := Lib.hid (show q = false from HQ.out.trans (ord_no hx (.inr (.inl h0))))
          clear hx hin
          unfold B64 at hxb
          go_wp2
          go_ret2
          exact ⟨(fun h => by rw [HN.out] at h; cases h), fun _ => rfl, HO.out⟩
        · by_cases h1 : (n : Int) ≤ x
          · have HN := Lib.hid (show q = false from HQ.out.trans (ord_no hx (.inr (.inr h1))))
            clear hx hin
            unfold B64 at hxb
            go_wp2
            go_ret2
            exact ⟨(fun h => by rw [HN.out] at h; cases h), fun _ => rfl, HO.out⟩
          · have HOK2 := Lib.hid (ord_snoc hx HOK.out hin (by omega) (by omega))
            have htl : (o.take k).length = k := by rw [List.length_take]; omega
            have hp := HP.out.put x hxb hin (by omega)
            rw [htl, show o.take k ++ [x] = o.take (k + 1) by rw [List.take_add_one, hx]; rfl] at hp
            obtain ⟨w2, hrun, hp2, o2⟩ := hp
            have HR := Lib.hid hrun
            have HP2 := Lib.hid hp2
            have O2 := Lib.hid (HO.out.andThen o2 fun i hi e => by unfold isb at e; have := HMP.out; omega)
            clear hx hin hp2 o2 hrun htl
            unfold B64 at hxb
            go_wp2_with (first | (at_mapUpdate; refine wpList_put16 _ rfl _ _ _ _ rfl _ _ _ rfl rfl rfl _ HR.out ?_) | fail)
            go_roundw
            case rel => exact ⟨k + 1, by omega, by go_num, HOK2, HP2, O2⟩
            case measure => simp [intOf]; omega
    · obtain rfl : k = o.length := by omega
      have HE := Lib.hid (show o.take o.length = o from List.take_length)
      have HN := Lib.hid (show q = true from HQ.out.trans (by have := HOK.out; rwa [HE.out] at this))
      go_wp2
      go_ret2
      exact ⟨(fun _ => ⟨mp, rfl, Nat.le_of_eq HMP.out.symm, by have := HP.out; rwa [HE.out] at this⟩), (fun h => by rw [HN.out] at h; cases h), HO.out⟩
end Go.Proofs.Ytdlaigghejahdaa
