/- Package graph: whether a graph may be. -/
import Derived.Test.YtdlaigghejahdaaGrIt
namespace Go.Proofs.Ytdlaigghejahdaa
open Go.RowKit Go.Shelf
set_option maxRecDepth 100000
set_option linter.unusedSimpArgs false
set_option linter.unusedVariables false
attribute [local go_sem] Oper.semAt_some

/-- Is a node wrong, whatever its fields say? -/
def ndBad (d : Nd) : Bool := decide (d.kd < 0) || (decide (31 < d.kd) || (decide (4096 < (d.fs.length : Int)) || decide (4096 < (d.rs.length : Int))))
theorem ndBad_cases (d : Nd) : (d.kd < 0 ∧ ndBad d = true) ∨ (0 ≤ d.kd ∧ 31 < d.kd ∧ ndBad d = true) ∨ (0 ≤ d.kd ∧ d.kd ≤ 31 ∧ 4096 < (d.fs.length : Int) ∧ ndBad d = true) ∨ (0 ≤ d.kd ∧ d.kd ≤ 31 ∧ (d.fs.length : Int) ≤ 4096 ∧ 4096 < (d.rs.length : Int) ∧ ndBad d = true) ∨ (0 ≤ d.kd ∧ d.kd ≤ 31 ∧ (d.fs.length : Int) ≤ 4096 ∧ (d.rs.length : Int) ≤ 4096 ∧ ndBad d = false) := by
  unfold ndBad
  by_cases h1 : d.kd < 0
  · exact .inl ⟨h1, by simp [h1]⟩
  by_cases h2 : 31 < d.kd
  · exact .inr (.inl ⟨by omega, h2, by simp [h2]⟩)
  by_cases h3 : 4096 < (d.fs.length : Int)
  · exact .inr (.inr (.inl ⟨by omega, by omega, h3, by simp; omega⟩))
  by_cases h4 : 4096 < (d.rs.length : Int)
  · exact .inr (.inr (.inr (.inl ⟨by omega, by omega, by omega, h4, by simp; omega⟩)))
  · exact .inr (.inr (.inr (.inr ⟨by omega, by omega, by omega, by omega, by simp; omega⟩)))
theorem ndOk_bad (n : Nat) (d : Nd) : ndOk n d = (!ndBad d && d.fs.all (vOk n)) := by
  have h1 := ndBad_cases d
  have h2 := ndOk_cases n d
  rcases h1 with ⟨a, e⟩ | ⟨a, b, e⟩ | ⟨a, b, c, e⟩ | ⟨a, b, c, f, e⟩ | ⟨a, b, c, f, e⟩ <;> rcases h2 with ⟨a', e'⟩ | ⟨a', b', e'⟩ | ⟨a', b', c', e'⟩ | ⟨a', b', c', f', e'⟩ | ⟨a', b', c', f', e'⟩ <;> first | omega | (rw [e, e']; simp)
set_option maxHeartbeats 1000000 in
theorem isWrong_any (d : Nd) (h : Value × Value) (h1 : RowF h.1 d.fs.length) (h2 : RowF h.2 d.rs.length) (w : World) :
    Calls Try.prog 25 #[.agg #[.int .i64 d.kd, h.1, h.2]] w fun e w' => e = .returned (.bool (ndBad d)) ∧ Only nob w w' := by
  obtain ⟨fv, rv⟩ := h
  obtain ⟨n1, Af, cf, hfv, -⟩ := h1
  obtain ⟨n2, Ar, cr, hrv, -⟩ := h2
  simp only at hfv hrv
  subst hfv hrv
  obtain ⟨W, hW, HB⟩ := box_node w d.kd (.slice Af d.fs.length cf) (.slice Ar d.rs.length cr)
  have HW := Lib.hid hW
  obtain ⟨-, -, d0, d1, d2⟩ := HB.out
  have hcs := ndBad_cases d
  obtain ⟨q, hq⟩ : ∃ q, q = ndBad d := ⟨_, rfl⟩
  obtain ⟨kd, hkd⟩ : ∃ kd, kd = d.kd := ⟨_, rfl⟩
  rw [← hq, ← hkd] at hcs
  rw [← hkd] at HW d0
  rw [← hq]
  simp only
  rw [← hkd]
  have HO := Lib.hid HB.out.1
  clear hW hq hkd HB
  go_enter Try.func25, Try.ntmps25
  go_upto_region 1 with fail
  rw [HW.out]
  rcases hcs with ⟨a, rfl⟩ | ⟨a, b, rfl⟩ | ⟨a, b, c, rfl⟩ | ⟨a, b, c, f, rfl⟩ | ⟨a, b, c, f, rfl⟩
  all_goals
    go_wp2
    go_ret
    exact ⟨ret_bool (by first | rfl | (simp; done) | (simp; omega)), HO.out⟩
theorem any_hit {l : List Nd} {p : Nd → Bool} {k : Nat} {x : Nd} (hx : l[k]? = some x) (hp : p x = true) : l.any p = true := List.any_eq_true.2 ⟨x, List.mem_of_getElem? hx, hp⟩
theorem any_miss {l : List Nd} {p : Nd → Bool} (h : ∀ (j : Nat) y, j < l.length → l[j]? = some y → p y = false) : l.any p = false := by
  rw [List.any_eq_false]
  intro y hy
  obtain ⟨j, hj⟩ := List.getElem?_of_mem hy
  rw [h j y (List.getElem?_eq_some_iff.1 hj).1 hj]
  simp
set_option maxHeartbeats 2000000 in
theorem index16 (g : Gr) (v vr : Value) (hs : List (Value × Value)) (B : Nat) (w : World) (hr : RdG w B g v vr hs) (hB : B ≤ w.heap.size) :
    Calls Try.prog 43 #[v, .func (.func 25) #[] #[]] w fun e w' => ∃ z : Int, e = .returned (.int .i64 z) ∧ decide (0 ≤ z) = g.nd.any ndBad ∧ Only nob w w' := by
  have HR := Lib.hid hr
  obtain ⟨A, c, rfl, hac, hcm⟩ := hr.nodes.form
  unfold maxLen at hcm
  have eg : ∀ args w, (callFunc 25 args).run Try.prog w = .ok (.enter 25 args) w := enters_of Try.func25 (by kernel_rfl) rfl
  obtain ⟨q, hq⟩ : ∃ q, q = g.nd.any ndBad := ⟨_, rfl⟩
  have HQ := Lib.hid hq
  rw [← hq]
  clear hr hq
  go_enter Try.func43, Try.ntmps43
  go_wp2_with fail
  go_loopw [5, 8] (fun _ i wr => ∃ k : Nat, k ≤ g.nd.length ∧ i = .int .i64 k ∧ Hid (∀ (j : Nat) y, j < k → g.nd[j]? = some y → ndBad y = false) ∧ Hid (Only nob w wr)) (fun _ i _ => g.nd.length - (intOf i).toNat)
  case atStart => exact ⟨0, Nat.zero_le _, rfl, fun j _ hj _ => absurd hj (Nat.not_lt_zero j), Lib.hid (Only.refl _ _)⟩
  case round =>
    obtain ⟨k, hk, rfl, hno, HO⟩ := hrel
    by_cases hlt : k < g.nd.length
    · obtain ⟨d, hd⟩ : ∃ x, g.nd[k]? = some x := ⟨_, List.getElem?_eq_getElem hlt⟩
      obtain ⟨bb, o, fv, rv, rfl, hbb, hh, g0, g1, g2, hnd⟩ := HR.out.at_ (HO.out.below hB fun _ h => h.elim) hd
      have HD := Lib.hid hd
      have hf1 := hnd.fields.rowF
      have hf2 := hnd.raws.rowF
      have HC := Lib.hid (isWrong_any d (fv, rv) hf1 hf2 wr)
      obtain ⟨-, Af, cf, hfv, -⟩ := hf1
      obtain ⟨-, Ar, cr, hrv, -⟩ := hf2
      simp only at hfv hrv
      subst hfv hrv
      obtain ⟨kd, hkd⟩ : ∃ kd, kd = d.kd := ⟨_, rfl⟩
      rw [← hkd] at g0 HC
      clear hd hh hnd hkd
      cases hp : ndBad d with
      | true =>
        rw [hp] at HC
        have HN := Lib.hid (show decide (0 ≤ (k : Int)) = q by rw [HQ.out, any_hit HD.out hp]; simp)
        clear hp
        go_wp2_with fail
        refine HC.out.mono ?_
        rintro e w1 ⟨rfl, ho⟩
        have HO1 := Lib.hid (HO.out.trans ho)
        clear ho g0 g1 g2
        go_wp2
        go_ret
        exact ⟨_, rfl, HN.out, HO1.out⟩
      | false =>
        rw [hp] at HC
        have HN := Lib.hid (show ∀ (j : Nat) y, j < k + 1 → g.nd[j]? = some y → ndBad y = false from fun j y hj hy => by
          rcases Nat.lt_or_ge j k with h' | h'
          · exact hno.out j y h' hy
          · obtain rfl : j = k := by omega
            rw [HD.out] at hy
            obtain rfl := Option.some.inj hy
            exact hp)
        clear hp
        go_wp2_with fail
        refine HC.out.mono ?_
        rintro e w1 ⟨rfl, ho⟩
        have HO1 := Lib.hid (HO.out.trans ho)
        clear ho g0 g1 g2
        go_wp2
        go_roundw
        case rel => exact ⟨k + 1, by omega, by go_num, HN, HO1⟩
        case measure => simp [intOf]; omega
    · obtain rfl : k = g.nd.length := by omega
      have HN := Lib.hid (show decide (0 ≤ (-1 : Int)) = q by rw [HQ.out, any_miss fun j y hj hy => hno.out j y hj hy]; rfl)
      go_wp2
      go_ret
      exact ⟨_, rfl, HN.out, HO.out⟩
set_option maxHeartbeats 1000000 in
theorem contains16 (g : Gr) (v vr : Value) (hs : List (Value × Value)) (B : Nat) (w : World) (hr : RdG w B g v vr hs) (hB : B ≤ w.heap.size) :
    Calls Try.prog 24 #[v, .func (.func 25) #[] #[]] w fun e w' => e = .returned (.bool (g.nd.any ndBad)) ∧ Only nob w w' := by
  have HC := Lib.hid (index16 g v vr hs B w hr hB)
  obtain ⟨A, c, rfl, hac, hcm⟩ := hr.nodes.form
  clear hr
  go_enter Try.func24, Try.ntmps24
  go_wp2_with fail
  go_at_call 43
  refine HC.out.mono ?_
  rintro e w1 ⟨z, rfl, hz, ho⟩
  have HZ := Lib.hid hz
  have HO := Lib.hid ho
  clear hz ho
  go_wp2
  go_ret
  exact ⟨ret_bool HZ.out, HO.out⟩
theorem vOk_cases (n : Nat) (x y : Int) : (vmay x y = false ∧ vOk n (x, y) = false) ∨ (vmay x y = true ∧ x ≠ 2 ∧ vOk n (x, y) = true) ∨ (vmay x y = true ∧ x = 2 ∧ y < (n : Int) ∧ vOk n (x, y) = true) ∨ (vmay x y = true ∧ x = 2 ∧ (n : Int) ≤ y ∧ vOk n (x, y) = false) := by
  unfold vOk
  cases h : vmay x y with
  | false => exact .inl ⟨rfl, by simp [h]⟩
  | true =>
    by_cases h2 : x = 2
    · by_cases h3 : (n : Int) ≤ y
      · exact .inr (.inr (.inr ⟨rfl, h2, h3, by simp [h2, h3]⟩))
      · exact .inr (.inr (.inl ⟨rfl, h2, by omega, by simp [h, h3]⟩))
    · exact .inr (.inl ⟨rfl, h2, by simp [h, h2]⟩)
set_option maxHeartbeats 1000000 in
theorem mayStand_any (x y : Int) (n : Nat) (w : World) : Calls Try.prog 27 #[.agg #[.int .i64 x, .int .i64 y], .int .i64 n] w fun e w' => e = .returned (.bool (vOk n (x, y))) ∧ Only nob w w' := by
  obtain ⟨W, hW, HB⟩ := box_val16 w x y
  have HW := Lib.hid hW
  have d0 : W.cell? ⟨w.heap.size, 0, none⟩ = some (.int .i64 x) := HB.out.2.cell 0
  have d1 : W.cell? ⟨w.heap.size, 1, none⟩ = some (.int .i64 y) := HB.out.2.cell 1
  obtain ⟨q, hq⟩ : ∃ q, q = vOk n (x, y) := ⟨_, rfl⟩
  have hcs := vOk_cases n x y
  rw [← hq] at hcs ⊢
  clear hW hq
  rcases hcs with ⟨hm, rfl⟩ | ⟨hm, h2, rfl⟩ | ⟨hm, rfl, h3, rfl⟩ | ⟨hm, rfl, h3, rfl⟩
  · have HC := Lib.hid (enc_no x y hm W)
    clear hm
    go_enter Try.func27, Try.ntmps27
    go_upto_region 1 with fail
    rw [HW.out]
    go_wp2_with fail
    go_at_call 46
    refine HC.out.mono ?_
    rintro e w1 ⟨rfl, ho⟩
    have HO := Lib.hid (HB.out.1.trans ho)
    clear ho d0 d1
    go_wp2
    go_ret
    exact ⟨ret_bool rfl, HO.out⟩
  · have HC := Lib.hid (enc_yes x y hm W)
    have hbq : (x != 2) = true := by simpa using h2
    clear hm h2
    go_enter Try.func27, Try.ntmps27
    go_upto_region 1 with fail
    rw [HW.out]
    go_wp2_with fail
    go_at_call 46
    refine HC.out.mono ?_
    rintro e w1 ⟨rfl, ho⟩
    have HO := Lib.hid (HB.out.1.trans ho)
    have e0 := ho.keeps d0
    have e1 := ho.keeps d1
    clear ho d0 d1
    go_wp2
    go_ret
    exact ⟨ret_bool rfl, HO.out⟩
  all_goals
    have HC := Lib.hid (enc_yes 2 y hm W)
    clear hm
    go_enter Try.func27, Try.ntmps27
    go_upto_region 1 with fail
    rw [HW.out]
    go_wp2_with fail
    go_at_call 46
    refine HC.out.mono ?_
    rintro e w1 ⟨rfl, ho⟩
    have HO := Lib.hid (HB.out.1.trans ho)
    have e0 := ho.keeps d0
    have e1 := ho.keeps d1
    clear ho d0 d1
    go_wp2
    go_ret
    exact ⟨ret_bool (by first | rfl | (simp; omega)), HO.out⟩
end Go.Proofs.Ytdlaigghejahdaa
