/- The document's own plans: which small one is looked at next. -/
import Derived.Test.YtkjdnccnfnhkoaaRef17
import Derived.Deep.RegionHeld3
namespace Go.Proofs.Ytkjdnccnfnhkoaa
open Go.RowKit Go.Lib
set_option maxRecDepth 100000
set_option linter.unusedSimpArgs false
set_option linter.unusedVariables false

theorem mixed17 : Try.prog.follows .mixedOrders = true := by kernel_rfl
def nextI (order block : Int) (s : PSt) : Int := match nextS order block s with | some i => (i : Nat) | none => -1
theorem firstI_all {block : Int} {s : PSt} : firstI block (-1) s = match firstS (fun _ => true) s with | some i => ((i : Nat) : Int) | none => -1 := by
  unfold firstI
  have : (fun b : Int => decide ((-1 : Int) < 0) || decide (b.tdiv block = -1)) = fun _ => true := by funext b; simp
  rw [this]
  cases firstS (fun _ => true) s <;> rfl
theorem next_other {order block : Int} {s : PSt} (h : ¬ (order = 2 ∧ s.small ≠ [])) : nextI order block s = firstI block (-1) s := by
  rw [firstI_all]
  unfold nextI nextS
  rw [if_neg h]
theorem next_tiers {block z : Int} {s : PSt} (h : s.small ≠ []) (hz : z = (s.begins.getLastD 0).tdiv block) (h0 : 0 ≤ z) : nextI 2 block s = if 0 ≤ firstI block z s then firstI block z s else firstI block (-1) s := by
  rw [firstI_all]
  have e : (fun b : Int => decide (z < 0) || decide (b.tdiv block = z)) = fun b => decide (b.tdiv block = (s.begins.getLastD 0).tdiv block) := by
    funext b
    rw [hz]
    have : decide ((s.begins.getLastD 0).tdiv block < 0) = false := decide_eq_false (by rw [← hz]; omega)
    rw [this]; rfl
  unfold nextI nextS firstI
  rw [if_pos ⟨rfl, h⟩, e]
  cases firstS (fun b => decide (b.tdiv block = (s.begins.getLastD 0).tdiv block)) s with
  | none => simp
  | some i =>
    simp only
    rw [if_pos (Int.natCast_nonneg i)]
theorem last_at {l : List Int} (h : 0 < l.length) : ∃ c, l[l.length - 1]? = some c ∧ l.getLastD 0 = c := by
  refine ⟨l[l.length - 1], List.getElem?_eq_getElem (by omega), ?_⟩
  rw [List.getLastD_eq_getLast?, List.getLast?_eq_getElem?, List.getElem?_eq_getElem (by omega)]
  rfl
theorem firstI_lo (block z : Int) (s : PSt) : -1 ≤ firstI block z s := by
  unfold firstI
  cases firstS (fun b => decide (z < 0) || decide (b.tdiv block = z)) s with
  | none => simp
  | some i => simp only; omega
set_option maxHeartbeats 4000000 in
theorem rNext17 (W : World) (b base : Nat) (vn vr : Value) (lim blk order : Int) (v : PV) (s : PSt) (h : Pm W b base vn vr lim blk v s) (hb : 1 ≤ blk) (hbm : blk ≤ 9223372036854775807) (h1 : s.looked.length = s.small.length) (h2 : s.begins.length = s.small.length)
    (hbg : ∀ c ∈ s.begins, 0 ≤ c ∧ c ≤ 9223372036854775807) :
    Calls Try.prog 45 #[.pointer (some ⟨b, 0, none⟩), .int .i64 order] W fun e w' => e = .returned (.int .i64 (nextI order blk s)) ∧ Only nob W w' := by
  have HALL := Lib.hid (fun (W' : World) (o : Only nob W W') => rFirst17 W' b base vn vr lim blk (-1) v s (h.nob o) hb hbm (by omega) h1 h2 hbg)
  have HZ := Lib.hid (fun (z : Int) (hz : 0 ≤ z ∧ z ≤ 9223372036854775807) (W' : World) (o : Only nob W W') => rFirst17 W' b base vn vr lim blk z v s (h.nob o) hb hbm (by omega) h1 h2 hbg)
  obtain ⟨A1, k1, e1, hc1, hm1, -⟩ := Pm.sl h.sm
  obtain ⟨A2, k2, e2, hc2, hm2, -⟩ := Pm.sl h.bg
  have HBX := Lib.hid h.box
  have HS2 := Lib.hid (Pm.sl h.bg)
  rw [e1, e2, h2] at HBX
  rw [e2, h2] at HS2
  unfold maxLen at hm1
  rw [h2] at hc2
  unfold maxLen at hm2
  have H2 := Lib.hid h2
  have HBG := Lib.hid hbg
  obtain ⟨n, hn⟩ : ∃ n, n = s.small.length := ⟨_, rfl⟩
  have HN := Lib.hid hn
  rw [← hn] at HBX hc1 hc2 HS2 H2
  obtain ⟨q, hq⟩ : ∃ q, q = nextI order blk s := ⟨_, rfl⟩
  have HQ := Lib.hid hq
  obtain ⟨fa, hfa⟩ : ∃ f, f = firstI blk (-1) s := ⟨_, rfl⟩
  have HFA := Lib.hid hfa
  rw [← hq]
  rw [← hfa] at HALL
  have c2 : W.cell? ⟨b, 3, none⟩ = some (.int .i64 blk) := HBX.out.cell 3
  have c4 : W.cell? ⟨b, 4, none⟩ = some (.slice A1 n k1) := HBX.out.cell 4
  have c5 : W.cell? ⟨b, 5, none⟩ = some (.slice A2 n k2) := HBX.out.cell 5
  clear hq hfa hn h h1 h2 e1 e2 hbg
  have HE : ¬ (order = 2 ∧ 0 < n) → q = fa := fun hh => HQ.out.trans ((next_other fun h' => hh ⟨h'.1, by rw [HN.out]; exact List.length_pos_iff.2 h'.2⟩).trans HFA.out.symm)
  have HEH := Lib.hid HE
  clear HE
  by_cases ho : order = 2
  · by_cases hn0 : 0 < n
    · subst ho
      obtain ⟨c, hc, hlast⟩ := last_at (l := s.begins) (by rw [H2.out]; exact hn0)
      rw [H2.out] at hc
      have hcb := HBG.out c (List.mem_of_getElem? hc)
      obtain ⟨b2, o2, c2', e2, -, -, hl2, hc2c⟩ := HS2.out.at_ (by omega)
      obtain ⟨rfl, rfl⟩ : A2 = some ⟨b2, o2, none⟩ ∧ k2 = c2' := by simpa using e2
      have g2 : W.cell? ⟨b2, o2 + (n - 1), none⟩ = some (.int .i64 c) := hc2c (n - 1) _ (i64s_at hc)
      have hb0 : ¬ blk = 0 := by omega
      have hd0 : 0 ≤ c.tdiv blk := Int.tdiv_nonneg hcb.1 (by omega)
      have hd1 : c.tdiv blk ≤ 9223372036854775807 := by
        rw [Int.tdiv_eq_ediv_of_nonneg hcb.1]
        exact Int.le_trans (Int.ediv_le_self _ hcb.1) hcb.2
      obtain ⟨dv, hdv⟩ : ∃ dv, dv = c.tdiv blk := ⟨_, rfl⟩
      have hw : IntKind.i64.wrap (c.tdiv blk) = dv := (quo17 _ _ (by omega)).trans hdv.symm
      have hq := HQ.out.trans (next_tiers (z := dv) (fun e => by have := HN.out; rw [e] at this; simp at this; omega) (by rw [hlast]; exact hdv) (by omega))
      have HC := Lib.hid (HZ.out dv (by omega))
      obtain ⟨fz, hfz⟩ : ∃ f, f = firstI blk dv s := ⟨_, rfl⟩
      have HLO := Lib.hid (show -1 ≤ fz by rw [hfz]; exact firstI_lo _ _ _)
      rw [← hfz, ← HFA.out] at hq
      rw [← hfz] at HC
      have HQ2 := Lib.hid hq
      obtain ⟨m, hm⟩ : ∃ m, m = n - 1 := ⟨_, rfl⟩
      have hmn : m < n := by omega
      have hws : IntKind.i64.wrap ((n : Int) - 1) = (m : Int) := by
        rw [IntWalk.i64_in _ (by omega)]; omega
      rw [← hm] at g2
      clear hc hlast hc2c e2 hdv hq hfz hd0 hd1 hm
      go_enter Try.func45, Try.ntmps45
      go_upto_region 2 with fail
      have OC := Lib.hid (show Only nob W W.drew from (Only.refl nob W).drewN 1)
      have mixed := mixed17
      go_region_held3 (fun w' => w'.cell? ⟨b, 3, none⟩ = some (.int .i64 blk) ∧ w'.cell? ⟨b, 5, none⟩ = some (.slice (some ⟨b2, o2, none⟩) n k2) ∧ w'.cell? ⟨b2, o2 + m, none⟩ = some (.int .i64 c)) (first | (with_reducible exact And.intro (OC.out.keeps c2) (And.intro (OC.out.keeps c5) (OC.out.keeps g2))) | go_keep)
        (first
          | (go_at_call 58
             with_reducible refine (HC.out _ OC.out).mono ?_
             rintro e wt ⟨rfl, o⟩
             have OC := Lib.hid (OC.out.trans o)
             clear o))
      by_cases hf : 0 ≤ fz
      · go_wp2
        go_ret
        exact ⟨ret_int (by rw [HQ2.out, if_pos hf]), OC.out⟩
      · go_wp2_with fail
        go_at_call 58
        refine (HALL.out _ OC.out).mono ?_
        rintro e w9 ⟨rfl, o⟩
        have O9 := Lib.hid (OC.out.trans o)
        clear o
        go_wp2
        go_ret
        exact ⟨ret_int (by rw [HQ2.out, if_neg (by omega)]), O9.out⟩
    · have hq := HEH.out (fun h => hn0 h.2)
      have HQ2 := Lib.hid hq
      clear hq
      go_enter Try.func45, Try.ntmps45
      go_wp2_with fail
      go_at_call 58
      refine (HALL.out _ (Only.refl _ _)).mono ?_
      rintro e w9 ⟨rfl, o⟩
      have O9 := Lib.hid o
      clear o c2 c4 c5
      go_wp2
      go_ret
      exact ⟨ret_int (by rw [HQ2.out]), O9.out⟩
  · have hq := HEH.out (fun h => ho h.1)
    have HQ2 := Lib.hid hq
    have hoq : (order == 2) = false := by simpa using ho
    clear hq
    go_enter Try.func45, Try.ntmps45
    go_wp2_with fail
    go_at_call 58
    refine (HALL.out _ (Only.refl _ _)).mono ?_
    rintro e w9 ⟨rfl, o⟩
    have O9 := Lib.hid o
    clear o c2 c4 c5
    go_wp2
    go_ret
    exact ⟨ret_int (by rw [HQ2.out]), O9.out⟩
end Go.Proofs.Ytkjdnccnfnhkoaa
