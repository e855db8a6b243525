/- The walk of ArenaPlays. -/
import Derived.Test.YtdaopgcfddlimaaAwake02
import Derived.Test.YtdaopgcfddlimaaOpen
import Derived.Deep.DeepCutAuto
import Derived.Deep.CutBlock
namespace Go.Proofs.Ytdaopgcfddlimaa
open Go.RowKit

/-- One deed's five cells. -/
def Deed (xs : List Value) (i : Nat) (kd a f m : Int) (x : Nat) : Prop :=
  xs[i * 5]? = some (.int .i64 kd) ∧ xs[i * 5 + 1]? = some (.int .i64 a) ∧ xs[i * 5 + 2]? = some (.int .i64 f) ∧ xs[i * 5 + 3]? = some (.int .i64 m) ∧ xs[i * 5 + 4]? = some (.int .u64 (x : Nat))
def Deeds (n : Nat) (xs : List Value) : Prop := ∀ i, i < n → ∃ kd a f m : Int, ∃ x : Nat, Deed xs i kd a f m x ∧ a ≤ 9223372036854775807 ∧ f ≤ 9223372036854775807 ∧ x < full
theorem deeds_of {H : Type} {enc : TypeId × Value → H} {w : World} {base n : Nat} {sp : Nat → Bool} {held : Bool} {xs : List Value} {fs : Array Field} (hfs : fs.map (fun (f : Field) => f.type) = #[3, 3, 3, 3, 29])
    (h : ∀ i j f, i < n → fs[j]? = some f → ∃ (u : Value) (y : DataW H × List MemPlace) (k : Nat), xs[i * 5 + j]? = some u ∧ DataW.trod enc Try.prog w base sp held k f.type [u] = some y) : Deeds n xs := by
  have hz : fs.size = 5 := by have := congrArg Array.size hfs; simpa using this
  have ht : ∀ (j : Nat) t, (#[3, 3, 3, 3, 29] : Array TypeId)[j]? = some t → ∃ f : Field, fs[j]? = some f ∧ f.type = t := by
    intro j t hj
    rw [← hfs, Array.getElem?_map] at hj
    cases hf : fs[j]? with
    | none => rw [hf] at hj; cases hj
    | some f => rw [hf] at hj; exact ⟨f, rfl, by simpa using hj⟩
  have hint : ∀ i j, i < n → (#[3, 3, 3, 3, 29] : Array TypeId)[j]? = some 3 → ∃ z : Int, xs[i * 5 + j]? = some (.int .i64 z) ∧ z ≤ 9223372036854775807 := by
    intro i j hi hj
    obtain ⟨f, hf, hft⟩ := ht j _ hj
    obtain ⟨u, y, k, hu, hd⟩ := h i j f hi hf
    rw [hft] at hd
    obtain ⟨z, he, _, hw⟩ := DataW.trod_int Try.underlying3 hd
    obtain rfl : u = .int .i64 z := by simpa using he
    exact ⟨z, hu, (bounds_i64 hw).2⟩
  intro i hi
  obtain ⟨kd, h0, _⟩ := hint i 0 hi rfl
  obtain ⟨a, h1, b1⟩ := hint i 1 hi rfl
  obtain ⟨f, h2, b2⟩ := hint i 2 hi rfl
  obtain ⟨m, h3, _⟩ := hint i 3 hi rfl
  obtain ⟨q, hq, hqt⟩ := ht 4 29 rfl
  obtain ⟨u, y, k, hu, hd⟩ := h i 4 q hi hq
  rw [hqt] at hd
  obtain ⟨z, he, _, hw⟩ := DataW.trod_int Try.underlying29 hd
  obtain rfl : u = .int .u64 z := by simpa using he
  have hz := nat_of_word hw
  exact ⟨kd, a, f, m, z.toNat, ⟨h0, h1, h2, h3, by rw [← hz.1]; exact hu⟩, b1, b2, hz.2⟩

/-- What holds at the head of each round. -/
def Round (w : World) (b g : Nat) (n : Nat) (l : List Nat) (v : Value) (wr : World) : Prop :=
  l.length = n ∧ Ar wr b g l ∧ wr.ownsRow w.heap.size 29 1 v l.length (u64s l) ∧ v.ownBlock ≠ some g ∧ v.ownBlock ≠ some b ∧ Only nob w wr

theorem Round.only {w wr wx : World} {b g n : Nat} {l : List Nat} {v : Value} (h : Round w b g n l v wr) (ho : Only nob wr wx) : Round w b g n l v wx :=
  ⟨h.1, h.2.1.keep ho id id, own_only h.2.2.1 ho fun _ _ => id, h.2.2.2.1, h.2.2.2.2.1, h.2.2.2.2.2.trans ho⟩
theorem Round.sl {w wr : World} {b g n : Nat} {l : List Nat} {v : Value} (h : Round w b g n l v wr) : Sl wr wr.heap.size 1 v l.length (u64s l) := Sl.of_own h.2.2.1 h.2.2.1.1
/-- The arena is another one, and so is the list beside it, which is new. -/
theorem Round.anew {w wr wx wy : World} {b g n : Nat} {l l' : List Nat} {v v' : Value} (h : Round w b g n l v wr) (hw : w.heap.size ≤ g) (ho : Only nob wr wx) {wz : World} (ho2 : Only (isb g) wx wz) (hA : Ar wz b g l') (hl : l'.length = l.length)
    (hv : wy.ownsRow wz.heap.size 29 1 v' l'.length (u64s l')) (ho3 : Only nob wz wy) : Round w b g n l' v' wy := by
  have hO : Only nob w wz := (h.2.2.2.2.2.trans ho).andThen ho2 fun i hi e => by unfold isb at e; omega
  have hb := hA.head.lt
  have hg := hA.row.lt
  exact ⟨hl.trans h.1, hA.keep ho3 id id, own_more hv (fun k hk => Nat.le_trans hO.size (own_lt hv hk).1), fun e => by have := own_lt hv e; omega, fun e => by have := own_lt hv e; omega, hO.trans ho3⟩
/-- A word of the arena, and of the list beside it, is another one. -/
theorem Round.both {w wr wx wz : World} {b g n : Nat} {l : List Nat} {gk c an x : Nat} (h : Round w b g n l (.slice (some ⟨gk, 0, none⟩) l.length c) wr) (hw : w.heap.size ≤ g) (ho : Only nob wr wx) (ho2 : Only (isb g) wx wz) (hA : Ar wz b g (l.set an x)) :
    Round w b g n (l.set an x) (.slice (some ⟨gk, 0, none⟩) l.length c) (wz.setCell ⟨gk, an, none⟩ (.int .u64 (x : Nat))) := by
  have hO : Only nob w wz := (h.2.2.2.2.2.trans ho).andThen ho2 fun i hi e => by unfold isb at e; omega
  have hn1 : gk ≠ g := fun e => h.2.2.2.1 (by rw [e]; rfl)
  have hn2 : gk ≠ b := fun e => h.2.2.2.2.1 (by rw [e]; rfl)
  have hk := (own_lt h.2.2.1 (k := gk) rfl).1
  have hown : wz.ownsRow w.heap.size 29 1 (.slice (some ⟨gk, 0, none⟩) l.length c) l.length (u64s l) :=
    own_only (own_only h.2.2.1 ho fun _ _ => id) ho2 fun k hk' e => by simp [Value.ownBlock] at hk'; unfold isb at e; omega
  refine ⟨by simpa using h.1, hA.keep (only_set _ _ _ _) (fun e => hn2 e.symm) (fun e => hn1 e.symm), ?_, h.2.2.2.1, h.2.2.2.2.1, hO.andThen (only_set _ _ _ _) fun i hi e => by unfold isb at e; omega⟩
  have := (hown.stored an (.int .u64 (x : Nat))).1
  rw [u64s_set] at this
  rw [List.length_set]
  exact this

set_option maxRecDepth 100000 in
set_option maxHeartbeats 2000000 in
theorem arenaPlays_small (v d : Value) (l : List Nat) (n : Nat) (xs : List Value) (w : World) (h : Sl w w.heap.size 1 v l.length (u64s l)) (hw : Words l) (hl : l.length ≤ 200) (hd : Sl w w.heap.size 5 d n xs) (hx : Deeds n xs) (hn : n ≤ 60) :
    Calls Try.prog 3 #[v, d] w fun e w' => e = .returned (.bool true) ∧ Below w.heap.size w w' := by
  obtain ⟨i0, hi0, hz0, hz1, hz2⟩ := info_parts info_u64
  have HA := Lib.hid h
  have HD := Lib.hid hd
  have HDX := Lib.hid hx
  clear hx
  obtain ⟨A, ca, rfl, hac, ham, -⟩ := h
  obtain ⟨D, cd, rfl, hdc, hdm, -, -⟩ := hd
  unfold maxLen at ham hdm
  go_enter Try.func3, Try.ntmps3
  go_wp2_with fail
  go_at_call 7
  refine (of_any _ l _ HA.out (by omega) hw).mono ?_
  rintro e w1 ⟨b, g, rfl, hb, hg, hR, o1⟩
  have H0 := Lib.hid hR
  have O1 := Lib.hid o1
  clear hR o1
  go_wp2_with (with_reducible refine wpList_append_sl (o := ⟨some 37, _, _, _, _, _⟩) _ rfl (.tmp 35) (.tmp 36) _ rfl w1.heap.size 29 i0 _ 1 8 Try.underlying22 hi0 hz0 hz1 hz2 rfl (by decide) (.slice (some ⟨w1.heap.size, 0, none⟩) 0 0) 0 [] rfl ?c1 w.heap.size (.slice A l.length ca) l.length (u64s l) rfl ?c6 (u64s_one l) ?c2 ?c3 ?c4 ?c5)
  case c1 => exact lit_own w1 _ _
  case c6 => exact (HA.out.below O1.out.whole).below ((Below.refl _ _).alloc O1.out.size _)
  case c2 => unfold maxLen; omega
  case c3 => omega
  case c4 => simp
  case c5 =>
    intro v2 w2 H1 o2 hv2
    have o3 := lit_only o2
    have hown : w2.ownsRow w1.heap.size 29 1 v2 l.length (u64s l) := by simpa using H1.out
    have hgb := H0.out.head.lt
    have hgg := H0.out.row.lt
    have HR := Lib.hid (show Round w b g l.length l v2 w2 from ⟨rfl, H0.out.keep o3 id id, own_more hown (fun k hk => Nat.le_trans O1.out.size (own_lt hown hk).1), fun e => by have := own_lt hown e; omega, fun e => by have := own_lt hown e; omega, O1.out.trans o3⟩)
    clear H1 o2 o3 hv2 hown H0 O1 hw
    have hb' : w.heap.size ≤ b := hb
    have hg' : w.heap.size ≤ g := hg
    go_wp2_with fail
    go_loopw [7, 8] (fun u i wr => ∃ (k : Nat) (lc : List Nat), k ≤ n ∧ i = .int .i64 k ∧ Round w b g l.length lc u wr) (fun _ i _ => n - (intOf i).toNat)
    case atStart => exact ⟨0, l, Nat.zero_le _, rfl, HR.out⟩
    case round =>
      obtain ⟨k, lc, hk, rfl, hr⟩ := hrel
      have HR2 := Lib.hid hr
      obtain ⟨hlen, hA, hown, hne1, hne2, hO⟩ := hr
      clear HR
      by_cases hlt : k < n
      · obtain ⟨kd, a, f, m, x, hdd, ha, hf, hx⟩ := HDX.out k hlt
        obtain ⟨q, o, c, e1, -, -, -, hc⟩ := (HD.out.below hO.whole).at_ (by omega)
        obtain ⟨rfl, rfl⟩ : D = some ⟨q, o, none⟩ ∧ cd = c := by simpa using e1
        have d0 := hc _ _ hdd.1
        have d1 := hc _ _ hdd.2.1
        have d2 := hc _ _ hdd.2.2.1
        have d3 := hc _ _ hdd.2.2.2.1
        have d4 := hc _ _ hdd.2.2.2.2
        rw [← Nat.add_assoc] at d1 d2 d3 d4
        have HOWN := Lib.hid hown
        have HAR := Lib.hid hA
        have HO := Lib.hid hO
        have HL := Lib.hid hlen
        have HN1 := Lib.hid hne1
        have HN2 := Lib.hid hne2
        clear hc e1 hdd hown hA hO hlen hne1 hne2
        have o1 : Only nob wr (wr.alloc (.cells #[.int .i64 kd, .int .i64 a, .int .i64 f, .int .i64 m, .int .u64 (x : Nat)] 31)) := (Only.refl nob wr).alloc _
        obtain ⟨wa, hwa⟩ : ∃ wa, wa = wr.alloc (.cells #[.int .i64 kd, .int .i64 a, .int .i64 f, .int .i64 m, .int .u64 (x : Nat)] 31) := ⟨_, rfl⟩
        have hBD : Blk wa wr.heap.size 31 #[.int .i64 kd, .int .i64 a, .int .i64 f, .int .i64 m, .int .u64 (x : Nat)] := by rw [hwa]; exact Blk.new _ _ _
        rw [← hwa] at o1
        have HBD := Lib.hid hBD
        have HO1 := Lib.hid o1
        have HWA := Lib.hid hwa
        have HA1 := Lib.hid (HAR.out.keep o1 id id)
        have HW1 := Lib.hid (own_only HOWN.out o1 fun _ _ => id)
        have c0 := hBD.cell 0
        have c1 := hBD.cell 1
        have c2 := hBD.cell 2
        have c3 := hBD.cell 3
        have c4 := hBD.cell 4
        simp at c0 c1 c2 c3 c4
        have hg2 := HAR.out.row.lt
        have hb2 := HAR.out.head.lt
        obtain ⟨A2, ct, rfl, hct, hcm⟩ := own_len HOWN.out
        have hl2 : lc.length ≤ 200 := by have := HL.out; omega
        unfold maxLen at hcm
        clear hBD o1 hwa
        go_upto_block 2 with fail
        rw [← HWA.out]
        go_cut [7, 10, 11] (fun s7 s10 s11 wx => ∃ (lx : List Nat) (e : Int), s10 = .int .i64 e ∧ s11 = .int .i64 e ∧ Round w b g l.length lx s7 wx)
        case first =>
          clear d0 d1 d2 d3 d4
          by_cases k0 : kd = 0
          · subst k0
            by_cases hin : 0 ≤ a ∧ a < lc.length
            · obtain ⟨an, rfl⟩ : ∃ an : Nat, a = an := ⟨a.toNat, by omega⟩
              have hin' : an < lc.length := by omega
              obtain ⟨gk, cc, e2, -, -, -⟩ := own_form HW1.out (by omega)
              obtain ⟨rfl, rfl⟩ : A2 = some ⟨gk, 0, none⟩ ∧ ct = cc := by simpa using e2
              have g1 : wa.cell? ⟨gk, an, none⟩ = some (.int .u64 (wd lc an : Nat)) := by rw [HW1.out.cellAt an (by omega)]; exact u64s_wd lc an hin'
              clear e2
              go_wp2_with (go_at_call 8; refine (read_ar b g lc an _ HA1.out hin').mono ?_; rintro e w' ⟨rfl, rfl⟩)
              go_meet
              exact ⟨lc, 0, rfl, rfl, HR2.out.only HO1.out⟩
            · have hna : ¬ (0 ≤ a ∧ a < lc.length) := hin
              by_cases hneg : 0 ≤ a
              · go_wp2_with (go_at_call 8; refine (read_ar_no b g lc a _ HA1.out ha hna).mono ?_; rintro e w' ⟨rfl, rfl⟩)
                go_meet
                exact ⟨lc, 0, rfl, rfl, HR2.out.only HO1.out⟩
              · go_wp2_with (go_at_call 8; refine (read_ar_no b g lc a _ HA1.out ha hna).mono ?_; rintro e w' ⟨rfl, rfl⟩)
                go_meet
                exact ⟨lc, 0, rfl, rfl, HR2.out.only HO1.out⟩
          · have k0' : (kd == 0) = false := by simpa using k0
            by_cases k1 : kd = 1
            · subst k1
              clear k0 k0'
              by_cases hin : 0 ≤ a ∧ a < lc.length
              · obtain ⟨an, rfl⟩ : ∃ an : Nat, a = an := ⟨a.toNat, by omega⟩
                have hin' : an < lc.length := by omega
                obtain ⟨gk, cc, e2, -, -, -⟩ := own_form HW1.out (by omega)
                obtain ⟨rfl, rfl⟩ : A2 = some ⟨gk, 0, none⟩ ∧ ct = cc := by simpa using e2
                clear e2
                go_wp2_with fail
                go_at_call 9
                refine (write_ar b g lc an x _ HA1.out hin' hx).mono ?_
                rintro e w3 ⟨rfl, hA3, o3⟩
                have HA3 := Lib.hid hA3
                have HO3 := Lib.hid o3
                have hW3 := own_only HW1.out o3 fun k hk e => HN1.out (by unfold isb at e; rw [← e]; exact hk)
                have g1 : w3.cell? ⟨gk, an, none⟩ = some (.int .u64 (wd lc an : Nat)) := by rw [hW3.cellAt an (by omega)]; exact u64s_wd lc an hin'
                have g2 := hW3.frozenAt an
                have hB3 := HBD.out.keep o3 (fun e => by unfold isb at e; omega)
                have q1 := hB3.cell 1
                have q4 := hB3.cell 4
                simp at q1 q4
                clear hW3 hB3 hA3 o3 c0 c1 c2 c3 c4
                go_wp2
                go_meet
                exact ⟨lc.set an x, 0, rfl, rfl, HR2.out.both hg' HO1.out HO3.out HA3.out⟩
              · by_cases hneg : a < 0
                · go_wp2_with (go_at_call 9; refine (write_ar_no b g lc a x _ HA1.out ha hin).mono ?_; rintro e w' ⟨rfl, rfl⟩)
                  go_meet
                  exact ⟨lc, 2, rfl, rfl, HR2.out.only HO1.out⟩
                · go_wp2_with (go_at_call 9; refine (write_ar_no b g lc a x _ HA1.out ha hin).mono ?_; rintro e w' ⟨rfl, rfl⟩)
                  go_meet
                  exact ⟨lc, 2, rfl, rfl, HR2.out.only HO1.out⟩
            · have k1' : (kd == 1) = false := by simpa using k1
              by_cases k2 : kd = 2
              · subst k2
                clear k0 k0' k1 k1'
                by_cases hin : Fits lc.length a m ∧ Fits lc.length f m
                · obtain ⟨an, rfl⟩ : ∃ an : Nat, a = an := ⟨a.toNat, by unfold Fits at hin; omega⟩
                  obtain ⟨fn, rfl⟩ : ∃ fn : Nat, f = fn := ⟨f.toNat, by unfold Fits at hin; omega⟩
                  obtain ⟨mn, rfl⟩ : ∃ mn : Nat, m = mn := ⟨m.toNat, by unfold Fits at hin; omega⟩
                  have hi1 : an + mn ≤ lc.length := by unfold Fits at hin; omega
                  have hi2 : fn + mn ≤ lc.length := by unfold Fits at hin; omega
                  clear hin
                  go_wp2_with fail
                  go_at_call 10
                  refine (move_ar b g lc an fn mn _ HA1.out hi1 hi2).mono ?_
                  rintro e w3 ⟨rfl, hA3, o3⟩
                  have HA3 := Lib.hid hA3
                  have HO3 := Lib.hid o3
                  have HS3 := Lib.hid (let h := own_only HW1.out o3 fun k hk e => HN1.out (by unfold isb at e; rw [← e]; exact hk); Sl.of_own h h.1)
                  have hB3 := HBD.out.keep o3 (fun e => by unfold isb at e; omega)
                  have q1 := hB3.cell 1
                  have q2 := hB3.cell 2
                  have q3 := hB3.cell 3
                  simp at q1 q2 q3
                  clear hB3 hA3 o3 c0 c1 c2 c3 c4
                  go_wp2_with fail
                  go_at_call 11
                  refine (refMove_any _ lc an fn mn _ HS3.out (by omega) hi1 hi2).mono ?_
                  rintro e w4 ⟨v4, rfl, hv4, o4⟩
                  have HL4 := Lib.hid (moved_len lc an fn mn hi1 hi2)
                  have HV4 := Lib.hid hv4
                  have HO4 := Lib.hid o4
                  clear hv4 o4
                  go_wp2
                  go_meet
                  exact ⟨moved lc an fn mn, 0, rfl, rfl, HR2.out.anew hg' HO1.out HO3.out HA3.out HL4.out (by rw [HL4.out]; exact HV4.out) HO4.out⟩
                · go_wp2_with fail
                  go_at_call 10
                  refine (move_ar_no b g lc a f m _ HA1.out ha hf hin).mono ?_
                  rintro e w' ⟨rfl, rfl⟩
                  go_wp2_with fail
                  go_at_call 11
                  refine (refMove_no _ lc.length _ a f m _ (by omega) hin).mono ?_
                  rintro e w' ⟨rfl, rfl⟩
                  go_wp2
                  go_meet
                  exact ⟨lc, _, rfl, rfl, HR2.out.only HO1.out⟩
              · have k2' : (kd == 2) = false := by simpa using k2
                clear k0 k1 k2
                by_cases hin : Fits lc.length a m
                · obtain ⟨an, rfl⟩ : ∃ an : Nat, a = an := ⟨a.toNat, by unfold Fits at hin; omega⟩
                  obtain ⟨mn, rfl⟩ : ∃ mn : Nat, m = mn := ⟨m.toNat, by unfold Fits at hin; omega⟩
                  have hi1 : an + mn ≤ lc.length := by unfold Fits at hin; omega
                  clear hin
                  go_wp2_with fail
                  go_at_call 12
                  refine (fill_ar b g lc an mn x _ HA1.out hi1 hx).mono ?_
                  rintro e w3 ⟨rfl, hA3, o3⟩
                  have HA3 := Lib.hid hA3
                  have HO3 := Lib.hid o3
                  have HS3 := Lib.hid (let h := own_only HW1.out o3 fun k hk e => HN1.out (by unfold isb at e; rw [← e]; exact hk); Sl.of_own h h.1)
                  have hB3 := HBD.out.keep o3 (fun e => by unfold isb at e; omega)
                  have q1 := hB3.cell 1
                  have q3 := hB3.cell 3
                  have q4 := hB3.cell 4
                  simp at q1 q3 q4
                  clear hB3 hA3 o3 c0 c1 c2 c3 c4
                  go_wp2_with fail
                  go_at_call 13
                  refine (refFill_any _ lc an mn x _ HS3.out (by omega) hi1).mono ?_
                  rintro e w4 ⟨v4, rfl, hv4, o4⟩
                  have HL4 := Lib.hid (filled_len lc an mn x hi1)
                  have HV4 := Lib.hid hv4
                  have HO4 := Lib.hid o4
                  clear hv4 o4
                  go_wp2
                  go_meet
                  exact ⟨filled lc an mn x, 0, rfl, rfl, HR2.out.anew hg' HO1.out HO3.out HA3.out HL4.out (by rw [HL4.out]; exact HV4.out) HO4.out⟩
                · go_wp2_with fail
                  go_at_call 12
                  refine (fill_ar_no b g lc a m x _ HA1.out ha hin).mono ?_
                  rintro e w' ⟨rfl, rfl⟩
                  go_wp2_with fail
                  go_at_call 13
                  refine (refFill_no _ lc.length _ a m x _ (by omega) hin).mono ?_
                  rintro e w' ⟨rfl, rfl⟩
                  go_wp2
                  go_meet
                  exact ⟨lc, _, rfl, rfl, HR2.out.only HO1.out⟩
        case rest =>
          obtain ⟨lx, e, rfl, rfl, hr⟩ := hcut
          have HRX := Lib.hid hr
          obtain ⟨A3, cx, rfl, hcx, hmx⟩ := own_len hr.2.2.1
          have HLX := Lib.hid hr.1
          have hlx : lx.length ≤ 200 := by have := hr.1; omega
          have HAX := Lib.hid hr.2.1
          unfold maxLen at hmx
          clear hr
          go_wp2_with fail
          go_at_call 15
          refine (words_ar b g lx _ HAX.out).mono ?_
          rintro e w4 ⟨g', rfl, -, hB, o4⟩
          have HR4 := Lib.hid (HRX.out.only o4)
          have HST := Lib.hid (Sl.of_blk (size := 1) (n := lx.length) (c := lx.length) hB (by simp [u64s_len]) (Nat.le_refl _) (by unfold maxLen; omega))
          clear hB o4
          go_wp2_with fail
          go_at_call 14
          refine (same_any _ _ lx _ _ _ HST.out HR4.out.sl).mono ?_
          rintro e w5 ⟨rfl, mq, rfl⟩
          have HR5 := Lib.hid (HR4.out.only ((Only.refl nob w4).drewN mq))
          go_wp2_with fail
          go_at_call 16
          refine (len_ar b g lx _ HR5.out.2.1).mono ?_
          rintro e w6 ⟨rfl, rfl⟩
          go_wp2
          go_roundw
          case rel => exact ⟨k + 1, lx, by omega, by go_num, HR5.out⟩
          case measure => simp [intOf]; omega
      · obtain rfl : k = n := by omega
        have HX := Lib.hid hO
        clear hO hlen hA hown hne1 hne2
        go_wp2_with fail
        go_at_call 6
        refine (awake_any _).mono ?_
        rintro e w6 ⟨rfl, ho⟩
        have HO2 := Lib.hid (HX.out.trans ho)
        clear ho
        go_wp2
        go_ret
        exact ⟨rfl, HO2.out.whole⟩
end Go.Proofs.Ytdaopgcfddlimaa
