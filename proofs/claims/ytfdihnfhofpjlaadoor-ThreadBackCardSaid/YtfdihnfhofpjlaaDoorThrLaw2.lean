/- The walk of ThreadBack. -/
import Derived.Test.YtfdihnfhofpjlaaDoorThrLaw1
namespace Go.Proofs.YtfdihnfhofpjlaaDoor
open Go.RowKit
set_option maxRecDepth 100000

theorem one_span12 (w : World) (x : Sp) : Sl (w.alloc (.cells #[.int .i64 x.1, .int .i64 x.2] 33)) (w.heap.size + 1) 2 (.slice (some ⟨w.heap.size, 0, none⟩) 1 1) 1 (spc [x]) := by
  have := Sl.of_blk (size := 2) (n := 1) (c := 1) (Blk.new w 33 #[.int .i64 x.1, .int .i64 x.2]) (by simp) (Nat.le_refl _) (by decide)
  simpa [spc] using this
/-- What holds while objects are laid: words lw, table T, up to at. -/
structure Lay12 (w : World) (b g B : Nat) (T : List Sp) (at_ : Nat) (lw : List Nat) (v : Value) (wr : World) : Prop where
  ar : Ar wr b g lw
  own : wr.ownsRow B 33 2 v T.length (spc T)
  row : Row12 lw T at_
  only : Only nob w wr
  base : B ≤ wr.heap.size
/-- An object was put, and laid behind the others. -/
theorem Lay12.more {w wr wt wz : World} {b g B a : Nat} {T : List Sp} {lw lw' : List Nat} {v v' : Value} {x : Sp} {o : Obj} (h : Lay12 w b g B T a lw v wr) (hw : w.heap.size ≤ g) (hb : b < B) (hg : g < B)
    (hA : Ar wt b g lw') (hO : Only (isb g) wr wt) (hR : Row12 lw' (T ++ [x]) (a + x.2.toNat)) (hown : wz.ownsRow B 33 2 v' (T.length + 1) (spc T ++ spc [x])) (ho2 : Only (fun k => v.ownBlock = some k) (wt.alloc o) wz) : Lay12 w b g B (T ++ [x]) (a + x.2.toNat) lw' v' wz := by
  have hs : ∀ k, v.ownBlock = some k → B ≤ k := fun k hk => (own_lt h.own hk).1
  have o3 : Only (fun k => v.ownBlock = some k) wt wz := ((Only.refl _ _).alloc o).trans ho2
  refine ⟨hA.keep o3 (fun e => by have := hs _ e; omega) (fun e => by have := hs _ e; omega), ?_, hR, ?_, ?_⟩
  · rw [spc_append]; simpa using hown
  · exact (h.only.andThen hO fun i hi e => by unfold isb at e; omega).andThen o3 fun i hi e => by have := hs i e; omega
  · exact Nat.le_trans h.base (Nat.le_trans hO.size o3.size)

theorem w12_pred {n : Int} (h : 1 ≤ n ∧ n ≤ 10) : wrap64 (n - 1) = n - 1 := wrap64_id _ (by omega) (by omega)
theorem w12_add (p : Nat) {n : Int} (h : 1 ≤ n ∧ n ≤ 10) (hp : p ≤ 1000) : wrap64 ((p : Int) + n) = ((p + n.toNat : Nat) : Int) := (wrap64_id _ (by omega) (by omega)).trans (by omega)
theorem w12_succ (p : Nat) (hp : p ≤ 1000) : wrap64 ((p : Int) + 1) = ((p + 1 : Nat) : Int) := (wrap64_id _ (by omega) (by omega)).trans (by omega)
theorem w12_down (p : Nat) (hp : p ≤ 1000) : wrap64 ((p : Int) - 1) = (p : Int) - 1 := wrap64_id _ (by omega) (by omega)
theorem vint {a b : Int} (h : a = b) : Value.int .i64 a = Value.int .i64 b := by rw [h]
theorem meas12 {n k : Nat} (h : k < n) (z : Int) (hz : z = ((k + 1 : Nat) : Int)) : n - (intOf (.int .i64 z)).toNat < n - (intOf (.int .i64 (k : Int))).toNat := by
  rw [show intOf (.int .i64 z) = z from rfl, show intOf (.int .i64 (k : Int)) = k from rfl]
  omega

/-- Which places are on the list. -/
def flags (n : Nat) (rs : List Nat) : Array Value := ((List.range n).map fun j => Value.bool (decide (j ∈ rs))).toArray
theorem flags_size (n : Nat) (rs : List Nat) : (flags n rs).size = n := by simp [flags]
theorem flags_at {n : Nat} {rs : List Nat} {k : Nat} (h : k < n) : (flags n rs)[k]? = some (.bool (decide (k ∈ rs))) := by simp [flags, h]
theorem flags_put {n : Nat} {rs : List Nat} {k : Nat} : (flags n rs).setIfInBounds k (.bool true) = flags n (k :: rs) := by
  apply Array.ext'
  simp only [flags, Array.toList_setIfInBounds]
  apply List.ext_getElem?
  intro j
  rw [List.getElem?_set]
  by_cases e : k = j
  · subst e
    by_cases hj : k < n
    · simp [hj]
    · simp [hj]
  · rw [if_neg e]
    by_cases hj : j < n
    · simp [hj, Ne.symm e]
    · simp [hj]
theorem info_bool : (Tryd.prog.info? 4).map (fun i => (i.zero, i.size, i.bytes)) = some (some (.bool false), 1, 1) := by kernel_rfl
/-- make([]bool, n). -/
theorem make_bool (n : Nat) (hn : n ≤ 1000000) (w : World) : (Instr.makeSlice 36 (.int .i64 (n : Int)) (.int .i64 (n : Int))).run Tryd.prog w = .ok (.slice (some ⟨w.heap.size, 0, none⟩) n n) (w.alloc (.cells (flags n []) 4)) := by
  obtain ⟨i0, hi0, hz0, hz1, hz2⟩ := info_parts info_bool
  have h := run_make (P := Tryd.prog) w 36 4 i0 _ Tryd.underlying36 hi0 hz0 .i64 .i64 n n (by omega) (Int.le_refl _) (by rw [hz2]; omega) (by omega)
  rw [h]
  simp only [Int.toNat_natCast, hz1, Nat.mul_one]
  have e : madeCells (Value.bool false).cells n = flags n [] := by
    apply Array.ext'
    show (madeCells #[.bool false] n).toList = _
    rw [toList_madeCells_one]
    apply List.ext_getElem?
    intro j
    simp [flags, List.getElem?_replicate]
    split <;> simp_all
  rw [e]

/-- What holds while objects are pushed and popped: the words with rw on the list, the places ru that were used, and those rp that were laid down. -/
structure Stk12 (w : World) (b g B n : Nat) (T : List Sp) (lw : List Nat) (vt : Value) (g2 bu B3 : Nat) (rw ru rp : List Nat) (vp : Value) (wr : World) : Prop where
  ar : Ar wr b g (wordsS lw (plcT T) rw)
  own : wr.ownsRow B 33 2 vt T.length (spc T)
  was : Blk wr g2 47 (u64s lw).toArray
  used : Blk wr bu 4 (flags n ru)
  put : wr.ownsRow B3 3 1 vp rp.length (i64s (natI rp.reverse))
  only : Only nob w wr
  base : B3 ≤ wr.heap.size
/-- Where the blocks lie. -/
structure Ord12 (w : World) (b g B : Nat) (vt : Value) (g2 bu B3 : Nat) : Prop where
  wg : w.heap.size ≤ g
  gB : g < B
  bB : b < B
  bg : b ≠ g
  vt : ∀ k, vt.ownBlock = some k → B ≤ k ∧ k < g2
  Bg : B ≤ g2
  gu : g2 < bu
  uB : bu < B3
section
variable {w wr wz : World} {b g B n g2 bu B3 : Nat} {T : List Sp} {lw : List Nat} {vt vp vp' : Value} {rw ru rp : List Nat}
theorem Stk12.mark (h : Stk12 w b g B n T lw vt g2 bu B3 rw ru rp vp wr) (D : Ord12 w b g B vt g2 bu B3) (k : Nat) : Stk12 w b g B n T lw vt g2 bu B3 rw (k :: ru) rp vp (wr.setCell ⟨bu, k, none⟩ (.bool true)) := by
  obtain ⟨d1, d2, d3, d4, d5, d6, d7, d8⟩ := D
  have o := only_set wr bu k (.bool true)
  refine ⟨h.ar.keep o (fun e => by unfold isb at e; omega) (fun e => by unfold isb at e; omega), own_only h.own o (fun j hj e => by have := d5 j hj; unfold isb at e; omega), h.was.keep o (fun e => by unfold isb at e; omega), ?_, own_only h.put o (fun j hj e => by have := (own_lt h.put hj).1; unfold isb at e; omega), h.only.andThen o (fun i hi e => by unfold isb at e; omega), Nat.le_trans h.base o.size⟩
  have := h.used.put k (.bool true)
  rwa [flags_put] at this
theorem Stk12.lay (h : Stk12 w b g B n T lw vt g2 bu B3 rw ru rp vp wr) (D : Ord12 w b g B vt g2 bu B3) (k : Nat) {o : Obj} (hown : wz.ownsRow B3 3 1 vp' (rp.length + 1) (i64s (natI rp.reverse) ++ i64s [(k : Int)])) (ho2 : Only (fun k => vp.ownBlock = some k) (wr.alloc o) wz) : Stk12 w b g B n T lw vt g2 bu B3 rw ru (k :: rp) vp' wz := by
  obtain ⟨d1, d2, d3, d4, d5, d6, d7, d8⟩ := D
  have hs : ∀ k, vp.ownBlock = some k → B3 ≤ k := fun k hk => (own_lt h.put hk).1
  have o3 : Only (fun k => vp.ownBlock = some k) wr wz := ((Only.refl _ _).alloc o).trans ho2
  refine ⟨h.ar.keep o3 (fun e => by have := hs _ e; omega) (fun e => by have := hs _ e; omega), own_only h.own o3 (fun j hj e => by have := d5 j hj; have := hs _ e; omega), h.was.keep o3 (fun e => by have := hs _ e; omega), h.used.keep o3 (fun e => by have := hs _ e; omega), ?_, h.only.andThen o3 (fun i hi e => by have := hs _ e; omega), Nat.le_trans h.base o3.size⟩
  rw [List.reverse_cons, natI_snoc, i64s_append]
  exact hown
theorem Stk12.turn (h : Stk12 w b g B n T lw vt g2 bu B3 rw ru rp vp wr) (D : Ord12 w b g B vt g2 bu B3) {rs : List Nat} (hA : Ar wz b g (wordsS lw (plcT T) rs)) (o : Only (isb g) wr wz) : Stk12 w b g B n T lw vt g2 bu B3 rs ru rp vp wz := by
  obtain ⟨d1, d2, d3, d4, d5, d6, d7, d8⟩ := D
  exact ⟨hA, own_only h.own o (fun j hj e => by have := d5 j hj; unfold isb at e; omega), h.was.keep o (fun e => by unfold isb at e; omega), h.used.keep o (fun e => by unfold isb at e; omega), own_only h.put o (fun j hj e => by have := (own_lt h.put hj).1; unfold isb at e; omega), h.only.andThen o (fun i hi e => by unfold isb at e; omega), Nat.le_trans h.base o.size⟩
end
theorem one_int12 (w : World) (x : Int) : Sl (w.alloc (.cells #[.int .i64 x] 3)) (w.heap.size + 1) 1 (.slice (some ⟨w.heap.size, 0, none⟩) 1 1) 1 (i64s [x]) := by
  have := Sl.of_blk (size := 1) (n := 1) (c := 1) (Blk.new w 3 #[.int .i64 x]) (by simp) (Nat.le_refl _) (by decide)
  simpa [i64s] using this

set_option maxHeartbeats 4000000 in
theorem threadBack_small (v0 v1 : Value) (zs os : List Int) (w : World) (ht : Par w) (hg0 : 0 < w.heap.size) (h0 : Sl w w.heap.size 1 v0 zs.length (i64s zs)) (h1 : Sl w w.heap.size 1 v1 os.length (i64s os)) (hz : zs.length ≤ 30) (ho : os.length ≤ 30) :
    Calls Tryd.prog 3 #[v0, v1] w fun e w' => e = .returned (.bool true) ∧ Below w.heap.size w w' := by
  obtain ⟨i0, hi0, hz0, hz1, hz2⟩ := info_parts info_span
  obtain ⟨j0, hj0, hy0, hy1, hy2⟩ := info_parts info_int
  have HTab := Lib.hid ht
  have HG0 := Lib.hid hg0
  have HS := Lib.hid h0
  have HO := Lib.hid h1
  obtain ⟨A, c, rfl, hac, ham, -⟩ := h0
  obtain ⟨A', c', rfl, hac', ham', -⟩ := h1
  unfold maxLen at ham ham'
  clear ht hg0
  go_enter Tryd.func3, Tryd.ntmps3
  go_wp2_with fail
  go_at_call 5
  refine (new_any 400 _ (by decide)).mono ?_
  rintro e w1 ⟨b, g, rfl, hb, hg, hA, o⟩
  have O1 := Lib.hid o
  have HG := Lib.hid (show w.heap.size ≤ g ∧ g < w1.heap.size ∧ b < w1.heap.size ∧ w.heap.size ≤ w1.heap.size from ⟨hg, hA.row.lt, hA.head.lt, o.size⟩)
  have H0 := Lib.hid (show Lay12 w b g w1.heap.size [] 0 (List.replicate 400 0) (.slice none 0 0) w1 from ⟨hA, World.ownsRow_nil _ _ _ _, row12_nil, o, Nat.le_refl _⟩)
  clear o hA hb hg
  go_wp2_with fail
  go_loopw [7, 8, 9] (fun s a i wr => ∃ (T : List Sp) (p : Nat) (lw : List Nat), T.length ≤ zs.length ∧ a = .int .i64 p ∧ i = .int .i64 T.length ∧ Hid (Lay12 w b g w1.heap.size T p lw s wr)) (fun _ _ i _ => zs.length - (intOf i).toNat)
  case atStart => exact ⟨[], 0, _, Nat.zero_le _, rfl, rfl, H0⟩
  case round =>
    clear H0
    obtain ⟨T, p, lw, hk, rfl, rfl, HL⟩ := hrel
    obtain ⟨A2, cx, rfl, hcx, hmx⟩ := own_len HL.out.own
    unfold maxLen at hmx
    by_cases hlt : T.length < zs.length
    · obtain ⟨z, hz⟩ : ∃ z, zs[T.length]? = some z := ⟨_, List.getElem?_eq_getElem hlt⟩
      obtain ⟨q, oo, rfl, hq, d0⟩ := sl_int HS.out HL.out.only.whole hz
      have HP := Lib.hid (HTab.out.old HL.out.only)
      clear hz
      go_upto_region 10 with fail
      generalize hn : min (max z 1) 10 = n
      have hn1 : 1 ≤ n ∧ n ≤ 10 := by omega
      clear hn
      obtain ⟨r1, r2⟩ := row12_put HL.out.row (by omega) hn1
      have R1 := Lib.hid r1
      have R2 := Lib.hid r2
      clear r1 r2
      have e1 := w12_pred hn1
      have hp := HL.out.row.few
      have hp2 : p ≤ 1000 := by omega
      have hT2 : T.length ≤ 1000 := by omega
      go_wp2_with fail
      go_at_call 6
      refine (oPut_any b g lw p T.length 0 (n - 1) false 0 _ HL.out.ar HP.out (by omega)).mono ?_
      rw [R1.out]
      rintro e w3 ⟨rfl, hA, o⟩
      have A3 := Lib.hid hA
      have O3 := Lib.hid o
      have HOW := Lib.hid (own_only HL.out.own o fun j hj e => by have := (own_lt HL.out.own hj).1; have := HG.out; unfold isb at e; omega)
      have HB3 := Lib.hid (Nat.le_trans HL.out.base o.size)
      clear hA o d0
      go_wp2_with (with_reducible refine wpList_append_sl (o := ⟨some 61, _, _, _, _, _⟩) _ rfl (.tmp 56) (.tmp 60) _ rfl w1.heap.size 33 i0 _ 2 16 Tryd.underlying28 hi0 hz0 hz1 hz2 rfl (by decide) (.slice A2 T.length cx) T.length (spc T) rfl ?c1 (w3.heap.size + 1) (.slice (some ⟨w3.heap.size, 0, none⟩) 1 1) 1 (spc [((p : Int), n)]) rfl ?c6 (spc_one _) ?c2 ?c3 ?c4 ?c5)
      case c1 => exact own_only HOW.out ((Only.refl nob w3).alloc _) (fun _ _ h => h)
      case c6 => exact one_span12 w3 ((p : Int), n)
      case c2 => have := maxLen_big; omega
      case c3 => omega
      case c4 => have := HB3.out; simp; omega
      case c5 =>
        intro v6 w6 H6 o6 _
        have HL6 := Lib.hid (HL.out.more (x := ((p : Int), n)) HG.out.1 HG.out.2.2.1 HG.out.2.1 A3.out O3.out R2.out H6.out o6)
        have hl6 : (T ++ [((p : Int), n)]).length = T.length + 1 := by simp
        have hle : (T ++ [((p : Int), n)]).length ≤ zs.length := by omega
        clear H6 o6
        go_wp2
        go_roundw
        case rel => exact ⟨T ++ [((p : Int), n)], p + n.toNat, _, hle, vint (by omega), vint (by rw [hl6]; rfl), HL6⟩
        case measure => exact meas12 hlt _ rfl
    · have hTz : T.length = zs.length := by omega
      have HTZ := Lib.hid hTz
      have hll := HL.out.row.len
      have HAP := Lib.hid (row12_apart HL.out.row)
      have HRW := Lib.hid HL.out.row
      clear hTz
      go_wp2_with fail
      go_at_call 7
      refine (words_ar b g lw _ HL.out.ar).mono ?_
      rintro e w2 ⟨g2, rfl, hg2, hB2, o2⟩
      obtain ⟨Wm, hWm, HM⟩ : ∃ Wm, w2.alloc (.cells (flags zs.length []) 4) = Wm ∧ Hid (Only nob w2 Wm ∧ Blk Wm w2.heap.size 4 (flags zs.length [])) := ⟨_, rfl, Lib.hid ⟨(Only.refl nob w2).alloc _, Blk.new _ _ _⟩⟩
      have HWm := Lib.hid hWm
      have hmk := make_bool zs.length (by omega) w2
      obtain ⟨bu, hbu⟩ : ∃ bu, bu = w2.heap.size := ⟨_, rfl⟩
      have hM := HM.out
      rw [← hbu] at hM hmk
      have o3 := o2.trans hM.1
      have HD := Lib.hid (show Ord12 w b g w1.heap.size (.slice A2 T.length cx) g2 bu Wm.heap.size from
        ⟨HG.out.1, HG.out.2.1, HG.out.2.2.1, HL.out.ar.ne, fun k hk => ⟨(own_lt HL.out.own hk).1, Nat.lt_of_lt_of_le (own_lt HL.out.own hk).2 hg2⟩, Nat.le_trans HL.out.base hg2, hbu ▸ hB2.lt, hM.2.lt⟩)
      have H0 := Lib.hid (show Stk12 w b g w1.heap.size zs.length T lw (.slice A2 T.length cx) g2 bu Wm.heap.size [] [] [] (.slice none 0 0) Wm from
        ⟨HL.out.ar.keep o3 id id, own_only HL.out.own o3 fun _ _ => id, hB2.keep hM.1 id, hM.2, World.ownsRow_nil _ _ _ _, HL.out.only.trans o3, Nat.le_refl _⟩)
      clear hg2 hB2 o2 hM o3 HM hbu
      go_wp2_with fail
      clear hmk hWm HWm
      go_loopw [12, 13, 15] (fun t s i wr => ∃ (k : Nat) (rs : List Nat), k ≤ os.length ∧ t = .int .i64 (topS rs) ∧ i = .int .i64 k ∧ Hid ((∀ j ∈ rs, j < zs.length) ∧ rs.Nodup ∧ rs.length ≤ k) ∧ Hid (Stk12 w b g w1.heap.size zs.length T lw (.slice A2 T.length cx) g2 bu Wm.heap.size rs rs rs s wr)) (fun _ _ i _ => os.length - (intOf i).toNat)
      case atStart => exact ⟨0, [], Nat.zero_le _, rfl, rfl, Lib.hid ⟨by simp, List.nodup_nil, Nat.le_refl _⟩, H0⟩
      case round =>
        clear H0
        obtain ⟨k, rs, hk, rfl, rfl, HN, HL2⟩ := hrel
        obtain ⟨A3, cy, rfl, hcy, hmy⟩ := own_len HL2.out.put
        unfold maxLen at hmy
        by_cases hlt2 : k < os.length
        · obtain ⟨z, hz⟩ : ∃ z, os[k]? = some z := ⟨_, List.getElem?_eq_getElem hlt2⟩
          obtain ⟨q, oo, rfl, hq, d0⟩ := sl_int HO.out HL2.out.only.whole hz
          clear hz
          by_cases hz0' : z < 0
          · go_wp2
            go_roundw
            case rel => exact ⟨k + 1, rs, by omega, rfl, by go_num, Lib.hid ⟨HN.out.1, HN.out.2.1, by have := HN.out.2.2; omega⟩, HL2⟩
            case measure => simp [intOf]; omega
          · obtain ⟨j, rfl⟩ := Int.eq_ofNat_of_zero_le (by omega : 0 ≤ z)
            by_cases hz1' : j < zs.length
            · have hJ := flags_at (rs := rs) hz1'
              by_cases hin : j ∈ rs
              · have u0 := HL2.out.used.cell j
                rw [hJ, decide_eq_true hin] at u0
                clear hin hJ
                go_wp2
                go_roundw
                case rel => exact ⟨k + 1, rs, by omega, rfl, by go_num, Lib.hid ⟨HN.out.1, HN.out.2.1, by have := HN.out.2.2; omega⟩, HL2⟩
                case measure => simp [intOf]; omega
              · have u0 := HL2.out.used.cell j
                rw [hJ, decide_eq_false hin] at u0
                have u1 := HL2.out.used.free j
                obtain ⟨x, hx, hxp⟩ := plcT_at HRW.out (k := j) (by have := HTZ.out; omega)
                have HX := Lib.hid (And.intro hx hxp)
                have HIN := Lib.hid hin
                have hTn : T.length ≤ 1000 := by have := HTZ.out; omega
                have HLT := Lib.hid (show ∀ i ∈ rs, i < T.length from fun i hi => by have := HN.out.1 i hi; have := HTZ.out; omega)
                have hrl := HN.out.2.2
                have HJT := Lib.hid (show j < T.length by have := HTZ.out; omega)
                obtain ⟨W5, hW5, H5⟩ : ∃ W5, wr.setCell ⟨bu, j, none⟩ (.bool true) = W5 ∧ Hid (Stk12 w b g w1.heap.size zs.length T lw (.slice A2 T.length cx) g2 bu Wm.heap.size rs (j :: rs) rs (.slice A3 rs.length cy) W5) := ⟨_, rfl, Lib.hid (HL2.out.mark HD.out j)⟩
                have HW5 := Lib.hid hW5
                clear hW5 hx hxp hin hJ
                go_upto_region 24 with fail
                rw [HW5.out]
                clear u0 u1 d0
                go_wp2_with (with_reducible refine wpList_append_sl (o := ⟨some 100, _, _, _, _, _⟩) _ rfl (.tmp 97) (.tmp 99) _ rfl Wm.heap.size 3 j0 _ 1 8 Tryd.underlying22 hj0 hy0 hy1 hy2 rfl (by decide) (.slice A3 rs.length cy) rs.length (i64s (natI rs.reverse)) rfl ?c1 (W5.heap.size + 1) (.slice (some ⟨W5.heap.size, 0, none⟩) 1 1) 1 (i64s [(j : Int)]) rfl ?c6 (i64s_one _) ?c2 ?c3 ?c4 ?c5)
                case c1 => exact own_only H5.out.put ((Only.refl nob W5).alloc _) (fun _ _ h => h)
                case c6 => exact one_int12 W5 j
                case c2 => have := maxLen_big; omega
                case c3 => omega
                case c4 => have := H5.out.base; simp; omega
                case c5 =>
                  intro v6 w6 H6' o6 _
                  have H6 := Lib.hid (H5.out.lay HD.out j H6'.out o6)
                  clear H6' o6
                  go_wp2_with fail
                  go_at_call 8
                  refine (push_ok b g (wordsS lw (plcT T) rs) _ T _ (topS rs) j (plcT T j) x _ H6.out.ar (HTab.out.old H6.out.only) (Sl.of_own H6.out.own H6.out.own.1) HX.out.1 HX.out.2 (wordsS_ob HAP.out hTn HLT.out j HJT.out) (topS_cur HLT.out hTn)).mono ?_
                  rintro e w7 ⟨rfl, hA, o⟩
                  have H7 := Lib.hid (H6.out.turn HD.out (rs := j :: rs) hA o)
                  clear hA o
                  go_wp2
                  go_roundw
                  case rel => exact ⟨k + 1, j :: rs, by omega, rfl, by go_num, Lib.hid ⟨fun i hi => by
                    rcases List.mem_cons.1 hi with rfl | hi
                    · exact hz1'
                    · exact HN.out.1 i hi, List.nodup_cons.2 ⟨HIN.out, HN.out.2.1⟩, by rw [List.length_cons]; omega⟩, H7⟩
                  case measure => simp [intOf]; omega
            · go_wp2
              go_roundw
              case rel => exact ⟨k + 1, rs, by omega, rfl, by go_num, Lib.hid ⟨HN.out.1, HN.out.2.1, by have := HN.out.2.2; omega⟩, HL2⟩
              case measure => simp [intOf]; omega
        · have hrl : rs.length ≤ 30 := by have := HN.out.2.2; omega
          have hTn : T.length ≤ 1000 := by have := HTZ.out; omega
          have HLT := Lib.hid (show ∀ i ∈ rs, i < T.length from fun i hi => by have := HN.out.1 i hi; have := HTZ.out; omega)
          have HND := Lib.hid HN.out.2.1
          go_wp2_with fail
          go_loopw [12, 19] (fun t i wx => ∃ (ps qs : List Nat), rs = ps ++ qs ∧ t = .int .i64 (topS qs) ∧ i = .int .i64 ((qs.length : Int) - 1) ∧ Hid (Stk12 w b g w1.heap.size zs.length T lw (.slice A2 T.length cx) g2 bu Wm.heap.size qs rs rs (.slice A3 rs.length cy) wx)) (fun _ i _ => (intOf i + 1).toNat)
          case atStart => exact ⟨[], rs, rfl, rfl, rfl, HL2⟩
          case round =>
            obtain ⟨ps, qs, hrs, rfl, rfl, HQ⟩ := hrel
            rcases qs with _ | ⟨j, qs⟩
            · clear hrs
              have S3 := Lib.hid (Sl.of_blk (size := 1) (n := 400) (c := 400) HQ.out.was (by simp [u64s, hll]) (Nat.le_refl _) (by decide))
              have HLL := Lib.hid hll
              have HA0 := Lib.hid (show Ar wr b g lw from HQ.out.ar)
              go_wp2_with fail
              go_at_call 7
              refine (words_ar b g lw _ HA0.out).mono ?_
              rintro e w8 ⟨g3, rfl, hg3, hB3, o8⟩
              have S8 := Lib.hid (Sl.of_blk (size := 1) (n := 400) (c := 400) hB3 (by simp [u64s, hll]) (Nat.le_refl _) (by decide))
              have S4 := Lib.hid (S3.out.only o8 (Nat.le_refl _) fun _ h => h.elim)
              have O8 := Lib.hid (HQ.out.only.trans o8)
              clear hg3 hB3 o8
              go_wp2_with fail
              go_at_call 10
              refine (same_any _ _ lw _ _ _ (by rw [HLL.out]; exact S8.out) (by rw [HLL.out]; exact S4.out)).mono ?_
              rintro e w9 ⟨rfl, m, rfl⟩
              have O9 := Lib.hid (O8.out.drewN m)
              go_wp2_with fail
              go_at_call 4
              refine (awake12_any _ (HTab.out.old O9.out) (Nat.lt_of_lt_of_le HG0.out O9.out.size)).mono ?_
              rintro e w10 ⟨rfl, o10⟩
              have O10 := Lib.hid (O9.out.trans o10)
              clear o10
              go_wp2
              go_ret
              exact ⟨rfl, O10.out.whole⟩
            · have HND2 := Lib.hid (show j ∉ qs from fun h => (List.nodup_cons.1 (List.nodup_append.1 (hrs ▸ HND.out)).2.1).1 h)
              have hin : ∀ i ∈ j :: qs, i < T.length := fun i hi => HLT.out i (by rw [hrs]; exact List.mem_append_right _ hi)
              obtain ⟨x, hx, hxp⟩ := plcT_at HRW.out (k := j) (hin j List.mem_cons_self)
              obtain ⟨p1, p2⟩ := wordsS_pop HAP.out hTn hin HND2.out
              have HP1 := Lib.hid p1
              have HP2 := Lib.hid p2
              have HOB := Lib.hid (wordsS_ob HAP.out hTn hin j (hin j List.mem_cons_self))
              have HX := Lib.hid (And.intro hx hxp)
              have hpj : (i64s (natI rs.reverse))[qs.length]? = some (.int .i64 (j : Int)) := by rw [hrs]; simp [i64s, natI]
              have HRS := Lib.hid hrs
              have hql : qs.length < rs.length := by rw [hrs]; simp; omega
              obtain ⟨b5, o5, c5, e5, -, -, hb5, hc5⟩ := (Sl.of_own HQ.out.put (by simp [i64s, natI])).at_ (by omega)
              obtain ⟨rfl, rfl⟩ : A3 = some ⟨b5, o5, none⟩ ∧ cy = c5 := by simpa using e5
              have HC := Lib.hid (hc5 _ _ hpj)
              clear p1 p2 hin hx hxp hpj hrs hc5 e5
              go_wp2_with fail
              go_at_call 9
              refine (pop_ok b g (wordsS lw (plcT T) (j :: qs)) _ T _ j (plcT T j) x _ HQ.out.ar (HTab.out.old HQ.out.only) (Sl.of_own HQ.out.own HQ.out.own.1) HX.out.1 HX.out.2 HOB.out).mono ?_
              rw [HP1.out, HP2.out]
              rintro e w7 ⟨rfl, hA, o⟩
              have H7 := Lib.hid (HQ.out.turn HD.out (rs := qs) hA o)
              obtain ⟨b6, o6, c6, e6, -, -, hb6, hc6⟩ := (Sl.of_own H7.out.put (by simp [i64s, natI])).at_ (by omega)
              obtain ⟨⟨rfl, rfl⟩, rfl⟩ : (b5 = b6 ∧ o5 = o6) ∧ cy = c6 := by simpa using e6
              have d5 := hc6 _ _ (show (i64s (natI rs.reverse))[qs.length]? = some (.int .i64 (j : Int)) by rw [HRS.out]; simp [i64s, natI])
              clear hA o hc6 e6
              go_wp2
              go_roundw
              case rel => exact ⟨ps ++ [j], qs, by rw [HRS.out]; simp, rfl, rfl, H7⟩
              case measure => simp [intOf]

set_option maxHeartbeats 1000000 in
theorem threadBack_big (A A' : Option Addr) (n c n' c' : Nat) (w : World) (ht : Par w) (hg0 : 0 < w.heap.size) (h : 30 < n ∨ 30 < n') :
    Calls Tryd.prog 3 #[.slice A n c, .slice A' n' c'] w fun e w' => e = .returned (.bool true) ∧ Below w.heap.size w w' := by
  have HTab := Lib.hid ht
  have HG0 := Lib.hid hg0
  clear ht hg0
  by_cases h1 : 30 < n
  · clear h
    go_enter Tryd.func3, Tryd.ntmps3
    go_wp2_with fail
    go_at_call 4
    refine (awake12_any _ HTab.out HG0.out).mono ?_
    rintro e w1 ⟨rfl, o⟩
    have O := Lib.hid o
    clear o
    go_wp2
    go_ret
    exact ⟨rfl, O.out.whole⟩
  · have h2 : 30 < n' := by omega
    clear h
    go_enter Tryd.func3, Tryd.ntmps3
    go_wp2_with fail
    go_at_call 4
    refine (awake12_any _ HTab.out HG0.out).mono ?_
    rintro e w1 ⟨rfl, o⟩
    have O := Lib.hid o
    clear o
    go_wp2
    go_ret
    exact ⟨rfl, O.out.whole⟩

theorem par_lt {w : World} (h : Par w) : 0 < w.heap.size := by
  obtain ⟨t, fr, hh⟩ := h
  exact (Array.getElem?_eq_some_iff.1 hh).1
theorem threadBack_walk (v0 v1 : Value) (zs os : List Int) (w : World) (ht : Par w) (h0 : Sl w w.heap.size 1 v0 zs.length (i64s zs)) (h1 : Sl w w.heap.size 1 v1 os.length (i64s os)) :
    Calls Tryd.prog 3 #[v0, v1] w fun e w' => e = .returned (.bool true) ∧ Below w.heap.size w w' := by
  by_cases h : 30 < zs.length ∨ 30 < os.length
  · obtain ⟨A, c, rfl, -⟩ := h0
    obtain ⟨A', c', rfl, -⟩ := h1
    exact threadBack_big A A' _ c _ c' w ht (par_lt ht) h
  · exact threadBack_small v0 v1 zs os w ht (par_lt ht) h0 h1 (by omega) (by omega)
end Go.Proofs.YtfdihnfhofpjlaaDoor
