/- The walk of ObjectPlays. -/
import Derived.Test.YtffbemfgibleeaaDoorObjLaw2
import Derived.Test.YtffbemfgibleeaaDoorHeadLaw1
import Derived.Deep.DeepCutAuto
import Derived.Deep.CutBlock
namespace Go.Proofs.YtffbemfgibleeaaDoor
open Go.RowKit

theorem Deed8.cells {xs : List Value} {q : Nat} {kd a i k f r : Int} {m : Bool} {c : Int} {x : Nat} (h : Deed8 xs q kd a i k f r m c x) :
    xs[q * 9]? = some (.int .i64 kd) ∧ xs[q * 9 + 1]? = some (.int .i64 a) ∧ xs[q * 9 + 2]? = some (.int .i64 i) ∧ xs[q * 9 + 3]? = some (.int .i64 k) ∧ xs[q * 9 + 4]? = some (.int .i64 f) ∧ xs[q * 9 + 5]? = some (.int .i64 r) ∧ xs[q * 9 + 6]? = some (.bool m) ∧ xs[q * 9 + 7]? = some (.int .i64 c) ∧ xs[q * 9 + 8]? = some (.int .u64 (x : Nat)) :=
  ⟨h 0 (by decide), h 1 (by decide), h 2 (by decide), h 3 (by decide), h 4 (by decide), h 5 (by decide), h 6 (by decide), h 7 (by decide), h 8 (by decide)⟩

/-- What holds at the head of each round. -/
def ORound (w : World) (b g : Nat) (n : Nat) (l : List Nat) (v : Value) (wr : World) : Prop :=
  l.length = n ∧ Ar wr b g l ∧ wr.ownsRow w.heap.size 31 1 v l.length (u64s l) ∧ v.ownBlock ≠ some g ∧ v.ownBlock ≠ some b ∧ Only nob w wr

theorem ORound.only {w wr wx : World} {b g n : Nat} {l : List Nat} {v : Value} (h : ORound w b g n l v wr) (ho : Only nob wr wx) : ORound w b g n l v wx :=
  ⟨h.1, h.2.1.keep ho id id, own_only h.2.2.1 ho fun _ _ => id, h.2.2.2.1, h.2.2.2.2.1, h.2.2.2.2.2.trans ho⟩
theorem ORound.sl {w wr : World} {b g n : Nat} {l : List Nat} {v : Value} (h : ORound w b g n l v wr) : Sl wr wr.heap.size 1 v l.length (u64s l) := Sl.of_own h.2.2.1 h.2.2.1.1
/-- A deed has been done, with the list and with the arena. -/
theorem ORound.step {w wr wx wz : World} {b g n : Nat} {l l' : List Nat} {v v' : Value} (h : ORound w b g n l v wr) (hw : w.heap.size ≤ g) (hn : Lst wr wx v v' l l') (ho : Only nob wr wx) (hlen : l'.length = l.length)
    (ho2 : Only (isb g) wx wz) (hA : Ar wz b g l') : ORound w b g n l' v' wz := by
  have hO : Only nob w wz := (h.2.2.2.2.2.trans ho).andThen ho2 fun i hi e => by unfold isb at e; omega
  have hb := h.2.1.head.lt
  have hg := h.2.1.row.lt
  rcases hn with ⟨rfl, rfl⟩ | hv
  · exact ⟨h.1, hA, own_only (own_only h.2.2.1 ho fun _ _ => id) ho2 (fun k hk e => h.2.2.2.1 (by unfold isb at e; rw [← e]; exact hk)), h.2.2.2.1, h.2.2.2.2.1, hO⟩
  · have hlt : ∀ k, v'.ownBlock = some k → wr.heap.size ≤ k := fun k hk => (own_lt hv hk).1
    refine ⟨hlen.trans h.1, hA, own_more (own_only hv ho2 fun k hk e => ?_) (fun k hk => Nat.le_trans h.2.2.2.2.2.size (hlt k hk)), fun e => ?_, fun e => ?_, hO⟩
    · have := hlt k hk
      unfold isb at e
      omega
    · have := hlt _ e
      omega
    · have := hlt _ e
      omega

theorem hsame_refl (k f r : Int) (m : Bool) (c : Int) : hsame k f r m c k f r m c = true := decide_eq_true ⟨rfl, rfl, rfl, rfl, rfl⟩

set_option maxRecDepth 100000 in
set_option maxHeartbeats 2000000 in
theorem objectPlays_small (v d : Value) (l : List Nat) (n : Nat) (xs : List Value) (w : World) (ht : Par w) (h : Sl w w.heap.size 1 v l.length (u64s l)) (hw : Words l) (hl : l.length ≤ 200) (hd : Sl w w.heap.size 9 d n xs) (hx : Deeds8 n xs) (hn : n ≤ 40) :
    Calls Tryd.prog 3 #[v, d] w fun e w' => e = .returned (.bool true) ∧ Below w.heap.size w w' := by
  obtain ⟨i0, hi0, hz0, hz1, hz2⟩ := info_parts info_u64
  have HTab := Lib.hid ht
  have HA := Lib.hid h
  have HD := Lib.hid hd
  have HDX := Lib.hid hx
  clear hx ht
  obtain ⟨A, ca, rfl, hac, ham, -⟩ := h
  obtain ⟨D, cd, rfl, hdc, hdm, -, -⟩ := hd
  unfold maxLen at ham hdm
  go_enter Tryd.func3, Tryd.ntmps3
  go_wp2_with fail
  go_at_call 7
  refine (of_any _ l _ HA.out (by omega) hw).mono ?_
  rintro e w1 ⟨b, g, rfl, hb, hg, hR, o1⟩
  have H0 := Lib.hid hR
  have O1 := Lib.hid o1
  clear hR o1
  go_wp2_with (with_reducible refine wpList_append_sl (o := ⟨some 46, _, _, _, _, _⟩) _ rfl (.tmp 44) (.tmp 45) _ rfl w1.heap.size 31 i0 _ 1 8 Tryd.underlying22 hi0 hz0 hz1 hz2 rfl (by decide) (.slice (some ⟨w1.heap.size, 0, none⟩) 0 0) 0 [] rfl ?c1 w.heap.size (.slice A l.length ca) l.length (u64s l) rfl ?c6 (u64s_one l) ?c2 ?c3 ?c4 ?c5)
  case c1 => exact lit_own w1 _ _
  case c6 => exact (HA.out.below O1.out.whole).below ((Below.refl _ _).alloc O1.out.size _)
  case c2 => unfold maxLen; omega
  case c3 => omega
  case c4 => simp
  case c5 =>
    intro v2 w2 H1 o2 hv2
    have o3 := lit_only o2
    have hown : w2.ownsRow w1.heap.size 31 1 v2 l.length (u64s l) := by simpa using H1.out
    have hgb := H0.out.head.lt
    have hgg := H0.out.row.lt
    have HR := Lib.hid (show ORound w b g l.length l v2 w2 from ⟨rfl, H0.out.keep o3 id id, own_more hown (fun k hk => Nat.le_trans O1.out.size (own_lt hown hk).1), fun e => by have := own_lt hown e; omega, fun e => by have := own_lt hown e; omega, O1.out.trans o3⟩)
    clear H1 o2 o3 hv2 hown H0 O1 hw
    have HB' := Lib.hid (show w.heap.size ≤ b from hb)
    have HG' := Lib.hid (show w.heap.size ≤ g from hg)
    clear hb hg hgb hgg
    go_wp2_with fail
    go_loopw [7, 8] (fun u i wr => ∃ (t : Nat) (lc : List Nat), t ≤ n ∧ i = .int .i64 t ∧ ORound w b g l.length lc u wr) (fun _ i _ => n - (intOf i).toNat)
    case atStart => exact ⟨0, l, Nat.zero_le _, rfl, HR.out⟩
    case round =>
      obtain ⟨t, lc, hk, rfl, hr⟩ := hrel
      have HR2 := Lib.hid hr
      obtain ⟨hlen, hA, -, -, -, hO⟩ := hr
      clear HR
      by_cases hlt : t < n
      · obtain ⟨kd, a, ix, kk, ff, rr, mm, cc, x, hdd, ha, hx⟩ := HDX.out t hlt
        obtain ⟨q, o, c, e1, -, -, -, hc⟩ := (HD.out.below hO.whole).at_ (by omega)
        obtain ⟨rfl, rfl⟩ : D = some ⟨q, o, none⟩ ∧ cd = c := by simpa using e1
        obtain ⟨p0, p1, p2, p3, p4, p5, p6, p7, p8⟩ := hdd.cells
        have d0 := hc _ _ p0
        have d1 := hc _ _ p1
        have d2 := hc _ _ p2
        have d3 := hc _ _ p3
        have d4 := hc _ _ p4
        have d5 := hc _ _ p5
        have d6 := hc _ _ p6
        have d7 := hc _ _ p7
        have d8 := hc _ _ p8
        rw [← Nat.add_assoc] at d1 d2 d3 d4 d5 d6 d7 d8
        have HL := Lib.hid hlen
        have HX := Lib.hid hx
        have HAT := Lib.hid ha
        have P0 := Lib.hid (HTab.out.old hO)
        have hl2 : lc.length ≤ 98304 := by omega
        have HL2 := Lib.hid hl2
        clear hc e1 hdd p0 p1 p2 p3 p4 p5 p6 p7 p8 hA hO hlen hx ha hl2
        obtain ⟨W, hW, HB⟩ := box_deed wr kd a ix kk ff rr mm cc x
        have HWE := Lib.hid hW
        have R1 := Lib.hid (HR2.out.only HB.out.1)
        have P1 := Lib.hid (P0.out.old HB.out.1)
        clear hW
        go_upto_region 11 with fail
        rw [HWE.out]
        clear d0 d1 d2 d3 d4 d5 d6 d7 d8
        obtain ⟨c0, c1, c2, c3, c4, c5, c6, c7, c8⟩ := cells9 HB.out.2
        go_wp2_with fail
        go_at_call 8
        refine (do_any _ _ lc kd a ix kk ff rr mm cc x _ R1.out.sl (Nat.le_refl _) R1.out.2.1.words HL2.out HX.out).mono ?_
        rintro e w3 ⟨v3, rfl, hn3, o3⟩
        have N3 := Lib.hid hn3
        have O3 := Lib.hid o3
        have A3 := Lib.hid (R1.out.2.1.keep o3 id id)
        have P3 := Lib.hid (P1.out.old o3)
        have B3 := Lib.hid (HB.out.2.keep o3 id)
        clear hn3 o3 c0 c1 c2 c3 c4 c5 c6 c7 c8
        obtain ⟨c0, c1, c2, c3, c4, c5, c6, c7, c8⟩ := cells9 B3.out
        go_wp2_with fail
        go_at_call 9
        refine (doing_any b g lc kd a ix kk ff rr mm cc x _ A3.out P3.out HAT.out HX.out).mono ?_
        rintro e w4 ⟨rfl, hA4, o4⟩
        have B4 := Lib.hid (B3.out.keep o4 fun e => A3.out.row.ne B3.out (by decide) e.symm)
        have R4 := Lib.hid (R1.out.step HG'.out N3.out O3.out (dvL_len lc kd a ix kk ff rr mm cc x) o4 hA4)
        have P4 := Lib.hid (HTab.out.old R4.out.2.2.2.2.2)
        clear hA4 o4 c0 c1 c2 c3 c4 c5 c6 c7 c8
        generalize dvE lc kd a ix kk ff rr cc x = E at *
        generalize dvL lc kd a ix kk ff rr mm cc x = ln at *
        have HLN := Lib.hid (show ln.length ≤ 98304 by have := R4.out.1; omega)
        clear N3 O3 A3 P3 B3 R1 P1 HB HR2 P0
        go_wp2_with fail
        go_at_call 11
        refine (words_ar b g ln _ R4.out.2.1).mono ?_
        rintro e w5 ⟨g', rfl, -, hB, o5⟩
        have R5 := Lib.hid (R4.out.only o5)
        have P5 := Lib.hid (P4.out.old o5)
        have B5 := Lib.hid (B4.out.keep o5 id)
        have HST := Lib.hid (Sl.of_blk (size := 1) (n := ln.length) (c := ln.length) hB (by simp [u64s_len]) (Nat.le_refl _) (by unfold maxLen; have := HLN.out; omega))
        clear hB o5
        go_wp2_with fail
        go_at_call 10
        refine (same_any _ _ ln _ _ _ HST.out R5.out.sl).mono ?_
        rintro e w6 ⟨rfl, mq, rfl⟩
        obtain ⟨w6, hw6⟩ : ∃ w6, w5.drewN mq = w6 := ⟨_, rfl⟩
        have o6 : Only nob w5 w6 := hw6 ▸ (Only.refl nob w5).drewN mq
        rw [hw6]
        have R6 := Lib.hid (R5.out.only o6)
        have P6 := Lib.hid (P5.out.old o6)
        have B6 := Lib.hid (B5.out.keep o6 id)
        clear hw6 o6 R4 R5 P4 P5 B4 B5 HST
        obtain ⟨c0, c1, c2, c3, c4, c5, c6, c7, c8⟩ := cells9 B6.out
        go_wp2_with fail
        go_at_call 12
        refine (oHead_any b g ln a _ R6.out.2.1 P6.out HAT.out).mono ?_
        rintro e w7 ⟨rfl, o7⟩
        obtain ⟨W8, hW8, HB8⟩ := box_head w7 (ohK ln a) (ohF ln a) (ohR ln a) (ohM ln a) (ohC ln a)
        have HW8 := Lib.hid hW8
        have o8 := o7.trans HB8.out.1
        have R8 := Lib.hid (R6.out.only o8)
        have P8 := Lib.hid (P6.out.old o8)
        have B8 := Lib.hid (B6.out.keep o8 id)
        clear hW8 o7 o8 c0 c1 c2 c3 c4 c5 c6 c7 c8
        go_upto_region 16 with fail
        rw [HW8.out]
        obtain ⟨c0, c1, c2, c3, c4, c5, c6, c7, c8⟩ := cells9 B8.out
        go_wp2_with fail
        go_at_call 13
        refine (rHead_any _ _ ln a _ R8.out.sl (Nat.le_refl _) R8.out.2.1.words HLN.out).mono ?_
        rintro e w9 ⟨rfl, o9⟩
        obtain ⟨W10, hW10, HB10⟩ := box_head w9 (ohK ln a) (ohF ln a) (ohR ln a) (ohM ln a) (ohC ln a)
        have HW10 := Lib.hid hW10
        have o10 := o9.trans HB10.out.1
        have R10 := Lib.hid (R8.out.only o10)
        have P10 := Lib.hid (P8.out.old o10)
        have B10 := Lib.hid (B8.out.keep o10 id)
        have C10 := Lib.hid (HB8.out.2.keep o10 id)
        clear hW10 o9 o10 c0 c1 c2 c3 c4 c5 c6 c7 c8
        go_upto_region 17 with fail
        rw [HW10.out]
        obtain ⟨c0, c1, c2, c3, c4, c5, c6, c7, c8⟩ := cells9 B10.out
        go_wp2_with fail
        go_at_call 14
        refine (oField_any b g ln a ix _ R10.out.2.1 P10.out HAT.out).mono ?_
        rintro e w11 ⟨rfl, o11⟩
        have R11 := Lib.hid (R10.out.only o11)
        have P11 := Lib.hid (P10.out.old o11)
        have B11 := Lib.hid (B10.out.keep o11 id)
        have C11 := Lib.hid (C10.out.keep o11 id)
        have D11 := Lib.hid (HB10.out.2.keep o11 id)
        clear o11 c0 c1 c2 c3 c4 c5 c6 c7 c8
        obtain ⟨c0, c1, c2, c3, c4, c5, c6, c7, c8⟩ := cells9 B11.out
        go_wp2_with fail
        go_at_call 15
        refine (rRead_any _ _ ln a ix false _ R11.out.sl (Nat.le_refl _) R11.out.2.1.words HLN.out).mono ?_
        rintro e w12 ⟨rfl, o12⟩
        have R12 := Lib.hid (R11.out.only o12)
        have P12 := Lib.hid (P11.out.old o12)
        have B12 := Lib.hid (B11.out.keep o12 id)
        have C12 := Lib.hid (C11.out.keep o12 id)
        have D12 := Lib.hid (D11.out.keep o12 id)
        clear o12 c0 c1 c2 c3 c4 c5 c6 c7 c8
        obtain ⟨c0, c1, c2, c3, c4, c5, c6, c7, c8⟩ := cells9 B12.out
        go_wp2_with fail
        go_at_call 16
        refine (oRaw_any b g ln a ix _ R12.out.2.1 P12.out HAT.out).mono ?_
        rintro e w13 ⟨rfl, o13⟩
        have R13 := Lib.hid (R12.out.only o13)
        have B13 := Lib.hid (B12.out.keep o13 id)
        have C13 := Lib.hid (C12.out.keep o13 id)
        have D13 := Lib.hid (D12.out.keep o13 id)
        clear o13 c0 c1 c2 c3 c4 c5 c6 c7 c8
        obtain ⟨c0, c1, c2, c3, c4, c5, c6, c7, c8⟩ := cells9 B13.out
        go_wp2_with fail
        go_at_call 15
        refine (rRead_any _ _ ln a ix true _ R13.out.sl (Nat.le_refl _) R13.out.2.1.words HLN.out).mono ?_
        rintro e w14 ⟨rfl, o14⟩
        have R14 := Lib.hid (R13.out.only o14)
        have C14 := Lib.hid (C13.out.keep o14 id)
        have D14 := Lib.hid (D13.out.keep o14 id)
        clear o14 c0 c1 c2 c3 c4 c5 c6 c7 c8
        obtain ⟨c0, c1, c2, c3, c4⟩ := cells5 C14.out
        obtain ⟨e0, e1, e2, e3, e4⟩ := cells5 D14.out
        clear R13 R12 R11 R10 R8 R6 P6 P8 P10 P11 P12 B6 B8 B10 B11 B12 B13 C10 C11 C12 C13 D11 D12 D13 HB8 HB10
        have ea : ∀ w : World, (Op.equalIn 10000 30 (.agg #[.int .i64 (ohK ln a), .int .i64 (ohF ln a), .int .i64 (ohR ln a), .bool (ohM ln a), .int .i64 (ohC ln a)]) (.agg #[.int .i64 (ohK ln a), .int .i64 (ohF ln a), .int .i64 (ohR ln a), .bool (ohM ln a), .int .i64 (ohC ln a)])).run Tryd.prog w = .ok true w := fun w => hsame_refl (ohK ln a) (ohF ln a) (ohR ln a) (ohM ln a) (ohC ln a) ▸ eqHead _ _ _ _ _ _ _ _ _ _ w
        generalize ohK ln a = K at *
        generalize ohF ln a = F at *
        generalize ohR ln a = R at *
        generalize ohM ln a = M at *
        generalize ohC ln a = C at *
        go_wp2
        go_roundw
        case rel => exact ⟨t + 1, ln, by omega, by go_num, R14.out⟩
        case measure => simp [intOf]; omega
      · obtain rfl : t = n := by omega
        have HO := Lib.hid hO
        clear hO hlen hA
        go_wp2_with fail
        go_at_call 6
        refine (awake08_any _ (HTab.out.old HO.out)).mono ?_
        rintro e w6 ⟨rfl, ho⟩
        have HO2 := Lib.hid (HO.out.trans ho)
        clear ho
        go_wp2
        go_ret
        exact ⟨rfl, HO2.out.whole⟩

set_option maxRecDepth 100000 in
set_option maxHeartbeats 400000 in
theorem objectPlays_big (A D : Option Addr) (len c n k : Nat) (w : World) (ht : Par w) (h : 200 < len ∨ 40 < n) :
    Calls Tryd.prog 3 #[.slice A len c, .slice D n k] w fun e w' => e = .returned (.bool true) ∧ Below w.heap.size w w' := by
  have HTab := Lib.hid ht
  clear ht
  by_cases hl : 200 < len
  · go_enter Tryd.func3, Tryd.ntmps3
    go_wp2_with fail
    go_at_call 6
    refine (awake08_any _ HTab.out).mono ?_
    rintro e w6 ⟨rfl, ho⟩
    have HO2 := Lib.hid ho
    clear ho
    go_wp2
    go_ret
    exact ⟨rfl, HO2.out.whole⟩
  · have hn : 40 < n := by omega
    go_enter Tryd.func3, Tryd.ntmps3
    go_wp2_with fail
    go_at_call 6
    refine (awake08_any _ HTab.out).mono ?_
    rintro e w6 ⟨rfl, ho⟩
    have HO2 := Lib.hid ho
    clear ho
    go_wp2
    go_ret
    exact ⟨rfl, HO2.out.whole⟩

theorem objectPlays_walk (v d : Value) (l : List Nat) (n : Nat) (xs : List Value) (w : World) (ht : Par w) (h : Sl w w.heap.size 1 v l.length (u64s l)) (hw : Words l) (hd : Sl w w.heap.size 9 d n xs) (hx : Deeds8 n xs) :
    Calls Tryd.prog 3 #[v, d] w fun e w' => e = .returned (.bool true) ∧ Below w.heap.size w w' := by
  by_cases hs : l.length ≤ 200 ∧ n ≤ 40
  · exact objectPlays_small v d l n xs w ht h hw hs.1 hd hx hs.2
  · obtain ⟨A, c, rfl, -⟩ := h
    obtain ⟨D, k, rfl, -⟩ := hd
    exact objectPlays_big A D _ c n k w ht (by omega)
end Go.Proofs.YtffbemfgibleeaaDoor
