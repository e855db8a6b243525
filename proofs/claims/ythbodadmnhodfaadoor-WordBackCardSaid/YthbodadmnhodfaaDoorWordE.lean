/- Contracts of Hex of word, and of the reference's (stage 1). -/
import Derived.Test.YthbodadmnhodfaaDoorWordD
import Derived.Deep.RegionWith
import Derived.Deep.RegionHeld3
namespace Go.Proofs.YthbodadmnhodfaaDoor
open Go.RowKit

/-- The last k digits of x. -/
def hxl (x : Nat) : Nat → List UInt8
  | 0 => []
  | k + 1 => UInt8.ofNat (dig (x / 16 ^ k % 16)) :: hxl x k
theorem hxl_length (x k : Nat) : (hxl x k).length = k := by
  induction k with
  | zero => rfl
  | succ k ih => simp [hxl, ih]
theorem hxl_get (x k j : Nat) (hj : j < k) : (hxl x k)[j]'(by rw [hxl_length]; exact hj) = UInt8.ofNat (dig (x / 16 ^ (k - 1 - j) % 16)) := by
  induction k generalizing j with
  | zero => omega
  | succ k ih =>
    rcases j with _ | j
    · simp [hxl]
    · simp only [hxl, List.getElem_cons_succ]
      rw [ih j (by omega), show k - 1 - j = k + 1 - 1 - (j + 1) by omega]
/-- The Hex of x. -/
def hxs (x : Nat) : ByteArray := ⟨(hxl x 16).toArray⟩

theorem extract_digit (d : Nat) (h : d < 16) (l : List UInt8) : ({ data := #[48, 49, 50, 51, 52, 53, 54, 55, 56, 57, 97, 98, 99, 100, 101, 102] } : ByteArray).extract d (d + 1) ++ ⟨l.toArray⟩ = ⟨(UInt8.ofNat (dig d) :: l).toArray⟩ := by
  have : d = 0 ∨ d = 1 ∨ d = 2 ∨ d = 3 ∨ d = 4 ∨ d = 5 ∨ d = 6 ∨ d = 7 ∨ d = 8 ∨ d = 9 ∨ d = 10 ∨ d = 11 ∨ d = 12 ∨ d = 13 ∨ d = 14 ∨ d = 15 := by omega
  apply ByteArray.ext
  rw [ByteArray.data_append]
  rcases this with rfl | rfl | rfl | rfl | rfl | rfl | rfl | rfl | rfl | rfl | rfl | rfl | rfl | rfl | rfl | rfl <;> simp [ByteArray.data_extract, dig]

theorem div16 (x k : Nat) (hx : x < full) : IntKind.u64.wrap (((x / 16 ^ k : Nat) : Int) / 16) = ((x / 16 ^ (k + 1) : Nat) : Int) := by
  have e : (((x / 16 ^ k : Nat) : Int) / 16) = ((x / 16 ^ (k + 1) : Nat) : Int) := by
    rw [Nat.pow_succ, ← Nat.div_div_eq_div_mul]; omega
  rw [e, wrap_id _ (Nat.lt_of_le_of_lt (Nat.div_le_self _ _) hx)]

/-- x without its last k digits. -/
def hxr (x k : Nat) : Nat := x / 16 ^ k

set_option maxRecDepth 100000 in
set_option maxHeartbeats 400000 in
theorem refHex_any (x : Nat) (w : World) (hx : x < full) :
    Calls Tryd.prog 20 #[.int .u64 x] w fun e w' => e = .returned (.string (hxs x)) ∧ w = w' := by
  go_enter Tryd.func20, Tryd.ntmps20
  go_wp2
  go_loop [0, 3, 4] (fun y v i => ∃ k : Nat, k ≤ 16 ∧ i = .int .i64 k ∧ y = .int .u64 (hxr x k) ∧ v = .string ⟨(hxl x k).toArray⟩) (fun _ _ i => 16 - (intOf i).toNat)
  case atStart => exact ⟨0, Nat.zero_le _, rfl, by simp [hxr], rfl⟩
  case round =>
    obtain ⟨k, hk, rfl, rfl, rfl⟩ := hrel
    by_cases hlt : k < 16
    · have HE := Lib.hid (extract_digit (hxr x k % 16) (Nat.mod_lt _ (by decide)) (hxl x k))
      have HV := Lib.hid (div16 x k hx)
      obtain ⟨s, hs, hl⟩ : ∃ s : ByteArray, ⟨(hxl x k).toArray⟩ = s ∧ s.size ≤ 16 := ⟨_, rfl, by show (hxl x k).toArray.size ≤ 16; simp [hxl_length]; omega⟩
      rw [hs] at HE ⊢
      have HS := Lib.hid hs
      have hno : ¬ 9223372036854775807 < min (hxr x k % 16 + 1) 16 - hxr x k % 16 + s.size := by omega
      clear hs
      go_wp2
      go_round
      case rel => exact ⟨k + 1, by omega, by go_num, by unfold hxr; rw [← HV.out], by rw [HE.out]; rfl⟩
      case measure => simp [intOf]; omega
    · obtain rfl : k = 16 := by omega
      go_wp2
      go_ret
      exact ⟨rfl, rfl⟩

/-- The cells of the text behind k digits. -/
def hxc (x k : Nat) : List Value := (List.range 16).map fun j => .int .u8 (if j < k then (dig (gt x (60 - 4 * j) 4) : Int) else 0)

theorem hxc_set (x k : Nat) : (hxc x k).toArray.setIfInBounds k (.int .u8 (dig (gt x (60 - 4 * k) 4))) = (hxc x (k + 1)).toArray := by
  apply Array.ext
  · simp [hxc]
  · intro i h1 h2
    simp [hxc] at h1 h2
    by_cases e : k = i
    · subst e; simp [hxc]
    · rw [Array.getElem_setIfInBounds_ne (by simpa [hxc] using h1) e]
      simp only [hxc, List.getElem_toArray, List.getElem_map, List.getElem_range]
      by_cases h : i < k
      · rw [if_pos h, if_pos (by omega)]
      · rw [if_neg h, if_neg (by omega)]

theorem alloc_new (w : World) (o : Obj) : (w.alloc o).heap[w.heap.size]? = some o := by
  show (w.heap.push o)[w.heap.size]? = some o
  simp

set_option maxRecDepth 100000 in
set_option maxHeartbeats 1000000 in
theorem hex_any (x : Nat) (w : World) (hx : x < full) (hD : Dig w) :
    Calls Tryd.prog 19 #[.int .u64 x] w fun e w' => e = .returned (.string (hxs x)) ∧ Below w.heap.size w w' := by
  have hds := hD.size
  have HDg := Lib.hid hD
  clear hD
  go_enter Tryd.func19, Tryd.ntmps19
  go_wp2_with fail
  go_at_call 26
  refine (places_any 60 (-4) _).mono ?_
  rintro e w1 ⟨rfl, hp, hb⟩
  have hrow : w1.heap[w.heap.size]? = some (.cells (hxc x 0).toArray 43 (0, 0)) := (hb.block w.heap.size (by simp)).trans (alloc_new _ _)
  have hb0 : Below w.heap.size w w1 := ((Below.refl w.heap.size w).alloc (Nat.le_refl _) _).trans (hb.mono (by simp))
  have hsz : (w.alloc (.cells #[.int .u8 0, .int .u8 0, .int .u8 0, .int .u8 0, .int .u8 0, .int .u8 0, .int .u8 0, .int .u8 0, .int .u8 0, .int .u8 0, .int .u8 0, .int .u8 0, .int .u8 0, .int .u8 0, .int .u8 0, .int .u8 0] 43)).heap.size = w.heap.size + 1 := by simp
  rw [hsz] at hp ⊢
  have HR := Lib.hid hrow
  have HP := Lib.hid hp
  have HB := Lib.hid hb0
  clear hrow hp hb hb0 hsz
  go_wp2
  go_loopw [7] (fun i wr => ∃ k : Nat, k ≤ 16 ∧ i = .int .i64 k ∧ wr.heap[w.heap.size]? = some (.cells (hxc x k).toArray 43 (0, 0)) ∧ (k < 16 → PL wr (w.heap.size + 1) ((60 - 4 * k : Nat) : Int) (-4)) ∧ Below w.heap.size w wr) (fun i _ => 16 - (intOf i).toNat)
  case atStart => exact ⟨0, Nat.zero_le _, rfl, HR.out, fun _ => HP.out, HB.out⟩
  case round =>
    obtain ⟨k, hk, rfl, hrow, hpl, hbl⟩ := hrel
    clear HR HP HB
    have HR := Lib.hid hrow
    have HB := Lib.hid hbl
    by_cases hlt : k < 16
    · have HP := Lib.hid (hpl hlt)
      have hD := HDg.out.below hds hbl
      obtain ⟨td, frd, hD⟩ := hD
      have hg : gt x (60 - 4 * k) 4 < 16 := gt_lt x _ 4
      have hdc := (cell_of_row wr 0 (gt x (60 - 4 * k) 4) _ _ _ hD).trans (digC_at _ hg)
      have htc : ∃ c, wr.cell? ⟨w.heap.size, k, none⟩ = some c := by
        rw [cell_of_row wr _ k _ _ _ hrow]
        exact ⟨_, Array.getElem?_eq_getElem (by simp [hxc]; omega)⟩
      obtain ⟨c, htc⟩ := htc
      have htf := frozen_of_row wr w.heap.size k _ _ hrow
      have hbit := get_bits x (60 - 4 * k) 4 hx (by omega)
      have hg0 : (0 : Int) ≤ (gt x (60 - 4 * k) 4 : Int) := by omega
      have hg1 : ((gt x (60 - 4 * k) 4 : Nat) : Int) < 16 := by omega
      clear hrow hpl hbl hD
      unfold plv
      go_upto_region 6 with fail
      go_region_with (first
        | (go_at_call 30; refine (placer_any ((60 - 4 * k : Nat) : Int) (-4) _ _ HP.out.drew (by omega) (by omega)).mono ?_; rintro e w' ⟨rfl, rfl⟩)
        | (go_at_call 22; refine (ones_any 4 _ (by omega)).mono ?_; rintro e w' ⟨rfl, rfl⟩))
      go_wp2
      go_roundw
      case rel =>
        refine ⟨k + 1, by omega, by go_num, ?_, fun _ => ?_, ?_⟩
        · show ((wr.setCell _ _).setCell _ _).heap[w.heap.size]? = _
          rw [heap_setCell_same _ w.heap.size k (hxc x k).toArray 43 _ ((heap_setCell_other wr _ _ _ (by show w.heap.size ≠ w.heap.size + 1; omega)).trans HR.out), hxc_set x k]
        · rw [show ((60 - 4 * k : Nat) : Int) + -4 = ((60 - 4 * (k + 1) : Nat) : Int) by omega]
          exact ((pl_set HP.out _).other _ _ (by show w.heap.size + 1 ≠ w.heap.size; omega) (by show w.heap.size + 1 + 1 ≠ w.heap.size; omega)).drew
        · exact ((HB.out.setCell (by show w.heap.size ≤ w.heap.size + 1; omega) _).setCell (Nat.le_refl _) _).drew
      case measure => simp [intOf]; omega
    · obtain rfl : k = 16 := by omega
      have hcv := run_convert_bytes_back (P := Tryd.prog) wr 44 9 5 ⟨w.heap.size, 0, none⟩ 16 (hxl x 16) Tryd.underlying44 Tryd.underlying5 Tryd.underlying9 (fun j hj => by
          have hj' : j < 16 := by simpa [hxl_length] using hj
          rw [hxl_get x 16 j hj', Addr.add_lit, Nat.zero_add, cell_of_row wr _ j _ _ _ hrow]
          simp only [hxc, List.getElem?_toArray, List.getElem?_map]
          rw [List.getElem?_range hj']
          simp only [Option.map_some, if_pos hj', gt]
          rw [show (16 : Nat) ^ (16 - 1 - j) = 2 ^ (60 - 4 * j) by rw [show (16 : Nat) = 2 ^ 4 from rfl, ← Nat.pow_mul]; congr 1; omega, show (2 : Nat) ^ 4 = 16 from rfl, UInt8.toNat_ofNat_of_lt' (dig_lt _ (Nat.mod_lt _ (by decide)))])
      rw [hxl_length] at hcv
      clear hrow hpl hbl
      go_wp2
      go_ret
      exact ⟨rfl, HB.out⟩
end Go.Proofs.YthbodadmnhodfaaDoor
