/- Headers as words: plain words; the parts of a header's word; what part.may, numbersOf and headOf of package head tell. -/
import Derived.Test.YtciidodmhigpdaaGreatDoorMem
import Derived.Test.YtciidodmhigpdaaGreatDoorWords
import Derived.Test.YtciidodmhigpdaaGreatDoorVal
import Derived.Test.YtciidodmhigpdaaGreatDoorSmalls
import Derived.Test.YtciidodmhigpdaaGreatDoorChecked
import Derived.Test.YtciidodmhigpdaaGreatDoorOpens
import Derived.Test.YtciidodmhigpdaaGreatDoorRows
import Derived.Deep.Cut
import Derived.Laws.StructEq
import Derived.MakeChecks
import Derived.Stop.LaidErr
namespace Go.Proofs.YtciidodmhigpdaaGreatDoor
set_option maxRecDepth 100000
open Go.RowKit

/-- The parts: where a number's bits begin, how many they are, and from what to what the number may be. -/
def pA : Nat → Nat | 0 => 0 | 1 => 2 | 2 => 3 | 3 => 8 | 4 => 24 | _ => 40
def pN : Nat → Nat | 0 => 2 | 1 => 1 | 2 => 5 | 3 => 16 | 4 => 16 | _ => 24
def pL : Nat → Int | 0 => 3 | _ => 0
def pU : Nat → Int | 0 => 3 | 1 => 1 | 2 => 31 | 3 => 4096 | 4 => 4096 | _ => 1048576
/-- The table's cells. -/
def parC : Array Value := #[.int .i64 0, .int .i64 2, .int .i64 3, .int .i64 3, .int .i64 2, .int .i64 1, .int .i64 0, .int .i64 1, .int .i64 3, .int .i64 5, .int .i64 0, .int .i64 31, .int .i64 8, .int .i64 16, .int .i64 0, .int .i64 4096, .int .i64 24, .int .i64 16, .int .i64 0, .int .i64 4096, .int .i64 40, .int .i64 24, .int .i64 0, .int .i64 1048576]
/-- The table is laid. -/
def Par (w : World) : Prop := ∃ t fr, w.heap[0]? = some (.cells parC t fr)
theorem Par.lt {w : World} (h : Par w) : 0 < w.heap.size := by
  obtain ⟨t, fr, h⟩ := h
  rcases Nat.lt_or_ge 0 w.heap.size with g | g
  · exact g
  · rw [Array.getElem?_eq_none g] at h; cases h
theorem Par.old {w w' : World} (h : Par w) (o : Only nob w w') : Par w' := by
  obtain ⟨t, fr, hh⟩ := h
  exact ⟨t, fr, (o.block _ (Par.lt ⟨t, fr, hh⟩) id).trans hh⟩
theorem lt_six {k : Nat} (h : k < 6) : k = 0 ∨ k = 1 ∨ k = 2 ∨ k = 3 ∨ k = 4 ∨ k = 5 := by omega
theorem part_at (k : Nat) (h : k < 6) : ∀ w : World, (Instr.index 135 (.agg parC) (.int .i64 k)).run Tryz.prog w = .ok (.agg #[.int .i64 (pA k : Nat), .int .i64 (pN k : Nat), .int .i64 (pL k), .int .i64 (pU k)]) w := by
  rcases lt_six h with rfl | rfl | rfl | rfl | rfl | rfl <;> exact fun _ => by kernel_rfl
theorem part_fits (k : Nat) (h : k < 6) : 1 ≤ pN k ∧ pA k + pN k ≤ 64 := by
  rcases lt_six h with rfl | rfl | rfl | rfl | rfl | rfl <;> decide
theorem part_on (k : Nat) (h : k < 6) {x : Int} (hx : vin x (pL k) (pU k) = true) : 0 ≤ x ∧ x.toNat ≤ on (pN k) ∧ x.toNat < 2 ^ pN k := by
  have hx' := vin_iff.1 hx
  rcases lt_six h with rfl | rfl | rfl | rfl | rfl | rfl <;> (simp only [pL, pU, pN, on] at hx' ⊢; omega)

/-- Six numbers. -/
def num6 (x0 x1 x2 x3 x4 x5 : Int) : Nat → Int | 0 => x0 | 1 => x1 | 2 => x2 | 3 => x3 | 4 => x4 | _ => x5
/-- May the first k of them be? -/
def MayTo (v : Nat → Int) (k : Nat) : Prop := ∀ i, i < k → vin (v i) (pL i) (pU i) = true
theorem MayTo.zero (v : Nat → Int) : MayTo v 0 := fun _ h => absurd h (Nat.not_lt_zero _)
theorem MayTo.succ {v : Nat → Int} {k : Nat} (h : MayTo v k) (hk : vin (v k) (pL k) (pU k) = true) : MayTo v (k + 1) := fun i hi => by
  rcases Nat.lt_or_ge i k with h' | h'
  · exact h i h'
  · obtain rfl : i = k := by omega
    exact hk
/-- The word of the first k of them. -/
def accW (v : Nat → Int) : Nat → Nat
  | 0 => 0
  | k + 1 => pt (accW v k) (pA k) (pN k) (v k).toNat
theorem accW_lt (v : Nat → Int) (k : Nat) (hk : k ≤ 6) (h : MayTo v k) : accW v k < full := by
  induction k with
  | zero => exact (by decide : (0 : Nat) < full)
  | succ k ih => exact pt_lt _ _ _ _ (ih (by omega) fun i hi => h i (by omega)) (part_on k (by omega) (h k (by omega))).2.2 (part_fits k (by omega)).2

/-- May a header of kind k, fields f, raws r, cursor c be? -/
def hmay (k f r c : Int) : Bool := vin k 0 31 && (vin f 0 4096 && (vin r 0 4096 && vin c 0 1048576))
theorem hmay_iff {k f r c : Int} : hmay k f r c = true ↔ (0 ≤ k ∧ k ≤ 31) ∧ (0 ≤ f ∧ f ≤ 4096) ∧ (0 ≤ r ∧ r ≤ 4096) ∧ 0 ≤ c ∧ c ≤ 1048576 := by
  unfold hmay; rw [Bool.and_eq_true, Bool.and_eq_true, Bool.and_eq_true, vin_iff, vin_iff, vin_iff, vin_iff]
/-- 1 of a mark. -/
def bi (m : Bool) : Int := if m then 1 else 0
theorem bi_in (m : Bool) : 0 ≤ bi m ∧ bi m ≤ 1 := by cases m <;> decide
/-- A header's numbers. -/
def numH (k f r : Int) (m : Bool) (c : Int) : Nat → Int := num6 3 (bi m) k f r c
theorem mayTo_iff (k f r : Int) (m : Bool) (c : Int) : MayTo (numH k f r m c) 6 ↔ hmay k f r c = true := by
  rw [hmay_iff]
  constructor
  · intro h
    exact ⟨vin_iff.1 (h 2 (by decide)), vin_iff.1 (h 3 (by decide)), vin_iff.1 (h 4 (by decide)), vin_iff.1 (h 5 (by decide))⟩
  · rintro ⟨h1, h2, h3, h4⟩ i hi
    rcases lt_six hi with rfl | rfl | rfl | rfl | rfl | rfl
    · exact vin_yes (Int.le_refl 3) (Int.le_refl 3)
    · exact vin_yes (bi_in m).1 (bi_in m).2
    · exact vin_yes h1.1 h1.2
    · exact vin_yes h2.1 h2.2
    · exact vin_yes h3.1 h3.2
    · exact vin_yes h4.1 h4.2
/-- Its word. -/
def hW (k f r : Int) (m : Bool) (c : Int) : Int := c * 1099511627776 + r * 16777216 + f * 256 + k * 8 + 3 + 4 * bi m
theorem pt_over (w a n x : Nat) (hw : w < 2 ^ a) : pt w a n x = w + 2 ^ a * x := by
  unfold pt
  rw [Nat.mod_eq_of_lt hw, Nat.div_eq_of_lt (Nat.lt_of_lt_of_le hw (Nat.pow_le_pow_right (by decide) (Nat.le_add_right a n)))]
  simp
theorem accW_is {k f r c : Int} (m : Bool) (h : hmay k f r c = true) : (accW (numH k f r m c) 6 : Int) = hW k f r m c := by
  have h' := hmay_iff.1 h
  have hb := bi_in m
  have e1 : accW (numH k f r m c) 1 = 3 := (by decide : pt 0 0 2 3 = 3)
  have e2 : accW (numH k f r m c) 2 = 3 + 4 * (bi m).toNat := by
    show pt (accW (numH k f r m c) 1) 2 1 (bi m).toNat = _
    rw [e1, pt_over _ _ _ _ (by decide)]
  have e3 : accW (numH k f r m c) 3 = 3 + 4 * (bi m).toNat + 8 * k.toNat := by
    show pt (accW (numH k f r m c) 2) 3 5 k.toNat = _
    rw [e2, pt_over _ _ _ _ (by omega)]
  have e4 : accW (numH k f r m c) 4 = 3 + 4 * (bi m).toNat + 8 * k.toNat + 256 * f.toNat := by
    show pt (accW (numH k f r m c) 3) 8 16 f.toNat = _
    rw [e3, pt_over _ _ _ _ (by omega)]
  have e5 : accW (numH k f r m c) 5 = 3 + 4 * (bi m).toNat + 8 * k.toNat + 256 * f.toNat + 16777216 * r.toNat := by
    show pt (accW (numH k f r m c) 4) 24 16 r.toNat = _
    rw [e4, pt_over _ _ _ _ (by omega)]
  have e6 : accW (numH k f r m c) 6 = 3 + 4 * (bi m).toNat + 8 * k.toNat + 256 * f.toNat + 16777216 * r.toNat + 1099511627776 * c.toNat := by
    show pt (accW (numH k f r m c) 5) 40 24 c.toNat = _
    rw [e5, pt_over _ _ _ _ (by omega)]
  rw [e6]
  unfold hW
  omega

/-- Does a number lie in its part's bounds. -/
theorem partMay_any (a n l u x : Int) (w : World) : Calls Tryz.prog 110 #[.agg #[.int .i64 a, .int .i64 n, .int .i64 l, .int .i64 u], .int .i64 x] w fun e w' => e = .returned (.bool (vin x l u)) ∧ Only nob w w' := by
  by_cases h1 : l ≤ x
  · by_cases h2 : x ≤ u
    case' pos => have HK := Lib.hid (vin_yes h1 h2)
    case' neg => have HK := Lib.hid (vin_hi (l := l) h2)
    all_goals
      go_enter Tryz.func110, Tryz.ntmps110
      go_wp2
      go_ret
      exact ⟨ret_bool (by rw [HK.out]), (Only.refl _ _).alloc _⟩
  · have HK := Lib.hid (vin_lo (m := u) h1)
    go_enter Tryz.func110, Tryz.ntmps110
    go_wp2
    go_ret
    exact ⟨ret_bool (by rw [HK.out]), (Only.refl _ _).alloc _⟩

def numV (k f r : Int) (m : Bool) (c : Int) : Value := .agg #[.int .i64 3, .int .i64 (bi m), .int .i64 k, .int .i64 f, .int .i64 r, .int .i64 c]
end Go.Proofs.YtciidodmhigpdaaGreatDoor

/- Headers as words: pack of package head. -/
namespace Go.Proofs.YtciidodmhigpdaaGreatDoor
open Go.RowKit

theorem put_only (w0 a n x : Nat) (w : World) (hw0 : w0 < full) (h1 : 1 ≤ n) (h2 : a + n ≤ 64) (hx : x ≤ on n) :
    Calls Tryz.prog 111 #[.int .u64 w0, .int .i64 a, .int .i64 n, .int .u64 x] w fun e w' => e = .returned (.tuple #[.int .u64 (pt w0 a n x), .bool true]) ∧ Only nob w w' :=
  (put_any w0 a n x w hw0 h1 h2 hx).mono fun _ _ ⟨he, _, hm⟩ => ⟨he, hm ▸ (Only.refl _ _).drewN _⟩
theorem get_only (x a n : Nat) (w : World) (hx : x < full) (h1 : 1 ≤ n) (h2 : a + n ≤ 64) :
    Calls Tryz.prog 109 #[.int .u64 x, .int .i64 a, .int .i64 n] w fun e w' => e = .returned (.tuple #[.int .u64 (gt x a n), .bool true]) ∧ Only nob w w' :=
  (get_any x a n w hx h1 h2).mono fun _ _ ⟨he, _, hm⟩ => ⟨he, hm ▸ (Only.refl _ _).drewN _⟩

/-- Six numbers in a block of the call's own. -/
theorem box_six (w : World) (x0 x1 x2 x3 x4 x5 : Int) : ∃ W, w.alloc (.cells #[.int .i64 x0, .int .i64 x1, .int .i64 x2, .int .i64 x3, .int .i64 x4, .int .i64 x5] 115) = W ∧
    Hid (Only nob w W ∧ ∀ k, k < 6 → W.cell? ⟨w.heap.size, k, none⟩ = some (.int .i64 (num6 x0 x1 x2 x3 x4 x5 k))) := by
  refine ⟨_, rfl, Lib.hid ⟨(Only.refl nob w).alloc _, fun k hk => ?_⟩⟩
  rw [(Blk.new w 115 #[.int .i64 x0, .int .i64 x1, .int .i64 x2, .int .i64 x3, .int .i64 x4, .int .i64 x5]).cell k]
  rcases lt_six hk with rfl | rfl | rfl | rfl | rfl | rfl <;> rfl
/-- A part in a block of the call's own. -/
theorem box_part (w : World) (a n l u : Int) : ∃ W, w.alloc (.cells #[.int .i64 a, .int .i64 n, .int .i64 l, .int .i64 u] 134) = W ∧
    Hid (Only nob w W ∧ W.cell? ⟨w.heap.size, 0, none⟩ = some (.int .i64 a) ∧ W.cell? ⟨w.heap.size, 1, none⟩ = some (.int .i64 n) ∧ W.cell? ⟨w.heap.size, 2, none⟩ = some (.int .i64 l) ∧ W.cell? ⟨w.heap.size, 3, none⟩ = some (.int .i64 u)) := by
  have B := Blk.new w 134 #[.int .i64 a, .int .i64 n, .int .i64 l, .int .i64 u]
  exact ⟨_, rfl, Lib.hid ⟨(Only.refl nob w).alloc _, B.cell 0, B.cell 1, B.cell 2, B.cell 3⟩⟩

/-- What pack answers. -/
def PackSaid (v : Nat → Int) (w : World) (e : Ending) (w' : World) : Prop :=
  (MayTo v 6 → e = .returned (.tuple #[.int .u64 (accW v 6 : Nat), .bool true])) ∧ (¬ MayTo v 6 → e = .returned (.tuple #[.int .u64 0, .bool false])) ∧ Only nob w w'

set_option maxRecDepth 100000 in
set_option maxHeartbeats 1000000 in
theorem pack_said (x0 x1 x2 x3 x4 x5 : Int) (w : World) (hp : Par w) :
    Calls Tryz.prog 90 #[.agg #[.int .i64 x0, .int .i64 x1, .int .i64 x2, .int .i64 x3, .int .i64 x4, .int .i64 x5]] w (PackSaid (num6 x0 x1 x2 x3 x4 x5) w) := by
  have mixed : Tryz.prog.follows .mixedOrders = true := by kernel_rfl
  obtain ⟨W, hW, HB⟩ := box_six w x0 x1 x2 x3 x4 x5
  obtain ⟨t, fr, hP⟩ := hp.old (hW ▸ HB.out.1 : Only nob w (w.alloc (.cells #[.int .i64 x0, .int .i64 x1, .int .i64 x2, .int .i64 x3, .int .i64 x4, .int .i64 x5] 115)))
  have HWE := Lib.hid hW
  obtain ⟨v, hv⟩ : ∃ v, num6 x0 x1 x2 x3 x4 x5 = v := ⟨_, rfl⟩
  rw [hv] at HB ⊢
  clear hW hp hv
  go_enter Tryz.func90, Tryz.ntmps90
  go_wp2_with (refine wpList_load_row rfl 135 _ rfl 0 rfl t parC fr _ hP Tryz.underlying135 rfl (by kernel_rfl) ?_)
  clear hP
  rw [HWE.out]
  go_loopw [4, 8] (fun u i wr => ∃ k : Nat, k ≤ 6 ∧ i = .int .i64 k ∧ u = .int .u64 (accW v k : Nat) ∧ MayTo v k ∧ Only nob W wr) (fun _ i _ => 6 - (intOf i).toNat)
  case atStart => exact ⟨0, Nat.zero_le _, rfl, rfl, MayTo.zero _, Only.refl _ _⟩
  case round =>
    obtain ⟨k, hk, rfl, rfl, hM, hO⟩ := hrel
    have HM := Lib.hid hM
    have HO := Lib.hid hO
    clear hM hO
    by_cases hlt : k < 6
    · obtain ⟨W2, hW2, HB2⟩ := box_part wr (pA k : Nat) (pN k : Nat) (pL k) (pU k)
      have HW2 := Lib.hid hW2
      have hx := part_at k hlt
      clear hW2
      obtain ⟨y, hy⟩ : ∃ y, v k = y := ⟨_, rfl⟩
      have c0 := wat_cell HB2.out.2.1
      have c1 := wat_cell HB2.out.2.2.1
      have c2 := wat_cell HB2.out.2.2.2.1
      have c3 := wat_cell HB2.out.2.2.2.2
      have c4 := wat_cell (HB2.out.1.keeps (HO.out.keeps (hy ▸ HB.out.2 k hlt)))
      have HY := Lib.hid hy
      clear hy
      by_cases hm : vin y (pL k) (pU k) = true
      · have HC := Lib.hid (show ∀ n os, Calls Tryz.prog 110 #[.agg #[.int .i64 (pA k : Nat), .int .i64 (pN k : Nat), .int .i64 (pL k), .int .i64 (pU k)], .int .i64 y] (wat W2 n os) fun e w' => e = .returned (.bool true) ∧ Only nob (wat W2 n os) w' from fun n os => hm ▸ partMay_any _ _ _ _ _ _)
        go_wp2_with fail
        rw [HW2.out]
        refine wp_region_only mixed (by kernel_rfl) ?_
        repeat (quiet_step ((go_at_call 110; with_reducible refine wat_call (HC.out _ _))))
        refine wpQuiet_nil ?_
        rintro w' ⟨⟨nq, osq⟩, rfl⟩
        obtain ⟨W3, hW3, O3⟩ := wat_name W2 nq osq
        rw [hW3]
        clear c0 c1 c2 c3 c4
        obtain ⟨y0, y1, y2⟩ := part_on k hlt hm
        obtain ⟨z, rfl⟩ : ∃ z : Nat, y = z := ⟨y.toNat, by omega⟩
        rw [Int.toNat_natCast] at y1 y2
        have c0 := wat_cell (O3.out.keeps HB2.out.2.1)
        have c1 := wat_cell (O3.out.keeps HB2.out.2.2.1)
        have c4 := wat_cell (O3.out.keeps (HB2.out.1.keeps (HO.out.keeps (HY.out ▸ HB.out.2 k hlt))))
        have HF := Lib.hid (part_fits k hlt)
        have HL := Lib.hid (accW_lt v k hk HM.out)
        have HD := Lib.hid (show ∀ n os, Calls Tryz.prog 111 #[.int .u64 (accW v k : Nat), .int .i64 (pA k : Nat), .int .i64 (pN k : Nat), .int .u64 (z : Nat)] (wat W3 n os) fun e w' => e = .returned (.tuple #[.int .u64 (pt (accW v k) (pA k) (pN k) z : Nat), .bool true]) ∧ Only nob (wat W3 n os) w' from fun n os => put_only _ _ _ _ _ HL.out HF.out.1 HF.out.2 y1)
        have HZ : IntKind.u64.wrap (z : Int) = (z : Int) := wrap_id z (Nat.lt_of_lt_of_le y2 (pow_le_full (by have := HF.out.2; omega)))
        clear y0 y1 y2
        go_wp2_with fail
        refine wp_region_only mixed (by kernel_rfl) ?_
        repeat (quiet_step ((go_at_call 111; with_reducible refine wat_call (HD.out _ _))))
        refine wpQuiet_nil ?_
        rintro w' ⟨⟨nq2, osq2⟩, rfl⟩
        obtain ⟨W4, hW4, O4⟩ := wat_name W3 nq2 osq2
        rw [hW4]
        have HA := Lib.hid (show accW v (k + 1) = pt (accW v k) (pA k) (pN k) z by show pt _ _ _ (v k).toNat = _; rw [HY.out]; rfl)
        clear c0 c1 c4 HZ
        go_wp2
        go_roundw
        case rel => exact ⟨k + 1, by omega, by go_num, by rw [HA.out], HM.out.succ (HY.out ▸ hm), HO.out.trans (HB2.out.1.trans (O3.out.trans O4.out))⟩
        case measure => simp [intOf]; omega
      · have hm' : vin y (pL k) (pU k) = false := by simpa using hm
        have HC := Lib.hid (show ∀ n os, Calls Tryz.prog 110 #[.agg #[.int .i64 (pA k : Nat), .int .i64 (pN k : Nat), .int .i64 (pL k), .int .i64 (pU k)], .int .i64 y] (wat W2 n os) fun e w' => e = .returned (.bool false) ∧ Only nob (wat W2 n os) w' from fun n os => hm' ▸ partMay_any _ _ _ _ _ _)
        clear hm'
        go_wp2_with fail
        rw [HW2.out]
        refine wp_region_only mixed (by kernel_rfl) ?_
        repeat (quiet_step ((go_at_call 110; with_reducible refine wat_call (HC.out _ _))))
        refine wpQuiet_nil ?_
        rintro w' ⟨⟨nq, osq⟩, rfl⟩
        obtain ⟨W3, hW3, O3⟩ := wat_name W2 nq osq
        rw [hW3]
        clear c0 c1 c2 c3 c4
        go_wp2
        go_ret2
        exact ⟨fun h => absurd (HY.out ▸ h k hlt) hm, fun _ => rfl, HB.out.1.trans (HO.out.trans (HB2.out.1.trans O3.out))⟩
    · obtain rfl : k = 6 := by omega
      go_wp2
      go_ret2
      exact ⟨fun _ => rfl, fun h => absurd HM.out h, HB.out.1.trans HO.out⟩
end Go.Proofs.YtciidodmhigpdaaGreatDoor

/- Headers as words: unpack of package head. -/
namespace Go.Proofs.YtciidodmhigpdaaGreatDoor
open Go.RowKit

/-- The numbers that stand in a word, and the first k of them, the others being 0. -/
def un (n : Nat) (i : Nat) : Int := (gt n (pA i) (pN i) : Nat)
def ucV (n k i : Nat) : Int := if i < k then un n i else 0
def ucC (n k : Nat) : Array Value := #[.int .i64 (ucV n k 0), .int .i64 (ucV n k 1), .int .i64 (ucV n k 2), .int .i64 (ucV n k 3), .int .i64 (ucV n k 4), .int .i64 (ucV n k 5)]
theorem ucC_zero (n : Nat) : ucC n 0 = #[.int .i64 0, .int .i64 0, .int .i64 0, .int .i64 0, .int .i64 0, .int .i64 0] := rfl
theorem ucC_six (n : Nat) : ucC n 6 = #[.int .i64 (un n 0), .int .i64 (un n 1), .int .i64 (un n 2), .int .i64 (un n 3), .int .i64 (un n 4), .int .i64 (un n 5)] := rfl
theorem ucC_step (n k : Nat) (hk : k < 6) : (ucC n k).setIfInBounds k (.int .i64 (un n k)) = ucC n (k + 1) := by
  rcases lt_six hk with rfl | rfl | rfl | rfl | rfl | rfl <;> rfl
theorem ucC_at (n k : Nat) (hk : k < 6) : (ucC n (k + 1))[k]? = some (.int .i64 (un n k)) := by
  rcases lt_six hk with rfl | rfl | rfl | rfl | rfl | rfl <;> rfl
theorem ucC_now (n k : Nat) (hk : k < 6) : (ucC n k)[k]? = some (.int .i64 0) := by
  rcases lt_six hk with rfl | rfl | rfl | rfl | rfl | rfl <;> rfl
theorem un_lt (n k : Nat) (hk : k < 6) : gt n (pA k) (pN k) < 16777216 := by
  have h := gt_lt n (pA k) (pN k)
  have h2 : 2 ^ pN k ≤ 16777216 := by rcases lt_six hk with rfl | rfl | rfl | rfl | rfl | rfl <;> decide
  omega

/-- What unpack answers. -/
def UnpackSaid (n : Nat) (w : World) (e : Ending) (w' : World) : Prop :=
  (MayTo (un n) 6 → e = .returned (.tuple #[.agg #[.int .i64 (un n 0), .int .i64 (un n 1), .int .i64 (un n 2), .int .i64 (un n 3), .int .i64 (un n 4), .int .i64 (un n 5)], .bool true])) ∧
  (¬ MayTo (un n) 6 → e = .returned (.tuple #[.agg #[.int .i64 0, .int .i64 0, .int .i64 0, .int .i64 0, .int .i64 0, .int .i64 0], .bool false])) ∧ Only nob w w'

/-- The world in which unpack begins. -/
theorem unpack_world (w : World) : ∃ W, ((w.alloc (.cells #[.int .i64 0, .int .i64 0, .int .i64 0, .int .i64 0, .int .i64 0, .int .i64 0] 115)).alloc (.cells #[.int .i64 0, .int .i64 0, .int .i64 0, .int .i64 0, .int .i64 0, .int .i64 0] 115)) = W ∧
    Hid (Only nob w W ∧ Blk W w.heap.size 115 #[.int .i64 0, .int .i64 0, .int .i64 0, .int .i64 0, .int .i64 0, .int .i64 0] ∧ Blk W (w.heap.size + 1) 115 #[.int .i64 0, .int .i64 0, .int .i64 0, .int .i64 0, .int .i64 0, .int .i64 0]) :=
  ⟨_, rfl, ((Only.refl nob w).alloc _).alloc _, (Blk.newAt _ _ _ _ rfl).alloc _, Blk.newAt _ _ _ _ (by simp)⟩

set_option maxRecDepth 100000 in
set_option maxHeartbeats 1000000 in
theorem unpack_said (n : Nat) (hn : n < full) (w : World) (hp : Par w) : Calls Tryz.prog 88 #[.int .u64 n] w (UnpackSaid n w) := by
  have mixed : Tryz.prog.follows .mixedOrders = true := by kernel_rfl
  obtain ⟨W, hW, HB⟩ := unpack_world w
  obtain ⟨t, fr, hP⟩ := hp.old (hW ▸ HB.out.1 : Only nob w ((w.alloc (.cells #[.int .i64 0, .int .i64 0, .int .i64 0, .int .i64 0, .int .i64 0, .int .i64 0] 115)).alloc (.cells #[.int .i64 0, .int .i64 0, .int .i64 0, .int .i64 0, .int .i64 0, .int .i64 0] 115)))
  have HWE := Lib.hid hW
  clear hW hp
  go_enter Tryz.func88, Tryz.ntmps88
  go_wp2_with (refine wpList_load_row rfl 135 _ rfl 0 rfl t parC fr _ hP Tryz.underlying135 rfl (by kernel_rfl) ?_)
  clear hP
  rw [HWE.out]
  go_loopw [10] (fun i wr => ∃ k : Nat, k ≤ 6 ∧ i = .int .i64 k ∧ MayTo (un n) k ∧ Only nob w wr ∧ Blk wr w.heap.size 115 #[.int .i64 0, .int .i64 0, .int .i64 0, .int .i64 0, .int .i64 0, .int .i64 0] ∧ Blk wr (w.heap.size + 1) 115 (ucC n k)) (fun i _ => 6 - (intOf i).toNat)
  case atStart => exact ⟨0, Nat.zero_le _, rfl, MayTo.zero _, HB.out⟩
  case round =>
    obtain ⟨k, hk, rfl, hM, hO⟩ := hrel
    have HM := Lib.hid hM
    have HO := Lib.hid hO
    clear hM hO
    by_cases hlt : k < 6
    · obtain ⟨W2, hW2, HB2⟩ := box_part wr (pA k : Nat) (pN k : Nat) (pL k) (pU k)
      have HW2 := Lib.hid hW2
      have hx := part_at k hlt
      clear hW2
      obtain ⟨-, c0, c1, c2, c3⟩ := HB2.out
      have HF := Lib.hid (part_fits k hlt)
      go_wp2_with fail
      rw [HW2.out]
      go_at_call 109
      refine (get_only n _ _ _ hn HF.out.1 HF.out.2).mono ?_
      rintro e w3 ⟨rfl, o⟩
      have O3 := Lib.hid (HB2.out.1.trans o)
      have OO := Lib.hid o
      clear o c0 c1 c2 c3
      have hg := un_lt n k hlt
      have f0 := (HO.out.2.2.keep O3.out id).free k
      have g0 := ((HO.out.2.2.keep O3.out id).cell k).trans (ucC_now n k hlt)
      obtain ⟨W4, hW4, HB4⟩ := put_new (HO.out.1.trans O3.out) (Nat.le_succ _) (HO.out.2.2.keep O3.out id) k (.int .i64 (gt n (pA k) (pN k) : Nat))
      have HW4 := Lib.hid hW4
      obtain ⟨y, hy⟩ : ∃ y, un n k = y := ⟨_, rfl⟩
      have HY := Lib.hid hy
      have HN := Lib.hid (And.intro HB4.out.1 (And.intro (HB4.out.2.2.1 w.heap.size _ _ (by omega) (HO.out.2.1.keep O3.out id)) (show Blk W4 (w.heap.size + 1) 115 (ucC n (k + 1)) from ucC_step n k hlt ▸ HB4.out.2.1)))
      have HG : wr.heap.size ≠ w.heap.size + 1 := by have := HO.out.2.2.lt; omega
      have HP4 := Lib.hid (show W4.cell? ⟨wr.heap.size, 0, none⟩ = some (.int .i64 (pA k : Nat)) ∧ W4.cell? ⟨wr.heap.size, 1, none⟩ = some (.int .i64 (pN k : Nat)) ∧ W4.cell? ⟨wr.heap.size, 2, none⟩ = some (.int .i64 (pL k)) ∧ W4.cell? ⟨wr.heap.size, 3, none⟩ = some (.int .i64 (pU k)) from ⟨(HB4.out.2.2.2 _ HG).trans (OO.out.keeps HB2.out.2.1), (HB4.out.2.2.2 _ HG).trans (OO.out.keeps HB2.out.2.2.1), (HB4.out.2.2.2 _ HG).trans (OO.out.keeps HB2.out.2.2.2.1), (HB4.out.2.2.2 _ HG).trans (OO.out.keeps HB2.out.2.2.2.2)⟩)
      have c0 := wat_cell HP4.out.1
      have c1 := wat_cell HP4.out.2.1
      have c2 := wat_cell HP4.out.2.2.1
      have c3 := wat_cell HP4.out.2.2.2
      have c4 := wat_cell ((HN.out.2.2.cell k).trans ((ucC_at n k hlt).trans (by rw [hy])))
      clear hW4 hy HG
      by_cases hm : vin y (pL k) (pU k) = true
      · have HC := Lib.hid (show ∀ n os, Calls Tryz.prog 110 #[.agg #[.int .i64 (pA k : Nat), .int .i64 (pN k : Nat), .int .i64 (pL k), .int .i64 (pU k)], .int .i64 y] (wat W4 n os) fun e w' => e = .returned (.bool true) ∧ Only nob (wat W4 n os) w' from fun n os => hm ▸ partMay_any _ _ _ _ _ _)
        go_wp2_with fail
        rw [HW4.out]
        refine wp_region_only mixed (by kernel_rfl) ?_
        repeat (quiet_step ((go_at_call 110; with_reducible refine wat_call (HC.out _ _))))
        refine wpQuiet_nil ?_
        rintro w' ⟨⟨nq, osq⟩, rfl⟩
        obtain ⟨W5, hW5, O5⟩ := wat_name W4 nq osq
        rw [hW5]
        clear c0 c1 c2 c3 c4 f0 g0
        go_wp2
        go_roundw
        case rel => exact ⟨k + 1, by omega, by go_num, HM.out.succ (HY.out ▸ hm), HN.out.1.trans O5.out, HN.out.2.1.keep O5.out id, HN.out.2.2.keep O5.out id⟩
        case measure => simp [intOf]; omega
      · have hm' : vin y (pL k) (pU k) = false := by simpa using hm
        have HC := Lib.hid (show ∀ n os, Calls Tryz.prog 110 #[.agg #[.int .i64 (pA k : Nat), .int .i64 (pN k : Nat), .int .i64 (pL k), .int .i64 (pU k)], .int .i64 y] (wat W4 n os) fun e w' => e = .returned (.bool false) ∧ Only nob (wat W4 n os) w' from fun n os => hm' ▸ partMay_any _ _ _ _ _ _)
        clear hm'
        go_wp2_with fail
        rw [HW4.out]
        refine wp_region_only mixed (by kernel_rfl) ?_
        repeat (quiet_step ((go_at_call 110; with_reducible refine wat_call (HC.out _ _))))
        refine wpQuiet_nil ?_
        rintro w' ⟨⟨nq, osq⟩, rfl⟩
        obtain ⟨W5, hW5, O5⟩ := wat_name W4 nq osq
        rw [hW5]
        clear c0 c1 c2 c3 c4 f0 g0
        have B5 := HN.out.2.1.keep O5.out id
        obtain ⟨s0, s1, s2, s3, s4, s5⟩ := cells6 B5
        obtain ⟨r0, r1, r2, r3, r4, r5⟩ := frees6 B5
        have HB5 := Lib.hid B5
        clear B5
        go_wp2
        clear s0 s1 s2 s3 s4 s5 r0 r1 r2 r3 r4 r5
        obtain ⟨W6, hW6, O6, B6⟩ := puts6 (HN.out.1.trans O5.out) (Nat.le_refl _) HB5.out (.int .i64 0) (.int .i64 0) (.int .i64 0) (.int .i64 0) (.int .i64 0) (.int .i64 0)
        with_reducible rw [hW6]
        obtain ⟨h0, h1, h2, h3, h4, h5⟩ := cells6 B6
        exact bodyPost_ret (v := .tuple #[.agg #[.int .i64 0, .int .i64 0, .int .i64 0, .int .i64 0, .int .i64 0, .int .i64 0], .bool false]) (by simp [results, Tryz.results88, go_sem, h0, h1, h2, h3, h4, h5]) rfl ⟨fun h => absurd (HY.out ▸ h k hlt) hm, fun _ => rfl, O6⟩
    · obtain rfl : k = 6 := by omega
      have B5 := HO.out.2.1
      have B6 : Blk wr (w.heap.size + 1) 115 #[.int .i64 (un n 0), .int .i64 (un n 1), .int .i64 (un n 2), .int .i64 (un n 3), .int .i64 (un n 4), .int .i64 (un n 5)] := ucC_six n ▸ HO.out.2.2
      obtain ⟨s0, s1, s2, s3, s4, s5⟩ := cells6 B5
      obtain ⟨r0, r1, r2, r3, r4, r5⟩ := frees6 B5
      obtain ⟨q0, q1, q2, q3, q4, q5⟩ := cells6 B6
      have HB5 := Lib.hid B5
      clear B5 B6
      go_wp2
      clear s0 s1 s2 s3 s4 s5 r0 r1 r2 r3 r4 r5 q0 q1 q2 q3 q4 q5
      obtain ⟨W6, hW6, O6, B6⟩ := puts6 HO.out.1 (Nat.le_refl _) HB5.out (.int .i64 (un n 0)) (.int .i64 (un n 1)) (.int .i64 (un n 2)) (.int .i64 (un n 3)) (.int .i64 (un n 4)) (.int .i64 (un n 5))
      with_reducible rw [hW6]
      obtain ⟨h0, h1, h2, h3, h4, h5⟩ := cells6 B6
      exact bodyPost_ret (v := .tuple #[.agg #[.int .i64 (un n 0), .int .i64 (un n 1), .int .i64 (un n 2), .int .i64 (un n 3), .int .i64 (un n 4), .int .i64 (un n 5)], .bool true]) (by simp [results, Tryz.results88, go_sem, h0, h1, h2, h3, h4, h5]) rfl ⟨fun _ => rfl, fun h => absurd HM.out h, O6⟩
end Go.Proofs.YtciidodmhigpdaaGreatDoor

/- Headers as words: numbersOf, headOf, Enc, Dec, Size, Forward, Forwarded of package head. -/
namespace Go.Proofs.YtciidodmhigpdaaGreatDoor
open Go.RowKit

/-- A header in a block of the call's own. -/
theorem box_head (w : World) (k f r : Int) (m : Bool) (c : Int) : ∃ W, w.alloc (.cells #[.int .i64 k, .int .i64 f, .int .i64 r, .bool m, .int .i64 c] 36) = W ∧ Hid (Only nob w W ∧ Blk W w.heap.size 36 #[.int .i64 k, .int .i64 f, .int .i64 r, .bool m, .int .i64 c]) :=
  ⟨_, rfl, Lib.hid ⟨(Only.refl nob w).alloc _, Blk.new w _ _⟩⟩

theorem bi_t : bi true = 1 := rfl
theorem bi_f : bi false = 0 := rfl
/-- The world in which numbersOf hands back. -/
theorem numbers_world (w : World) (o : Obj) (x0 x1 x2 x3 x4 x5 : Int) : ∃ W, (((w.alloc o).alloc (.cells #[.int .i64 0, .int .i64 0, .int .i64 0, .int .i64 0, .int .i64 0, .int .i64 0] 115)).alloc (.cells #[.int .i64 x0, .int .i64 x1, .int .i64 x2, .int .i64 x3, .int .i64 x4, .int .i64 x5] 115)) = W ∧
    Hid (Only nob w W ∧ Blk W (w.heap.size + 1) 115 #[.int .i64 0, .int .i64 0, .int .i64 0, .int .i64 0, .int .i64 0, .int .i64 0] ∧ Blk W (w.heap.size + 1 + 1) 115 #[.int .i64 x0, .int .i64 x1, .int .i64 x2, .int .i64 x3, .int .i64 x4, .int .i64 x5]) :=
  ⟨_, rfl, (((Only.refl nob w).alloc _).alloc _).alloc _, (Blk.newAt _ _ _ _ (by simp)).alloc _, Blk.newAt _ _ _ _ (by simp)⟩
set_option maxRecDepth 100000 in
set_option maxHeartbeats 1000000 in
theorem numbersOf_any (k f r : Int) (m : Bool) (c : Int) (w : World) : Calls Tryz.prog 91 #[.agg #[.int .i64 k, .int .i64 f, .int .i64 r, .bool m, .int .i64 c]] w fun e w' => e = .returned (numV k f r m c) ∧ Only nob w w' := by
  obtain ⟨W, hW, HB⟩ := numbers_world w (.cells #[.int .i64 k, .int .i64 f, .int .i64 r, .bool m, .int .i64 c] 36) 3 (bi m) k f r c
  have HWE := Lib.hid hW
  obtain ⟨s0, s1, s2, s3, s4, s5⟩ := cells6 HB.out.2.1
  obtain ⟨r0, r1, r2, r3, r4, r5⟩ := frees6 HB.out.2.1
  obtain ⟨q0, q1, q2, q3, q4, q5⟩ := cells6 HB.out.2.2
  clear hW
  cases m
  · rw [bi_f] at HWE q1
    go_enter Tryz.func91, Tryz.ntmps91
    go_upto_region 4 with fail
    rw [HWE.out]
    go_wp2
    clear s0 s1 s2 s3 s4 s5 r0 r1 r2 r3 r4 r5 q0 q1 q2 q3 q4 q5
    obtain ⟨W6, hW6, O6, B6⟩ := puts6 HB.out.1 (by omega) HB.out.2.1 (.int .i64 3) (.int .i64 0) (.int .i64 k) (.int .i64 f) (.int .i64 r) (.int .i64 c)
    with_reducible rw [hW6]
    obtain ⟨h0, h1, h2, h3, h4, h5⟩ := cells6 B6
    exact bodyPost_ret (v := .agg #[.int .i64 3, .int .i64 0, .int .i64 k, .int .i64 f, .int .i64 r, .int .i64 c]) (by simp [results, Tryz.results91, go_sem, h0, h1, h2, h3, h4, h5]) rfl ⟨rfl, O6⟩
  · rw [bi_t] at HWE q1
    go_enter Tryz.func91, Tryz.ntmps91
    go_upto_region 4 with fail
    rw [HWE.out]
    go_wp2
    clear s0 s1 s2 s3 s4 s5 r0 r1 r2 r3 r4 r5 q0 q1 q2 q3 q4 q5
    obtain ⟨W6, hW6, O6, B6⟩ := puts6 HB.out.1 (by omega) HB.out.2.1 (.int .i64 3) (.int .i64 1) (.int .i64 k) (.int .i64 f) (.int .i64 r) (.int .i64 c)
    with_reducible rw [hW6]
    obtain ⟨h0, h1, h2, h3, h4, h5⟩ := cells6 B6
    exact bodyPost_ret (v := .agg #[.int .i64 3, .int .i64 1, .int .i64 k, .int .i64 f, .int .i64 r, .int .i64 c]) (by simp [results, Tryz.results91, go_sem, h0, h1, h2, h3, h4, h5]) rfl ⟨rfl, O6⟩

theorem headOf_any (x0 x1 x2 x3 x4 x5 : Int) (w : World) : Calls Tryz.prog 89 #[.agg #[.int .i64 x0, .int .i64 x1, .int .i64 x2, .int .i64 x3, .int .i64 x4, .int .i64 x5]] w fun e w' => e = .returned (.agg #[.int .i64 x2, .int .i64 x3, .int .i64 x4, .bool (x1 == 1), .int .i64 x5]) ∧ Only nob w w' := by
  go_enter Tryz.func89, Tryz.ntmps89
  go_wp2
  obtain ⟨W4, hW4, H4⟩ := box_head (w.alloc (.cells #[.int .i64 x0, .int .i64 x1, .int .i64 x2, .int .i64 x3, .int .i64 x4, .int .i64 x5] 115)) x2 x3 x4 (x1 == 1) x5
  rw [hW4]
  obtain ⟨h0, h1, h2, h3, h4⟩ := cells5 H4.out.2
  have O4 := ((Only.refl nob w).alloc _).trans H4.out.1
  simp at h0 h1 h2 h3 h4
  exact bodyPost_ret (v := .agg #[.int .i64 x2, .int .i64 x3, .int .i64 x4, .bool (x1 == 1), .int .i64 x5]) (by simp [results, Tryz.results89, go_sem, h0, h1, h2, h3, h4]) rfl ⟨rfl, O4⟩
end Go.Proofs.YtciidodmhigpdaaGreatDoor

/- Headers as words: Enc, Dec, Size, Forward, Forwarded of package head. -/
namespace Go.Proofs.YtciidodmhigpdaaGreatDoor
open Go.RowKit

/-- The word of a header, and the error; its size. -/
def hEW (k f r : Int) (m : Bool) (c : Int) : Int := if hmay k f r c then hW k f r m c else 0
def hEE (k f r c : Int) : Int := if hmay k f r c then 0 else 1
def hSz (k f r c : Int) : Int := if hmay k f r c then 1 + f + r else 0
theorem hEW_yes {k f r c : Int} (m : Bool) (h : hmay k f r c = true) : hEW k f r m c = hW k f r m c := by unfold hEW; rw [h]; rfl
theorem hEE_yes {k f r c : Int} (h : hmay k f r c = true) : hEE k f r c = 0 := by unfold hEE; rw [h]; rfl
theorem hSz_yes {k f r c : Int} (h : hmay k f r c = true) : hSz k f r c = 1 + f + r := by unfold hSz; rw [h]; rfl
theorem hEW_no {k f r c : Int} (m : Bool) (h : hmay k f r c = false) : hEW k f r m c = 0 := by unfold hEW; rw [h]; rfl
theorem hEE_no {k f r c : Int} (h : hmay k f r c = false) : hEE k f r c = 1 := by unfold hEE; rw [h]; rfl
theorem hSz_no {k f r c : Int} (h : hmay k f r c = false) : hSz k f r c = 0 := by unfold hSz; rw [h]; rfl

theorem pack_yes {k f r : Int} (m : Bool) {c : Int} (h : hmay k f r c = true) (w : World) (hp : Par w) : Calls Tryz.prog 90 #[numV k f r m c] w fun e w' => e = .returned (.tuple #[.int .u64 (hW k f r m c), .bool true]) ∧ Only nob w w' :=
  (pack_said 3 (bi m) k f r c w hp).mono fun e w' ⟨h1, _, h3⟩ => ⟨(h1 ((mayTo_iff k f r m c).2 h)).trans (by rw [show ((accW (num6 3 (bi m) k f r c) 6 : Nat) : Int) = hW k f r m c from accW_is m h]), h3⟩
theorem pack_no {k f r : Int} (m : Bool) {c : Int} (h : hmay k f r c = false) (w : World) (hp : Par w) : Calls Tryz.prog 90 #[numV k f r m c] w fun e w' => e = .returned (.tuple #[.int .u64 0, .bool false]) ∧ Only nob w w' :=
  (pack_said 3 (bi m) k f r c w hp).mono fun e w' ⟨_, h2, h3⟩ => ⟨h2 (fun hm => by rw [(mayTo_iff k f r m c).1 hm] at h; cases h), h3⟩

theorem hSize_any (k f r : Int) (m : Bool) (c : Int) (w : World) (hp : Par w) : Calls Tryz.prog 62 #[.agg #[.int .i64 k, .int .i64 f, .int .i64 r, .bool m, .int .i64 c]] w fun e w' => e = .returned (.int .i64 (hSz k f r c)) ∧ Only nob w w' := by
  obtain ⟨W, hW0, HB⟩ := box_head w k f r m c
  have HWE := Lib.hid hW0
  have HP := Lib.hid hp
  obtain ⟨c0, c1, c2, c3, c4⟩ := cells5 HB.out.2
  clear hW0 hp
  rcases hm : hmay k f r c with _ | _
  case' false =>
    rw [hSz_no hm]
    have HC := Lib.hid (fun w hp => pack_no m hm w hp)
  case' true =>
    rw [hSz_yes hm]
    have HC := Lib.hid (fun w hp => pack_yes m hm w hp)
    obtain ⟨-, ⟨b1, b2⟩, ⟨b3, b4⟩, -⟩ := hmay_iff.1 hm
  all_goals
    clear hm
    go_enter Tryz.func62, Tryz.ntmps62
    go_wp2_with fail
    rw [HWE.out]
    go_at_call 91
    refine (numbersOf_any k f r m c _).mono ?_
    rintro e w1 ⟨rfl, o⟩
    have O1 := Lib.hid (HB.out.1.trans o)
    have B1 := Lib.hid (HB.out.2.keep o id)
    clear o c0 c1 c2 c3 c4
    go_wp2_with fail
    go_at_call 90
    refine (HC.out _ (HP.out.old O1.out)).mono ?_
    rintro e w2 ⟨rfl, o⟩
    have O2 := Lib.hid (O1.out.trans o)
    obtain ⟨c0, c1, c2, c3, c4⟩ := cells5 (B1.out.keep o id)
    clear o
    go_wp2
    go_ret
    exact ⟨rfl, O2.out⟩

/-- The numbers of a word. -/
def wK (n : Nat) : Int := (n / 8 % 32 : Nat)
def wF (n : Nat) : Int := (n / 256 % 65536 : Nat)
def wR (n : Nat) : Int := (n / 16777216 % 65536 : Nat)
def wM (n : Nat) : Bool := n / 4 % 2 == 1
def wC (n : Nat) : Int := (n / 1099511627776 : Nat)
/-- Is it a header's? -/
def wOk (n : Nat) : Bool := n % 4 == 3 && hmay (wK n) (wF n) (wR n) (wC n)
theorem un_0 (n : Nat) : un n 0 = (n % 4 : Nat) := by show ((n / 2 ^ 0 % 2 ^ 2 : Nat) : Int) = _; simp
theorem un_1 (n : Nat) : un n 1 = (n / 4 % 2 : Nat) := rfl
theorem un_2 (n : Nat) : un n 2 = wK n := rfl
theorem un_3 (n : Nat) : un n 3 = wF n := rfl
theorem un_4 (n : Nat) : un n 4 = wR n := rfl
theorem un_5 {n : Nat} (hn : n < full) : un n 5 = wC n := by
  show ((n / 1099511627776 % 16777216 : Nat) : Int) = ((n / 1099511627776 : Nat) : Int)
  rw [Nat.mod_eq_of_lt (by unfold full at hn; omega)]
theorem un_1b (n : Nat) : (un n 1 == 1) = wM n := by
  rw [un_1]
  unfold wM
  rw [Bool.eq_iff_iff]
  simp only [beq_iff_eq]
  omega
theorem mayTo_un {n : Nat} (hn : n < full) : MayTo (un n) 6 ↔ wOk n = true := by
  unfold wOk
  rw [Bool.and_eq_true, beq_iff_eq, hmay_iff]
  constructor
  · intro h
    have h0 := vin_iff.1 (h 0 (by decide))
    rw [un_0] at h0
    have h2 := vin_iff.1 (h 2 (by decide))
    have h3 := vin_iff.1 (h 3 (by decide))
    have h4 := vin_iff.1 (h 4 (by decide))
    have h5 := vin_iff.1 (h 5 (by decide))
    rw [un_5 hn] at h5
    refine ⟨?_, h2, h3, h4, h5⟩
    simp only [pL, pU] at h0
    omega
  · rintro ⟨h0, h1, h2, h3, h4⟩ i hi
    rcases lt_six hi with rfl | rfl | rfl | rfl | rfl | rfl
    · rw [un_0, h0]; decide
    · rw [un_1]; exact vin_yes (by simp only [pL]; omega) (by simp only [pU]; omega)
    · exact vin_yes h1.1 h1.2
    · exact vin_yes h2.1 h2.2
    · exact vin_yes h3.1 h3.2
    · rw [un_5 hn]; exact vin_yes h4.1 h4.2
theorem unpack_yes {n : Nat} (hn : n < full) (h : wOk n = true) (w : World) (hp : Par w) : Calls Tryz.prog 88 #[.int .u64 n] w fun e w' => e = .returned (.tuple #[.agg #[.int .i64 (un n 0), .int .i64 (un n 1), .int .i64 (wK n), .int .i64 (wF n), .int .i64 (wR n), .int .i64 (wC n)], .bool true]) ∧ Only nob w w' :=
  (unpack_said n hn w hp).mono fun e w' ⟨h1, _, h3⟩ => ⟨(h1 ((mayTo_un hn).2 h)).trans (by rw [un_5 hn]; rfl), h3⟩
theorem unpack_no {n : Nat} (hn : n < full) (h : wOk n = false) (w : World) (hp : Par w) : Calls Tryz.prog 88 #[.int .u64 n] w fun e w' => e = .returned (.tuple #[.agg #[.int .i64 0, .int .i64 0, .int .i64 0, .int .i64 0, .int .i64 0, .int .i64 0], .bool false]) ∧ Only nob w w' :=
  (unpack_said n hn w hp).mono fun e w' ⟨_, h2, h3⟩ => ⟨h2 (fun hm => by rw [(mayTo_un hn).1 hm] at h; cases h), h3⟩

/-- The header of a word, and the error. -/
def oK (n : Nat) : Int := if wOk n then wK n else 0
def oF (n : Nat) : Int := if wOk n then wF n else 0
def oR (n : Nat) : Int := if wOk n then wR n else 0
def oM (n : Nat) : Bool := wOk n && wM n
def oC (n : Nat) : Int := if wOk n then wC n else 0
def oE (n : Nat) : Int := if wOk n then 0 else 3
theorem o_yes {n : Nat} (h : wOk n = true) : oK n = wK n ∧ oF n = wF n ∧ oR n = wR n ∧ oM n = wM n ∧ oC n = wC n ∧ oE n = 0 := by
  unfold oK oF oR oM oC oE; rw [h]; exact ⟨rfl, rfl, rfl, rfl, rfl, rfl⟩
theorem o_no {n : Nat} (h : wOk n = false) : oK n = 0 ∧ oF n = 0 ∧ oR n = 0 ∧ oM n = false ∧ oC n = 0 ∧ oE n = 3 := by
  unfold oK oF oR oM oC oE; rw [h]; exact ⟨rfl, rfl, rfl, rfl, rfl, rfl⟩
theorem zero_head (w : World) : ∃ W, w.alloc (.cells #[.int .i64 0, .int .i64 0, .int .i64 0, .bool false, .int .i64 0] 36) = W ∧ Hid (Only nob w W ∧ Blk W w.heap.size 36 #[.int .i64 0, .int .i64 0, .int .i64 0, .bool false, .int .i64 0]) := box_head w 0 0 0 false 0

set_option maxRecDepth 100000 in
set_option maxHeartbeats 1000000 in
theorem hDec_yes {n : Nat} (hn : n < full) (h : wOk n = true) (w : World) (hp : Par w) : Calls Tryz.prog 61 #[.int .u64 n] w fun e w' => e = .returned (.tuple #[.agg #[.int .i64 (wK n), .int .i64 (wF n), .int .i64 (wR n), .bool (wM n), .int .i64 (wC n)], .int .i64 0]) ∧ Only nob w w' := by
  obtain ⟨W, hW0, HB⟩ := zero_head w
  have HWE := Lib.hid hW0
  have HP := Lib.hid hp
  have HC := Lib.hid (fun w hp => unpack_yes hn h w hp)
  have HM := Lib.hid (un_1b n)
  clear hW0 hp h hn
  go_enter Tryz.func61, Tryz.ntmps61
  go_wp2_with fail
  rw [HWE.out]
  go_at_call 88
  refine (HC.out _ (HP.out.old HB.out.1)).mono ?_
  rintro e w1 ⟨rfl, o⟩
  have O1 := Lib.hid (HB.out.1.trans o)
  have B1 := Lib.hid (HB.out.2.keep o id)
  clear o
  obtain ⟨W2, hW2, HB2⟩ := box_six w1 (un n 0) (un n 1) (wK n) (wF n) (wR n) (wC n)
  have HW2 := Lib.hid hW2
  clear hW2
  go_upto_region 4 with fail
  rw [HW2.out]
  have c0 := HB2.out.2 0 (by decide)
  have c1 := HB2.out.2 1 (by decide)
  have c2 := HB2.out.2 2 (by decide)
  have c3 := HB2.out.2 3 (by decide)
  have c4 := HB2.out.2 4 (by decide)
  have c5 := HB2.out.2 5 (by decide)
  simp only [num6] at c0 c1 c2 c3 c4 c5
  go_wp2_with fail
  go_at_call 89
  refine (headOf_any _ _ _ _ _ _ _).mono ?_
  rw [HM.out]
  rintro e w3 ⟨rfl, o⟩
  have O3 := Lib.hid (O1.out.trans (HB2.out.1.trans o))
  have B3 := Lib.hid (B1.out.keep (HB2.out.1.trans o) id)
  clear o c0 c1 c2 c3 c4 c5
  obtain ⟨s0, s1, s2, s3, s4⟩ := cells5 B3.out
  obtain ⟨r0, r1, r2, r3, r4⟩ := frees5 B3.out
  go_wp2
  clear s0 s1 s2 s3 s4 r0 r1 r2 r3 r4
  obtain ⟨W6, hW6, O6, B6⟩ := puts5 O3.out (Nat.le_refl _) B3.out (.int .i64 (wK n)) (.int .i64 (wF n)) (.int .i64 (wR n)) (.bool (wM n)) (.int .i64 (wC n))
  with_reducible rw [hW6]
  obtain ⟨h0, h1, h2, h3, h4⟩ := cells5 B6
  exact bodyPost_ret (v := .tuple #[.agg #[.int .i64 (wK n), .int .i64 (wF n), .int .i64 (wR n), .bool (wM n), .int .i64 (wC n)], .int .i64 0]) (by simp [results, Tryz.results61, go_sem, h0, h1, h2, h3, h4]) rfl ⟨rfl, O6⟩
set_option maxRecDepth 100000 in
set_option maxHeartbeats 1000000 in
theorem hDec_no {n : Nat} (hn : n < full) (h : wOk n = false) (w : World) (hp : Par w) : Calls Tryz.prog 61 #[.int .u64 n] w fun e w' => e = .returned (.tuple #[.agg #[.int .i64 0, .int .i64 0, .int .i64 0, .bool false, .int .i64 0], .int .i64 3]) ∧ Only nob w w' := by
  obtain ⟨W, hW0, HB⟩ := zero_head w
  have HWE := Lib.hid hW0
  have HP := Lib.hid hp
  have HC := Lib.hid (fun w hp => unpack_no hn h w hp)
  clear hW0 hp h hn
  go_enter Tryz.func61, Tryz.ntmps61
  go_wp2_with fail
  rw [HWE.out]
  go_at_call 88
  refine (HC.out _ (HP.out.old HB.out.1)).mono ?_
  rintro e w1 ⟨rfl, o⟩
  have O1 := Lib.hid (HB.out.1.trans o)
  have B1 := Lib.hid (HB.out.2.keep o id)
  clear o
  obtain ⟨W2, hW2, HB2⟩ := box_six w1 0 0 0 0 0 0
  have HW2 := Lib.hid hW2
  clear hW2
  go_upto_region 3 with fail
  rw [HW2.out]
  have O3 := Lib.hid (O1.out.trans HB2.out.1)
  have B3 := Lib.hid (B1.out.keep HB2.out.1 id)
  obtain ⟨s0, s1, s2, s3, s4⟩ := cells5 B3.out
  obtain ⟨r0, r1, r2, r3, r4⟩ := frees5 B3.out
  go_wp2
  clear s0 s1 s2 s3 s4 r0 r1 r2 r3 r4
  obtain ⟨W6, hW6, O6, B6⟩ := puts5 O3.out (Nat.le_refl _) B3.out (.int .i64 0) (.int .i64 0) (.int .i64 0) (.bool false) (.int .i64 0)
  with_reducible rw [hW6]
  obtain ⟨h0, h1, h2, h3, h4⟩ := cells5 B6
  exact bodyPost_ret (v := .tuple #[.agg #[.int .i64 0, .int .i64 0, .int .i64 0, .bool false, .int .i64 0], .int .i64 3]) (by simp [results, Tryz.results61, go_sem, h0, h1, h2, h3, h4]) rfl ⟨rfl, O6⟩
theorem hDec_any {n : Nat} (hn : n < full) (w : World) (hp : Par w) : Calls Tryz.prog 61 #[.int .u64 n] w fun e w' => e = .returned (.tuple #[.agg #[.int .i64 (oK n), .int .i64 (oF n), .int .i64 (oR n), .bool (oM n), .int .i64 (oC n)], .int .i64 (oE n)]) ∧ Only nob w w' := by
  rcases h : wOk n with _ | _
  · obtain ⟨h1, h2, h3, h4, h5, h6⟩ := o_no h
    rw [h1, h2, h3, h4, h5, h6]
    exact hDec_no hn h w hp
  · obtain ⟨h1, h2, h3, h4, h5, h6⟩ := o_yes h
    rw [h1, h2, h3, h4, h5, h6]
    exact hDec_yes hn h w hp
end Go.Proofs.YtciidodmhigpdaaGreatDoor

/- Headers as words: the document's own answers. -/
namespace Go.Proofs.YtciidodmhigpdaaGreatDoor
open Go.RowKit

theorem ret_pair {a b : Int} {y : Value} (h : a = b) : Ending.returned (.tuple #[.int .u64 a, y]) = .returned (.tuple #[.int .u64 b, y]) := by rw [h]
theorem hmay_no {k f r c : Int} (h : ¬ ((0 ≤ k ∧ k ≤ 31) ∧ (0 ≤ f ∧ f ≤ 4096) ∧ (0 ≤ r ∧ r ≤ 4096) ∧ 0 ≤ c ∧ c ≤ 1048576)) : hmay k f r c = false := by
  rcases hb : hmay k f r c with _ | _
  · rfl
  · exact absurd (hmay_iff.1 hb) h
theorem refMay07_any (k f r : Int) (m : Bool) (c : Int) (w : World) : Calls Tryz.prog 65 #[.agg #[.int .i64 k, .int .i64 f, .int .i64 r, .bool m, .int .i64 c]] w fun e w' => e = .returned (.bool (hmay k f r c)) ∧ Only nob w w' := by
  by_cases h0 : 0 ≤ k
  case neg =>
    have HM := Lib.hid (show hmay k f r c = false from hmay_no (by omega))
    go_enter Tryz.func65, Tryz.ntmps65
    go_wp2
    go_ret
    exact ⟨ret_bool (by rw [HM.out]), (Only.refl _ _).alloc _⟩
  by_cases h1 : k ≤ 31
  case neg =>
    have HM := Lib.hid (show hmay k f r c = false from hmay_no (by omega))
    go_enter Tryz.func65, Tryz.ntmps65
    go_wp2
    go_ret
    exact ⟨ret_bool (by rw [HM.out]), (Only.refl _ _).alloc _⟩
  by_cases h2 : 0 ≤ f
  case neg =>
    have HM := Lib.hid (show hmay k f r c = false from hmay_no (by omega))
    go_enter Tryz.func65, Tryz.ntmps65
    go_wp2
    go_ret
    exact ⟨ret_bool (by rw [HM.out]), (Only.refl _ _).alloc _⟩
  by_cases h3 : f ≤ 4096
  case neg =>
    have HM := Lib.hid (show hmay k f r c = false from hmay_no (by omega))
    go_enter Tryz.func65, Tryz.ntmps65
    go_wp2
    go_ret
    exact ⟨ret_bool (by rw [HM.out]), (Only.refl _ _).alloc _⟩
  by_cases h4 : 0 ≤ r
  case neg =>
    have HM := Lib.hid (show hmay k f r c = false from hmay_no (by omega))
    go_enter Tryz.func65, Tryz.ntmps65
    go_wp2
    go_ret
    exact ⟨ret_bool (by rw [HM.out]), (Only.refl _ _).alloc _⟩
  by_cases h5 : r ≤ 4096
  case neg =>
    have HM := Lib.hid (show hmay k f r c = false from hmay_no (by omega))
    go_enter Tryz.func65, Tryz.ntmps65
    go_wp2
    go_ret
    exact ⟨ret_bool (by rw [HM.out]), (Only.refl _ _).alloc _⟩
  by_cases h6 : 0 ≤ c
  case neg =>
    have HM := Lib.hid (show hmay k f r c = false from hmay_no (by omega))
    go_enter Tryz.func65, Tryz.ntmps65
    go_wp2
    go_ret
    exact ⟨ret_bool (by rw [HM.out]), (Only.refl _ _).alloc _⟩
  by_cases h7 : c ≤ 1048576
  case neg =>
    have HM := Lib.hid (show hmay k f r c = false from hmay_no (by omega))
    go_enter Tryz.func65, Tryz.ntmps65
    go_wp2
    go_ret
    exact ⟨ret_bool (by rw [HM.out]), (Only.refl _ _).alloc _⟩
  have HM := Lib.hid (show hmay k f r c = true from hmay_iff.2 (by omega))
  go_enter Tryz.func65, Tryz.ntmps65
  go_wp2
  go_ret
  exact ⟨ret_bool (by rw [HM.out]), (Only.refl _ _).alloc _⟩

theorem refSize07_any (k f r : Int) (m : Bool) (c : Int) (w : World) : Calls Tryz.prog 30 #[.agg #[.int .i64 k, .int .i64 f, .int .i64 r, .bool m, .int .i64 c]] w fun e w' => e = .returned (.int .i64 (hSz k f r c)) ∧ Only nob w w' := by
  obtain ⟨W, hW0, HB⟩ := box_head w k f r m c
  have HWE := Lib.hid hW0
  obtain ⟨c0, c1, c2, c3, c4⟩ := cells5 HB.out.2
  clear hW0
  rcases hm : hmay k f r c with _ | _
  case' false => rw [hSz_no hm]
  case' true =>
    rw [hSz_yes hm]
    obtain ⟨-, ⟨b1, b2⟩, ⟨b3, b4⟩, -⟩ := hmay_iff.1 hm
  all_goals
    have HM := Lib.hid hm
    clear hm
    go_enter Tryz.func30, Tryz.ntmps30
    go_wp2_with fail
    rw [HWE.out]
    go_at_call 65
    refine (refMay07_any k f r m c _).mono ?_
    rw [HM.out]
    rintro e w1 ⟨rfl, o⟩
    have O1 := Lib.hid (HB.out.1.trans o)
    clear c0 c1 c2 c3 c4
    obtain ⟨c0, c1, c2, c3, c4⟩ := cells5 (HB.out.2.keep o id)
    clear o
    go_wp2
    go_ret
    exact ⟨rfl, O1.out⟩
/-- The numbers of a word, as the document's own answer computes them. -/
theorem u_div {n : Nat} (hn : n < full) (d : Nat) : IntKind.u64.wrap ((n : Int) / (d : Int)) = ((n / d : Nat) : Int) := by
  rw [← Int.natCast_ediv, wrap_id _ (Nat.lt_of_le_of_lt (Nat.div_le_self _ _) hn)]
theorem u_mod (a b : Nat) : ((a : Nat) : Int).tmod (b : Nat) = ((a % b : Nat) : Int) := by rw [Int.tmod_eq_emod_of_nonneg (by omega)]; rfl
theorem i_small {a : Nat} (h : a < 16777217) : wrap64 (a : Int) = (a : Int) := by unfold wrap64; omega
theorem ref_M {n : Nat} (hn : n < full) : ((IntKind.u64.wrap ((n : Int) / 4)).tmod 2 == 1) = wM n := by
  have e := u_div hn 4
  rw [show ((4 : Nat) : Int) = 4 from rfl] at e
  rw [e, show (2 : Int) = ((2 : Nat) : Int) from rfl, u_mod]
  unfold wM
  rw [Bool.eq_iff_iff]
  simp only [beq_iff_eq]
  omega
theorem ref_K {n : Nat} (hn : n < full) : wrap64 ((IntKind.u64.wrap ((n : Int) / 8)).tmod 32) = wK n := by
  have e := u_div hn 8
  rw [show ((8 : Nat) : Int) = 8 from rfl] at e
  rw [e, show (32 : Int) = ((32 : Nat) : Int) from rfl, u_mod, i_small (by omega)]
  rfl
theorem ref_F {n : Nat} (hn : n < full) : wrap64 ((IntKind.u64.wrap ((n : Int) / 256)).tmod 65536) = wF n := by
  have e := u_div hn 256
  rw [show ((256 : Nat) : Int) = 256 from rfl] at e
  rw [e, show (65536 : Int) = ((65536 : Nat) : Int) from rfl, u_mod, i_small (by omega)]
  rfl
theorem ref_R {n : Nat} (hn : n < full) : wrap64 ((IntKind.u64.wrap ((n : Int) / 16777216)).tmod 65536) = wR n := by
  have e := u_div hn 16777216
  rw [show ((16777216 : Nat) : Int) = 16777216 from rfl] at e
  rw [e, show (65536 : Int) = ((65536 : Nat) : Int) from rfl, u_mod, i_small (by omega)]
  rfl
theorem ref_C {n : Nat} (hn : n < full) : wrap64 (IntKind.u64.wrap ((n : Int) / 1099511627776)) = wC n := by
  have e := u_div hn 1099511627776
  rw [show ((1099511627776 : Nat) : Int) = 1099511627776 from rfl] at e
  rw [e, i_small (by unfold full at hn; omega)]
  rfl
theorem ref_t (n : Nat) : ((n : Int)).tmod 4 = ((n % 4 : Nat) : Int) := u_mod n 4
/-- The world in which the document's Dec has made its header. -/
theorem dec_world (w : World) (k f r : Int) (m : Bool) (c : Int) : ∃ W, ((w.alloc (.cells #[.int .i64 0, .int .i64 0, .int .i64 0, .bool false, .int .i64 0] 36)).alloc (.cells #[.int .i64 k, .int .i64 f, .int .i64 r, .bool m, .int .i64 c] 36)) = W ∧
    Hid (Only nob w W ∧ Blk W w.heap.size 36 #[.int .i64 0, .int .i64 0, .int .i64 0, .bool false, .int .i64 0] ∧ Blk W (w.heap.size + 1) 36 #[.int .i64 k, .int .i64 f, .int .i64 r, .bool m, .int .i64 c]) :=
  ⟨_, rfl, ((Only.refl nob w).alloc _).alloc _, (Blk.newAt _ _ _ _ rfl).alloc _, Blk.newAt _ _ _ _ (by simp)⟩

set_option maxRecDepth 100000 in
set_option maxHeartbeats 1000000 in
theorem refDec07_tag {n : Nat} (hn : n < full) (h : ¬ n % 4 = 3) (w : World) : Calls Tryz.prog 29 #[.int .u64 n] w fun e w' => e = .returned (.tuple #[.agg #[.int .i64 0, .int .i64 0, .int .i64 0, .bool false, .int .i64 0], .int .i64 3]) ∧ Only nob w w' := by
  have EM := Lib.hid (ref_M hn)
  have EK := Lib.hid (ref_K hn)
  have EF := Lib.hid (ref_F hn)
  have ER := Lib.hid (ref_R hn)
  have EC := Lib.hid (ref_C hn)
  have ht : ¬ ((n : Int) % 4 = 3) := by omega
  obtain ⟨W, hW0, HB⟩ := dec_world w (wK n) (wF n) (wR n) (wM n) (wC n)
  have HWE := Lib.hid hW0
  clear hW0 h hn
  go_enter Tryz.func29, Tryz.ntmps29
  go_upto_region 2 with fail
  rw [EM.out, EK.out, EF.out, ER.out, EC.out, HWE.out]
  obtain ⟨s0, s1, s2, s3, s4⟩ := cells5 HB.out.2.1
  obtain ⟨r0, r1, r2, r3, r4⟩ := frees5 HB.out.2.1
  go_wp2
  clear s0 s1 s2 s3 s4 r0 r1 r2 r3 r4
  obtain ⟨W6, hW6, O6, B6⟩ := puts5 HB.out.1 (Nat.le_refl _) HB.out.2.1 (.int .i64 0) (.int .i64 0) (.int .i64 0) (.bool false) (.int .i64 0)
  with_reducible rw [hW6]
  obtain ⟨h0, h1, h2, h3, h4⟩ := cells5 B6
  exact bodyPost_ret (v := .tuple #[.agg #[.int .i64 0, .int .i64 0, .int .i64 0, .bool false, .int .i64 0], .int .i64 3]) (by simp [results, Tryz.results29, go_sem, h0, h1, h2, h3, h4]) rfl ⟨rfl, O6⟩
set_option maxRecDepth 100000 in
set_option maxHeartbeats 1000000 in
theorem refDec07_no {n : Nat} (hn : n < full) (h : n % 4 = 3) (hm : hmay (wK n) (wF n) (wR n) (wC n) = false) (w : World) : Calls Tryz.prog 29 #[.int .u64 n] w fun e w' => e = .returned (.tuple #[.agg #[.int .i64 0, .int .i64 0, .int .i64 0, .bool false, .int .i64 0], .int .i64 3]) ∧ Only nob w w' := by
  have EM := Lib.hid (ref_M hn)
  have EK := Lib.hid (ref_K hn)
  have EF := Lib.hid (ref_F hn)
  have ER := Lib.hid (ref_R hn)
  have EC := Lib.hid (ref_C hn)
  have ht : (n : Int) % 4 = 3 := by omega
  have HM := Lib.hid hm
  clear hm
  obtain ⟨W, hW0, HB⟩ := dec_world w (wK n) (wF n) (wR n) (wM n) (wC n)
  have HWE := Lib.hid hW0
  clear hW0 h hn
  go_enter Tryz.func29, Tryz.ntmps29
  go_upto_region 2 with fail
  rw [EM.out, EK.out, EF.out, ER.out, EC.out, HWE.out]
  obtain ⟨c0, c1, c2, c3, c4⟩ := cells5 HB.out.2.2
  go_wp2_with fail
  go_at_call 65
  refine (refMay07_any _ _ _ _ _ _).mono ?_
  rw [HM.out]
  rintro e w1 ⟨rfl, o⟩
  have O1 := Lib.hid (HB.out.1.trans o)
  have B1 := Lib.hid (HB.out.2.1.keep o id)
  obtain ⟨s0, s1, s2, s3, s4⟩ := cells5 B1.out
  obtain ⟨r0, r1, r2, r3, r4⟩ := frees5 B1.out
  clear c0 c1 c2 c3 c4
  obtain ⟨c0, c1, c2, c3, c4⟩ := cells5 (HB.out.2.2.keep o id)
  clear o
  go_wp2
  clear s0 s1 s2 s3 s4 r0 r1 r2 r3 r4 c0 c1 c2 c3 c4
  obtain ⟨W6, hW6, O6, B6⟩ := puts5 O1.out (Nat.le_refl _) B1.out (.int .i64 0) (.int .i64 0) (.int .i64 0) (.bool false) (.int .i64 0)
  with_reducible rw [hW6]
  obtain ⟨h0, h1, h2, h3, h4⟩ := cells5 B6
  exact bodyPost_ret (v := .tuple #[.agg #[.int .i64 0, .int .i64 0, .int .i64 0, .bool false, .int .i64 0], .int .i64 3]) (by simp [results, Tryz.results29, go_sem, h0, h1, h2, h3, h4]) rfl ⟨rfl, O6⟩
set_option maxRecDepth 100000 in
set_option maxHeartbeats 1000000 in
theorem refDec07_yes {n : Nat} (hn : n < full) (h : n % 4 = 3) (hm : hmay (wK n) (wF n) (wR n) (wC n) = true) (w : World) : Calls Tryz.prog 29 #[.int .u64 n] w fun e w' => e = .returned (.tuple #[.agg #[.int .i64 (wK n), .int .i64 (wF n), .int .i64 (wR n), .bool (wM n), .int .i64 (wC n)], .int .i64 0]) ∧ Only nob w w' := by
  have EM := Lib.hid (ref_M hn)
  have EK := Lib.hid (ref_K hn)
  have EF := Lib.hid (ref_F hn)
  have ER := Lib.hid (ref_R hn)
  have EC := Lib.hid (ref_C hn)
  have ht : (n : Int) % 4 = 3 := by omega
  have HM := Lib.hid hm
  clear hm
  obtain ⟨W, hW0, HB⟩ := dec_world w (wK n) (wF n) (wR n) (wM n) (wC n)
  have HWE := Lib.hid hW0
  clear hW0 h hn
  go_enter Tryz.func29, Tryz.ntmps29
  go_upto_region 2 with fail
  rw [EM.out, EK.out, EF.out, ER.out, EC.out, HWE.out]
  obtain ⟨c0, c1, c2, c3, c4⟩ := cells5 HB.out.2.2
  go_wp2_with fail
  go_at_call 65
  refine (refMay07_any _ _ _ _ _ _).mono ?_
  rw [HM.out]
  rintro e w1 ⟨rfl, o⟩
  have O1 := Lib.hid (HB.out.1.trans o)
  have B1 := Lib.hid (HB.out.2.1.keep o id)
  obtain ⟨s0, s1, s2, s3, s4⟩ := cells5 B1.out
  obtain ⟨r0, r1, r2, r3, r4⟩ := frees5 B1.out
  clear c0 c1 c2 c3 c4
  obtain ⟨c0, c1, c2, c3, c4⟩ := cells5 (HB.out.2.2.keep o id)
  clear o
  go_wp2
  clear s0 s1 s2 s3 s4 r0 r1 r2 r3 r4 c0 c1 c2 c3 c4
  obtain ⟨W6, hW6, O6, B6⟩ := puts5 O1.out (Nat.le_refl _) B1.out (.int .i64 (wK n)) (.int .i64 (wF n)) (.int .i64 (wR n)) (.bool (wM n)) (.int .i64 (wC n))
  with_reducible rw [hW6]
  obtain ⟨h0, h1, h2, h3, h4⟩ := cells5 B6
  exact bodyPost_ret (v := .tuple #[.agg #[.int .i64 (wK n), .int .i64 (wF n), .int .i64 (wR n), .bool (wM n), .int .i64 (wC n)], .int .i64 0]) (by simp [results, Tryz.results29, go_sem, h0, h1, h2, h3, h4]) rfl ⟨rfl, O6⟩
theorem refDec07_any {n : Nat} (hn : n < full) (w : World) : Calls Tryz.prog 29 #[.int .u64 n] w fun e w' => e = .returned (.tuple #[.agg #[.int .i64 (oK n), .int .i64 (oF n), .int .i64 (oR n), .bool (oM n), .int .i64 (oC n)], .int .i64 (oE n)]) ∧ Only nob w w' := by
  by_cases h : n % 4 = 3
  · rcases hm : hmay (wK n) (wF n) (wR n) (wC n) with _ | _
    · obtain ⟨h1, h2, h3, h4, h5, h6⟩ := o_no (n := n) (by unfold wOk; rw [hm, Bool.and_false])
      rw [h1, h2, h3, h4, h5, h6]
      exact refDec07_no hn h hm w
    · obtain ⟨h1, h2, h3, h4, h5, h6⟩ := o_yes (n := n) (by unfold wOk; rw [hm, h]; rfl)
      rw [h1, h2, h3, h4, h5, h6]
      exact refDec07_yes hn h hm w
  · obtain ⟨h1, h2, h3, h4, h5, h6⟩ := o_no (n := n) (by unfold wOk; rw [beq_eq_false_iff_ne.2 h, Bool.false_and])
    rw [h1, h2, h3, h4, h5, h6]
    exact refDec07_tag hn h w
set_option maxRecDepth 100000
/-- Two headers against one another. -/
def hsame (k f r : Int) (m : Bool) (c k' f' r' : Int) (m' : Bool) (c' : Int) : Bool := decide (k = k' ∧ f = f' ∧ r = r' ∧ m = m' ∧ c = c')
theorem eqHead (k f r : Int) (m : Bool) (c k' f' r' : Int) (m' : Bool) (c' : Int) (w : World) : (Op.equalIn 10000 36 (.agg #[.int .i64 k, .int .i64 f, .int .i64 r, .bool m, .int .i64 c]) (.agg #[.int .i64 k', .int .i64 f', .int .i64 r', .bool m', .int .i64 c'])).run Tryz.prog w = .ok (hsame k f r m c k' f' r' m' c') w := by
  have hS : Tryz.prog.underlying 36 = some (.struct (Tryz.prog.fieldsOf 36)) := by kernel_rfl
  rw [show (10000 : Nat) = 9999 + 1 from rfl, run_equalIn_agg w 9999 36 _ _ hS (by kernel_rfl)]
  simp only [Program.fieldsOf, Tryz.underlying36]
  go_simp
  unfold hsame
  by_cases h1 : k = k' <;> by_cases h2 : f = f' <;> by_cases h3 : r = r' <;> by_cases h4 : m = m' <;> by_cases h5 : c = c' <;> simp [h1, h2, h3, h4, h5]
end Go.Proofs.YtciidodmhigpdaaGreatDoor

/- A header that came in, opened; the table out of what the row lays; what awake of the headers' statements answers; the walks of HeadWords and HeadApart. -/
namespace Go.Proofs.YtciidodmhigpdaaGreatDoor
set_option maxRecDepth 100000
open Go.ChangeShapes Go.WideShapes Go.RowKit Go.Deep

section
variable {H : Type} {enc : TypeId × Value → H} {w : World} {base b0 : Nat} {r : Reach} {sp : Nat → Bool} {held : Bool}
theorem open_head {v : Value} {d : DataW H} {p : List MemPlace} (hv : Value.okWide Tryz.prog w r b0 36 v) (h : DataW.Trod enc Tryz.prog w base sp held 36 v d p) :
    ∃ (k f r : Int) (m : Bool) (c : Int), v = .agg #[.int .i64 k, .int .i64 f, .int .i64 r, .bool m, .int .i64 c] := by
  obtain ⟨⟨cs⟩, rfl, hsz, k, hg⟩ := open_fields Tryz.underlying36 (by kernel_rfl) (by kernel_rfl) hv h
  match cs, hsz with
  | [u0, u1, u2, u3, u4], _ =>
    obtain ⟨_, _, e0, h0⟩ := hg 0 _ rfl
    obtain ⟨_, _, e1, h1⟩ := hg 1 _ rfl
    obtain ⟨_, _, e2, h2⟩ := hg 2 _ rfl
    obtain ⟨_, _, e3, h3⟩ := hg 3 _ rfl
    obtain ⟨_, _, e4, h4⟩ := hg 4 _ rfl
    obtain ⟨a, i0, -, w0⟩ := DataW.trod_int (k := .i64) (by kernel_rfl) h0
    obtain ⟨b, i1, -, w1⟩ := DataW.trod_int (k := .i64) (by kernel_rfl) h1
    obtain ⟨c, i2, -, w2⟩ := DataW.trod_int (k := .i64) (by kernel_rfl) h2
    obtain ⟨m, i3, -⟩ := DataW.trod_bool (by kernel_rfl) h3
    obtain ⟨e, i4, -, w4⟩ := DataW.trod_int (k := .i64) (by kernel_rfl) h4
    simp at e0 e1 e2 e3 e4 i0 i1 i2 i3 i4
    exact ⟨a, b, c, m, e, by simp [e0, e1, e2, e3, e4, i0, i1, i2, i3, i4]⟩
end
theorem par_of_laid {W : World} (h : laidMetH Tryz.prog [("triforium/head.parts", Rows.laid_triforium_head_parts)] W) : Par W := by
  rw [MakeChecks.laidMetH_plain _ _ _ (by kernel_rfl)] at h
  obtain ⟨ps, ⟨g0, t0, cs0, f0, p0, q0, hg0, ht0, hv0, hd0, _, _⟩, _, _⟩ := h
  obtain rfl := Option.some.inj ((show Tryz.prog.globalNamed "triforium/head.parts" = some 0 by kernel_rfl).symm.trans hg0)
  obtain rfl := Option.some.inj ((show (Tryz.prog.globals[0]?).map (·.type) = some 135 by kernel_rfl).symm.trans ht0)
  have hcs := rows_of_array (rows := [[0, 2, 3, 3], [2, 1, 0, 1], [3, 5, 0, 31], [8, 16, 0, 4096], [24, 16, 0, 4096], [40, 24, 0, 1048576]]) Tryz.underlying135 Tryz.underlying134 (by kernel_rfl) (by kernel_rfl) (by kernel_rfl) (by kernel_rfl) hd0
  obtain ⟨t, fr, hh⟩ := var_block (show Tryz.prog.globalNamed "triforium/head.parts" = some 0 by kernel_rfl) hv0
  have e : cs0 = parC := by
    obtain ⟨l⟩ := cs0
    simp only at hcs
    rw [hcs]
    rfl
  rw [e] at hh
  exact ⟨t, fr, hh⟩

theorem u64_in {a : Int} (h : (Lit.int .u64 a).wf = true) : 0 ≤ a ∧ a < 18446744073709551616 := by
  have := bounds_u64 h
  omega
end Go.Proofs.YtciidodmhigpdaaGreatDoor
