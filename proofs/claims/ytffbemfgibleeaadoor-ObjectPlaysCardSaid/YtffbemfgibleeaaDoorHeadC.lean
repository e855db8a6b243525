/- Headers as words: unpack of package head. -/
import Derived.Test.YtffbemfgibleeaaDoorHeadB
import Derived.Test.YtffbemfgibleeaaDoorCells
namespace Go.Proofs.YtffbemfgibleeaaDoor
open Go.RowKit

/-- The numbers that stand in a word, and the first k of them, the others being 0. -/
def un (n : Nat) (i : Nat) : Int := (gt n (pA i) (pN i) : Nat)
def ucV (n k i : Nat) : Int := if i < k then un n i else 0
def ucC (n k : Nat) : Array Value := #[.int .i64 (ucV n k 0), .int .i64 (ucV n k 1), .int .i64 (ucV n k 2), .int .i64 (ucV n k 3), .int .i64 (ucV n k 4), .int .i64 (ucV n k 5)]
theorem ucC_zero (n : Nat) : ucC n 0 = #[.int .i64 0, .int .i64 0, .int .i64 0, .int .i64 0, .int .i64 0, .int .i64 0] := rfl
theorem ucC_six (n : Nat) : ucC n 6 = #[.int .i64 (un n 0), .int .i64 (un n 1), .int .i64 (un n 2), .int .i64 (un n 3), .int .i64 (un n 4), .int .i64 (un n 5)] := rfl
theorem ucC_step (n k : Nat) (hk : k < 6) : (ucC n k).setIfInBounds k (.int .i64 (un n k)) = ucC n (k + 1) := by
  rcases lt_six hk with rfl | rfl | rfl | rfl | rfl | rfl <;> rfl
theorem ucC_at (n k : Nat) (hk : k < 6) : (ucC n (k + 1))[k]? = some (.int .i64 (un n k)) := by
  rcases lt_six hk with rfl | rfl | rfl | rfl | rfl | rfl <;> rfl
theorem ucC_now (n k : Nat) (hk : k < 6) : (ucC n k)[k]? = some (.int .i64 0) := by
  rcases lt_six hk with rfl | rfl | rfl | rfl | rfl | rfl <;> rfl
theorem un_lt (n k : Nat) (hk : k < 6) : gt n (pA k) (pN k) < 16777216 := by
  have h := gt_lt n (pA k) (pN k)
  have h2 : 2 ^ pN k ≤ 16777216 := by rcases lt_six hk with rfl | rfl | rfl | rfl | rfl | rfl <;> decide
  omega

/-- What unpack answers. -/
def UnpackSaid (n : Nat) (w : World) (e : Ending) (w' : World) : Prop :=
  (MayTo (un n) 6 → e = .returned (.tuple #[.agg #[.int .i64 (un n 0), .int .i64 (un n 1), .int .i64 (un n 2), .int .i64 (un n 3), .int .i64 (un n 4), .int .i64 (un n 5)], .bool true])) ∧
  (¬ MayTo (un n) 6 → e = .returned (.tuple #[.agg #[.int .i64 0, .int .i64 0, .int .i64 0, .int .i64 0, .int .i64 0, .int .i64 0], .bool false])) ∧ Only nob w w'

/-- The world in which unpack begins. -/
theorem unpack_world (w : World) : ∃ W, ((w.alloc (.cells #[.int .i64 0, .int .i64 0, .int .i64 0, .int .i64 0, .int .i64 0, .int .i64 0] 72)).alloc (.cells #[.int .i64 0, .int .i64 0, .int .i64 0, .int .i64 0, .int .i64 0, .int .i64 0] 72)) = W ∧
    Hid (Only nob w W ∧ Blk W w.heap.size 72 #[.int .i64 0, .int .i64 0, .int .i64 0, .int .i64 0, .int .i64 0, .int .i64 0] ∧ Blk W (w.heap.size + 1) 72 #[.int .i64 0, .int .i64 0, .int .i64 0, .int .i64 0, .int .i64 0, .int .i64 0]) :=
  ⟨_, rfl, ((Only.refl nob w).alloc _).alloc _, (Blk.newAt _ _ _ _ rfl).alloc _, Blk.newAt _ _ _ _ (by simp)⟩

set_option maxRecDepth 100000 in
set_option maxHeartbeats 1000000 in
theorem unpack_said (n : Nat) (hn : n < full) (w : World) (hp : Par w) : Calls Tryd.prog 44 #[.int .u64 n] w (UnpackSaid n w) := by
  have mixed : Tryd.prog.follows .mixedOrders = true := by kernel_rfl
  obtain ⟨W, hW, HB⟩ := unpack_world w
  obtain ⟨t, fr, hP⟩ := hp.old (hW ▸ HB.out.1 : Only nob w ((w.alloc (.cells #[.int .i64 0, .int .i64 0, .int .i64 0, .int .i64 0, .int .i64 0, .int .i64 0] 72)).alloc (.cells #[.int .i64 0, .int .i64 0, .int .i64 0, .int .i64 0, .int .i64 0, .int .i64 0] 72)))
  have HWE := Lib.hid hW
  clear hW hp
  go_enter Tryd.func44, Tryd.ntmps44
  go_wp2_with (refine wpList_load_row rfl 85 _ rfl 0 rfl t parC fr _ hP Tryd.underlying85 rfl (by kernel_rfl) ?_)
  clear hP
  rw [HWE.out]
  go_loopw [10] (fun i wr => ∃ k : Nat, k ≤ 6 ∧ i = .int .i64 k ∧ MayTo (un n) k ∧ Only nob w wr ∧ Blk wr w.heap.size 72 #[.int .i64 0, .int .i64 0, .int .i64 0, .int .i64 0, .int .i64 0, .int .i64 0] ∧ Blk wr (w.heap.size + 1) 72 (ucC n k)) (fun i _ => 6 - (intOf i).toNat)
  case atStart => exact ⟨0, Nat.zero_le _, rfl, MayTo.zero _, HB.out⟩
  case round =>
    obtain ⟨k, hk, rfl, hM, hO⟩ := hrel
    have HM := Lib.hid hM
    have HO := Lib.hid hO
    clear hM hO
    by_cases hlt : k < 6
    · obtain ⟨W2, hW2, HB2⟩ := box_part wr (pA k : Nat) (pN k : Nat) (pL k) (pU k)
      have HW2 := Lib.hid hW2
      have hx := part_at k hlt
      clear hW2
      obtain ⟨-, c0, c1, c2, c3⟩ := HB2.out
      have HF := Lib.hid (part_fits k hlt)
      go_wp2_with fail
      rw [HW2.out]
      go_at_call 52
      refine (get_only n _ _ _ hn HF.out.1 HF.out.2).mono ?_
      rintro e w3 ⟨rfl, o⟩
      have O3 := Lib.hid (HB2.out.1.trans o)
      have OO := Lib.hid o
      clear o c0 c1 c2 c3
      have hg := un_lt n k hlt
      have f0 := (HO.out.2.2.keep O3.out id).free k
      have g0 := ((HO.out.2.2.keep O3.out id).cell k).trans (ucC_now n k hlt)
      obtain ⟨W4, hW4, HB4⟩ := put_new (HO.out.1.trans O3.out) (Nat.le_succ _) (HO.out.2.2.keep O3.out id) k (.int .i64 (gt n (pA k) (pN k) : Nat))
      have HW4 := Lib.hid hW4
      obtain ⟨y, hy⟩ : ∃ y, un n k = y := ⟨_, rfl⟩
      have HY := Lib.hid hy
      have HN := Lib.hid (And.intro HB4.out.1 (And.intro (HB4.out.2.2.1 w.heap.size _ _ (by omega) (HO.out.2.1.keep O3.out id)) (show Blk W4 (w.heap.size + 1) 72 (ucC n (k + 1)) from ucC_step n k hlt ▸ HB4.out.2.1)))
      have HG : wr.heap.size ≠ w.heap.size + 1 := by have := HO.out.2.2.lt; omega
      have HP4 := Lib.hid (show W4.cell? ⟨wr.heap.size, 0, none⟩ = some (.int .i64 (pA k : Nat)) ∧ W4.cell? ⟨wr.heap.size, 1, none⟩ = some (.int .i64 (pN k : Nat)) ∧ W4.cell? ⟨wr.heap.size, 2, none⟩ = some (.int .i64 (pL k)) ∧ W4.cell? ⟨wr.heap.size, 3, none⟩ = some (.int .i64 (pU k)) from ⟨(HB4.out.2.2.2 _ HG).trans (OO.out.keeps HB2.out.2.1), (HB4.out.2.2.2 _ HG).trans (OO.out.keeps HB2.out.2.2.1), (HB4.out.2.2.2 _ HG).trans (OO.out.keeps HB2.out.2.2.2.1), (HB4.out.2.2.2 _ HG).trans (OO.out.keeps HB2.out.2.2.2.2)⟩)
      have c0 := wat_cell HP4.out.1
      have c1 := wat_cell HP4.out.2.1
      have c2 := wat_cell HP4.out.2.2.1
      have c3 := wat_cell HP4.out.2.2.2
      have c4 := wat_cell ((HN.out.2.2.cell k).trans ((ucC_at n k hlt).trans (by rw [hy])))
      clear hW4 hy HG
      by_cases hm : vin y (pL k) (pU k) = true
      · have HC := Lib.hid (show ∀ n os, Calls Tryd.prog 53 #[.agg #[.int .i64 (pA k : Nat), .int .i64 (pN k : Nat), .int .i64 (pL k), .int .i64 (pU k)], .int .i64 y] (wat W4 n os) fun e w' => e = .returned (.bool true) ∧ Only nob (wat W4 n os) w' from fun n os => hm ▸ partMay_any _ _ _ _ _ _)
        go_wp2_with fail
        rw [HW4.out]
        refine wp_region_only mixed (by kernel_rfl) ?_
        repeat (quiet_step ((go_at_call 53; with_reducible refine wat_call (HC.out _ _))))
        refine wpQuiet_nil ?_
        rintro w' ⟨⟨nq, osq⟩, rfl⟩
        obtain ⟨W5, hW5, O5⟩ := wat_name W4 nq osq
        rw [hW5]
        clear c0 c1 c2 c3 c4 f0 g0
        go_wp2
        go_roundw
        case rel => exact ⟨k + 1, by omega, by go_num, HM.out.succ (HY.out ▸ hm), HN.out.1.trans O5.out, HN.out.2.1.keep O5.out id, HN.out.2.2.keep O5.out id⟩
        case measure => simp [intOf]; omega
      · have hm' : vin y (pL k) (pU k) = false := by simpa using hm
        have HC := Lib.hid (show ∀ n os, Calls Tryd.prog 53 #[.agg #[.int .i64 (pA k : Nat), .int .i64 (pN k : Nat), .int .i64 (pL k), .int .i64 (pU k)], .int .i64 y] (wat W4 n os) fun e w' => e = .returned (.bool false) ∧ Only nob (wat W4 n os) w' from fun n os => hm' ▸ partMay_any _ _ _ _ _ _)
        clear hm'
        go_wp2_with fail
        rw [HW4.out]
        refine wp_region_only mixed (by kernel_rfl) ?_
        repeat (quiet_step ((go_at_call 53; with_reducible refine wat_call (HC.out _ _))))
        refine wpQuiet_nil ?_
        rintro w' ⟨⟨nq, osq⟩, rfl⟩
        obtain ⟨W5, hW5, O5⟩ := wat_name W4 nq osq
        rw [hW5]
        clear c0 c1 c2 c3 c4 f0 g0
        have B5 := HN.out.2.1.keep O5.out id
        obtain ⟨s0, s1, s2, s3, s4, s5⟩ := cells6 B5
        obtain ⟨r0, r1, r2, r3, r4, r5⟩ := frees6 B5
        have HB5 := Lib.hid B5
        clear B5
        go_wp2
        clear s0 s1 s2 s3 s4 s5 r0 r1 r2 r3 r4 r5
        obtain ⟨W6, hW6, O6, B6⟩ := puts6 (HN.out.1.trans O5.out) (Nat.le_refl _) HB5.out (.int .i64 0) (.int .i64 0) (.int .i64 0) (.int .i64 0) (.int .i64 0) (.int .i64 0)
        with_reducible rw [hW6]
        obtain ⟨h0, h1, h2, h3, h4, h5⟩ := cells6 B6
        exact bodyPost_ret (v := .tuple #[.agg #[.int .i64 0, .int .i64 0, .int .i64 0, .int .i64 0, .int .i64 0, .int .i64 0], .bool false]) (by simp [results, Tryd.results44, go_sem, h0, h1, h2, h3, h4, h5]) rfl ⟨fun h => absurd (HY.out ▸ h k hlt) hm, fun _ => rfl, O6⟩
    · obtain rfl : k = 6 := by omega
      have B5 := HO.out.2.1
      have B6 : Blk wr (w.heap.size + 1) 72 #[.int .i64 (un n 0), .int .i64 (un n 1), .int .i64 (un n 2), .int .i64 (un n 3), .int .i64 (un n 4), .int .i64 (un n 5)] := ucC_six n ▸ HO.out.2.2
      obtain ⟨s0, s1, s2, s3, s4, s5⟩ := cells6 B5
      obtain ⟨r0, r1, r2, r3, r4, r5⟩ := frees6 B5
      obtain ⟨q0, q1, q2, q3, q4, q5⟩ := cells6 B6
      have HB5 := Lib.hid B5
      clear B5 B6
      go_wp2
      clear s0 s1 s2 s3 s4 s5 r0 r1 r2 r3 r4 r5 q0 q1 q2 q3 q4 q5
      obtain ⟨W6, hW6, O6, B6⟩ := puts6 HO.out.1 (Nat.le_refl _) HB5.out (.int .i64 (un n 0)) (.int .i64 (un n 1)) (.int .i64 (un n 2)) (.int .i64 (un n 3)) (.int .i64 (un n 4)) (.int .i64 (un n 5))
      with_reducible rw [hW6]
      obtain ⟨h0, h1, h2, h3, h4, h5⟩ := cells6 B6
      exact bodyPost_ret (v := .tuple #[.agg #[.int .i64 (un n 0), .int .i64 (un n 1), .int .i64 (un n 2), .int .i64 (un n 3), .int .i64 (un n 4), .int .i64 (un n 5)], .bool true]) (by simp [results, Tryd.results44, go_sem, h0, h1, h2, h3, h4, h5]) rfl ⟨fun _ => rfl, fun h => absurd HM.out h, O6⟩
end Go.Proofs.YtffbemfgibleeaaDoor
