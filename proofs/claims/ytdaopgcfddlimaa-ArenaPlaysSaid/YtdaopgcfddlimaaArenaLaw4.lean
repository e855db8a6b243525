/- The walk of ArenaPlays, whatever the sizes. -/
import Derived.Test.YtdaopgcfddlimaaArenaLaw3
namespace Go.Proofs.Ytdaopgcfddlimaa
open Go.RowKit

set_option maxRecDepth 100000 in
set_option maxHeartbeats 400000 in
theorem arenaPlays_big (A D : Option Addr) (len c n k : Nat) (w : World) (h : 200 < len ∨ 60 < n) :
    Calls Try.prog 3 #[.slice A len c, .slice D n k] w fun e w' => e = .returned (.bool true) ∧ Below w.heap.size w w' := by
  by_cases hl : 200 < len
  · go_enter Try.func3, Try.ntmps3
    go_wp2_with fail
    go_at_call 6
    refine (awake_any _).mono ?_
    rintro e w6 ⟨rfl, ho⟩
    have HO2 := Lib.hid ho
    clear ho
    go_wp2
    go_ret
    exact ⟨rfl, HO2.out.whole⟩
  · have hn : 60 < n := by omega
    go_enter Try.func3, Try.ntmps3
    go_wp2_with fail
    go_at_call 6
    refine (awake_any _).mono ?_
    rintro e w6 ⟨rfl, ho⟩
    have HO2 := Lib.hid ho
    clear ho
    go_wp2
    go_ret
    exact ⟨rfl, HO2.out.whole⟩

theorem arenaPlays_walk (v d : Value) (l : List Nat) (n : Nat) (xs : List Value) (w : World) (h : Sl w w.heap.size 1 v l.length (u64s l)) (hw : Words l) (hd : Sl w w.heap.size 5 d n xs) (hx : Deeds n xs) :
    Calls Try.prog 3 #[v, d] w fun e w' => e = .returned (.bool true) ∧ Below w.heap.size w w' := by
  by_cases hs : l.length ≤ 200 ∧ n ≤ 60
  · exact arenaPlays_small v d l n xs w h hw hs.1 hd hx hs.2
  · obtain ⟨A, c, rfl, -⟩ := h
    obtain ⟨D, k, rfl, -⟩ := hd
    exact arenaPlays_big A D _ c n k w (by omega)
end Go.Proofs.Ytdaopgcfddlimaa
