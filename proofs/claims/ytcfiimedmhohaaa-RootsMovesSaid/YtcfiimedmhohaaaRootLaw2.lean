/- The walks of RootsMoves and RootsTells, out of the contracts of package roots. -/
import Derived.Test.YtcfiimedmhohaaaRootLaw1
namespace Go.Proofs.Ytcfiimedmhohaaa
open Go.RowKit
set_option maxRecDepth 100000

/-- Tables that read, all in one world. -/
def Pile (w : World) (ps : List (Value × List Slt)) : Prop := ∀ p ∈ ps, Sl w w.heap.size 3 p.1 p.2.length (slc p.2)
theorem Pile.old {w w' : World} {ps : List (Value × List Slt)} (h : Pile w ps) (o : Only nob w w') : Pile w' ps := fun p hp => ((h p hp).below o.whole).more o.size
theorem Pile.add {w w' : World} {ps : List (Value × List Slt)} {v : Value} {l : List Slt} (h : Pile w ps) (o : Only nob w w') (hs : Sl w' w'.heap.size 3 v l.length (slc l)) : Pile w' ((v, l) :: ps) := fun p hp => by
  rcases List.mem_cons.1 hp with rfl | hp
  · exact hs
  · exact h.old o p hp
theorem Pile.get {w : World} {ps : List (Value × List Slt)} (h : Pile w ps) {i : Nat} {v : Value} {l : List Slt} (e : ps[i]? = some (v, l)) : Sl w w.heap.size 3 v l.length (slc l) := h _ (List.mem_of_getElem? e)

set_option maxHeartbeats 8000000 in
theorem rootsMoves_small (C : RootsC) (v : Value) (l : List Slt) (h : Int) (x : Nat) (w : World) (hv : Sl w w.heap.size 3 v l.length (slc l)) (hok : SlOk l) (hx : x < full) (hl : l.length ≤ 1200) :
    Calls Try.prog 3 #[v, .int .i64 h, .int .u64 (x : Nat)] w fun e w' => e = .returned (.bool true) ∧ Below w.heap.size w w' := by
  obtain ⟨i0, hi0, hz0, hz1, hz2⟩ := info_parts info_slot
  have HA := Lib.hid hv
  have HX := Lib.hid hx
  obtain ⟨A, ca, rfl, hac, ham, -⟩ := hv
  unfold maxLen at ham
  clear hx
  go_enter Try.func3, Try.ntmps3
  go_wp2_with (with_reducible refine wpList_append_sl (o := ⟨some 33, _, _, _, _, _⟩) _ rfl (.tmp 31) (.tmp 32) _ rfl w.heap.size 42 i0 _ 3 24 Try.underlying22 hi0 hz0 hz1 hz2 rfl (by decide) (.slice (some ⟨w.heap.size, 0, none⟩) 0 0) 0 [] rfl ?c1 w.heap.size (.slice A l.length ca) l.length (slc l) rfl ?c6 (slc_oneCell l) ?c2 ?c3 ?c4 ?c5)
  case c1 => exact lit_own w _ _
  case c6 => exact HA.out.below ((Below.refl _ _).alloc (Nat.le_refl _) _)
  case c2 => unfold maxLen; omega
  case c3 => omega
  case c4 => simp
  case c5 =>
    intro vo w1 H1 o1 _
    have o2 := lit_only o1
    have HO := show w1.ownsRow w.heap.size 42 3 vo l.length (slc l) by simpa using H1.out
    have O1 := Lib.hid o2
    have P1 := Lib.hid (show Pile w1 [(vo, l), (.slice A l.length ca, l)] from fun p hp => by
      rcases List.mem_cons.1 hp with rfl | hp
      · exact Sl.of_own HO HO.1
      · obtain rfl := List.mem_singleton.1 hp
        exact (HA.out.below o2.whole).more o2.size)
    clear H1 o1 o2 HO
    have hl2 : l.length ≤ 2000 := by omega
    obtain ⟨sh, hsh⟩ : ∃ z, z = putSH l := ⟨_, rfl⟩
    obtain ⟨se, hse⟩ : ∃ z, z = putSE l := ⟨_, rfl⟩
    obtain ⟨gw, hgw⟩ : ∃ z, z = getW l h := ⟨_, rfl⟩
    obtain ⟨ge, hge⟩ : ∃ z, z = getE l h := ⟨_, rfl⟩
    go_wp2_with fail
    go_at_call 7
    refine (C.put vo l x _ w1 (P1.out.get (i := 0) rfl) (Nat.le_refl _) hl2 hok HX.out).mono ?_
    rw [← hsh, ← hse]
    rintro e w2 ⟨va, rfl, s, o⟩
    have P2 := Lib.hid (P1.out.add o s)
    have O2 := Lib.hid (O1.out.trans o)
    clear s o
    go_wp2_with fail
    go_at_call 8
    refine (rPut14 (.slice A l.length ca) l x _ w2 (P2.out.get (i := 2) rfl) (Nat.le_refl _) hl2 hok HX.out).mono ?_
    rw [← hsh, ← hse]
    rintro e w3 ⟨vb, rfl, s, o⟩
    have P3 := Lib.hid (P2.out.add o s)
    have O3 := Lib.hid (O2.out.trans o)
    clear s o
    go_wp2_with fail
    go_at_call 9
    refine (C.get vo l h _ w3 (P3.out.get (i := 2) rfl) (Nat.le_refl _) hl2 hok).mono ?_
    rw [← hgw, ← hge]
    rintro e w4 ⟨rfl, o⟩
    have P4 := Lib.hid (P3.out.old o)
    have O4 := Lib.hid (O3.out.trans o)
    clear o
    go_wp2_with fail
    go_at_call 10
    refine (rGet14 (.slice A l.length ca) l h _ w4 (P4.out.get (i := 3) rfl) (Nat.le_refl _) hl2 hok).mono ?_
    rw [← hgw, ← hge]
    rintro e w5 ⟨rfl, o⟩
    have P5 := Lib.hid (P4.out.old o)
    have O5 := Lib.hid (O4.out.trans o)
    clear o
    go_wp2_with fail
    go_at_call 11
    refine (C.set vo l h x _ w5 (P5.out.get (i := 2) rfl) (Nat.le_refl _) hl2 hok HX.out).mono ?_
    rw [← hge]
    rintro e w6 ⟨vm, rfl, s, o⟩
    have P6 := Lib.hid (P5.out.add o s)
    have O6 := Lib.hid (O5.out.trans o)
    clear s o
    go_wp2_with fail
    go_at_call 12
    refine (rSet14 (.slice A l.length ca) l h x _ w6 (P6.out.get (i := 4) rfl) (Nat.le_refl _) hl2 hok HX.out).mono ?_
    rw [← hge]
    rintro e w7 ⟨vn, rfl, s, o⟩
    have P7 := Lib.hid (P6.out.add o s)
    have O7 := Lib.hid (O6.out.trans o)
    clear s o
    go_wp2_with fail
    go_at_call 13
    refine (C.drop vo l h _ w7 (P7.out.get (i := 4) rfl) (Nat.le_refl _) hl2 hok).mono ?_
    rw [← hge]
    rintro e w8 ⟨vd, rfl, s, o⟩
    have P8 := Lib.hid (P7.out.add o s)
    have O8 := Lib.hid (O7.out.trans o)
    clear s o
    go_wp2_with fail
    go_at_call 14
    refine (rDrop14 (.slice A l.length ca) l h _ w8 (P8.out.get (i := 6) rfl) (Nat.le_refl _) hl2 hok).mono ?_
    rw [← hge]
    rintro e w9 ⟨vq, rfl, s, o⟩
    have P9 := Lib.hid (P8.out.add o s)
    have O9 := Lib.hid (O8.out.trans o)
    clear s o
    clear hsh hse hgw hge
    go_wp2_with fail
    go_at_call 15
    refine (rSame14 va vb _ _ _ _ w9 (P9.out.get (i := 5) rfl) (P9.out.get (i := 4) rfl)).mono ?_
    rw [decide_eq_true rfl]
    rintro e w10 ⟨rfl, o⟩
    have P10 := Lib.hid (P9.out.old o)
    have O10 := Lib.hid (O9.out.trans o)
    clear o
    go_wp2_with fail
    go_at_call 15
    refine (rSame14 vm vn _ _ _ _ w10 (P10.out.get (i := 3) rfl) (P10.out.get (i := 2) rfl)).mono ?_
    rw [decide_eq_true rfl]
    rintro e w11 ⟨rfl, o⟩
    have P11 := Lib.hid (P10.out.old o)
    have O11 := Lib.hid (O10.out.trans o)
    clear o
    go_wp2_with fail
    go_at_call 15
    refine (rSame14 vd vq _ _ _ _ w11 (P11.out.get (i := 1) rfl) (P11.out.get (i := 0) rfl)).mono ?_
    rw [decide_eq_true rfl]
    rintro e w12 ⟨rfl, o⟩
    have P12 := Lib.hid (P11.out.old o)
    have O12 := Lib.hid (O11.out.trans o)
    clear o
    go_wp2_with fail
    go_at_call 15
    refine (rSame14 vo (.slice A l.length ca) l l _ _ w12 (P12.out.get (i := 6) rfl) (P12.out.get (i := 7) rfl)).mono ?_
    rw [decide_eq_true rfl]
    rintro e w13 ⟨rfl, o⟩
    have O13 := Lib.hid (O12.out.trans o)
    clear o
    go_wp2_with fail
    go_at_call 6
    refine (awake14_any C w13).mono ?_
    rintro e w14 ⟨rfl, o⟩
    have O14 := Lib.hid (O13.out.trans o)
    clear o
    go_wp2
    go_ret
    exact ⟨rfl, O14.out.whole⟩
end Go.Proofs.Ytcfiimedmhohaaa
