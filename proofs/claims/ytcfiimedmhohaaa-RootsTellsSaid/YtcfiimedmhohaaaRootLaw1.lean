/- What the statements of layer 14 answer where sizes are too big; RootsMoves, RootsTells: out of the contracts of package roots. -/
import Derived.Test.YtcfiimedmhohaaaRef14
namespace Go.Proofs.Ytcfiimedmhohaaa
open Go.RowKit
set_option maxRecDepth 100000

/-- What is asked of package roots. -/
structure RootsC : Prop where
  new : RtNew
  put : PutC 7
  get : GetC 9
  set : SetC 11
  drop : DropC 13
  used : UsedC 18
  right : RightC 17
  handles : HandlesC 22
def aw0 : List Slt := [(false, 0, 0)]
def aw1 : List Slt := [(true, 0, 5)]
def aw2 : List Slt := [(false, 1, 0)]
def aw3 : List Slt := [(true, 1, 9)]
def aw4 : List Slt := [(true, 1, 13)]
theorem sok_one {u : Bool} {g : Int} {x : Nat} (h1 : -9223372036854775808 ≤ g ∧ g ≤ 9223372036854775807) (h2 : x < full) : SlOk [(u, g, x)] := fun s hs => by
  rw [List.mem_singleton.1 hs]; exact ⟨h1.1, h1.2, h2⟩
theorem aw_ok : SlOk aw0 ∧ SlOk aw1 ∧ SlOk aw2 ∧ SlOk aw3 ∧ SlOk aw4 := ⟨sok_one (by omega) (by decide), sok_one (by omega) (by decide), sok_one (by omega) (by decide), sok_one (by omega) (by decide), sok_one (by omega) (by decide)⟩

set_option maxHeartbeats 8000000 in
theorem awake14_any (C : RootsC) (w : World) : Calls Try.prog 6 #[] w fun e w' => e = .returned (.bool true) ∧ Only nob w w' := by
  obtain ⟨ok0, ok1, ok2, ok3, ok4⟩ := aw_ok
  go_enter Try.func6, Try.ntmps6
  go_wp2_with fail
  go_at_call 16
  refine (C.new 1 w (by omega) (by omega)).mono ?_
  rintro e w1 ⟨v1, l1, rfl, hl1, s1, o⟩
  obtain rfl : l1 = aw0 := hl1
  rw [if_pos (by decide)]
  have S1 := Lib.hid s1
  have O1 := Lib.hid o
  obtain ⟨A1, c1, rfl, -, -⟩ := s1.form
  clear s1 o
  go_wp2_with fail
  go_at_call 7
  refine (C.put _ aw0 5 _ w1 S1.out (Nat.le_refl _) (by decide) ok0 (by decide)).mono ?_
  rw [show putSH aw0 = 0 by decide, show putSE aw0 = 0 by decide, show putSL aw0 5 = aw1 by decide]
  rintro e w2 ⟨v2, rfl, s2, o⟩
  have S2 := Lib.hid s2
  have O2 := Lib.hid (O1.out.trans o)
  obtain ⟨A2, c2, rfl, -, -⟩ := s2.form
  clear s2 o
  go_wp2_with fail
  go_at_call 7
  refine (C.put _ aw1 9 _ w2 S2.out (Nat.le_refl _) (by decide) ok1 (by decide)).mono ?_
  rw [show putSH aw1 = 0 by decide, show putSE aw1 = 8 by decide]
  rintro e w3 ⟨v3, rfl, -, o⟩
  have S3 := Lib.hid ((S2.out.below o.whole).more o.size)
  have O3 := Lib.hid (O2.out.trans o)
  clear o
  go_wp2_with fail
  go_at_call 9
  refine (C.get _ aw1 0 _ w3 S3.out (Nat.le_refl _) (by decide) ok1).mono ?_
  rw [show getW aw1 0 = 5 by decide, show getE aw1 0 = 0 by decide]
  rintro e w4 ⟨rfl, o⟩
  have S4 := Lib.hid ((S3.out.below o.whole).more o.size)
  have O4 := Lib.hid (O3.out.trans o)
  clear o
  go_wp2_with fail
  go_at_call 13
  refine (C.drop _ aw1 0 _ w4 S4.out (Nat.le_refl _) (by decide) ok1).mono ?_
  rw [show getE aw1 0 = 0 by decide, show dropSL aw1 0 = aw2 by decide]
  rintro e w5 ⟨v5, rfl, s5, o⟩
  have S5 := Lib.hid s5
  have O5 := Lib.hid (O4.out.trans o)
  obtain ⟨A5, c5, rfl, -, -⟩ := s5.form
  clear s5 o
  go_wp2_with fail
  go_at_call 7
  refine (C.put _ aw2 9 _ w5 S5.out (Nat.le_refl _) (by decide) ok2 (by decide)).mono ?_
  rw [show putSH aw2 = 1024 by decide, show putSE aw2 = 0 by decide, show putSL aw2 9 = aw3 by decide]
  rintro e w6 ⟨v6, rfl, s6, o⟩
  have S6 := Lib.hid s6
  have O6 := Lib.hid (O5.out.trans o)
  obtain ⟨A6, c6, rfl, -, -⟩ := s6.form
  clear s6 o
  go_wp2_with fail
  go_at_call 9
  refine (C.get _ aw3 0 _ w6 S6.out (Nat.le_refl _) (by decide) ok3).mono ?_
  rw [show getE aw3 0 = 5 by decide]
  rintro e w7 ⟨rfl, o⟩
  have S7 := Lib.hid ((S6.out.below o.whole).more o.size)
  have O7 := Lib.hid (O6.out.trans o)
  clear o
  go_wp2_with fail
  go_at_call 11
  refine (C.set _ aw3 1024 13 _ w7 S7.out (Nat.le_refl _) (by decide) ok3 (by decide)).mono ?_
  rw [show getE aw3 1024 = 0 by decide, show setSL aw3 1024 13 = aw4 by decide]
  rintro e w8 ⟨v8, rfl, s8, o⟩
  have S8 := Lib.hid s8
  have O8 := Lib.hid (O7.out.trans o)
  obtain ⟨A8, c8, rfl, -, -⟩ := s8.form
  clear s8 o
  go_wp2_with fail
  go_at_call 9
  refine (C.get _ aw4 1024 _ w8 S8.out (Nat.le_refl _) (by decide) ok4).mono ?_
  rw [show getW aw4 1024 = 13 by decide, show getE aw4 1024 = 0 by decide]
  rintro e w9 ⟨rfl, o⟩
  have S9 := Lib.hid ((S8.out.below o.whole).more o.size)
  have O9 := Lib.hid (O8.out.trans o)
  clear o
  go_wp2_with fail
  go_at_call 16
  refine (C.new 1025 w9 (by omega) (by omega)).mono ?_
  rintro e w10 ⟨v10, l10, rfl, -, -, o⟩
  rw [if_neg (by decide)]
  have S10 := Lib.hid ((S9.out.below o.whole).more o.size)
  have O10 := Lib.hid (O9.out.trans o)
  clear o
  go_wp2_with fail
  go_at_call 18
  refine (C.used _ aw4 _ w10 S10.out (Nat.le_refl _) (by decide)).mono ?_
  rw [show usedS aw4 = 1 by decide]
  rintro e w11 ⟨rfl, o⟩
  have S11 := Lib.hid ((S10.out.below o.whole).more o.size)
  have O11 := Lib.hid (O10.out.trans o)
  clear o
  go_wp2_with fail
  go_at_call 17
  refine (C.right _ aw4 1 _ w11 S11.out (Nat.le_refl _) (by decide) ok4).mono ?_
  rw [show rightS dE aw4 1 = true by decide]
  rintro e w12 ⟨rfl, o⟩
  have S12 := Lib.hid ((S11.out.below o.whole).more o.size)
  have O12 := Lib.hid (O11.out.trans o)
  clear o
  go_wp2_with fail
  go_at_call 22
  refine (C.handles _ aw4 _ w12 S12.out (Nat.le_refl _) (by decide) ok4).mono ?_
  rw [show handlesS aw4 = [1024] by decide]
  rintro e w13 ⟨v13, rfl, s13, o⟩
  obtain ⟨A13, c13, rfl, -, -⟩ := s13.form
  have O13 := Lib.hid (O12.out.trans o)
  clear s13 o
  go_wp2
  go_ret
  exact ⟨rfl, O13.out⟩
end Go.Proofs.Ytcfiimedmhohaaa
