/- Configs and their parts, plainly; what is asked of package layout. -/
import Derived.Test.YtciidodmhigpdaaGreatDoorSpanBase
import Derived.Test.YtciidodmhigpdaaGreatDoorSmalls
namespace Go.Proofs.YtciidodmhigpdaaGreatDoor
open Go.RowKit

/-- A config. -/
structure Cf where
  semi : Int
  large : Int
  slots : Int
  limit : Int
def Cf.ok (c : Cf) : Prop := 2 ≤ c.semi ∧ c.semi ≤ 32768 ∧ 0 ≤ c.large ∧ c.large ≤ 32768 ∧ 1 ≤ c.slots ∧ c.slots ≤ 1024 ∧ 1 ≤ c.limit ∧ c.limit ≤ c.semi
instance (c : Cf) : Decidable c.ok := by unfold Cf.ok; infer_instance
def cWords (c : Cf) : Int := if c.ok then c.semi + c.semi + c.large else 0
def cHalf (c : Cf) (n : Int) : Sp := if c.ok then (n * c.semi, c.semi) else (0, 0)
def cFrom (c : Cf) (s : Bool) : Sp := if s then cHalf c 1 else cHalf c 0
def cTo (c : Cf) (s : Bool) : Sp := cFrom c (!s)
def cLarge (c : Cf) : Sp := if c.ok ∧ c.large ≠ 0 then (c.semi + c.semi, c.large) else (0, 0)
def cWhere (c : Cf) (s : Bool) (p : Int) : Int := if c.ok ∧ 0 ≤ p ∧ p < cWords c then (if 2 * c.semi ≤ p then 3 else if decide (c.semi ≤ p) = s then 1 else 2) else 0
def cSmall (c : Cf) (n : Int) : Bool := decide c.ok && (decide (0 < n) && decide (n ≤ c.limit))
/-- Its numbers are 64 bits wide. -/
def I64 (z : Int) : Prop := -9223372036854775808 ≤ z ∧ z ≤ 9223372036854775807
structure CFit (c : Cf) : Prop where
  fa : I64 c.semi
  fb : I64 c.large
  fc : I64 c.slots
  fd : I64 c.limit

def LyCheck : Prop := ∀ (c : Cf) (w : World), CFit c → Calls Tryz.prog 43 #[.agg #[.int .i64 c.semi, .int .i64 c.large, .int .i64 c.slots, .int .i64 c.limit]] w fun e w' => e = .returned (.bool (decide c.ok)) ∧ Only nob w w'
def LyWords : Prop := ∀ (c : Cf) (w : World), CFit c → Calls Tryz.prog 45 #[.agg #[.int .i64 c.semi, .int .i64 c.large, .int .i64 c.slots, .int .i64 c.limit]] w fun e w' => e = .returned (.int .i64 (cWords c)) ∧ Only nob w w'
def LyFrom : Prop := ∀ (c : Cf) (s : Bool) (w : World), CFit c → Calls Tryz.prog 72 #[.agg #[.int .i64 c.semi, .int .i64 c.large, .int .i64 c.slots, .int .i64 c.limit], .bool s] w fun e w' => e = .returned (.agg #[.int .i64 (cFrom c s).1, .int .i64 (cFrom c s).2]) ∧ Only nob w w'
def LyLarge : Prop := ∀ (c : Cf) (w : World), CFit c → Calls Tryz.prog 47 #[.agg #[.int .i64 c.semi, .int .i64 c.large, .int .i64 c.slots, .int .i64 c.limit]] w fun e w' => e = .returned (.agg #[.int .i64 (cLarge c).1, .int .i64 (cLarge c).2]) ∧ Only nob w w'
def LySmall : Prop := ∀ (c : Cf) (n : Int) (w : World), CFit c → I64 n → Calls Tryz.prog 103 #[.agg #[.int .i64 c.semi, .int .i64 c.large, .int .i64 c.slots, .int .i64 c.limit], .int .i64 n] w fun e w' => e = .returned (.bool (cSmall c n)) ∧ Only nob w w'
/-- A config's box. -/
structure CBox (W : World) (b : Nat) (c : Cf) : Prop where
  c0 : W.cell? ⟨b, 0, none⟩ = some (.int .i64 c.semi)
  c1 : W.cell? ⟨b, 1, none⟩ = some (.int .i64 c.large)
  c2 : W.cell? ⟨b, 2, none⟩ = some (.int .i64 c.slots)
  c3 : W.cell? ⟨b, 3, none⟩ = some (.int .i64 c.limit)
theorem CBox.keep {W W' : World} {b : Nat} {c : Cf} (h : CBox W b c) (o : Only nob W W') : CBox W' b c := ⟨o.keeps h.c0, o.keeps h.c1, o.keeps h.c2, o.keeps h.c3⟩
theorem CBox.new (w : World) (c : Cf) : CBox (w.alloc (.cells #[.int .i64 c.semi, .int .i64 c.large, .int .i64 c.slots, .int .i64 c.limit] 23)) w.heap.size c := by
  have h := Blk.new w 23 #[.int .i64 c.semi, .int .i64 c.large, .int .i64 c.slots, .int .i64 c.limit]
  exact ⟨h.cell 0, h.cell 1, h.cell 2, h.cell 3⟩
theorem only_box (w : World) (c : Cf) : Only nob w (w.alloc (.cells #[.int .i64 c.semi, .int .i64 c.large, .int .i64 c.slots, .int .i64 c.limit] 23)) := (Only.refl nob w).alloc _
end Go.Proofs.YtciidodmhigpdaaGreatDoor
