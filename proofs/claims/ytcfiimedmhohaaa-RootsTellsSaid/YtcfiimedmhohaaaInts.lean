/- Integers as cells, in slices that read. -/
import Derived.Test.YtcfiimedmhohaaaRows
import Derived.Test.YtcfiimedmhohaaaMem
import Derived.IntWalk
namespace Go.Proofs.Ytcfiimedmhohaaa
open Go.RowKit

/-- Integers as cells. -/
def i64s (l : List Int) : List Value := l.map (Value.int .i64)
theorem i64s_len (l : List Int) : (i64s l).length = l.length := by simp [i64s]
theorem i64s_at {l : List Int} {k : Nat} {z : Int} (h : l[k]? = some z) : (i64s l)[k]? = some (.int .i64 z) := by simp [i64s, h]
theorem i64s_snoc (l : List Int) (z : Int) : i64s (l ++ [z]) = i64s l ++ i64s [z] := by simp [i64s]
theorem i64s_one (l : List Int) : ∀ v ∈ i64s l, v.oneCell' = true := by
  intro v hv
  simp only [i64s, List.mem_map] at hv
  obtain ⟨x, _, rfl⟩ := hv
  rfl
set_option maxRecDepth 100000 in
theorem info_int : (Try.prog.info? 3).map (fun i => (i.zero, i.size, i.bytes)) = some (some (.int .i64 0), 1, 8) := by kernel_rfl

/-- An integer of a list that reads. -/
theorem sl_int {w w' : World} {B : Nat} {A : Option Addr} {c k : Nat} {l : List Int} {z : Int} (h : Sl w B 1 (.slice A l.length c) l.length (i64s l)) (hb : Below B w w') (hz : l[k]? = some z) :
    ∃ b o, A = some ⟨b, o, none⟩ ∧ b < B ∧ w'.cell? ⟨b, o + k, none⟩ = some (.int .i64 z) := by
  have hk : k < l.length := (List.getElem?_eq_some_iff.1 hz).1
  obtain ⟨b, o, c', e, _, _, hlt, hc⟩ := (h.below hb).at_ (by omega)
  obtain ⟨rfl, rfl⟩ : A = some ⟨b, o, none⟩ ∧ c = c' := by simpa using e
  exact ⟨b, o, rfl, hlt, hc _ _ (i64s_at hz)⟩
theorem i64s_append (l m : List Int) : i64s (l ++ m) = i64s l ++ i64s m := by simp [i64s]
theorem i64s_take (l : List Int) (k : Nat) : (i64s l).take k = i64s (l.take k) := by simp [i64s, List.map_take]
end Go.Proofs.Ytcfiimedmhohaaa
