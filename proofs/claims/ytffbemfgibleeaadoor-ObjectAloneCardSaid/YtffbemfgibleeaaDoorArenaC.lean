/- Contracts of package arena for what is no arena; what the statements' awake answers. -/
import Derived.Test.YtffbemfgibleeaaDoorRef02
namespace Go.Proofs.YtffbemfgibleeaaDoor
open Go.RowKit

/-- Nobody's arena: nil, or one that no call made. -/
def NoAr (w : World) (v : Value) : Prop := v = .pointer none ∨ ∃ b, v = .pointer (some ⟨b, 0, none⟩) ∧ Blk w b 49 #[.bool false, .slice none 0 0]

set_option maxHeartbeats 400000 in
theorem isNone_no (v : Value) (w : World) (h : NoAr w v) :
    Calls Tryd.prog 27 #[v] w fun e w' => e = .returned (.bool true) ∧ w = w' := by
  rcases h with rfl | ⟨b, rfl, h⟩
  · go_enter Tryd.func27, Tryd.ntmps27
    go_wp2
    go_ret
    exact ⟨rfl, rfl⟩
  · have h0 := h.cell 0
    simp at h0
    clear h
    go_enter Tryd.func27, Tryd.ntmps27
    go_wp2
    go_ret
    exact ⟨rfl, rfl⟩

set_option maxHeartbeats 400000 in
theorem check_none (v : Value) (a n : Int) (w : World) (h : NoAr w v) :
    Calls Tryd.prog 41 #[v, .int .i64 a, .int .i64 n] w fun e w' => e = .returned (.int .i64 10) ∧ w = w' := by
  go_enter Tryd.func41, Tryd.ntmps41
  go_wp2_with (go_at_call 27; refine (isNone_no v _ h).mono ?_; rintro e w' ⟨rfl, rfl⟩)
  go_ret
  exact ⟨rfl, rfl⟩

set_option maxHeartbeats 400000 in
theorem len_none (v : Value) (w : World) (h : NoAr w v) :
    Calls Tryd.prog 31 #[v] w fun e w' => e = .returned (.int .i64 0) ∧ w = w' := by
  go_enter Tryd.func31, Tryd.ntmps31
  go_wp2_with (go_at_call 27; refine (isNone_no v _ h).mono ?_; rintro e w' ⟨rfl, rfl⟩)
  go_ret
  exact ⟨rfl, rfl⟩

set_option maxHeartbeats 400000 in
theorem words_none (v : Value) (w : World) (h : NoAr w v) :
    Calls Tryd.prog 11 #[v] w fun e w' => e = .returned (.slice none 0 0) ∧ w = w' := by
  go_enter Tryd.func11, Tryd.ntmps11
  go_wp2_with (go_at_call 27; refine (isNone_no v _ h).mono ?_; rintro e w' ⟨rfl, rfl⟩)
  go_ret
  exact ⟨rfl, rfl⟩

set_option maxHeartbeats 400000 in
theorem read_none (v : Value) (a : Int) (w : World) (h : NoAr w v) :
    Calls Tryd.prog 22 #[v, .int .i64 a] w fun e w' => e = .returned (.tuple #[.int .u64 0, .int .i64 10]) ∧ w = w' := by
  go_enter Tryd.func22, Tryd.ntmps22
  go_wp2_with (go_at_call 41; refine (check_none v _ _ _ h).mono ?_; rintro e w' ⟨rfl, rfl⟩)
  go_ret2
  exact ⟨rfl, rfl⟩

set_option maxHeartbeats 400000 in
theorem write_none (v : Value) (a x : Int) (w : World) (h : NoAr w v) :
    Calls Tryd.prog 38 #[v, .int .i64 a, .int .u64 x] w fun e w' => e = .returned (.int .i64 10) ∧ w = w' := by
  go_enter Tryd.func38, Tryd.ntmps38
  go_wp2_with (go_at_call 41; refine (check_none v _ _ _ h).mono ?_; rintro e w' ⟨rfl, rfl⟩)
  go_ret
  exact ⟨rfl, rfl⟩

set_option maxHeartbeats 400000 in
theorem fill_none (v : Value) (a n x : Int) (w : World) (h : NoAr w v) :
    Calls Tryd.prog 40 #[v, .int .i64 a, .int .i64 n, .int .u64 x] w fun e w' => e = .returned (.int .i64 10) ∧ w = w' := by
  go_enter Tryd.func40, Tryd.ntmps40
  go_wp2_with (go_at_call 41; refine (check_none v _ _ _ h).mono ?_; rintro e w' ⟨rfl, rfl⟩)
  go_ret
  exact ⟨rfl, rfl⟩
end Go.Proofs.YtffbemfgibleeaaDoor
