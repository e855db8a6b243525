/- Contracts of the document's own answers for spans: what they have to do with one another. -/
import Derived.Test.YtlejicbnobfldaaDoorRows
import Derived.Test.YtlejicbnobfldaaDoorMem
import Derived.Test.YtlejicbnobfldaaDoorSpanSay
import Derived.Deep.QuietTactic
import Derived.BigQuiet
namespace Go.Proofs.YtlejicbnobfldaaDoor

open Go.RowKit

set_option maxHeartbeats 400000 in
theorem refMay03_any (x : Sp) (w : World) :
    Calls Tryd.prog 23 #[.agg #[.int .i64 x.1, .int .i64 x.2]] w fun e w' => e = .returned (.bool (decide x.ok)) ∧ Only nob w w' := by
  by_cases h1 : 0 ≤ x.1
  · by_cases h2 : 1 ≤ x.2
    · by_cases h3 : x.1 ≤ 1099511627776
      · by_cases h4 : x.2 ≤ 1099511627776 - x.1
        case' pos => have HK := Lib.hid (decide_eq_true (p := x.ok) ⟨h1, h2, h3, h4⟩)
        case' neg => have HK := Lib.hid (decide_eq_false (p := x.ok) fun h => h4 h.2.2.2)
        all_goals
          go_enter Tryd.func23, Tryd.ntmps23
          go_wp2
          go_ret
          exact ⟨ret_bool (by rw [HK.out]), (Only.refl nob w).alloc _⟩
      · have HK := Lib.hid (decide_eq_false (p := x.ok) fun h => h3 h.2.2.1)
        go_enter Tryd.func23, Tryd.ntmps23
        go_wp2
        go_ret
        exact ⟨ret_bool (by rw [HK.out]), (Only.refl nob w).alloc _⟩
    · have HK := Lib.hid (decide_eq_false (p := x.ok) fun h => h2 h.2.1)
      go_enter Tryd.func23, Tryd.ntmps23
      go_wp2
      go_ret
      exact ⟨ret_bool (by rw [HK.out]), (Only.refl nob w).alloc _⟩
  · have HK := Lib.hid (decide_eq_false (p := x.ok) fun h => h1 h.1)
    go_enter Tryd.func23, Tryd.ntmps23
    go_wp2
    go_ret
    exact ⟨ret_bool (by rw [HK.out]), (Only.refl nob w).alloc _⟩

end Go.Proofs.YtlejicbnobfldaaDoor
