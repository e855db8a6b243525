/- Package span keeps what is asked of it: all contracts. -/
import Derived.Test.YtlpndkmhdnpifaaSpanO
namespace Go.Proofs.Ytlpndkmhdnpifaa
open Go.RowKit Go.Sort

theorem spGaps : SpGaps := by
  intro x v l B w h hB hlen hf hx
  by_cases hok : x.ok
  · exact gaps_any x v l B w h hB hlen hf hok
  · have HO := Lib.hid hok
    clear h hok
    go_enter Try.func41, Try.ntmps41
    go_wp2_with fail
    go_at_call 21
    refine (may_no hx HO.out _).mono ?_
    rintro e w1 ⟨rfl, g⟩
    have O1 := Lib.hid (((Only.refl nob w).alloc (.cells #[.int .i64 x.1, .int .i64 x.2] 24)).trans g.only)
    clear g
    go_wp2
    go_ret
    exact ⟨_, [], rfl, Joined.nil, fun p => ⟨fun h => absurd h (cov_nil p), fun h => absurd h.1.1 HO.out⟩, Sl.nil_, O1.out⟩
end Go.Proofs.Ytlpndkmhdnpifaa
