/- What awake answers, out of the contracts of package span. -/
import Derived.Test.YtkakimbklhmbcaaSpanP
import Derived.Test.YtkakimbklhmbcaaAwake03
import Derived.Test.YtkakimbklhmbcaaSpanLaw1
namespace Go.Proofs.Ytkakimbklhmbcaa
theorem awSaid : AwSaid := fun w => awake_any spMay spHas spMeets spWithin spApart spTotal spSort spJoin spGaps w
end Go.Proofs.Ytkakimbklhmbcaa
