/- Contracts of the document's own answers for spans: what they have to do with one another. -/
import Derived.Test.YtoeccbbjncgmlaaDoorRows
import Derived.Test.YtoeccbbjncgmlaaDoorMem
import Derived.Test.YtoeccbbjncgmlaaDoorSpanSay
import Derived.Deep.QuietTactic
import Derived.BigQuiet
namespace Go.Proofs.YtoeccbbjncgmlaaDoor

open Go.RowKit

end Go.Proofs.YtoeccbbjncgmlaaDoor

/- Contracts of the document's own answers for spans: lists of them that are only read. -/
namespace Go.Proofs.YtoeccbbjncgmlaaDoor

open Go.RowKit

end Go.Proofs.YtoeccbbjncgmlaaDoor
