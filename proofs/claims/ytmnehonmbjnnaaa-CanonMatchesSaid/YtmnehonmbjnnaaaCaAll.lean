/- The example of chapter 18, over the program's own contracts. -/
import Derived.Test.YtmnehonmbjnnaaaCaMat
import Derived.Test.YtmnehonmbjnnaaaCaAws
namespace Go.Proofs.Ytmnehonmbjnnaaa
open Go.RowKit Go.Lib
theorem awake18 : AwkC := awake18_walk canon_any18 match_any18 alike_any18
end Go.Proofs.Ytmnehonmbjnnaaa
