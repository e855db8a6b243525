/- What is asked of package state: all of it. -/
import Derived.Test.YtciidodmhigpdaaGreatDoorStProg
import Derived.Test.YtciidodmhigpdaaGreatDoorStProgE
import Derived.Test.YtciidodmhigpdaaGreatDoorStAwk
namespace Go.Proofs.YtciidodmhigpdaaGreatDoor
open Go.RowKit
theorem stateC_any : StateC := ⟨stNew, stCheck, stObjects, stHead, stUsed, stCopy, stSame⟩
end Go.Proofs.YtciidodmhigpdaaGreatDoor
