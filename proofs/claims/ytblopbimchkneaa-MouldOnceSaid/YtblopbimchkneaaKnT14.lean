/- Calls that the evaluator has carried out. -/
import Derived.Test.YtblopbimchkneaaKnS14p0
import Derived.Test.YtblopbimchkneaaKnS14p1
import Derived.Test.YtblopbimchkneaaKnS14p2
namespace Go.Proofs.Ytblopbimchkneaa.Ev
open Go Go.Abs
set_option maxRecDepth 100000
theorem tab14_ok : TabOK C tab14 := .cons said14x17 <| .cons said14x16 <| .cons said14x15 <| .cons said14x14 <| .cons said14x13 <| .cons said14x12 <| .cons said14x11 <| .cons said14x10 <| .cons said14x9 <| .cons said14x8 <| .cons said14x7 <| .cons said14x6 <| .cons said14x5 <| .cons said14x4 <| .cons said14x3 <| .cons said14x2 <| .cons said14x1 <| .cons said14x0 <| .nil
theorem top14 : Said C (.call e14.f e14.args e14.H) (.val e14.v e14.H2) := checkO_said ok tab14_ok (n := 1000) (by kernel_rfl)
theorem said14 : Said C (.call 14 [] noHeap) (.val (.bool true) e14.H2) := top14
end Go.Proofs.Ytblopbimchkneaa.Ev
