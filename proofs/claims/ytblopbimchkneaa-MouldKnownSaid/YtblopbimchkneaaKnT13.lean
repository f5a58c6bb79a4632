/- Calls that the evaluator has carried out. -/
import Derived.Test.YtblopbimchkneaaKnS13p0
import Derived.Test.YtblopbimchkneaaKnS13p1
import Derived.Test.YtblopbimchkneaaKnS13p2
import Derived.Test.YtblopbimchkneaaKnS13p3
import Derived.Test.YtblopbimchkneaaKnT14
namespace Go.Proofs.Ytblopbimchkneaa.Ev
open Go Go.Abs
set_option maxRecDepth 100000
theorem said13x18 : Said C (.call e13x18.f e13x18.args e13x18.H) (.val e13x18.v e13x18.H2) := (Said.frame said14 _ : Said C (.call 14 [] h13x18a) (.val (.bool true) h13x18a))
theorem tab13_ok : TabOK C tab13 := .cons said13x18 <| .cons said13x17 <| .cons said13x16 <| .cons said13x15 <| .cons said13x14 <| .cons said13x13 <| .cons said13x12 <| .cons said13x11 <| .cons said13x10 <| .cons said13x9 <| .cons said13x8 <| .cons said13x7 <| .cons said13x6 <| .cons said13x5 <| .cons said13x4 <| .cons said13x3 <| .cons said13x2 <| .cons said13x1 <| .cons said13x0 <| .nil
theorem top13 : Said C (.call e13.f e13.args e13.H) (.val e13.v e13.H2) := checkO_said ok tab13_ok (n := 1000) (by kernel_rfl)
theorem said13 : Said C (.call 13 [] noHeap) (.val (.bool true) e13.H2) := top13
end Go.Proofs.Ytblopbimchkneaa.Ev
