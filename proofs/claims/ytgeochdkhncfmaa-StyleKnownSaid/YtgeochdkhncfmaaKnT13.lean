/- Calls that the evaluator has carried out. -/
import Derived.Test.YtgeochdkhncfmaaKnS13p0
import Derived.Test.YtgeochdkhncfmaaKnS13p1
import Derived.Test.YtgeochdkhncfmaaKnS13p2
import Derived.Test.YtgeochdkhncfmaaKnS13p3
import Derived.Test.YtgeochdkhncfmaaKnS13p4
import Derived.Test.YtgeochdkhncfmaaKnS13p5
import Derived.Test.YtgeochdkhncfmaaKnS13p6
import Derived.Test.YtgeochdkhncfmaaKnS13p7
import Derived.Test.YtgeochdkhncfmaaKnT16
namespace Go.Proofs.Ytgeochdkhncfmaa.Ev
open Go Go.Abs
set_option maxRecDepth 100000
theorem said13x15 : Said C (.call e13x15.f e13x15.args e13x15.H) (.val e13x15.v e13x15.H2) := (Said.frame said16 _ : Said C (.call 16 [] h13x15a) (.val (.bool true) h13x15a))
theorem tab13_ok : TabOK C tab13 := .cons said13x15 <| .cons said13x14 <| .cons said13x13 <| .cons said13x12 <| .cons said13x11 <| .cons said13x10 <| .cons said13x9 <| .cons said13x8 <| .cons said13x7 <| .cons said13x6 <| .cons said13x5 <| .cons said13x4 <| .cons said13x3 <| .cons said13x2 <| .cons said13x1 <| .cons said13x0 <| .nil
theorem top13 : Said C (.call e13.f e13.args e13.H) (.val e13.v e13.H2) := checkO_said ok tab13_ok (n := 1000) (by kernel_rfl)
theorem said13 : Said C (.call 13 [] noHeap) (.val (.bool true) e13.H2) := top13
end Go.Proofs.Ytgeochdkhncfmaa.Ev
