/- Calls that the evaluator has carried out. -/
import Derived.Test.YtcfffhkabhmkmaaDoorKnS19p0
import Derived.Test.YtcfffhkabhmkmaaDoorKnS19p1
import Derived.Test.YtcfffhkabhmkmaaDoorKnS19p2
import Derived.Test.YtcfffhkabhmkmaaDoorKnS19p3
import Derived.Test.YtcfffhkabhmkmaaDoorKnS19p4
import Derived.Test.YtcfffhkabhmkmaaDoorKnS19p5
import Derived.Test.YtcfffhkabhmkmaaDoorKnS19p6
import Derived.Test.YtcfffhkabhmkmaaDoorKnS19p7
namespace Go.Proofs.YtcfffhkabhmkmaaDoor.Ev
open Go Go.Abs
set_option maxRecDepth 100000
theorem tab19_ok : TabOK C tab19 := .cons said19x13 <| .cons said19x12 <| .cons said19x11 <| .cons said19x10 <| .cons said19x9 <| .cons said19x8 <| .cons said19x7 <| .cons said19x6 <| .cons said19x5 <| .cons said19x4 <| .cons said19x3 <| .cons said19x2 <| .cons said19x1 <| .cons said19x0 <| .nil
theorem top19 : Said C (.call e19.f e19.args e19.H) (.val e19.v e19.H2) := checkO_said ok tab19_ok (n := 1000) (by kernel_rfl)
theorem said19 : Said C (.call 19 [] noHeap) (.val (.bool true) e19.H2) := top19
end Go.Proofs.YtcfffhkabhmkmaaDoor.Ev
