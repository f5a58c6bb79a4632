/- Calls that the evaluator has carried out. -/
import Derived.Test.YtcfffhkabhmkmaaKnS7p0
import Derived.Test.YtcfffhkabhmkmaaKnS7p1
import Derived.Test.YtcfffhkabhmkmaaKnS7p2
import Derived.Test.YtcfffhkabhmkmaaKnS7p3
import Derived.Test.YtcfffhkabhmkmaaKnS7p4
import Derived.Test.YtcfffhkabhmkmaaKnS7p5
import Derived.Test.YtcfffhkabhmkmaaKnT8
namespace Go.Proofs.Ytcfffhkabhmkmaa.Ev
open Go Go.Abs
set_option maxRecDepth 100000
theorem said7x18 : Said C (.call e7x18.f e7x18.args e7x18.H) (.val e7x18.v e7x18.H2) := (Said.frame said8 _ : Said C (.call 8 [] h7x18a) (.val (.bool true) h7x18a))
theorem tab7_ok : TabOK C tab7 := .cons said7x18 <| .cons said7x17 <| .cons said7x16 <| .cons said7x15 <| .cons said7x14 <| .cons said7x13 <| .cons said7x12 <| .cons said7x11 <| .cons said7x10 <| .cons said7x9 <| .cons said7x8 <| .cons said7x7 <| .cons said7x6 <| .cons said7x5 <| .cons said7x4 <| .cons said7x3 <| .cons said7x2 <| .cons said7x1 <| .cons said7x0 <| .nil
theorem top7 : Said C (.call e7.f e7.args e7.H) (.val e7.v e7.H2) := checkO_said ok tab7_ok (n := 1000) (by kernel_rfl)
theorem said7 : Said C (.call 7 [] noHeap) (.val (.bool true) e7.H2) := top7
end Go.Proofs.Ytcfffhkabhmkmaa.Ev
