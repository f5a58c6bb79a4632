/- Calls that the evaluator has carried out. -/
import Derived.Test.YtcfffhkabhmkmaaKnS8p0
import Derived.Test.YtcfffhkabhmkmaaKnS8p1
import Derived.Test.YtcfffhkabhmkmaaKnS8p2
import Derived.Test.YtcfffhkabhmkmaaKnS8p3
import Derived.Test.YtcfffhkabhmkmaaKnS8p4
import Derived.Test.YtcfffhkabhmkmaaKnS8p5
import Derived.Test.YtcfffhkabhmkmaaKnS8p6
import Derived.Test.YtcfffhkabhmkmaaKnS8p7
namespace Go.Proofs.Ytcfffhkabhmkmaa.Ev
open Go Go.Abs
set_option maxRecDepth 100000
theorem tab8_ok : TabOK C tab8 := .cons said8x13 <| .cons said8x12 <| .cons said8x11 <| .cons said8x10 <| .cons said8x9 <| .cons said8x8 <| .cons said8x7 <| .cons said8x6 <| .cons said8x5 <| .cons said8x4 <| .cons said8x3 <| .cons said8x2 <| .cons said8x1 <| .cons said8x0 <| .nil
theorem top8 : Said C (.call e8.f e8.args e8.H) (.val e8.v e8.H2) := checkO_said ok tab8_ok (n := 1000) (by kernel_rfl)
theorem said8 : Said C (.call 8 [] noHeap) (.val (.bool true) e8.H2) := top8
end Go.Proofs.Ytcfffhkabhmkmaa.Ev
