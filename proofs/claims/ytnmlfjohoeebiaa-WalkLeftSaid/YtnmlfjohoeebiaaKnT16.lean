/- Calls that the evaluator has carried out. -/
import Derived.Test.YtnmlfjohoeebiaaKnS16p0
import Derived.Test.YtnmlfjohoeebiaaKnS16p1
import Derived.Test.YtnmlfjohoeebiaaKnS16p2
import Derived.Test.YtnmlfjohoeebiaaKnS16p3
import Derived.Test.YtnmlfjohoeebiaaKnS16p4
namespace Go.Proofs.Ytnmlfjohoeebiaa.Ev
open Go Go.Abs
set_option maxRecDepth 100000
theorem tab16_ok : TabOK C tab16 := .cons said16x18 <| .cons said16x17 <| .cons said16x16 <| .cons said16x15 <| .cons said16x14 <| .cons said16x13 <| .cons said16x12 <| .cons said16x11 <| .cons said16x10 <| .cons said16x9 <| .cons said16x8 <| .cons said16x7 <| .cons said16x6 <| .cons said16x5 <| .cons said16x4 <| .cons said16x3 <| .cons said16x2 <| .cons said16x1 <| .cons said16x0 <| .nil
theorem top16 : Said C (.call e16.f e16.args e16.H) (.val e16.v e16.H2) := checkO_said ok tab16_ok (n := 1000) (by kernel_rfl)
theorem said16 : Said C (.call 16 [] noHeap) (.val (.bool true) e16.H2) := top16
end Go.Proofs.Ytnmlfjohoeebiaa.Ev
