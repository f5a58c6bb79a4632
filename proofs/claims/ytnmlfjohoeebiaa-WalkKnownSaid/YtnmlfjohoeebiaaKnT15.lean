/- Calls that the evaluator has carried out. -/
import Derived.Test.YtnmlfjohoeebiaaKnS15p0
import Derived.Test.YtnmlfjohoeebiaaKnS15p1
import Derived.Test.YtnmlfjohoeebiaaKnS15p2
import Derived.Test.YtnmlfjohoeebiaaKnS15p3
import Derived.Test.YtnmlfjohoeebiaaKnT16
namespace Go.Proofs.Ytnmlfjohoeebiaa.Ev
open Go Go.Abs
set_option maxRecDepth 100000
theorem said15x24 : Said C (.call e15x24.f e15x24.args e15x24.H) (.val e15x24.v e15x24.H2) := (Said.frame said16 _ : Said C (.call 16 [] h15x24a) (.val (.bool true) h15x24a))
theorem tab15_ok : TabOK C tab15 := .cons said15x24 <| .cons said15x23 <| .cons said15x22 <| .cons said15x21 <| .cons said15x20 <| .cons said15x19 <| .cons said15x18 <| .cons said15x17 <| .cons said15x16 <| .cons said15x15 <| .cons said15x14 <| .cons said15x13 <| .cons said15x12 <| .cons said15x11 <| .cons said15x10 <| .cons said15x9 <| .cons said15x8 <| .cons said15x7 <| .cons said15x6 <| .cons said15x5 <| .cons said15x4 <| .cons said15x3 <| .cons said15x2 <| .cons said15x1 <| .cons said15x0 <| .nil
theorem top15 : Said C (.call e15.f e15.args e15.H) (.val e15.v e15.H2) := checkO_said ok tab15_ok (n := 1000) (by kernel_rfl)
theorem said15 : Said C (.call 15 [] noHeap) (.val (.bool true) e15.H2) := top15
end Go.Proofs.Ytnmlfjohoeebiaa.Ev
