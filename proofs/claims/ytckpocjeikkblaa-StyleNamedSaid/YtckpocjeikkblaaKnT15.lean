/- Calls that the evaluator has carried out. -/
import Derived.Test.YtckpocjeikkblaaKnS15p0
import Derived.Test.YtckpocjeikkblaaKnS15p1
import Derived.Test.YtckpocjeikkblaaKnS15p2
import Derived.Test.YtckpocjeikkblaaKnS15p3
import Derived.Test.YtckpocjeikkblaaKnS15p4
namespace Go.Proofs.Ytckpocjeikkblaa.Ev
open Go Go.Abs
set_option maxRecDepth 100000
theorem tab15_ok : TabOK C tab15 := .cons said15x12 <| .cons said15x11 <| .cons said15x10 <| .cons said15x9 <| .cons said15x8 <| .cons said15x7 <| .cons said15x6 <| .cons said15x5 <| .cons said15x4 <| .cons said15x3 <| .cons said15x2 <| .cons said15x1 <| .cons said15x0 <| .nil
theorem top15 : Said C (.call e15.f e15.args e15.H) (.val e15.v e15.H2) := checkO_said ok tab15_ok (n := 1000) (by kernel_rfl)
theorem said15 : Said C (.call 15 [] noHeap) (.val (.bool true) e15.H2) := top15
end Go.Proofs.Ytckpocjeikkblaa.Ev
