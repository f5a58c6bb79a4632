/- Calls that the evaluator has carried out. -/
import Derived.Test.YtfnflkcjhefddaaKnS15p0
import Derived.Test.YtfnflkcjhefddaaKnS15p1
import Derived.Test.YtfnflkcjhefddaaKnS15p2
import Derived.Test.YtfnflkcjhefddaaKnS15p3
import Derived.Test.YtfnflkcjhefddaaKnS15p4
import Derived.Test.YtfnflkcjhefddaaKnS15p5
import Derived.Test.YtfnflkcjhefddaaKnS15p6
import Derived.Test.YtfnflkcjhefddaaKnN15x0
namespace Go.Proofs.Ytfnflkcjhefddaa.Ev
open Go Go.Abs
set_option maxRecDepth 100000
theorem tab15_ok : TabOK C tab15 := .cons said15x61 <| .cons said15x60 <| .cons said15x59 <| .cons said15x58 <| .cons said15x57 <| .cons said15x56 <| .cons said15x55 <| .cons said15x54 <| .cons said15x53 <| .cons said15x52 <| .cons said15x51 <| .cons said15x50 <| .cons said15x49 <| .cons said15x48 <| .cons said15x47 <| .cons said15x46 <| .cons said15x45 <| .cons said15x44 <| .cons said15x43 <| .cons said15x42 <| .cons said15x41 <| .cons said15x40 <| .cons said15x39 <| .cons said15x38 <| .cons said15x13 <| .cons said15x12 <| .cons said15x11 <| .cons said15x10 <| .cons said15x9 <| .cons said15x8 <| .cons said15x7 <| .cons said15x6 <| .cons said15x5 <| .cons said15x4 <| .cons said15x3 <| .cons said15x2 <| .cons said15x1 <| .cons said15x0 <| .nil
theorem top15 : Said C (.call e15.f e15.args e15.H) (.val e15.v e15.H2) := checkO_said ok tab15_ok (n := 1000) (by kernel_rfl)
theorem said15 : Said C (.call 15 [] noHeap) (.val (.bool true) e15.H2) := top15
end Go.Proofs.Ytfnflkcjhefddaa.Ev
