/- Calls that the evaluator has carried out, with the calls within them. -/
import Derived.Test.YtfnflkcjhefddaaKnS15p0
import Derived.Test.YtfnflkcjhefddaaKnS15p1
import Derived.Test.YtfnflkcjhefddaaKnS15p2
import Derived.Test.YtfnflkcjhefddaaKnS15p3
import Derived.Test.YtfnflkcjhefddaaKnS15p4
import Derived.Test.YtfnflkcjhefddaaKnS15p5
import Derived.Test.YtfnflkcjhefddaaKnS15p6
namespace Go.Proofs.Ytfnflkcjhefddaa.Ev
open Go Go.Abs
set_option maxRecDepth 100000
theorem said15x38 : Said C (.call e15x38.f e15x38.args e15x38.H) (.val e15x38.v e15x38.H2) := checkO_said ok (.cons said15x14 <| .cons said15x15 <| .cons said15x16 <| .cons said15x17 <| .cons said15x18 <| .cons said15x19 <| .cons said15x20 <| .cons said15x21 <| .cons said15x22 <| .cons said15x23 <| .cons said15x24 <| .cons said15x25 <| .cons said15x26 <| .cons said15x27 <| .cons said15x28 <| .cons said15x29 <| .cons said15x30 <| .cons said15x31 <| .cons said15x32 <| .cons said15x33 <| .cons said15x34 <| .cons said15x35 <| .cons said15x36 <| .cons said15x37 <| .nil : TabOK C [e15x14, e15x15, e15x16, e15x17, e15x18, e15x19, e15x20, e15x21, e15x22, e15x23, e15x24, e15x25, e15x26, e15x27, e15x28, e15x29, e15x30, e15x31, e15x32, e15x33, e15x34, e15x35, e15x36, e15x37]) (n := 1000) (by kernel_rfl)
end Go.Proofs.Ytfnflkcjhefddaa.Ev
