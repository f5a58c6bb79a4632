/- Calls that the evaluator has carried out. -/
import Derived.Test.YtfnflkcjhefddaaKnS14p0
import Derived.Test.YtfnflkcjhefddaaKnS14p1
import Derived.Test.YtfnflkcjhefddaaKnS14p2
import Derived.Test.YtfnflkcjhefddaaKnS14p3
import Derived.Test.YtfnflkcjhefddaaKnS14p4
import Derived.Test.YtfnflkcjhefddaaKnS14p5
import Derived.Test.YtfnflkcjhefddaaKnS14p6
import Derived.Test.YtfnflkcjhefddaaKnS14p7
import Derived.Test.YtfnflkcjhefddaaKnS14p8
import Derived.Test.YtfnflkcjhefddaaKnS14p9
import Derived.Test.YtfnflkcjhefddaaKnS14p10
import Derived.Test.YtfnflkcjhefddaaKnS14p11
import Derived.Test.YtfnflkcjhefddaaKnS14p12
namespace Go.Proofs.Ytfnflkcjhefddaa.Ev
open Go Go.Abs
set_option maxRecDepth 100000
theorem said14x41 : Said C (.call e14x41.f e14x41.args e14x41.H) (.val e14x41.v e14x41.H2) := checkO_said ok (.cons said14x17 <| .cons said14x18 <| .cons said14x19 <| .cons said14x20 <| .cons said14x21 <| .cons said14x22 <| .cons said14x23 <| .cons said14x24 <| .cons said14x25 <| .cons said14x26 <| .cons said14x27 <| .cons said14x28 <| .cons said14x29 <| .cons said14x30 <| .cons said14x31 <| .cons said14x32 <| .cons said14x33 <| .cons said14x34 <| .cons said14x35 <| .cons said14x36 <| .cons said14x37 <| .cons said14x38 <| .cons said14x39 <| .cons said14x40 <| .nil : TabOK C [e14x17, e14x18, e14x19, e14x20, e14x21, e14x22, e14x23, e14x24, e14x25, e14x26, e14x27, e14x28, e14x29, e14x30, e14x31, e14x32, e14x33, e14x34, e14x35, e14x36, e14x37, e14x38, e14x39, e14x40]) (n := 1000) (by kernel_rfl)
end Go.Proofs.Ytfnflkcjhefddaa.Ev
