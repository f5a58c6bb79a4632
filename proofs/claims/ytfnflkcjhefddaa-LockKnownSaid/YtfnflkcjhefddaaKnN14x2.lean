/- Calls that the evaluator has carried out. -/
import Derived.Test.YtfnflkcjhefddaaKnS14p0
import Derived.Test.YtfnflkcjhefddaaKnS14p1
import Derived.Test.YtfnflkcjhefddaaKnS14p2
import Derived.Test.YtfnflkcjhefddaaKnS14p3
import Derived.Test.YtfnflkcjhefddaaKnS14p4
import Derived.Test.YtfnflkcjhefddaaKnS14p5
import Derived.Test.YtfnflkcjhefddaaKnS14p6
import Derived.Test.YtfnflkcjhefddaaKnS14p7
import Derived.Test.YtfnflkcjhefddaaKnS14p8
import Derived.Test.YtfnflkcjhefddaaKnS14p9
import Derived.Test.YtfnflkcjhefddaaKnS14p10
import Derived.Test.YtfnflkcjhefddaaKnS14p11
import Derived.Test.YtfnflkcjhefddaaKnS14p12
namespace Go.Proofs.Ytfnflkcjhefddaa.Ev
open Go Go.Abs
set_option maxRecDepth 100000
theorem said14x91 : Said C (.call e14x91.f e14x91.args e14x91.H) (.val e14x91.v e14x91.H2) := checkO_said ok (.cons said14x67 <| .cons said14x68 <| .cons said14x69 <| .cons said14x70 <| .cons said14x71 <| .cons said14x72 <| .cons said14x73 <| .cons said14x74 <| .cons said14x75 <| .cons said14x76 <| .cons said14x77 <| .cons said14x78 <| .cons said14x79 <| .cons said14x80 <| .cons said14x81 <| .cons said14x82 <| .cons said14x83 <| .cons said14x84 <| .cons said14x85 <| .cons said14x86 <| .cons said14x87 <| .cons said14x88 <| .cons said14x89 <| .cons said14x90 <| .nil : TabOK C [e14x67, e14x68, e14x69, e14x70, e14x71, e14x72, e14x73, e14x74, e14x75, e14x76, e14x77, e14x78, e14x79, e14x80, e14x81, e14x82, e14x83, e14x84, e14x85, e14x86, e14x87, e14x88, e14x89, e14x90]) (n := 1000) (by kernel_rfl)
end Go.Proofs.Ytfnflkcjhefddaa.Ev
