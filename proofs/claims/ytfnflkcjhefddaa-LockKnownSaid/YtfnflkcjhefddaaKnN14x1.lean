/- Calls that the evaluator has carried out. -/
import Derived.Test.YtfnflkcjhefddaaKnS14p0
import Derived.Test.YtfnflkcjhefddaaKnS14p1
import Derived.Test.YtfnflkcjhefddaaKnS14p2
import Derived.Test.YtfnflkcjhefddaaKnS14p3
import Derived.Test.YtfnflkcjhefddaaKnS14p4
import Derived.Test.YtfnflkcjhefddaaKnS14p5
import Derived.Test.YtfnflkcjhefddaaKnS14p6
import Derived.Test.YtfnflkcjhefddaaKnS14p7
import Derived.Test.YtfnflkcjhefddaaKnS14p8
import Derived.Test.YtfnflkcjhefddaaKnS14p9
import Derived.Test.YtfnflkcjhefddaaKnS14p10
import Derived.Test.YtfnflkcjhefddaaKnS14p11
import Derived.Test.YtfnflkcjhefddaaKnS14p12
namespace Go.Proofs.Ytfnflkcjhefddaa.Ev
open Go Go.Abs
set_option maxRecDepth 100000
theorem said14x66 : Said C (.call e14x66.f e14x66.args e14x66.H) (.val e14x66.v e14x66.H2) := checkO_said ok (.cons said14x42 <| .cons said14x43 <| .cons said14x44 <| .cons said14x45 <| .cons said14x46 <| .cons said14x47 <| .cons said14x48 <| .cons said14x49 <| .cons said14x50 <| .cons said14x51 <| .cons said14x52 <| .cons said14x53 <| .cons said14x54 <| .cons said14x55 <| .cons said14x56 <| .cons said14x57 <| .cons said14x58 <| .cons said14x59 <| .cons said14x60 <| .cons said14x61 <| .cons said14x62 <| .cons said14x63 <| .cons said14x64 <| .cons said14x65 <| .nil : TabOK C [e14x42, e14x43, e14x44, e14x45, e14x46, e14x47, e14x48, e14x49, e14x50, e14x51, e14x52, e14x53, e14x54, e14x55, e14x56, e14x57, e14x58, e14x59, e14x60, e14x61, e14x62, e14x63, e14x64, e14x65]) (n := 1000) (by kernel_rfl)
end Go.Proofs.Ytfnflkcjhefddaa.Ev
