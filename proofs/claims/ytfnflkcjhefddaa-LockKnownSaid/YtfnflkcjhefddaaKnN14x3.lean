/- Calls that the evaluator has carried out. -/
import Derived.Test.YtfnflkcjhefddaaKnS14p0
import Derived.Test.YtfnflkcjhefddaaKnS14p1
import Derived.Test.YtfnflkcjhefddaaKnS14p2
import Derived.Test.YtfnflkcjhefddaaKnS14p3
import Derived.Test.YtfnflkcjhefddaaKnS14p4
import Derived.Test.YtfnflkcjhefddaaKnS14p5
import Derived.Test.YtfnflkcjhefddaaKnS14p6
import Derived.Test.YtfnflkcjhefddaaKnS14p7
import Derived.Test.YtfnflkcjhefddaaKnS14p8
import Derived.Test.YtfnflkcjhefddaaKnS14p9
import Derived.Test.YtfnflkcjhefddaaKnS14p10
import Derived.Test.YtfnflkcjhefddaaKnS14p11
import Derived.Test.YtfnflkcjhefddaaKnS14p12
namespace Go.Proofs.Ytfnflkcjhefddaa.Ev
open Go Go.Abs
set_option maxRecDepth 100000
theorem said14x116 : Said C (.call e14x116.f e14x116.args e14x116.H) (.val e14x116.v e14x116.H2) := checkO_said ok (.cons said14x92 <| .cons said14x93 <| .cons said14x94 <| .cons said14x95 <| .cons said14x96 <| .cons said14x97 <| .cons said14x98 <| .cons said14x99 <| .cons said14x100 <| .cons said14x101 <| .cons said14x102 <| .cons said14x103 <| .cons said14x104 <| .cons said14x105 <| .cons said14x106 <| .cons said14x107 <| .cons said14x108 <| .cons said14x109 <| .cons said14x110 <| .cons said14x111 <| .cons said14x112 <| .cons said14x113 <| .cons said14x114 <| .cons said14x115 <| .nil : TabOK C [e14x92, e14x93, e14x94, e14x95, e14x96, e14x97, e14x98, e14x99, e14x100, e14x101, e14x102, e14x103, e14x104, e14x105, e14x106, e14x107, e14x108, e14x109, e14x110, e14x111, e14x112, e14x113, e14x114, e14x115]) (n := 1000) (by kernel_rfl)
end Go.Proofs.Ytfnflkcjhefddaa.Ev
