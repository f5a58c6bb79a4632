/- Calls that the evaluator has carried out. -/
import Derived.Test.YtfnflkcjhefddaaKnS14p0
import Derived.Test.YtfnflkcjhefddaaKnS14p1
import Derived.Test.YtfnflkcjhefddaaKnS14p2
import Derived.Test.YtfnflkcjhefddaaKnS14p3
import Derived.Test.YtfnflkcjhefddaaKnS14p4
import Derived.Test.YtfnflkcjhefddaaKnS14p5
import Derived.Test.YtfnflkcjhefddaaKnS14p6
import Derived.Test.YtfnflkcjhefddaaKnS14p7
import Derived.Test.YtfnflkcjhefddaaKnS14p8
import Derived.Test.YtfnflkcjhefddaaKnS14p9
import Derived.Test.YtfnflkcjhefddaaKnS14p10
import Derived.Test.YtfnflkcjhefddaaKnS14p11
import Derived.Test.YtfnflkcjhefddaaKnS14p12
import Derived.Test.YtfnflkcjhefddaaKnN14x0
import Derived.Test.YtfnflkcjhefddaaKnN14x1
import Derived.Test.YtfnflkcjhefddaaKnN14x2
import Derived.Test.YtfnflkcjhefddaaKnN14x3
import Derived.Test.YtfnflkcjhefddaaKnT15
namespace Go.Proofs.Ytfnflkcjhefddaa.Ev
open Go Go.Abs
set_option maxRecDepth 100000
theorem said14x144 : Said C (.call e14x144.f e14x144.args e14x144.H) (.val e14x144.v e14x144.H2) := (Said.frame said15 _ : Said C (.call 15 [] h14x144a) (.val (.bool true) h14x144a))
theorem tab14_ok : TabOK C tab14 := .cons said14x144 <| .cons said14x143 <| .cons said14x142 <| .cons said14x141 <| .cons said14x140 <| .cons said14x139 <| .cons said14x138 <| .cons said14x137 <| .cons said14x136 <| .cons said14x135 <| .cons said14x134 <| .cons said14x133 <| .cons said14x132 <| .cons said14x131 <| .cons said14x130 <| .cons said14x129 <| .cons said14x128 <| .cons said14x127 <| .cons said14x126 <| .cons said14x125 <| .cons said14x124 <| .cons said14x123 <| .cons said14x122 <| .cons said14x121 <| .cons said14x120 <| .cons said14x119 <| .cons said14x118 <| .cons said14x117 <| .cons said14x116 <| .cons said14x91 <| .cons said14x66 <| .cons said14x41 <| .cons said14x16 <| .cons said14x15 <| .cons said14x14 <| .cons said14x13 <| .cons said14x12 <| .cons said14x11 <| .cons said14x10 <| .cons said14x9 <| .cons said14x8 <| .cons said14x7 <| .cons said14x6 <| .cons said14x5 <| .cons said14x4 <| .cons said14x3 <| .cons said14x2 <| .cons said14x1 <| .cons said14x0 <| .nil
theorem top14 : Said C (.call e14.f e14.args e14.H) (.val e14.v e14.H2) := checkO_said ok tab14_ok (n := 1000) (by kernel_rfl)
theorem said14 : Said C (.call 14 [] noHeap) (.val (.bool true) e14.H2) := top14
end Go.Proofs.Ytfnflkcjhefddaa.Ev
