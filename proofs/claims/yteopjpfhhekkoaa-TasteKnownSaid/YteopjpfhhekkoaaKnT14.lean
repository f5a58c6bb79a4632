/- Calls that the evaluator has carried out. -/
import Derived.Test.YteopjpfhhekkoaaKnS14p0
import Derived.Test.YteopjpfhhekkoaaKnS14p1
import Derived.Test.YteopjpfhhekkoaaKnS14p2
import Derived.Test.YteopjpfhhekkoaaKnS14p3
import Derived.Test.YteopjpfhhekkoaaKnS14p4
import Derived.Test.YteopjpfhhekkoaaKnS14p5
import Derived.Test.YteopjpfhhekkoaaKnT16
namespace Go.Proofs.Yteopjpfhhekkoaa.Ev
open Go Go.Abs
set_option maxRecDepth 100000
theorem said14x33 : Said C (.call e14x33.f e14x33.args e14x33.H) (.val e14x33.v e14x33.H2) := (Said.frame said16 _ : Said C (.call 16 [] h14x33a) (.val (.bool true) h14x33a))
theorem tab14_ok : TabOK C tab14 := .cons said14x33 <| .cons said14x32 <| .cons said14x31 <| .cons said14x30 <| .cons said14x29 <| .cons said14x28 <| .cons said14x27 <| .cons said14x26 <| .cons said14x25 <| .cons said14x24 <| .cons said14x23 <| .cons said14x22 <| .cons said14x21 <| .cons said14x20 <| .cons said14x19 <| .cons said14x18 <| .cons said14x17 <| .cons said14x16 <| .cons said14x15 <| .cons said14x14 <| .cons said14x13 <| .cons said14x12 <| .cons said14x11 <| .cons said14x10 <| .cons said14x9 <| .cons said14x8 <| .cons said14x7 <| .cons said14x6 <| .cons said14x5 <| .cons said14x4 <| .cons said14x3 <| .cons said14x2 <| .cons said14x1 <| .cons said14x0 <| .nil
theorem top14 : Said C (.call e14.f e14.args e14.H) (.val e14.v e14.H2) := checkO_said ok tab14_ok (n := 1000) (by kernel_rfl)
theorem said14 : Said C (.call 14 [] noHeap) (.val (.bool true) e14.H2) := top14
end Go.Proofs.Yteopjpfhhekkoaa.Ev
