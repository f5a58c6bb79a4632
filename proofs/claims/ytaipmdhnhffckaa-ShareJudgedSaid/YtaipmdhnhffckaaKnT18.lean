/- Calls that the evaluator has carried out. -/
import Derived.Test.YtaipmdhnhffckaaKnS18p0
import Derived.Test.YtaipmdhnhffckaaKnS18p1
import Derived.Test.YtaipmdhnhffckaaKnS18p2
import Derived.Test.YtaipmdhnhffckaaKnS18p3
import Derived.Test.YtaipmdhnhffckaaKnS18p4
import Derived.Test.YtaipmdhnhffckaaKnS18p5
import Derived.Test.YtaipmdhnhffckaaKnS18p6
import Derived.Test.YtaipmdhnhffckaaKnS18p7
import Derived.Test.YtaipmdhnhffckaaKnS18p8
namespace Go.Proofs.Ytaipmdhnhffckaa.Ev
open Go Go.Abs
set_option maxRecDepth 100000
theorem tab18_ok : TabOK C tab18 := .cons said18x49 <| .cons said18x48 <| .cons said18x47 <| .cons said18x46 <| .cons said18x45 <| .cons said18x44 <| .cons said18x43 <| .cons said18x42 <| .cons said18x41 <| .cons said18x40 <| .cons said18x39 <| .cons said18x38 <| .cons said18x37 <| .cons said18x36 <| .cons said18x35 <| .cons said18x34 <| .cons said18x33 <| .cons said18x32 <| .cons said18x31 <| .cons said18x30 <| .cons said18x29 <| .cons said18x28 <| .cons said18x27 <| .cons said18x26 <| .cons said18x25 <| .cons said18x24 <| .cons said18x23 <| .cons said18x22 <| .cons said18x21 <| .cons said18x20 <| .cons said18x19 <| .cons said18x18 <| .cons said18x17 <| .cons said18x16 <| .cons said18x15 <| .cons said18x14 <| .cons said18x13 <| .cons said18x12 <| .cons said18x11 <| .cons said18x10 <| .cons said18x9 <| .cons said18x8 <| .cons said18x7 <| .cons said18x6 <| .cons said18x5 <| .cons said18x4 <| .cons said18x3 <| .cons said18x2 <| .cons said18x1 <| .cons said18x0 <| .nil
theorem top18 : Said C (.call e18.f e18.args e18.H) (.val e18.v e18.H2) := checkO_said ok tab18_ok (n := 1000) (by kernel_rfl)
theorem said18 : Said C (.call 18 [] noHeap) (.val (.bool true) e18.H2) := top18
end Go.Proofs.Ytaipmdhnhffckaa.Ev
