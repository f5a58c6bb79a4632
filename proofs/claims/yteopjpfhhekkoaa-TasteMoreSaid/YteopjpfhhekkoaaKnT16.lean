/- Calls that the evaluator has carried out. -/
import Derived.Test.YteopjpfhhekkoaaKnS16p0
import Derived.Test.YteopjpfhhekkoaaKnS16p1
import Derived.Test.YteopjpfhhekkoaaKnS16p2
import Derived.Test.YteopjpfhhekkoaaKnS16p3
import Derived.Test.YteopjpfhhekkoaaKnS16p4
import Derived.Test.YteopjpfhhekkoaaKnS16p5
import Derived.Test.YteopjpfhhekkoaaKnS16p6
import Derived.Test.YteopjpfhhekkoaaKnS16p7
import Derived.Test.YteopjpfhhekkoaaKnS16p8
namespace Go.Proofs.Yteopjpfhhekkoaa.Ev
open Go Go.Abs
set_option maxRecDepth 100000
theorem tab16_ok : TabOK C tab16 := .cons said16x51 <| .cons said16x50 <| .cons said16x49 <| .cons said16x48 <| .cons said16x47 <| .cons said16x46 <| .cons said16x45 <| .cons said16x44 <| .cons said16x43 <| .cons said16x42 <| .cons said16x41 <| .cons said16x40 <| .cons said16x39 <| .cons said16x38 <| .cons said16x37 <| .cons said16x36 <| .cons said16x35 <| .cons said16x34 <| .cons said16x33 <| .cons said16x32 <| .cons said16x31 <| .cons said16x30 <| .cons said16x29 <| .cons said16x28 <| .cons said16x27 <| .cons said16x26 <| .cons said16x25 <| .cons said16x24 <| .cons said16x23 <| .cons said16x22 <| .cons said16x21 <| .cons said16x20 <| .cons said16x19 <| .cons said16x18 <| .cons said16x17 <| .cons said16x16 <| .cons said16x15 <| .cons said16x14 <| .cons said16x13 <| .cons said16x12 <| .cons said16x11 <| .cons said16x10 <| .cons said16x9 <| .cons said16x8 <| .cons said16x7 <| .cons said16x6 <| .cons said16x5 <| .cons said16x4 <| .cons said16x3 <| .cons said16x2 <| .cons said16x1 <| .cons said16x0 <| .nil
theorem top16 : Said C (.call e16.f e16.args e16.H) (.val e16.v e16.H2) := checkO_said ok tab16_ok (n := 1000) (by kernel_rfl)
theorem said16 : Said C (.call 16 [] noHeap) (.val (.bool true) e16.H2) := top16
end Go.Proofs.Yteopjpfhhekkoaa.Ev
