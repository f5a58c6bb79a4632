/- Calls that the evaluator has carried out. -/
import Derived.Test.YtamanhaoafaddaaKnS10p0
import Derived.Test.YtamanhaoafaddaaKnS10p1
import Derived.Test.YtamanhaoafaddaaKnS10p2
import Derived.Test.YtamanhaoafaddaaKnS10p3
import Derived.Test.YtamanhaoafaddaaKnS10p4
import Derived.Test.YtamanhaoafaddaaKnS10p5
import Derived.Test.YtamanhaoafaddaaKnT11
namespace Go.Proofs.Ytamanhaoafaddaa.Ev
open Go Go.Abs
set_option maxRecDepth 100000
theorem said10x18 : Said C (.call e10x18.f e10x18.args e10x18.H) (.val e10x18.v e10x18.H2) := (Said.frame said11 _ : Said C (.call 11 [] h10x18a) (.val (.bool true) h10x18a))
theorem tab10_ok : TabOK C tab10 := .cons said10x18 <| .cons said10x17 <| .cons said10x16 <| .cons said10x15 <| .cons said10x14 <| .cons said10x13 <| .cons said10x12 <| .cons said10x11 <| .cons said10x10 <| .cons said10x9 <| .cons said10x8 <| .cons said10x7 <| .cons said10x6 <| .cons said10x5 <| .cons said10x4 <| .cons said10x3 <| .cons said10x2 <| .cons said10x1 <| .cons said10x0 <| .nil
theorem top10 : Said C (.call e10.f e10.args e10.H) (.val e10.v e10.H2) := checkO_said ok tab10_ok (n := 1000) (by kernel_rfl)
theorem said10 : Said C (.call 10 [] noHeap) (.val (.bool true) e10.H2) := top10
end Go.Proofs.Ytamanhaoafaddaa.Ev
