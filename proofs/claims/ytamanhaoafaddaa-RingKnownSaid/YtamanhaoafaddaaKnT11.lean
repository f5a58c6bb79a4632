/- Calls that the evaluator has carried out. -/
import Derived.Test.YtamanhaoafaddaaKnS11p0
import Derived.Test.YtamanhaoafaddaaKnS11p1
import Derived.Test.YtamanhaoafaddaaKnS11p2
import Derived.Test.YtamanhaoafaddaaKnS11p3
import Derived.Test.YtamanhaoafaddaaKnS11p4
import Derived.Test.YtamanhaoafaddaaKnS11p5
namespace Go.Proofs.Ytamanhaoafaddaa.Ev
open Go Go.Abs
set_option maxRecDepth 100000
theorem tab11_ok : TabOK C tab11 := .cons said11x11 <| .cons said11x10 <| .cons said11x9 <| .cons said11x8 <| .cons said11x7 <| .cons said11x6 <| .cons said11x5 <| .cons said11x4 <| .cons said11x3 <| .cons said11x2 <| .cons said11x1 <| .cons said11x0 <| .nil
theorem top11 : Said C (.call e11.f e11.args e11.H) (.val e11.v e11.H2) := checkO_said ok tab11_ok (n := 1000) (by kernel_rfl)
theorem said11 : Said C (.call 11 [] noHeap) (.val (.bool true) e11.H2) := top11
end Go.Proofs.Ytamanhaoafaddaa.Ev
