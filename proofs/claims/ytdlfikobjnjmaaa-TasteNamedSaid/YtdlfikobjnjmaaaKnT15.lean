/- Calls that the evaluator has carried out. -/
import Derived.Test.YtdlfikobjnjmaaaKnS15p0
import Derived.Test.YtdlfikobjnjmaaaKnS15p1
import Derived.Test.YtdlfikobjnjmaaaKnS15p2
import Derived.Test.YtdlfikobjnjmaaaKnS15p3
import Derived.Test.YtdlfikobjnjmaaaKnS15p4
namespace Go.Proofs.Ytdlfikobjnjmaaa.Ev
open Go Go.Abs
set_option maxRecDepth 100000
theorem tab15_ok : TabOK C tab15 := .cons said15x49 <| .cons said15x48 <| .cons said15x47 <| .cons said15x46 <| .cons said15x45 <| .cons said15x44 <| .cons said15x43 <| .cons said15x42 <| .cons said15x41 <| .cons said15x40 <| .cons said15x39 <| .cons said15x38 <| .cons said15x37 <| .cons said15x36 <| .cons said15x35 <| .cons said15x34 <| .cons said15x33 <| .cons said15x32 <| .cons said15x31 <| .cons said15x30 <| .cons said15x29 <| .cons said15x28 <| .cons said15x27 <| .cons said15x26 <| .cons said15x25 <| .cons said15x24 <| .cons said15x23 <| .cons said15x22 <| .cons said15x21 <| .cons said15x20 <| .cons said15x19 <| .cons said15x18 <| .cons said15x17 <| .cons said15x16 <| .cons said15x15 <| .cons said15x14 <| .cons said15x13 <| .cons said15x12 <| .cons said15x11 <| .cons said15x10 <| .cons said15x9 <| .cons said15x8 <| .cons said15x7 <| .cons said15x6 <| .cons said15x5 <| .cons said15x4 <| .cons said15x3 <| .cons said15x2 <| .cons said15x1 <| .cons said15x0 <| .nil
theorem top15 : Said C (.call e15.f e15.args e15.H) (.val e15.v e15.H2) := checkO_said ok tab15_ok (n := 1000) (by kernel_rfl)
theorem said15 : Said C (.call 15 [] noHeap) (.val (.bool true) e15.H2) := top15
end Go.Proofs.Ytdlfikobjnjmaaa.Ev
