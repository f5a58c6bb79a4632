/- Calls that the evaluator has carried out. -/
import Derived.Test.YtblopbimchkneaaKnF
import Derived.Test.YtblopbimchkneaaKnD13
namespace Go.Proofs.Ytblopbimchkneaa.Ev
open Go Go.Abs
set_option maxRecDepth 100000
theorem said13x17 : Said C (.call e13x17.f e13x17.args e13x17.H) (.val e13x17.v e13x17.H2) := checkO_said ok TabOK.nil (n := 1000) (by kernel_rfl)
end Go.Proofs.Ytblopbimchkneaa.Ev
