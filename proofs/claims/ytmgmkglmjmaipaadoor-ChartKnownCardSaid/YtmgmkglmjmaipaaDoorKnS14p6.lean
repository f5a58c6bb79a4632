/- Calls that the evaluator has carried out. -/
import Derived.Test.YtmgmkglmjmaipaaDoorKnF
import Derived.Test.YtmgmkglmjmaipaaDoorKnD14
namespace Go.Proofs.YtmgmkglmjmaipaaDoor.Ev
open Go Go.Abs
set_option maxRecDepth 100000
theorem said14x36 : Said C (.call e14x36.f e14x36.args e14x36.H) (.val e14x36.v e14x36.H2) := checkO_said ok TabOK.nil (n := 1000) (by kernel_rfl)
end Go.Proofs.YtmgmkglmjmaipaaDoor.Ev
