/- Calls that the evaluator has carried out. -/
import Derived.Test.YtmgmkglmjmaipaaDoorKnF
import Derived.Test.YtmgmkglmjmaipaaDoorKnD16
namespace Go.Proofs.YtmgmkglmjmaipaaDoor.Ev
open Go Go.Abs
set_option maxRecDepth 100000
theorem said16x30 : Said C (.call e16x30.f e16x30.args e16x30.H) (.val e16x30.v e16x30.H2) := checkO_said ok TabOK.nil (n := 1000) (by kernel_rfl)
theorem said16x31 : Said C (.call e16x31.f e16x31.args e16x31.H) (.val e16x31.v e16x31.H2) := checkO_said ok TabOK.nil (n := 1000) (by kernel_rfl)
end Go.Proofs.YtmgmkglmjmaipaaDoor.Ev
