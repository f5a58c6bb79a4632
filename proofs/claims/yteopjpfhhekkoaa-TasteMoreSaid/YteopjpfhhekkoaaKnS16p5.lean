/- Calls that the evaluator has carried out. -/
import Derived.Test.YteopjpfhhekkoaaKnF
import Derived.Test.YteopjpfhhekkoaaKnD16
namespace Go.Proofs.Yteopjpfhhekkoaa.Ev
open Go Go.Abs
set_option maxRecDepth 100000
theorem said16x30 : Said C (.call e16x30.f e16x30.args e16x30.H) (.val e16x30.v e16x30.H2) := checkO_said ok TabOK.nil (n := 1000) (by kernel_rfl)
theorem said16x31 : Said C (.call e16x31.f e16x31.args e16x31.H) (.val e16x31.v e16x31.H2) := checkO_said ok TabOK.nil (n := 1000) (by kernel_rfl)
theorem said16x32 : Said C (.call e16x32.f e16x32.args e16x32.H) (.val e16x32.v e16x32.H2) := checkO_said ok TabOK.nil (n := 1000) (by kernel_rfl)
theorem said16x33 : Said C (.call e16x33.f e16x33.args e16x33.H) (.val e16x33.v e16x33.H2) := checkO_said ok TabOK.nil (n := 1000) (by kernel_rfl)
theorem said16x34 : Said C (.call e16x34.f e16x34.args e16x34.H) (.val e16x34.v e16x34.H2) := checkO_said ok TabOK.nil (n := 1000) (by kernel_rfl)
theorem said16x35 : Said C (.call e16x35.f e16x35.args e16x35.H) (.val e16x35.v e16x35.H2) := checkO_said ok TabOK.nil (n := 1000) (by kernel_rfl)
end Go.Proofs.Yteopjpfhhekkoaa.Ev
