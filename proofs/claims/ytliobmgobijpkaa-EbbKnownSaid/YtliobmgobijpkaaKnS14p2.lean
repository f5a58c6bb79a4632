/- Calls that the evaluator has carried out. -/
import Derived.Test.YtliobmgobijpkaaKnF
import Derived.Test.YtliobmgobijpkaaKnD14
namespace Go.Proofs.Ytliobmgobijpkaa.Ev
open Go Go.Abs
set_option maxRecDepth 100000
theorem said14x10 : Said C (.call e14x10.f e14x10.args e14x10.H) (.val e14x10.v e14x10.H2) := checkO_said ok TabOK.nil (n := 1000) (by kernel_rfl)
theorem said14x11 : Said C (.call e14x11.f e14x11.args e14x11.H) (.val e14x11.v e14x11.H2) := checkO_said ok TabOK.nil (n := 1000) (by kernel_rfl)
theorem said14x12 : Said C (.call e14x12.f e14x12.args e14x12.H) (.val e14x12.v e14x12.H2) := checkO_said ok TabOK.nil (n := 1000) (by kernel_rfl)
theorem said14x13 : Said C (.call e14x13.f e14x13.args e14x13.H) (.val e14x13.v e14x13.H2) := checkO_said ok TabOK.nil (n := 1000) (by kernel_rfl)
theorem said14x14 : Said C (.call e14x14.f e14x14.args e14x14.H) (.val e14x14.v e14x14.H2) := checkO_said ok TabOK.nil (n := 1000) (by kernel_rfl)
end Go.Proofs.Ytliobmgobijpkaa.Ev
