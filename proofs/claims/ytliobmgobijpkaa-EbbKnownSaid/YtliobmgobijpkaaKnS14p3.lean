/- Calls that the evaluator has carried out. -/
import Derived.Test.YtliobmgobijpkaaKnF
import Derived.Test.YtliobmgobijpkaaKnD14
namespace Go.Proofs.Ytliobmgobijpkaa.Ev
open Go Go.Abs
set_option maxRecDepth 100000
theorem said14x15 : Said C (.call e14x15.f e14x15.args e14x15.H) (.val e14x15.v e14x15.H2) := checkO_said ok TabOK.nil (n := 1000) (by kernel_rfl)
theorem said14x16 : Said C (.call e14x16.f e14x16.args e14x16.H) (.val e14x16.v e14x16.H2) := checkO_said ok TabOK.nil (n := 1000) (by kernel_rfl)
theorem said14x17 : Said C (.call e14x17.f e14x17.args e14x17.H) (.val e14x17.v e14x17.H2) := checkO_said ok TabOK.nil (n := 1000) (by kernel_rfl)
theorem said14x18 : Said C (.call e14x18.f e14x18.args e14x18.H) (.val e14x18.v e14x18.H2) := checkO_said ok TabOK.nil (n := 1000) (by kernel_rfl)
theorem said14x19 : Said C (.call e14x19.f e14x19.args e14x19.H) (.val e14x19.v e14x19.H2) := checkO_said ok TabOK.nil (n := 1000) (by kernel_rfl)
end Go.Proofs.Ytliobmgobijpkaa.Ev
