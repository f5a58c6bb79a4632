/- Calls that the evaluator has carried out. -/
import Derived.Test.YtfnflkcjhefddaaKnF
import Derived.Test.YtfnflkcjhefddaaKnD14
namespace Go.Proofs.Ytfnflkcjhefddaa.Ev
open Go Go.Abs
set_option maxRecDepth 100000
theorem said14x84 : Said C (.call e14x84.f e14x84.args e14x84.H) (.val e14x84.v e14x84.H2) := checkO_said ok TabOK.nil (n := 1000) (by kernel_rfl)
theorem said14x85 : Said C (.call e14x85.f e14x85.args e14x85.H) (.val e14x85.v e14x85.H2) := checkO_said ok TabOK.nil (n := 1000) (by kernel_rfl)
theorem said14x86 : Said C (.call e14x86.f e14x86.args e14x86.H) (.val e14x86.v e14x86.H2) := checkO_said ok TabOK.nil (n := 1000) (by kernel_rfl)
theorem said14x87 : Said C (.call e14x87.f e14x87.args e14x87.H) (.val e14x87.v e14x87.H2) := checkO_said ok TabOK.nil (n := 1000) (by kernel_rfl)
theorem said14x88 : Said C (.call e14x88.f e14x88.args e14x88.H) (.val e14x88.v e14x88.H2) := checkO_said ok TabOK.nil (n := 1000) (by kernel_rfl)
theorem said14x89 : Said C (.call e14x89.f e14x89.args e14x89.H) (.val e14x89.v e14x89.H2) := checkO_said ok TabOK.nil (n := 1000) (by kernel_rfl)
theorem said14x90 : Said C (.call e14x90.f e14x90.args e14x90.H) (.val e14x90.v e14x90.H2) := checkO_said ok TabOK.nil (n := 1000) (by kernel_rfl)
theorem said14x92 : Said C (.call e14x92.f e14x92.args e14x92.H) (.val e14x92.v e14x92.H2) := checkO_said ok TabOK.nil (n := 1000) (by kernel_rfl)
theorem said14x93 : Said C (.call e14x93.f e14x93.args e14x93.H) (.val e14x93.v e14x93.H2) := checkO_said ok TabOK.nil (n := 1000) (by kernel_rfl)
theorem said14x94 : Said C (.call e14x94.f e14x94.args e14x94.H) (.val e14x94.v e14x94.H2) := checkO_said ok TabOK.nil (n := 1000) (by kernel_rfl)
end Go.Proofs.Ytfnflkcjhefddaa.Ev
