/- Calls that the evaluator has carried out. -/
import Derived.Test.YtfnflkcjhefddaaKnF
import Derived.Test.YtfnflkcjhefddaaKnD14
namespace Go.Proofs.Ytfnflkcjhefddaa.Ev
open Go Go.Abs
set_option maxRecDepth 100000
theorem said14x104 : Said C (.call e14x104.f e14x104.args e14x104.H) (.val e14x104.v e14x104.H2) := checkO_said ok TabOK.nil (n := 1000) (by kernel_rfl)
theorem said14x105 : Said C (.call e14x105.f e14x105.args e14x105.H) (.val e14x105.v e14x105.H2) := checkO_said ok TabOK.nil (n := 1000) (by kernel_rfl)
theorem said14x106 : Said C (.call e14x106.f e14x106.args e14x106.H) (.val e14x106.v e14x106.H2) := checkO_said ok TabOK.nil (n := 1000) (by kernel_rfl)
theorem said14x107 : Said C (.call e14x107.f e14x107.args e14x107.H) (.val e14x107.v e14x107.H2) := checkO_said ok TabOK.nil (n := 1000) (by kernel_rfl)
theorem said14x108 : Said C (.call e14x108.f e14x108.args e14x108.H) (.val e14x108.v e14x108.H2) := checkO_said ok TabOK.nil (n := 1000) (by kernel_rfl)
theorem said14x109 : Said C (.call e14x109.f e14x109.args e14x109.H) (.val e14x109.v e14x109.H2) := checkO_said ok TabOK.nil (n := 1000) (by kernel_rfl)
theorem said14x110 : Said C (.call e14x110.f e14x110.args e14x110.H) (.val e14x110.v e14x110.H2) := checkO_said ok TabOK.nil (n := 1000) (by kernel_rfl)
theorem said14x111 : Said C (.call e14x111.f e14x111.args e14x111.H) (.val e14x111.v e14x111.H2) := checkO_said ok TabOK.nil (n := 1000) (by kernel_rfl)
end Go.Proofs.Ytfnflkcjhefddaa.Ev
