/- Calls that the evaluator has carried out. -/
import Derived.Test.YtfnflkcjhefddaaKnF
import Derived.Test.YtfnflkcjhefddaaKnD14
namespace Go.Proofs.Ytfnflkcjhefddaa.Ev
open Go Go.Abs
set_option maxRecDepth 100000
theorem said14x112 : Said C (.call e14x112.f e14x112.args e14x112.H) (.val e14x112.v e14x112.H2) := checkO_said ok TabOK.nil (n := 1000) (by kernel_rfl)
theorem said14x113 : Said C (.call e14x113.f e14x113.args e14x113.H) (.val e14x113.v e14x113.H2) := checkO_said ok TabOK.nil (n := 1000) (by kernel_rfl)
theorem said14x114 : Said C (.call e14x114.f e14x114.args e14x114.H) (.val e14x114.v e14x114.H2) := checkO_said ok TabOK.nil (n := 1000) (by kernel_rfl)
theorem said14x115 : Said C (.call e14x115.f e14x115.args e14x115.H) (.val e14x115.v e14x115.H2) := checkO_said ok TabOK.nil (n := 1000) (by kernel_rfl)
theorem said14x117 : Said C (.call e14x117.f e14x117.args e14x117.H) (.val e14x117.v e14x117.H2) := checkO_said ok TabOK.nil (n := 1000) (by kernel_rfl)
theorem said14x118 : Said C (.call e14x118.f e14x118.args e14x118.H) (.val e14x118.v e14x118.H2) := checkO_said ok TabOK.nil (n := 1000) (by kernel_rfl)
theorem said14x119 : Said C (.call e14x119.f e14x119.args e14x119.H) (.val e14x119.v e14x119.H2) := checkO_said ok TabOK.nil (n := 1000) (by kernel_rfl)
theorem said14x120 : Said C (.call e14x120.f e14x120.args e14x120.H) (.val e14x120.v e14x120.H2) := checkO_said ok TabOK.nil (n := 1000) (by kernel_rfl)
theorem said14x121 : Said C (.call e14x121.f e14x121.args e14x121.H) (.val e14x121.v e14x121.H2) := checkO_said ok TabOK.nil (n := 1000) (by kernel_rfl)
theorem said14x122 : Said C (.call e14x122.f e14x122.args e14x122.H) (.val e14x122.v e14x122.H2) := checkO_said ok TabOK.nil (n := 1000) (by kernel_rfl)
theorem said14x123 : Said C (.call e14x123.f e14x123.args e14x123.H) (.val e14x123.v e14x123.H2) := checkO_said ok TabOK.nil (n := 1000) (by kernel_rfl)
theorem said14x124 : Said C (.call e14x124.f e14x124.args e14x124.H) (.val e14x124.v e14x124.H2) := checkO_said ok TabOK.nil (n := 1000) (by kernel_rfl)
end Go.Proofs.Ytfnflkcjhefddaa.Ev
