/- From what is said of a call of nothing to the model's calls. -/
import Derived.Test.YtcfffhkabhmkmaaDoorAbsOra
namespace Go.Abs
set_option linter.unusedSectionVars false
variable [Globs]
open Go

theorem Said.calls {C : Ctx} {f : FuncId} {b : Bool} {H' : Heap} (h : Said C (.call f [] noHeap) (.val (.bool b) H')) (w : World) (hG : GlobIn w.heap.size w := by (intro _ _ h; cases h)) : Calls C.P f #[] w fun e w' => e = .returned (.bool b) ∧ Go.RowKit.Grown w w' := by
  intro cs
  obtain ⟨τ, w', v', fr, q1, q2, q3, q4, q5, q6, q7⟩ := h.2 noRen w.heap.size w #[] (noHeap_HR hG) .nil cs
  cases q3
  exact ⟨.returned (.bool b), w', fr, ⟨rfl, grown_of_fr q4⟩, q5, q6, q7⟩

end Go.Abs
