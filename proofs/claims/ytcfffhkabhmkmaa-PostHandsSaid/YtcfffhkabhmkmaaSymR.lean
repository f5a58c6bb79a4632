/- Slices that have at least so much room: cut, appended to within it, cleared. -/
import Derived.Test.YtcfffhkabhmkmaaJ1
namespace Go.Abs
set_option linter.unusedSectionVars false
variable [Globs]
open Go Go.Mth
set_option linter.unusedVariables false
set_option linter.unusedSimpArgs false
attribute [local irreducible] gOK WS WC WR WD Ends FS YS seqK blockK loopK midK retK rdK asgK rangeEnd sat

/-- The room that is sure. -/
def capR (cp len R : Nat) : Prop := (cp = 2 * 1 ∧ R = len) ∨ (cp = roomCode 1 R ∧ len ≤ R)
theorem capR.le {cp len R : Nat} (h : capR cp len R) : len ≤ R := by rcases h with ⟨_, h⟩ | ⟨_, h⟩ <;> omega

section
variable {C : CW} {nt : Nat} {L : Env} {D : List Nat} {H : Heap} {K : St → Prop} {M M' : HL} {n i d : Nat} {gd : Option (Tmp × Bool)} {lo' : List Nat} {l : List POp}
end
end Go.Abs
