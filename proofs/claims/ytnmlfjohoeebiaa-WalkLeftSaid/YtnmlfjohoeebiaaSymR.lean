/- Slices that have at least so much room: cut, appended to within it, cleared. -/
import Derived.Test.YtnmlfjohoeebiaaJ1
namespace Go.Abs
set_option linter.unusedSectionVars false
variable [Globs]
open Go Go.Mth
set_option linter.unusedVariables false
set_option linter.unusedSimpArgs false
attribute [local irreducible] gOK WS WC WR WD Ends FS YS seqK blockK loopK midK retK rdK asgK rangeEnd sat

/-- The room that is sure. -/
def capR (cp len R : Nat) : Prop := (cp = 2 * 1 ∧ R = len) ∨ (cp = roomCode 1 R ∧ len ≤ R)
theorem capR.le {cp len R : Nat} (h : capR cp len R) : len ≤ R := by rcases h with ⟨_, h⟩ | ⟨_, h⟩ <;> omega

section
variable {C : CW} {nt : Nat} {L : Env} {D : List Nat} {H : Heap} {K : St → Prop} {M M' : HL} {n i d : Nat} {gd : Option (Tmp × Bool)} {lo' : List Nat} {l : List POp}
/-- What slicing a slice with room gives. -/
theorem cutR {a : Addr} {len cp R x y : Nat} (hc : capR cp len R) (hxy : x ≤ y) (hy : y ≤ len ∨ ∃ q, cp = roomCode 1 q ∧ y ≤ R) {lo hi : Option Value} (h1 : loOf lo = some x) (h2 : hiOf len hi = some y) :
    sliceA 1 (some a) len (capOf (some a) cp) lo hi none = cutPart 1 (some a) x y R := by
  rcases hc with ⟨rfl, rfl⟩ | ⟨rfl, hl⟩
  · have hyl : y ≤ R := by
      rcases hy with h | ⟨q, h, h'⟩
      · exact h
      · exact h'
    simp only [sliceA, h1, h2, Option.isSome_none, Bool.false_and, cond_false, capOf_open a (show 1 ≤ 1000 by decide), sliceTo]
    rw [cond_some (by simp [Nat.ble_eq, hyl, hxy])]
  · have hyr : y ≤ R := by
      rcases hy with h | ⟨_, _, h⟩
      · omega
      · exact h
    simp only [sliceA, h1, h2, Option.isSome_none, Bool.false_and, cond_false, capOf_room a (show 1 ≤ 1000 by decide), sliceTo]
    rw [cond_some (by simp [Nat.ble_eq, hyr, hxy])]
end
end Go.Abs
