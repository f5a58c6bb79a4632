/- Lists that are copied behind an empty one. -/
import Derived.Test.YtcfffhkabhmkmaaSymL
namespace Go.Abs
set_option linter.unusedSectionVars false
variable [Globs]
open Go Go.Mth
set_option linter.unusedVariables false
set_option linter.unusedSimpArgs false
attribute [local irreducible] gOK WS WC WR WD Ends FS YS seqK blockK loopK midK retK rdK asgK rangeEnd sat
section
variable {C : CW} {nt : Nat} {L : Env} {D : List Nat} {H : Heap} {K : St → Prop} {M M' : HL} {n i d : Nat} {gd : Option (Tmp × Bool)} {lo : List Nat} {l : List POp}
/-- Numbers in a row of one's own; none: an empty row. -/
def OwnZ (e : Nat) (v : Value) (xs : List Nat) (Mx : HL) : Prop := (xs = [] ∧ ∃ b, v = .slice (some ⟨b, 0, some 0⟩) 0 (2 * 0 + 1) ∧ Mx = [(b, Ch.row e 0 0 [])]) ∨ (xs ≠ [] ∧ OwnR e 1 v (nodes xs) Mx)
theorem OwnZ.sl {e : Nat} {v : Value} {xs : List Nat} {Mx T : HL} (h : OwnZ e v xs Mx) (k : ∀ q ∈ Mx, q ∈ T) : Sl T 1 v (nodes xs) := by
  rcases h with ⟨rfl, b, rfl, rfl⟩ | ⟨_, h⟩
  · refine .row (lo := 0) (cs := []) (k _ (.head _)) (.row _ _ _ _) (Nat.le_refl _) rfl rfl (by simp) (.inr ⟨0, rfl, Nat.le_refl _⟩)
  · exact (h.own.sl []).mono fun q hq => k q (by simpa using hq)
theorem OwnZ.empty {e b : Nat} : OwnZ e (.slice (some ⟨b, 0, some 0⟩) 0 (2 * 0 + 1)) [] [(b, Ch.row e 0 0 [])] := .inl ⟨rfl, b, rfl, rfl⟩
end
end Go.Abs
