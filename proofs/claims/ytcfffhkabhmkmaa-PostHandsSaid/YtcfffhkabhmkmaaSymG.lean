/- Operations under a guard in regions that draw; sums of numbers that are not negative. -/
import Derived.Test.YtcfffhkabhmkmaaSymB
namespace Go.Abs
set_option linter.unusedSectionVars false
variable [Globs]
open Go
set_option linter.unusedVariables false
section
variable {C : CW} {nt : Nat} {L : Env} {D : List Nat} {H : Heap} {K : St → Prop} {M M' : HL} {n i d : Nat} {gd : Option (Tmp × Bool)} {lo : List Nat} {l : List POp} {rs : List Rd}
theorem WD.guardF {g : Nat} {q : Bool} {op : AOp} (hg : Env.get L g = some (.bool (!q))) (hd : Nat.blt d nt = true) (hs : stands H lo rs = true) (k : WD C nt l rs ((d, undef) :: L) D H K) :
    WD C nt (⟨i, some d, op, some (g, q), lo⟩ :: l) rs L D H K := by
  intro t ht
  obtain ⟨m, s', h1, h2⟩ := k _ (ht.put d undef)
  have hw : wantedA t ⟨i, some d, op, some (g, q), lo⟩ = false := by cases q <;> simp [wantedA, ht g _ hg]
  exact ⟨m, s', by simp only [stepOpsD, doOp, noteRd, hw, cond_false, putT, hd, cond_true, stOf, hs]; exact h1, h2⟩
theorem WD.guardU {g : Nat} {q : Bool} {op : AOp} (hg : Env.get L g = some undef) (hd : Nat.blt d nt = true) (hs : stands H lo rs = true) (k : WD C nt l rs ((d, undef) :: L) D H K) :
    WD C nt (⟨i, some d, op, some (g, q), lo⟩ :: l) rs L D H K := by
  intro t ht
  obtain ⟨m, s', h1, h2⟩ := k _ (ht.put d undef)
  have hw : wantedA t ⟨i, some d, op, some (g, q), lo⟩ = false := by simp only [wantedA, ht g _ hg]; rfl
  exact ⟨m, s', by simp only [stepOpsD, doOp, noteRd, hw, cond_false, putT, hd, cond_true, stOf, hs]; exact h1, h2⟩
end
end Go.Abs
