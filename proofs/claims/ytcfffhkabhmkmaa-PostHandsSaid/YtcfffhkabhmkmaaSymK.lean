/- Appending to a slice that is read again afterwards. -/
import Derived.Test.YtcfffhkabhmkmaaSymX
namespace Go.Abs
set_option linter.unusedSectionVars false
variable [Globs]
open Go
set_option linter.unusedVariables false
section
variable {C : CW} {nt : Nat} {L : Env} {D : List Nat} {H : Heap} {K : St → Prop} {M M' : HL} {n i d : Nat} {gd : Option (Tmp × Bool)} {lo : List Nat} {l : List POp} {rs : List Rd}
theorem WD.bldS {e sz k : Nat} {z : List Value} {ps : List (Nat × Operand)} {vs : List (Nat × Value)} {cs : List Value} (hg : gOK L gd) (hd : Nat.blt d nt = true) (hH : hasH M n H) (hp : evp L ps = some vs)
    (hc : Instr.fill (fun j => some (j * sz, sz)) z.toArray vs = some cs.toArray) (hz : cs.all one = true)
    (hs : ∀ H', hasH ((n, .row e 0 0 cs) :: M) (n + 1) H' → stands H' lo rs = true)
    (kk : ∀ H', hasH ((n, .row e 0 0 cs) :: M) (n + 1) H' → WD C nt l rs ((d, .slice (some ⟨n, 0, some 0⟩) k (2 * k + 1)) :: L) D H' K) : WD C nt (⟨i, some d, .bldS e sz z k ps, gd, lo⟩ :: l) rs L D H K := by
  have h2 := hH.row e hz
  refine WD.op hg hd (H' := H.row e cs) (v := .slice (some ⟨n, 0, some 0⟩) k (2 * k + 1)) (fun t ht => ?_) rfl (hs _ h2) (kk _ h2)
  simp only [opA, evp_ok ht hp, hc, oBldS, newAddr, hH.next]
end
section
variable {C : CW} {nt : Nat} {L : Env} {D : List Nat} {H : Heap} {K : St → Prop} {M M' : HL} {n i d : Nat} {gd : Option (Tmp × Bool)} {lo : List Nat} {l : List POp} {rs : List Rd}
end
attribute [local irreducible] gOK WS WC WR WD Ends FS YS OpV seqK blockK loopK midK retK rdK asgK rangeEnd sat Cell
end Go.Abs
