/- Appending to a slice that is read again afterwards. -/
import Derived.Test.YtfnflkcjhefddaaSymX
namespace Go.Abs
set_option linter.unusedSectionVars false
variable [Globs]
open Go
set_option linter.unusedVariables false
section
variable {C : CW} {nt : Nat} {L : Env} {D : List Nat} {H : Heap} {K : St → Prop} {M M' : HL} {n i d : Nat} {gd : Option (Tmp × Bool)} {lo : List Nat} {l : List POp} {rs : List Rd}
theorem WD.bldS {e sz k : Nat} {z : List Value} {ps : List (Nat × Operand)} {vs : List (Nat × Value)} {cs : List Value} (hg : gOK L gd) (hd : Nat.blt d nt = true) (hH : hasH M n H) (hp : evp L ps = some vs)
    (hc : Instr.fill (fun j => some (j * sz, sz)) z.toArray vs = some cs.toArray) (hz : cs.all one = true)
    (hs : ∀ H', hasH ((n, .row e 0 0 cs) :: M) (n + 1) H' → stands H' lo rs = true)
    (kk : ∀ H', hasH ((n, .row e 0 0 cs) :: M) (n + 1) H' → WD C nt l rs ((d, .slice (some ⟨n, 0, some 0⟩) k (2 * k + 1)) :: L) D H' K) : WD C nt (⟨i, some d, .bldS e sz z k ps, gd, lo⟩ :: l) rs L D H K := by
  have h2 := hH.row e hz
  refine WD.op hg hd (H' := H.row e cs) (v := .slice (some ⟨n, 0, some 0⟩) k (2 * k + 1)) (fun t ht => ?_) rfl (hs _ h2) (kk _ h2)
  simp only [opA, evp_ok ht hp, hc, oBldS, newAddr, hH.next]
end
section
variable {C : CW} {nt : Nat} {L : Env} {D : List Nat} {H : Heap} {K : St → Prop} {M M' : HL} {n i d : Nat} {gd : Option (Tmp × Bool)} {lo : List Nat} {l : List POp} {rs : List Rd}
end
attribute [local irreducible] gOK WS WC WR WD Ends FS YS OpV seqK blockK loopK midK retK rdK asgK rangeEnd sat Cell
/-- An operation that lays nothing: no step of code. -/
theorem zR {p q : Prop} (k : q) (h : q → p := by
  first
  | (intro k; refine zw ?_
     first
     | exact WR.guardF rfl rfl k
     | exact WR.guardU rfl rfl k
     | exact o1 rfl k
     | (refine zf ?_; first | exact o2 rfl k | exact o3 rfl k)
     | (refine za ?_; exact o4 rfl rfl k)
     | (refine ze ?_; exact p4 rfl rfl k)
     | (refine zg ?_; exact p5 rfl rfl k)
     | (refine zm ?_; exact p6 rfl rfl k)
     | (refine zn ?_; first | exact q1 rfl k | exact q2 rfl k | exact p1 rfl k | exact p2 rfl k)
     | (refine zp ?_; first | exact q3 rfl rfl k | exact q4 rfl rfl k)
     | (refine zl ?_; first | exact p3 rfl k | exact o5 rfl rfl k)
     | (refine zk ?_; exact o7 rfl k)
     | (refine zi ?_; refine zi2 rfl rfl ?_; exact o8 rfl rfl rfl k)
     | (refine zj ?_; refine zj2 rfl rfl ?_; exact o9 rfl rfl rfl k))
  | exact fun k => WR.guardF0 rfl k
  | exact fun k => WR.guardU0 rfl k) : p := h k
end Go.Abs
