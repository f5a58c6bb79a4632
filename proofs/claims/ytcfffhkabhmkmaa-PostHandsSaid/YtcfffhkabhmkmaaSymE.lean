/- Cut, made and copied: slices whose room is known. -/
import Derived.Test.YtcfffhkabhmkmaaSymD
namespace Go.Abs
set_option linter.unusedSectionVars false
variable [Globs]
open Go
set_option linter.unusedVariables false
set_option linter.unusedSimpArgs false
section
variable {C : CW} {nt : Nat} {L : Env} {D : List Nat} {H : Heap} {K : St → Prop} {M M' : HL} {n : Nat}
theorem WR.mkS {i d : Nat} {e m : Nat} {z : Value} {x y : Operand} {kd kd2 : IntKind} {lo : List Nat} {l : List POp} {gd : Option (Tmp × Bool)} (hg : gOK L gd) (hd : Nat.blt d nt = true) (hH : hasH M n H) (hx : ev L x = some (.int kd (m : Int))) (hy : ev L y = some (.int kd2 (m : Int)))
    (hm : m ≤ 100000) (hz : one z = true)
    (kk : ∀ H', hasH ((n, .row e 0 0 (List.replicate m z)) :: M) (n + 1) H' → WR C nt l ((d, .slice (some ⟨n, 0, some 0⟩) m (2 * m + 1)) :: L) D H' K) : WR C nt (⟨i, some d, .mkS e [z] x y, gd, lo⟩ :: l) L D H K := by
  have hf : (List.replicate m [z]).flatten = List.replicate m z := by
    clear hx hy hm kk
    induction m with
    | zero => rfl
    | succ m ih => simp [List.replicate_succ, ih]
  have e1 : natOf (.int kd (m : Int)) = some m := rfl
  have e2 : natOf (.int kd2 (m : Int)) = some m := rfl
  refine WR.op hg hd (H' := H.row e (List.replicate m z)) (v := .slice (some ⟨n, 0, some 0⟩) m (2 * m + 1)) (fun t ht => ?_) (kk _ (hH.row e ?_))
  · simp only [opA, ev_ok ht hx, ev_ok ht hy, oMkS, e1, e2, hf, newAddr, hH.next]
    have b1 : Nat.ble m m = true := Nat.ble_eq_true_of_le (Nat.le_refl _)
    have b2 : Nat.ble m 100000 = true := Nat.ble_eq_true_of_le hm
    rw [b1, b2]; rfl
  · rw [List.all_eq_true]; intro q hq; rw [(List.mem_replicate.1 hq).2]; exact hz
end
end Go.Abs

namespace Go.Abs
set_option linter.unusedSectionVars false
variable [Globs]
open Go
set_option linter.unusedVariables false
attribute [local irreducible] gOK WS WC WR WD Ends FS YS OpV seqK blockK loopK midK retK rdK asgK rangeEnd sat Cell

/-- A step of code, or an operation that lays nothing. -/
theorem zA {p q : Prop} (k : q) (h : q → p := by
  first
  | exact WC.seq | exact WC.skip | exact WC.ret | exact WC.exit | exact WC.block | exact WC.region
  | exact fun k => WC.regD (by exact rfl) k
  | exact WR.nil | exact Ends.seq | exact Ends.seq_ret | exact Ends.seq_exit | exact Ends.block | exact Ends.block_ret | exact Ends.block_exit
  | exact fun k => Ends.block_pass (by exact rfl) k
  | exact Ends.mid_ret | exact Ends.mid_exit | exact Ends.loop_ret | exact Ends.loop_exit
  | exact fun k => WC.condT rfl k
  | exact fun k => WC.condF rfl k
  | (intro k; refine zw ?_
     first
     | exact WR.guardF rfl rfl k
     | exact WR.guardU rfl rfl k
     | exact o1 rfl k
     | (refine zf ?_; first | exact o2 rfl k | exact o3 rfl k)
     | (refine za ?_; exact o4 rfl rfl k)
     | (refine ze ?_; exact p4 rfl rfl k)
     | (refine zg ?_; exact p5 rfl rfl k)
     | (refine zm ?_; exact p6 rfl rfl k)
     | (refine zn ?_; first | exact q1 rfl k | exact q2 rfl k | exact p1 rfl k | exact p2 rfl k)
     | (refine zp ?_; first | exact q3 rfl rfl k | exact q4 rfl rfl k)
     | (refine zl ?_; first | exact p3 rfl k | exact o5 rfl rfl k)
     | (refine zk ?_; exact o7 rfl k)
     | (refine zi ?_; refine zi2 rfl rfl ?_; exact o8 rfl rfl rfl k)
     | (refine zj ?_; refine zj2 rfl rfl ?_; exact o9 rfl rfl rfl k))
  | exact fun k => WR.guardF0 rfl k
  | exact fun k => WR.guardU0 rfl k
  | exact WC.label | exact WC.goto) : p := h k

/-- An operation that lays a row, or stores. -/
theorem zM {p q : Prop} (k : q) (h : q → p := by
  intro k
  first
  | (refine zw ?_; first | (refine zc ?_; exact m1 k) | (refine zb ?_; first | exact m2 rfl rfl k | exact m3 rfl k))
  | (refine zs ?_; exact m4 rfl rfl k)) : p := h k
end Go.Abs
