/- Cut, made and copied: slices whose room is known. -/
import Derived.Test.YtfnflkcjhefddaaSymD
namespace Go.Abs
set_option linter.unusedSectionVars false
variable [Globs]
open Go
set_option linter.unusedVariables false
set_option linter.unusedSimpArgs false
section
variable {C : CW} {nt : Nat} {L : Env} {D : List Nat} {H : Heap} {K : St → Prop} {M M' : HL} {n : Nat}

theorem capOf_odd (a : Addr) (c : Nat) : capOf (some a) (2 * c + 1) = .known c := by
  have h1 : (2 * c + 1) % 2 = 1 := by omega
  have h2 : (2 * c + 1) / 2 = c := by omega
  simp [capOf, h1, h2]
/-- The first. -/
theorem OpV.slHiK {x hi : Operand} {b o len c m : Nat} {sp : Option Nat} {kd : IntKind} (hx : ev L x = some (.slice (some ⟨b, o, sp⟩) len (2 * c + 1))) (hh : ev L hi = some (.int kd (m : Int))) (hm : m ≤ c) (hc : 1 ≤ c) :
    OpV C (.slS x 1 none (some hi) none) L H (.slice (some ⟨b, o, sp⟩) m (2 * c + 1)) H := fun t ht => by
  have e1 : natOf (.int kd (m : Int)) = some m := rfl
  have h1 : Nat.beq c 0 = false := by cases hb : Nat.beq c 0 with | false => rfl | true => have := Nat.eq_of_beq_eq_true hb; omega
  simp only [opA, ev_ok ht hx, Option.map_none, Option.map_some, ev_ok ht hh, oSlS, capOf_odd, sliceA, loOf, hiOf, e1, Option.isSome_none, Bool.false_and, cond_false, sliceTo]
  rw [cond_some (by simp [Nat.ble_eq, hm])]
  simp [cutKnown, h1, Addr.plus, asVal]

theorem WR.mkS {i d : Nat} {e m : Nat} {z : Value} {x y : Operand} {kd kd2 : IntKind} {lo : List Nat} {l : List POp} {gd : Option (Tmp × Bool)} (hg : gOK L gd) (hd : Nat.blt d nt = true) (hH : hasH M n H) (hx : ev L x = some (.int kd (m : Int))) (hy : ev L y = some (.int kd2 (m : Int)))
    (hm : m ≤ 100000) (hz : one z = true)
    (kk : ∀ H', hasH ((n, .row e 0 0 (List.replicate m z)) :: M) (n + 1) H' → WR C nt l ((d, .slice (some ⟨n, 0, some 0⟩) m (2 * m + 1)) :: L) D H' K) : WR C nt (⟨i, some d, .mkS e [z] x y, gd, lo⟩ :: l) L D H K := by
  have hf : (List.replicate m [z]).flatten = List.replicate m z := by
    clear hx hy hm kk
    induction m with
    | zero => rfl
    | succ m ih => simp [List.replicate_succ, ih]
  have e1 : natOf (.int kd (m : Int)) = some m := rfl
  have e2 : natOf (.int kd2 (m : Int)) = some m := rfl
  refine WR.op hg hd (H' := H.row e (List.replicate m z)) (v := .slice (some ⟨n, 0, some 0⟩) m (2 * m + 1)) (fun t ht => ?_) (kk _ (hH.row e ?_))
  · simp only [opA, ev_ok ht hx, ev_ok ht hy, oMkS, e1, e2, hf, newAddr, hH.next]
    have b1 : Nat.ble m m = true := Nat.ble_eq_true_of_le (Nat.le_refl _)
    have b2 : Nat.ble m 100000 = true := Nat.ble_eq_true_of_le hm
    rw [b1, b2]; rfl
  · rw [List.all_eq_true]; intro q hq; rw [(List.mem_replicate.1 hq).2]; exact hz
/-- Two truths that are told apart. -/
theorem OpV.neB {dst : Option Tmp} {x y : Operand} {ty ty2 ty3 : TypeId} {pos : String} {af : Array Edge} {g : Option (Nat × Bool)} {a b : Bool} (e2 : pureRun C.c.P (binOp .neq ty (.bool a) (.bool b)) = some (.bool (a != b))) (hx : ev L x = some (.bool a)) (hy : ev L y = some (.bool b)) :
    OpV C (.plain ⟨dst, .binOp .neq ty x y ty2, ty3, pos, af, g⟩) L H (.bool (a != b)) H := by
  refine OpV.plain (fun t ht => ?_) (fun t ht => by simp [Op.operands, ev_ok ht hx, ev_ok ht hy, plainV, plain1]) rfl
  have e1 : pureRun C.c.P (eqGuard .neq ty x y (.bool a) (.bool b)) = some () := rfl
  simp only [pureNext, execOp, ev_ok ht hx, ev_ok ht hy, pureRun_bind, e1, e2, Option.bind_some]
  rfl
end
end Go.Abs

namespace Go.Abs
set_option linter.unusedSectionVars false
variable [Globs]
open Go
set_option linter.unusedVariables false
attribute [local irreducible] gOK WS WC WR WD Ends FS YS OpV seqK blockK loopK midK retK rdK asgK rangeEnd sat Cell

/-- A step of code, or an operation that lays nothing. -/
theorem zA {p q : Prop} (k : q) (h : q → p := by
  first
  | exact WC.seq | exact WC.skip | exact WC.ret | exact WC.exit | exact WC.block | exact WC.region
  | exact fun k => WC.regD (by exact rfl) k
  | exact WR.nil | exact Ends.seq | exact Ends.seq_ret | exact Ends.seq_exit | exact Ends.block | exact Ends.block_ret | exact Ends.block_exit
  | exact fun k => Ends.block_pass (by exact rfl) k
  | exact Ends.mid_ret | exact Ends.mid_exit | exact Ends.loop_ret | exact Ends.loop_exit
  | exact fun k => WC.condT rfl k
  | exact fun k => WC.condF rfl k
  | (intro k; refine zw ?_
     first
     | exact WR.guardF rfl rfl k
     | exact WR.guardU rfl rfl k
     | exact o1 rfl k
     | (refine zf ?_; first | exact o2 rfl k | exact o3 rfl k)
     | (refine za ?_; exact o4 rfl rfl k)
     | (refine ze ?_; exact p4 rfl rfl k)
     | (refine zg ?_; exact p5 rfl rfl k)
     | (refine zm ?_; exact p6 rfl rfl k)
     | (refine zn ?_; first | exact q1 rfl k | exact q2 rfl k | exact p1 rfl k | exact p2 rfl k)
     | (refine zp ?_; first | exact q3 rfl rfl k | exact q4 rfl rfl k)
     | (refine zl ?_; first | exact p3 rfl k | exact o5 rfl rfl k)
     | (refine zk ?_; exact o7 rfl k)
     | (refine zi ?_; refine zi2 rfl rfl ?_; exact o8 rfl rfl rfl k)
     | (refine zj ?_; refine zj2 rfl rfl ?_; exact o9 rfl rfl rfl k))
  | exact fun k => WR.guardF0 rfl k
  | exact fun k => WR.guardU0 rfl k
  | exact WC.label | exact WC.goto) : p := h k

/-- An operation that lays a row, or stores. -/
theorem zM {p q : Prop} (k : q) (h : q → p := by
  intro k
  first
  | (refine zw ?_; first | (refine zc ?_; exact m1 k) | (refine zb ?_; first | exact m2 rfl rfl k | exact m3 rfl k))
  | (refine zs ?_; exact m4 rfl rfl k)) : p := h k
end Go.Abs
