/- Short words for the steps of a walk. -/
import Derived.Test.YtdlfikobjnjmaaaSym5
namespace Go.Abs
set_option linter.unusedSectionVars false
variable [Globs]
open Go
set_option linter.unusedVariables false
set_option linter.unusedSimpArgs false
attribute [local irreducible] gOK

def cmpS (op : BinOp) (a b : Int) : Option Value :=
  match op with
  | .lss => some (.bool (decide (a < b)))
  | .leq => some (.bool (decide (a ≤ b)))
  | .gtr => some (.bool (decide (b < a)))
  | .geq => some (.bool (decide (b ≤ a)))
  | .eql => some (.bool (decide (a = b)))
  | .neq => some (.bool (decide (a ≠ b)))
  | _ => none

/-- Operations whose value can be written down at once. -/
def opS (L : Env) : AOp → Option Value
  | .move x => ev L x
  | .ibin op k x y => (match ev L x, ev L y with
    | some (.int k1 a), some (.int k2 b) => bif decide (k1 = k) && decide (k2 = k) then cmpS op a b else none
    | _, _ => none)
  | .len x => (match ev L x with | some (.slice _ n _) => some (.int .i64 (n : Int)) | _ => none)
  | .nilCheck x => (match ev L x with
    | some (.pointer (some a)) => some (.pointer (some a))
    | some (.func (.func g) a b) => some (.func (.func g) a b)
    | some (.func (.yield g) a b) => some (.func (.yield g) a b)
    | _ => none)
  | .mkI t x => (match ev L x with | some v => some (.iface t v) | none => none)
  | .nilEq neg .sl x => (match ev L x with | some (.slice a _ _) => some (.bool (a.isNone != neg)) | _ => none)
  | .nilEq neg .ptr x => (match ev L x with | some (.pointer a) => some (.bool (a.isNone != neg)) | _ => none)
  | _ => none

section
variable {C : CW} {ro : Option Nat} {fn : FuncId} {nt : Nat} {L : Env} {D : List Nat} {H : Heap} {K : St → Prop} {M M' : HL} {n i d : Nat} {gd : Option (Tmp × Bool)} {lo : List Nat} {l : List POp}

theorem cmpS_ok {op : BinOp} {k : IntKind} {a b : Int} {v : Value} (h : cmpS op a b = some v) : ibinA op k a b = some v := by
  cases op <;> simp only [cmpS] at h
  all_goals first | (cases h; done) | skip
  · rw [← h]; simp only [ibinA]; congr 2
  · rw [← h]; simp only [ibinA]; congr 2; by_cases e : a = b <;> simp [e]
  · exact h
  · exact h
  · exact h
  · exact h

theorem opS_ok {op : AOp} {v : Value} (h : opS L op = some v) : OpV C op L H v H := by
  unfold opS at h
  split at h
  · exact OpV.move h
  · split at h
    · rename_i h1 h2
      obtain ⟨hb, h3⟩ := bif_some h
      simp only [Bool.and_eq_true, decide_eq_true_eq] at hb
      obtain ⟨rfl, rfl⟩ := hb
      exact OpV.arith h1 h2 (cmpS_ok h3)
    · cases h
  · split at h
    · rename_i h1; cases h; exact OpV.len h1
    · cases h
  · split at h
    · rename_i h1; cases h; exact OpV.nilCheck h1
    · rename_i h1; cases h; exact OpV.nilCheckF h1
    · rename_i h1; cases h; exact OpV.nilCheckY h1
    · cases h
  · split at h
    · rename_i h1; cases h; exact OpV.mkI h1
    · cases h
  · split at h
    · rename_i h1; cases h; exact OpV.nilSl h1
    · cases h
  · split at h
    · rename_i h1; cases h; exact OpV.nilPtr h1
    · cases h
  · cases h

/-! Which operation stands next. -/
theorem zw {op : AOp} (kk : WR C nt (⟨i, some d, op, gd, lo⟩ :: l) L D H K) : WR C nt (⟨i, some d, op, gd, lo⟩ :: l) L D H K := kk
theorem zf {x : Operand} {off : Nat} (kk : WR C nt (⟨i, some d, .fieldAddr x off, gd, lo⟩ :: l) L D H K) : WR C nt (⟨i, some d, .fieldAddr x off, gd, lo⟩ :: l) L D H K := kk
theorem za {x y : Operand} (kk : WR C nt (⟨i, some d, .ibin .add .i64 x y, gd, lo⟩ :: l) L D H K) : WR C nt (⟨i, some d, .ibin .add .i64 x y, gd, lo⟩ :: l) L D H K := kk
theorem ze {x : Operand} {k : Nat} (kk : WR C nt (⟨i, some d, .ext x k, gd, lo⟩ :: l) L D H K) : WR C nt (⟨i, some d, .ext x k, gd, lo⟩ :: l) L D H K := kk
theorem zg {x : Operand} {off : Nat} (kk : WR C nt (⟨i, some d, .fld x off none, gd, lo⟩ :: l) L D H K) : WR C nt (⟨i, some d, .fld x off none, gd, lo⟩ :: l) L D H K := kk
theorem zm {f : Fn} {a b : Array Operand} (kk : WR C nt (⟨i, some d, .mkF f a b, gd, lo⟩ :: l) L D H K) : WR C nt (⟨i, some d, .mkF f a b, gd, lo⟩ :: l) L D H K := kk
theorem zn {x : Operand} (kk : WR C nt (⟨i, some d, .not x, gd, lo⟩ :: l) L D H K) : WR C nt (⟨i, some d, .not x, gd, lo⟩ :: l) L D H K := kk
theorem zp {c a b : Operand} (kk : WR C nt (⟨i, some d, .pick c a b, gd, lo⟩ :: l) L D H K) : WR C nt (⟨i, some d, .pick c a b, gd, lo⟩ :: l) L D H K := kk
theorem zl {x : Operand} (kk : WR C nt (⟨i, some d, .load1 x, gd, lo⟩ :: l) L D H K) : WR C nt (⟨i, some d, .load1 x, gd, lo⟩ :: l) L D H K := kk
theorem zk {x : Operand} {k : Nat} (kk : WR C nt (⟨i, some d, .loadN x k, gd, lo⟩ :: l) L D H K) : WR C nt (⟨i, some d, .loadN x k, gd, lo⟩ :: l) L D H K := kk
theorem zi {x ix : Operand} {k sz : Nat} (kk : WR C nt (⟨i, some d, .idxA x ix k sz, gd, lo⟩ :: l) L D H K) : WR C nt (⟨i, some d, .idxA x ix k sz, gd, lo⟩ :: l) L D H K := kk
theorem zj {x ix : Operand} {sz : Nat} (kk : WR C nt (⟨i, some d, .idxS x ix sz, gd, lo⟩ :: l) L D H K) : WR C nt (⟨i, some d, .idxS x ix sz, gd, lo⟩ :: l) L D H K := kk
/-- A slice that is known. -/
def isSl : Value → Bool
  | .slice (some _) _ _ => true
  | _ => false
def isPtr : Value → Bool
  | .pointer (some _) => true
  | _ => false
theorem zj2 {x ix : Operand} {sz : Nat} {v : Value} (hx : ev L x = some v) (h : isSl v = true) (kk : WR C nt (⟨i, some d, .idxS x ix sz, gd, lo⟩ :: l) L D H K) : WR C nt (⟨i, some d, .idxS x ix sz, gd, lo⟩ :: l) L D H K := kk
theorem zi2 {x ix : Operand} {k sz : Nat} {v : Value} (hx : ev L x = some v) (h : isPtr v = true) (kk : WR C nt (⟨i, some d, .idxA x ix k sz, gd, lo⟩ :: l) L D H K) : WR C nt (⟨i, some d, .idxA x ix k sz, gd, lo⟩ :: l) L D H K := kk
theorem zc {e : TypeId} {z : List Value} (kk : WR C nt (⟨i, some d, .new e z, gd, lo⟩ :: l) L D H K) : WR C nt (⟨i, some d, .new e z, gd, lo⟩ :: l) L D H K := kk
theorem zb {e : TypeId} {x : Operand} (kk : WR C nt (⟨i, some d, .box e x, gd, lo⟩ :: l) L D H K) : WR C nt (⟨i, some d, .box e x, gd, lo⟩ :: l) L D H K := kk
theorem zs {x y : Operand} {m : Nat} (kk : WR C nt (⟨i, none, .store x y m, gd, lo⟩ :: l) L D H K) : WR C nt (⟨i, none, .store x y m, gd, lo⟩ :: l) L D H K := kk

theorem o1 {op : AOp} {v : Value} (hv : opS L op = some v) (k : WR C nt l ((d, v) :: L) D H K) (hg : gOK L gd := by first | exact gN | exact gS rfl) (hd : Nat.blt d nt = true := by exact rfl) : WR C nt (⟨i, some d, op, gd, lo⟩ :: l) L D H K := WR.op hg hd (opS_ok hv) k
theorem o2 {x : Operand} {b : Nat} {sp : Option Nat} {off : Nat} (hx : ev L x = some (.pointer (some ⟨b, 0, sp⟩))) (k : WR C nt l ((d, .pointer (some ⟨b, off, sp⟩)) :: L) D H K) (hg : gOK L gd := by first | exact gN | exact gS rfl) (hd : Nat.blt d nt = true := by exact rfl) :
    WR C nt (⟨i, some d, .fieldAddr x off, gd, lo⟩ :: l) L D H K := WR.op hg hd (OpV.field0 hx) k
theorem o3 {x : Operand} {b o : Nat} {sp : Option Nat} {off : Nat} (hx : ev L x = some (.pointer (some ⟨b, o, sp⟩))) (k : WR C nt l ((d, .pointer (some ⟨b, o + off, sp⟩)) :: L) D H K) (hg : gOK L gd := by first | exact gN | exact gS rfl) (hd : Nat.blt d nt = true := by exact rfl) :
    WR C nt (⟨i, some d, .fieldAddr x off, gd, lo⟩ :: l) L D H K := WR.op hg hd (OpV.field hx) k
theorem o4 {x y : Operand} {a b : Int} (hx : ev L x = some (.int .i64 a)) (hy : ev L y = some (.int .i64 b)) (k : WR C nt l ((d, .int .i64 (a + b)) :: L) D H K) (hr : -9223372036854775808 ≤ a + b ∧ a + b ≤ 9223372036854775807 := by omega) (hg : gOK L gd := by first | exact gN | exact gS rfl)
    (hd : Nat.blt d nt = true := by exact rfl) : WR C nt (⟨i, some d, .ibin .add .i64 x y, gd, lo⟩ :: l) L D H K := WR.op hg hd (OpV.add hx hy hr) k
theorem o5 {x : Operand} {b u lo' o : Nat} {ch : Ch} {cs : List Value} {v : Value} (hx : ev L x = some (.pointer (some ⟨b, o, some u⟩))) (hv : cs[o - lo']? = some v) (k : WR C nt l ((d, v) :: L) D H K) (hH : hasH M n H := by assumption)
    (hm : (b, ch) ∈ M := by first | assumption | exact .head _ | exact .tail _ (.head _) | exact .tail _ (.tail _ (.head _)) | exact .tail _ (.tail _ (.tail _ (.head _))) | exact .tail _ (.tail _ (.tail _ (.tail _ (.head _)))) | exact .tail _ (.tail _ (.tail _ (.tail _ (.tail _ (.head _))))) | exact .tail _ (.tail _ (.tail _ (.tail _ (.tail _ (.tail _ (.head _)))))) | (repeat' (first | assumption | apply List.mem_cons_of_mem)))
    (hc : ch.cellsAre u lo' cs := by first | exact .row _ _ _ _ | exact .inp _ _ _ _) (hlo : lo' ≤ o := by exact Nat.zero_le _) (hg : gOK L gd := by first | exact gN | exact gS rfl) (hd : Nat.blt d nt = true := by exact rfl) :
    WR C nt (⟨i, some d, .load1 x, gd, lo⟩ :: l) L D H K := WR.op hg hd (OpV.load1 hx hH hm hc hlo hv) k
theorem o7 {x : Operand} {b u lo' k' : Nat} {ch : Ch} {cs : List Value} (hx : ev L x = some (.pointer (some ⟨b, lo', some u⟩))) (k : WR C nt l ((d, .agg cs.toArray) :: L) D H K) (hH : hasH M n H := by assumption)
    (hm : (b, ch) ∈ M := by first | assumption | exact .head _ | exact .tail _ (.head _) | exact .tail _ (.tail _ (.head _)) | exact .tail _ (.tail _ (.tail _ (.head _))) | exact .tail _ (.tail _ (.tail _ (.tail _ (.head _)))) | exact .tail _ (.tail _ (.tail _ (.tail _ (.tail _ (.head _))))) | exact .tail _ (.tail _ (.tail _ (.tail _ (.tail _ (.tail _ (.head _)))))) | (repeat' (first | assumption | apply List.mem_cons_of_mem)))
    (hc : ch.cellsAre u lo' cs := by first | exact .row _ _ _ _ | exact .inp _ _ _ _) (hk : cs.length = k' := by first | exact rfl | assumption) (hg : gOK L gd := by first | exact gN | exact gS rfl) (hd : Nat.blt d nt = true := by exact rfl) :
    WR C nt (⟨i, some d, .loadN x k', gd, lo⟩ :: l) L D H K := WR.op hg hd (OpV.loadAll hx hH hm hc hk) k
theorem o8 {x ix : Operand} {b o m k' sz : Nat} {sp : Option Nat} {kd : IntKind} {j : Int} {a' : Addr} (hx : ev L x = some (.pointer (some ⟨b, o, sp⟩))) (hi : ev L ix = some (.int kd j)) (hj : j = (m : Int)) (k : WR C nt l ((d, .pointer (some a')) :: L) D H K) (hm : m < k' := by first | decide | omega | assumption)
    (ha : (⟨b, o + m * sz, sp⟩ : Addr) = a' := by first | exact addr01 _ _ _ | exact addr1 _ _ _ _ | exact addr0 _ _ _ _ | exact rfl) (hg : gOK L gd := by first | exact gN | exact gS rfl) (hd : Nat.blt d nt = true := by exact rfl) :
    WR C nt (⟨i, some d, .idxA x ix k' sz, gd, lo⟩ :: l) L D H K := WR.op hg hd (OpV.idxA hx hi hj hm ha) k
theorem o9 {x ix : Operand} {b o m k' cap sz : Nat} {sp : Option Nat} {kd : IntKind} {j : Int} {a' : Addr} (hx : ev L x = some (.slice (some ⟨b, o, sp⟩) k' cap)) (hi : ev L ix = some (.int kd j)) (hj : j = (m : Int)) (k : WR C nt l ((d, .pointer (some a')) :: L) D H K) (hm : m < k' := by first | decide | omega | assumption)
    (ha : (⟨b, o + m * sz, sp⟩ : Addr) = a' := by first | exact addr01 _ _ _ | exact addr1 _ _ _ _ | exact addr0 _ _ _ _ | exact rfl) (hg : gOK L gd := by first | exact gN | exact gS rfl) (hd : Nat.blt d nt = true := by exact rfl) :
    WR C nt (⟨i, some d, .idxS x ix sz, gd, lo⟩ :: l) L D H K := WR.op hg hd (OpV.idxS hx hi hj hm ha) k
theorem q1 {x : Operand} (hx : ev L x = some (.bool true)) (k : WR C nt l ((d, .bool false) :: L) D H K) (hg : gOK L gd := by first | exact gN | exact gS rfl) (hd : Nat.blt d nt = true := by exact rfl) :
    WR C nt (⟨i, some d, .not x, gd, lo⟩ :: l) L D H K := WR.op hg hd (OpV.notT hx) k
theorem q2 {x : Operand} (hx : ev L x = some (.bool false)) (k : WR C nt l ((d, .bool true) :: L) D H K) (hg : gOK L gd := by first | exact gN | exact gS rfl) (hd : Nat.blt d nt = true := by exact rfl) :
    WR C nt (⟨i, some d, .not x, gd, lo⟩ :: l) L D H K := WR.op hg hd (OpV.notF hx) k
theorem q3 {c a b : Operand} {v : Value} (hc : ev L c = some (.bool true)) (ha : ev L a = some v) (k : WR C nt l ((d, v) :: L) D H K) (hg : gOK L gd := by first | exact gN | exact gS rfl) (hd : Nat.blt d nt = true := by exact rfl) :
    WR C nt (⟨i, some d, .pick c a b, gd, lo⟩ :: l) L D H K := WR.op hg hd (OpV.pickT hc ha) k
theorem q4 {c a b : Operand} {v : Value} (hc : ev L c = some (.bool false)) (hb : ev L b = some v) (k : WR C nt l ((d, v) :: L) D H K) (hg : gOK L gd := by first | exact gN | exact gS rfl) (hd : Nat.blt d nt = true := by exact rfl) :
    WR C nt (⟨i, some d, .pick c a b, gd, lo⟩ :: l) L D H K := WR.op hg hd (OpV.pickF hc hb) k
theorem p1 {x : Operand} {p : Prop} [Decidable p] (hx : ev L x = some (.bool (decide p))) (k : WR C nt l ((d, .bool (decide (¬p))) :: L) D H K) (hg : gOK L gd := by first | exact gN | exact gS rfl) (hd : Nat.blt d nt = true := by exact rfl) :
    WR C nt (⟨i, some d, .not x, gd, lo⟩ :: l) L D H K := WR.op hg hd (OpV.notP hx) k
theorem p2 {x : Operand} {q : Bool} (hx : ev L x = some (.bool q)) (k : WR C nt l ((d, .bool (!q)) :: L) D H K) (hg : gOK L gd := by first | exact gN | exact gS rfl) (hd : Nat.blt d nt = true := by exact rfl) :
    WR C nt (⟨i, some d, .not x, gd, lo⟩ :: l) L D H K := WR.op hg hd (OpV.not hx) k
theorem p3 {x : Operand} {b o u : Nat} {v : Value} (hx : ev L x = some (.pointer (some ⟨b, o, some u⟩))) (k : WR C nt l ((d, v) :: L) D H K) (hc : Cell M b o u v := by assumption) (hH : hasH M n H := by assumption) (hg : gOK L gd := by first | exact gN | exact gS rfl)
    (hd : Nat.blt d nt = true := by exact rfl) : WR C nt (⟨i, some d, .load1 x, gd, lo⟩ :: l) L D H K := WR.op hg hd (OpV.loadC hx hc hH) k
theorem p4 {x : Operand} {k' : Nat} {vs : List Value} {v : Value} (hx : ev L x = some (.tuple vs.toArray)) (hv : vs[k']? = some v) (k : WR C nt l ((d, v) :: L) D H K) (hg : gOK L gd := by first | exact gN | exact gS rfl) (hd : Nat.blt d nt = true := by exact rfl) :
    WR C nt (⟨i, some d, .ext x k', gd, lo⟩ :: l) L D H K := WR.op hg hd (OpV.ext hx hv) k
theorem p5 {x : Operand} {off : Nat} {cs : List Value} {v : Value} (hx : ev L x = some (.agg cs.toArray)) (hv : cs[off]? = some v) (k : WR C nt l ((d, v) :: L) D H K) (hg : gOK L gd := by first | exact gN | exact gS rfl) (hd : Nat.blt d nt = true := by exact rfl) :
    WR C nt (⟨i, some d, .fld x off none, gd, lo⟩ :: l) L D H K := WR.op hg hd (OpV.fld hx hv) k
theorem p6 {f : Fn} {a b : Array Operand} {va vb : List Value} (ha : evs L a.toList = some va) (hb : evs L b.toList = some vb) (k : WR C nt l ((d, .func f va.toArray vb.toArray) :: L) D H K) (hg : gOK L gd := by first | exact gN | exact gS rfl) (hd : Nat.blt d nt = true := by exact rfl) :
    WR C nt (⟨i, some d, .mkF f a b, gd, lo⟩ :: l) L D H K := WR.op hg hd (OpV.mkF ha hb) k
theorem m1 {e : TypeId} {z : List Value} (k : ∀ H', hasH ((n, .row e 0 0 z) :: M) (n + 1) H' → WR C nt l ((d, .pointer (some ⟨n, 0, some 0⟩)) :: L) D H' K) (hH : hasH M n H := by assumption) (hz : z.all one = true := by exact rfl) (hg : gOK L gd := by first | exact gN | exact gS rfl)
    (hd : Nat.blt d nt = true := by exact rfl) : WR C nt (⟨i, some d, .new e z, gd, lo⟩ :: l) L D H K := WR.new hg hd hH hz k
theorem m2 {e : TypeId} {x : Operand} {v : Value} (hx : ev L x = some v) (hz : one v = true) (k : ∀ H', hasH ((n, .row e 0 0 [v]) :: M) (n + 1) H' → WR C nt l ((d, .pointer (some ⟨n, 0, some 0⟩)) :: L) D H' K) (hH : hasH M n H := by assumption)
    (hg : gOK L gd := by first | exact gN | exact gS rfl) (hd : Nat.blt d nt = true := by exact rfl) : WR C nt (⟨i, some d, .box e x, gd, lo⟩ :: l) L D H K := WR.box1 hg hd hH hx hz k
theorem m3 {e : TypeId} {x : Operand} {cs : List Value} (hx : ev L x = some (.agg cs.toArray)) (k : ∀ H', hasH ((n, .row e 0 0 cs) :: M) (n + 1) H' → WR C nt l ((d, .pointer (some ⟨n, 0, some 0⟩)) :: L) D H' K) (hH : hasH M n H := by assumption)
    (hz : cs.all one = true := by first | exact rfl | assumption | (repeat' (first | exact all_nil | refine all_cons (by first | rfl | assumption) ?_))) (hg : gOK L gd := by first | exact gN | exact gS rfl) (hd : Nat.blt d nt = true := by exact rfl) :
    WR C nt (⟨i, some d, .box e x, gd, lo⟩ :: l) L D H K := WR.boxA hg hd hH hx hz k
theorem m4 {x y : Operand} {v w : Value} {b e u : Nat} (hx : ev L x = some (.pointer (some ⟨b, 0, some u⟩))) (hy : ev L y = some v) (k : ∀ H', hasH M' n H' → WR C nt l L D H' K) (h1 : one v = true := by first | exact rfl | assumption) (hH : hasH M n H := by assumption)
    (hu : Upd M b (.row e u 0 [w]) (.row e u 0 [v]) M' := by first | exact .here | exact .there .here | exact .there (.there .here) | exact .there (.there (.there .here)) | exact .there (.there (.there (.there .here))) | exact .there (.there (.there (.there (.there .here)))))
    (hg : gOK L gd := by first | exact gN | exact gS rfl) : WR C nt (⟨i, none, .store x y 1, gd, lo⟩ :: l) L D H K := WR.storeBox hg hH hx hy h1 hu k

end
end Go.Abs

/-! Short names. -/
namespace Go.Abs
set_option linter.unusedSectionVars false
variable [Globs]
theorem Ws : type_of% @WR.splitG := @WR.splitG
end Go.Abs
