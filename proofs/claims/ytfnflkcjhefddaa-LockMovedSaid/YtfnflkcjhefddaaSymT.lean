/- Strings: their length, their bytes, whether two are equal; bytes that become one. -/
import Derived.Test.YtfnflkcjhefddaaSymZ
import Derived.Test.YtfnflkcjhefddaaAr2
namespace Go.Abs
set_option linter.unusedSectionVars false
variable [Globs]
open Go Go.Mth
set_option linter.unusedVariables false
set_option linter.unusedSimpArgs false
attribute [local irreducible] gOK WS WC WR WD Ends FS YS seqK blockK loopK midK retK rdK asgK rangeEnd sat
section
variable {C : CW} {nt : Nat} {L : Env} {D : List Nat} {H : Heap} {K : St → Prop} {M M' : HL} {n i d : Nat} {gd : Option (Tmp × Bool)} {lo : List Nat} {l : List POp}
/-- A string of these bytes. -/
def strB (l : List Nat) : ByteArray := ⟨(l.map UInt8.ofNat).toArray⟩
theorem strB_size (l : List Nat) : (strB l).size = l.length := by simp [strB, ByteArray.size]
theorem strB_app (a b : List Nat) : strB a ++ strB b = strB (a ++ b) := by
  apply ByteArray.ext
  rw [ByteArray.data_append]
  simp [strB]
theorem strB_push (a : List Nat) (b : Nat) : (strB a).push (UInt8.ofNat b) = strB (a ++ [b]) := by
  apply ByteArray.ext
  simp [strB, ByteArray.push]
theorem catS_bytes (l a : List Nat) : catS 0 (numsK .u8 l) (strB a) = some (.string (strB (a ++ l))) := by
  induction l generalizing a with
  | nil => simp [numsK, catS]
  | cons x l ih =>
    show catS 0 (.int .u8 (x : Int) :: numsK .u8 l) (strB a) = _
    have e : (((x : Int)).toNat) = x := rfl
    simp only [catS, e, strB_push, ih, List.append_assoc, List.singleton_append]
    rfl
theorem OpV.cts {x : Operand} {v : Value} {bs : List Nat} (hx : ev L x = some v) (hS : Sl M 1 v (numsK .u8 bs)) (h0 : bs ≠ []) (hH : hasH M n H) : OpV C (.cts 0 x) L H (.string (strB bs)) H := by
  intro t ht
  simp only [opA, ev_ok ht hx]
  have hne : numsK .u8 bs ≠ [] := by intro e; exact h0 (by simpa [numsK] using e)
  have hc2 : catS 0 (numsK .u8 bs) ByteArray.empty = some (.string (strB bs)) := catS_bytes bs []
  generalize numsK .u8 bs = q at hS hne hc2
  cases hS with
  | nil c => exact absurd rfl hne
  | emp a => exact absurd rfl hne
  | row hm hc hlo hl hv hin hp =>
    rename_i b o u lo len cap ch cs
    have e1 : len = q.length := by omega
    have := hH.readN hm hc hlo (show o - lo + len ≤ cs.length by omega)
    simp only [oCts, this]
    have h2 : (cs.drop (o - lo)).take len = q := by rw [e1]; exact hv
    rw [h2, hc2]; rfl
theorem OpV.lenT {dst : Option Tmp} {x : Operand} {ts : TypeId} {ty : TypeId} {pos : String} {af : Array Edge} {g : Option (Nat × Bool)} {bs : ByteArray} (hu : C.c.P.underlying ts = some .string) (hx : ev L x = some (.string bs)) :
    OpV C (.plain ⟨dst, .call ⟨.builtin .len, #[x], #[ts]⟩, ty, pos, af, g⟩) L H (.int .i64 (bs.size : Int)) H :=
  OpV.plain (fun t ht => by
    have hm : (#[x] : Array Operand).map (evalO t) = #[.string bs] := by simp [ev_ok ht hx]
    have h1 : pureRun C.c.P (Builtin.len_ #[ts] ty #[.string bs]) = some (.int .i64 (bs.size : Int)) := by
      unfold Builtin.len_
      show pureRun C.c.P (underlying ts >>= _) = _
      rw [pureRun_bind, pureRun_underlying _ hu, Option.bind_some]
      rfl
    have h2 : pureRun C.c.P (Builtin.len_ #[ts] ty #[.string bs] >>= fun v => (pure (Next.value v) : Sem Next)) = some (.value (.int .i64 (bs.size : Int))) := by
      rw [pureRun_bind, h1]; rfl
    simp only [execOp, resolve, hm, pureNext]
    show (match pureRun C.c.P (Builtin.len_ #[ts] ty #[.string bs] >>= fun v => (pure (Next.value v) : Sem Next)) with | some (.value v) => some v | _ => none) = _
    rw [h2]) (fun t ht => by simp [Op.operands, Call.operands, ev_ok ht hx, plainV, plain1]) rfl
theorem idx_strB {bs : List Nat} {k : Nat} (hk : k < bs.length) (hb : ∀ b ∈ bs, b ≤ 255) : (strB bs)[k]? = some (UInt8.ofNat (bs.getD k 0)) ∧ (UInt8.ofNat (bs.getD k 0)).toNat = bs.getD k 0 := by
  constructor
  · rw [getElem?_pos (strB bs) k (by rw [strB_size]; exact hk)]
    congr 1
    show ((bs.map UInt8.ofNat).toArray)[k]'(by simpa using hk) = _
    rw [getD_eq hk]
    simp
  · have := hb _ (getD_mem (a := 0) hk)
    rw [UInt8.toNat_ofNat']
    omega
theorem OpV.idxT {dst : Option Tmp} {x y : Operand} {ts : TypeId} {ty : TypeId} {pos : String} {af : Array Edge} {g : Option (Nat × Bool)} {bs : List Nat} {k : Nat} (hu : C.c.P.underlying ts = some .string) (hx : ev L x = some (.string (strB bs))) (hy : ev L y = some (.int .i64 (k : Int))) (hk : k < bs.length) (hb : ∀ b ∈ bs, b ≤ 255) :
    OpV C (.plain ⟨dst, .index ts x y, ty, pos, af, g⟩) L H (.int .u8 ((bs.getD k 0 : Nat) : Int)) H := by
  refine OpV.plain (fun t ht => ?_) (fun t ht => by simp [Op.operands, ev_ok ht hx, ev_ok ht hy, plainV, plain1]) rfl
  obtain ⟨i1, i2⟩ := idx_strB hk hb
  have h1 : pureRun C.c.P (Instr.index ts (.string (strB bs)) (.int .i64 (k : Int))) = some (.int .u8 ((bs.getD k 0 : Nat) : Int)) := by
    unfold Instr.index
    show pureRun C.c.P (underlying ts >>= _) = _
    rw [pureRun_bind, pureRun_underlying _ hu, Option.bind_some]
    have e : ((k : Int)).toNat = k := rfl
    simp only [if_pos (show (0 : Int) ≤ (k : Int) by omega), e, i1]
    show some (Value.int .u8 ((UInt8.ofNat (bs.getD k 0)).toNat : Int)) = _
    rw [i2]
  have h2 : pureRun C.c.P (Instr.index ts (.string (strB bs)) (.int .i64 (k : Int)) >>= fun v => (pure (Next.value v) : Sem Next)) = some (.value (.int .u8 ((bs.getD k 0 : Nat) : Int))) := by
    rw [pureRun_bind, h1]; rfl
  simp only [pureNext, execOp, ev_ok ht hx, ev_ok ht hy]
  show (match pureRun C.c.P (Instr.index ts (.string (strB bs)) (.int .i64 (k : Int)) >>= fun v => (pure (Next.value v) : Sem Next)) with | some (.value v) => some v | _ => none) = _
  rw [h2]
theorem OpV.catT {dst : Option Tmp} {x y : Operand} {ty ty2 ty3 : TypeId} {pos : String} {af : Array Edge} {g : Option (Nat × Bool)} {a b : List Nat} (h : a.length + b.length ≤ 100000) (hx : ev L x = some (.string (strB a))) (hy : ev L y = some (.string (strB b))) :
    OpV C (.plain ⟨dst, .binOp .add ty x y ty2, ty3, pos, af, g⟩) L H (.string (strB (a ++ b))) H := by
  refine OpV.plain (fun t ht => ?_) (fun t ht => by simp [Op.operands, ev_ok ht hx, ev_ok ht hy, plainV, plain1]) rfl
  have e1 : pureRun C.c.P (eqGuard .add ty x y (.string (strB a)) (.string (strB b))) = some () := rfl
  have h1 : ¬ ((((strB a).size + (strB b).size : Nat) : Int) > IntKind.i64.max) := by
    have : IntKind.i64.max = 9223372036854775807 := by decide
    rw [this, strB_size, strB_size]; omega
  have e2 : pureRun C.c.P (binOp .add ty (.string (strB a)) (.string (strB b))) = some (.string (strB (a ++ b))) := by
    show pureRun C.c.P (Op.stringOp .add (strB a) (strB b)) = _
    unfold Op.stringOp
    simp only [if_neg h1, strB_app]
    rfl
  simp only [pureNext, execOp, ev_ok ht hx, ev_ok ht hy, pureRun_bind, e1, e2, Option.bind_some]
  rfl
theorem StkO.src {e : Nat} {v : Value} {S : List Value} {Mx T : HL} (h : StkO e v S Mx) (hH : hasH (Mx ++ T) n H) : srcLen v = some S.length ∧ srcCells H 1 S.length v = some S := by
  cases h with
  | nil => exact ⟨rfl, rfl⟩
  | mk hl hS hc hb =>
    rename_i b u o len cp cs
    have hle := hc.le
    have := hH.readN (b := b) (u := u) (lo := o) (o := o) (k := len) (ch := .row e u o cs) (cs := cs) (by simp) (.row _ _ _ _) (Nat.le_refl _) (by omega)
    rw [Nat.sub_self, List.drop_zero, ← hS] at this
    exact ⟨by rw [hl]; rfl, by simp only [srcCells, Nat.mul_one]; rw [hl]; exact this⟩
theorem OpV.eqT {dst : Option Tmp} {x y : Operand} {ty ty2 ty3 : TypeId} {pos : String} {af : Array Edge} {g : Option (Nat × Bool)} {a b : ByteArray} (hx : ev L x = some (.string a)) (hy : ev L y = some (.string b)) :
    OpV C (.plain ⟨dst, .binOp .eql ty x y ty2, ty3, pos, af, g⟩) L H (.bool (a.toList == b.toList)) H := by
  refine OpV.plain (fun t ht => ?_) (fun t ht => by simp [Op.operands, ev_ok ht hx, ev_ok ht hy, plainV, plain1]) rfl
  have e1 : pureRun C.c.P (eqGuard .eql ty x y (.string a) (.string b)) = some () := rfl
  have e2 : pureRun C.c.P (binOp .eql ty (.string a) (.string b)) = some (.bool (a.toList == b.toList)) := rfl
  simp only [pureNext, execOp, ev_ok ht hx, ev_ok ht hy, pureRun_bind, e1, e2, Option.bind_some]
  rfl
end
end Go.Abs
