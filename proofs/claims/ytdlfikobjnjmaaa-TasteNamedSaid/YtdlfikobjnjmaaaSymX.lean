/- Walks by themselves: elements of slices and rows of numbers, lengths, arithmetic; loops whose constant temporaries are found. -/
import Derived.Test.YtdlfikobjnjmaaaJ1
namespace Go.Abs
set_option linter.unusedSectionVars false
variable [Globs]
open Go
set_option linter.unusedVariables false
set_option linter.unusedSimpArgs false
attribute [local irreducible] gOK WS WC WR WD Ends FS YS OpV seqK blockK loopK midK retK rdK asgK rangeEnd sat Cell
section
variable {C : CW} {ro : Option Nat} {fn : FuncId} {nt : Nat} {L L' : Env} {D : List Nat} {H H' : Heap} {K : St → Prop} {M M' : HL} {n : Nat} {i d : Nat} {gd : Option (Tmp × Bool)} {lo : List Nat} {l : List POp}

theorem gI {x ix : Operand} (kk : WR C nt (⟨i, some d, .idxS x ix 1, gd, lo⟩ :: l) L D H K) : WR C nt (⟨i, some d, .idxS x ix 1, gd, lo⟩ :: l) L D H K := kk
theorem gL {x : Operand} (kk : WR C nt (⟨i, some d, .load1 x, gd, lo⟩ :: l) L D H K) : WR C nt (⟨i, some d, .load1 x, gd, lo⟩ :: l) L D H K := kk
theorem gN' {x : Operand} (kk : WR C nt (⟨i, some d, .len x, gd, lo⟩ :: l) L D H K) : WR C nt (⟨i, some d, .len x, gd, lo⟩ :: l) L D H K := kk
theorem gB {op : BinOp} {kd : IntKind} {x y : Operand} (kk : WR C nt (⟨i, some d, .ibin op kd x y, gd, lo⟩ :: l) L D H K) : WR C nt (⟨i, some d, .ibin op kd x y, gd, lo⟩ :: l) L D H K := kk
theorem gP {o : Oper} (kk : WR C nt (⟨i, some d, .plain o, gd, lo⟩ :: l) L D H K) : WR C nt (⟨i, some d, .plain o, gd, lo⟩ :: l) L D H K := kk
theorem gT {x y : Operand} {m : Nat} (kk : WR C nt (⟨i, none, .store x y m, gd, lo⟩ :: l) L D H K) : WR C nt (⟨i, none, .store x y m, gd, lo⟩ :: l) L D H K := kk

theorem nodes_get {kk : IntKind} {xs : List Nat} {y : Nat} (h : y < xs.length) : (xs.map (fun (x : Nat) => Value.int kk (x : Int)))[y]? = some (.int kk (xs.getD y 0 : Nat)) := by
  rw [List.getElem?_map, List.getElem?_eq_getElem h, List.getD_eq_getElem?_getD, List.getElem?_eq_getElem h]; rfl

/-- An element of a slice of numbers. -/
theorem x1 {x ix : Operand} {kd : IntKind} {m : Nat} {v : Value} {xs : List Int} (hx : ev L x = some v) (hi : ev L ix = some (.int kd (m : Int)))
    (k : ∀ b o u, Cell M b o u (.int .i64 (xs.getD m 0)) → WR C nt l ((d, .pointer (some ⟨b, o, some u⟩)) :: L) D H K) (hH : hasH M n H := by assumption)
    (hS : Sl M 1 v (xs.map (Value.int .i64)) := by first | assumption | exact Sl.cons (by assumption) | exact Sl.cons (Sl.cons (by assumption)) | exact Sl.mono (by assumption) (fun q hq => List.mem_append_right _ hq))
    (hm : m < xs.length := by omega) (hg : gOK L gd := by first | exact gN | exact gS rfl) (hd : Nat.blt d nt = true := by exact rfl) :
    WR C nt (⟨i, some d, .idxS x ix 1, gd, lo⟩ :: l) L D H K := WR.idxSl hg hd hx hS hi rfl (ints_get hm) k
theorem x1z {x ix : Operand} {kd : IntKind} {v : Value} {xs : List Int} (hx : ev L x = some v) (hi : ev L ix = some (.int kd 0))
    (k : ∀ b o u, Cell M b o u (.int .i64 (xs.getD 0 0)) → WR C nt l ((d, .pointer (some ⟨b, o, some u⟩)) :: L) D H K) (hH : hasH M n H := by assumption)
    (hS : Sl M 1 v (xs.map (Value.int .i64)) := by first | assumption | exact Sl.cons (by assumption) | exact Sl.cons (Sl.cons (by assumption)) | exact Sl.mono (by assumption) (fun q hq => List.mem_append_right _ hq))
    (hm : 0 < xs.length := by omega) (hg : gOK L gd := by first | exact gN | exact gS rfl) (hd : Nat.blt d nt = true := by exact rfl) :
    WR C nt (⟨i, some d, .idxS x ix 1, gd, lo⟩ :: l) L D H K := WR.idxSl hg hd hx hS hi rfl (ints_get hm) k
theorem x3z {kk : IntKind} {x ix : Operand} {kd : IntKind} {v : Value} {xs : List Nat} (hx : ev L x = some v) (hi : ev L ix = some (.int kd 0))
    (k : ∀ b o u, Cell M b o u (.int kk (xs.getD 0 0 : Nat)) → WR C nt l ((d, .pointer (some ⟨b, o, some u⟩)) :: L) D H K) (hH : hasH M n H := by assumption)
    (hS : Sl M 1 v (xs.map (fun (x : Nat) => Value.int kk (x : Int))) := by first | assumption | exact Sl.cons (by assumption) | exact Sl.cons (Sl.cons (by assumption)) | exact Sl.mono (by assumption) (fun q hq => List.mem_append_right _ hq))
    (hm : 0 < xs.length := by omega) (hg : gOK L gd := by first | exact gN | exact gS rfl) (hd : Nat.blt d nt = true := by exact rfl) :
    WR C nt (⟨i, some d, .idxS x ix 1, gd, lo⟩ :: l) L D H K := WR.idxSl hg hd hx hS hi rfl (nodes_get hm) k
theorem x1m {x ix : Operand} {kd : IntKind} {m : Nat} {v : Value} {xs : List Int} (hx : ev L x = some v) (hi : ev L ix = some (.int kd ((m : Int) - 1)))
    (k : ∀ b o u, Cell M b o u (.int .i64 (xs.getD (m - 1) 0)) → WR C nt l ((d, .pointer (some ⟨b, o, some u⟩)) :: L) D H K) (hH : hasH M n H := by assumption)
    (hS : Sl M 1 v (xs.map (Value.int .i64)) := by first | assumption | exact Sl.cons (by assumption) | exact Sl.cons (Sl.cons (by assumption)) | exact Sl.mono (by assumption) (fun q hq => List.mem_append_right _ hq)) (hm : 1 ≤ m ∧ m ≤ xs.length := by omega) (hg : gOK L gd := by first | exact gN | exact gS rfl) (hd : Nat.blt d nt = true := by exact rfl) :
    WR C nt (⟨i, some d, .idxS x ix 1, gd, lo⟩ :: l) L D H K := WR.idxSl hg hd hx hS hi (m := m - 1) (by omega) (ints_get (by omega)) k
theorem x3m {kk : IntKind} {x ix : Operand} {kd : IntKind} {m : Nat} {v : Value} {xs : List Nat} (hx : ev L x = some v) (hi : ev L ix = some (.int kd ((m : Int) - 1)))
    (k : ∀ b o u, Cell M b o u (.int kk (xs.getD (m - 1) 0 : Nat)) → WR C nt l ((d, .pointer (some ⟨b, o, some u⟩)) :: L) D H K) (hH : hasH M n H := by assumption)
    (hS : Sl M 1 v (xs.map (fun (x : Nat) => Value.int kk (x : Int))) := by first | assumption | exact Sl.cons (by assumption) | exact Sl.cons (Sl.cons (by assumption)) | exact Sl.mono (by assumption) (fun q hq => List.mem_append_right _ hq)) (hm : 1 ≤ m ∧ m ≤ xs.length := by omega) (hg : gOK L gd := by first | exact gN | exact gS rfl) (hd : Nat.blt d nt = true := by exact rfl) :
    WR C nt (⟨i, some d, .idxS x ix 1, gd, lo⟩ :: l) L D H K := WR.idxSl hg hd hx hS hi (m := m - 1) (by omega) (nodes_get (by omega)) k
theorem x2 {x ix : Operand} {kd : IntKind} {j : Int} {v : Value} {xs : List Int} (hx : ev L x = some v) (hi : ev L ix = some (.int kd j))
    (k : ∀ b o u, Cell M b o u (.int .i64 (xs.getD j.toNat 0)) → WR C nt l ((d, .pointer (some ⟨b, o, some u⟩)) :: L) D H K) (hH : hasH M n H := by assumption)
    (hS : Sl M 1 v (xs.map (Value.int .i64)) := by first | assumption | exact Sl.cons (by assumption) | exact Sl.cons (Sl.cons (by assumption)) | exact Sl.mono (by assumption) (fun q hq => List.mem_append_right _ hq))
    (hm : 0 ≤ j ∧ j < xs.length := by omega) (hg : gOK L gd := by first | exact gN | exact gS rfl) (hd : Nat.blt d nt = true := by exact rfl) :
    WR C nt (⟨i, some d, .idxS x ix 1, gd, lo⟩ :: l) L D H K := WR.idxSl hg hd hx hS hi (m := j.toNat) (by omega) (ints_get (by omega)) k
theorem x3 {kk : IntKind} {x ix : Operand} {kd : IntKind} {m : Nat} {v : Value} {xs : List Nat} (hx : ev L x = some v) (hi : ev L ix = some (.int kd (m : Int)))
    (k : ∀ b o u, Cell M b o u (.int kk (xs.getD m 0 : Nat)) → WR C nt l ((d, .pointer (some ⟨b, o, some u⟩)) :: L) D H K) (hH : hasH M n H := by assumption)
    (hS : Sl M 1 v (xs.map (fun (x : Nat) => Value.int kk (x : Int))) := by first | assumption | exact Sl.cons (by assumption) | exact Sl.cons (Sl.cons (by assumption)) | exact Sl.mono (by assumption) (fun q hq => List.mem_append_right _ hq))
    (hm : m < xs.length := by omega) (hg : gOK L gd := by first | exact gN | exact gS rfl) (hd : Nat.blt d nt = true := by exact rfl) :
    WR C nt (⟨i, some d, .idxS x ix 1, gd, lo⟩ :: l) L D H K := WR.idxSl hg hd hx hS hi rfl (nodes_get hm) k
theorem x4 {kk : IntKind} {x ix : Operand} {kd : IntKind} {j : Int} {v : Value} {xs : List Nat} (hx : ev L x = some v) (hi : ev L ix = some (.int kd j))
    (k : ∀ b o u, Cell M b o u (.int kk (xs.getD j.toNat 0 : Nat)) → WR C nt l ((d, .pointer (some ⟨b, o, some u⟩)) :: L) D H K) (hH : hasH M n H := by assumption)
    (hS : Sl M 1 v (xs.map (fun (x : Nat) => Value.int kk (x : Int))) := by first | assumption | exact Sl.cons (by assumption) | exact Sl.cons (Sl.cons (by assumption)) | exact Sl.mono (by assumption) (fun q hq => List.mem_append_right _ hq))
    (hm : 0 ≤ j ∧ j < xs.length := by omega) (hg : gOK L gd := by first | exact gN | exact gS rfl) (hd : Nat.blt d nt = true := by exact rfl) :
    WR C nt (⟨i, some d, .idxS x ix 1, gd, lo⟩ :: l) L D H K := WR.idxSl hg hd hx hS hi (m := j.toNat) (by omega) (nodes_get (by omega)) k
theorem x5 {x ix : Operand} {kd : IntKind} {m : Nat} {v : Value} {xs : List Bool} (hx : ev L x = some v) (hi : ev L ix = some (.int kd (m : Int)))
    (k : ∀ b o u, Cell M b o u (.bool (xs.getD m false)) → WR C nt l ((d, .pointer (some ⟨b, o, some u⟩)) :: L) D H K) (hH : hasH M n H := by assumption)
    (hS : Sl M 1 v (xs.map Value.bool) := by first | assumption | exact Sl.cons (by assumption) | exact Sl.cons (Sl.cons (by assumption)) | exact Sl.mono (by assumption) (fun q hq => List.mem_append_right _ hq))
    (hm : m < xs.length := by omega) (hg : gOK L gd := by first | exact gN | exact gS rfl) (hd : Nat.blt d nt = true := by exact rfl) :
    WR C nt (⟨i, some d, .idxS x ix 1, gd, lo⟩ :: l) L D H K := WR.idxSl hg hd hx hS hi rfl (bools_get hm) k

theorem vals_get {vs : List Value} {m : Nat} (h : m < vs.length) : vs[m]? = some (vs.getD m undef) := by
  rw [List.getD_eq_getElem?_getD, List.getElem?_eq_getElem h]; rfl
/-- An element of a slice of whatever values. -/
theorem x10 {x ix : Operand} {kd : IntKind} {m : Nat} {v : Value} {vs : List Value} (hx : ev L x = some v) (hi : ev L ix = some (.int kd (m : Int)))
    (k : ∀ b o u, Cell M b o u (vs.getD m undef) → WR C nt l ((d, .pointer (some ⟨b, o, some u⟩)) :: L) D H K) (hH : hasH M n H := by assumption)
    (hS : Sl M 1 v vs := by first | assumption | exact Sl.cons (by assumption) | exact Sl.cons (Sl.cons (by assumption)) | exact Sl.mono (by assumption) (fun q hq => List.mem_append_right _ hq)) (hm : m < vs.length := by omega) (hg : gOK L gd := by first | exact gN | exact gS rfl) (hd : Nat.blt d nt = true := by exact rfl) :
    WR C nt (⟨i, some d, .idxS x ix 1, gd, lo⟩ :: l) L D H K := WR.idxSl hg hd hx hS hi rfl (vals_get hm) k
theorem x10z {x ix : Operand} {kd : IntKind} {v : Value} {vs : List Value} (hx : ev L x = some v) (hi : ev L ix = some (.int kd 0))
    (k : ∀ b o u, Cell M b o u (vs.getD 0 undef) → WR C nt l ((d, .pointer (some ⟨b, o, some u⟩)) :: L) D H K) (hH : hasH M n H := by assumption)
    (hS : Sl M 1 v vs := by first | assumption | exact Sl.cons (by assumption) | exact Sl.cons (Sl.cons (by assumption)) | exact Sl.mono (by assumption) (fun q hq => List.mem_append_right _ hq)) (hm : 0 < vs.length := by omega) (hg : gOK L gd := by first | exact gN | exact gS rfl) (hd : Nat.blt d nt = true := by exact rfl) :
    WR C nt (⟨i, some d, .idxS x ix 1, gd, lo⟩ :: l) L D H K := WR.idxSl hg hd hx hS hi rfl (vals_get hm) k
/-- A cell of a row of numbers. -/
theorem x6 {x : Operand} {b o e u : Nat} {xs : List Int} (hx : ev L x = some (.pointer (some ⟨b, o, some u⟩))) (k : WR C nt l ((d, .int .i64 (xs.getD o 0)) :: L) D H K) (hH : hasH M n H := by assumption)
    (hm : (b, .row e u 0 (xs.map (Value.int .i64))) ∈ M := by first | assumption | exact .head _ | exact .tail _ (.head _) | exact .tail _ (.tail _ (.head _)) | exact .tail _ (by assumption) | exact .tail _ (.tail _ (by assumption))) (ho : o < xs.length := by omega)
    (hg : gOK L gd := by first | exact gN | exact gS rfl) (hd : Nat.blt d nt = true := by exact rfl) : WR C nt (⟨i, some d, .load1 x, gd, lo⟩ :: l) L D H K := WR.op hg hd (OpV.loadI hx hH hm ho) k
theorem x7 {x : Operand} {b o e u : Nat} {xs : List Bool} (hx : ev L x = some (.pointer (some ⟨b, o, some u⟩))) (k : WR C nt l ((d, .bool (xs.getD o false)) :: L) D H K) (hH : hasH M n H := by assumption)
    (hm : (b, .row e u 0 (xs.map Value.bool)) ∈ M := by first | assumption | exact .head _ | exact .tail _ (.head _) | exact .tail _ (.tail _ (.head _)) | exact .tail _ (by assumption) | exact .tail _ (.tail _ (by assumption))) (ho : o < xs.length := by omega)
    (hg : gOK L gd := by first | exact gN | exact gS rfl) (hd : Nat.blt d nt = true := by exact rfl) : WR C nt (⟨i, some d, .load1 x, gd, lo⟩ :: l) L D H K := WR.op hg hd (OpV.loadB hx hH hm ho) k
theorem x8 {x y : Operand} {a : Int} {b e u o : Nat} {xs : List Int} (hx : ev L x = some (.pointer (some ⟨b, o, some u⟩))) (hy : ev L y = some (.int .i64 a)) (k : ∀ H', hasH M' n H' → WR C nt l L D H' K) (hH : hasH M n H := by assumption)
    (hu : Upd M b (.row e u 0 (xs.map (Value.int .i64))) (.row e u 0 ((xs.set o a).map (Value.int .i64))) M' := by first | exact .here | exact .there .here | exact .there (.there .here) | exact .there (.there (.there .here)))
    (ho : o < xs.length := by omega) (hg : gOK L gd := by first | exact gN | exact gS rfl) : WR C nt (⟨i, none, .store x y 1, gd, lo⟩ :: l) L D H K := WR.storeI hg hH hx hy hu ho k
theorem x9 {x y : Operand} {a : Bool} {b e u o : Nat} {xs : List Bool} (hx : ev L x = some (.pointer (some ⟨b, o, some u⟩))) (hy : ev L y = some (.bool a)) (k : ∀ H', hasH M' n H' → WR C nt l L D H' K) (hH : hasH M n H := by assumption)
    (hu : Upd M b (.row e u 0 (xs.map Value.bool)) (.row e u 0 ((xs.set o a).map Value.bool)) M' := by first | exact .here | exact .there .here | exact .there (.there .here) | exact .there (.there (.there .here)))
    (ho : o < xs.length := by omega) (hg : gOK L gd := by first | exact gN | exact gS rfl) : WR C nt (⟨i, none, .store x y 1, gd, lo⟩ :: l) L D H K := WR.storeB hg hH hx hy hu ho k

theorem x6n {kk : IntKind} {x : Operand} {b o e u : Nat} {xs : List Nat} (hx : ev L x = some (.pointer (some ⟨b, o, some u⟩))) (k : WR C nt l ((d, .int kk (xs.getD o 0 : Nat)) :: L) D H K) (hH : hasH M n H := by assumption)
    (hm : (b, .row e u 0 (xs.map (fun (x : Nat) => Value.int kk (x : Int)))) ∈ M := by first | assumption | exact .head _ | exact .tail _ (.head _) | exact .tail _ (.tail _ (.head _)) | exact .tail _ (by assumption) | exact .tail _ (.tail _ (by assumption))) (ho : o < xs.length := by omega) (hg : gOK L gd := by first | exact gN | exact gS rfl) (hd : Nat.blt d nt = true := by exact rfl) : WR C nt (⟨i, some d, .load1 x, gd, lo⟩ :: l) L D H K := WR.op hg hd (OpV.load1 hx hH hm (.row _ _ _ _) (Nat.zero_le _) (nodes_get ho)) k
theorem x8n {kk : IntKind} {x y : Operand} {a : Nat} {b e u o : Nat} {xs : List Nat} (hx : ev L x = some (.pointer (some ⟨b, o, some u⟩))) (hy : ev L y = some (.int kk (a : Int))) (k : ∀ H', hasH M' n H' → WR C nt l L D H' K) (hH : hasH M n H := by assumption)
    (hu : Upd M b (.row e u 0 (xs.map (fun (x : Nat) => Value.int kk (x : Int)))) (.row e u 0 ((xs.set o a).map (fun (x : Nat) => Value.int kk (x : Int)))) M' := by first | exact .here | exact .there .here | exact .there (.there .here) | exact .there (.there (.there .here)))
    (ho : o < xs.length := by omega) (hg : gOK L gd := by first | exact gN | exact gS rfl) : WR C nt (⟨i, none, .store x y 1, gd, lo⟩ :: l) L D H K :=
  WR.store1 hg hH hx hy rfl hu (Nat.zero_le _) (by simpa using ho) (by simp [List.map_set]) k

/-- Lengths. -/
theorem y1 {x : Operand} {v : Value} {xs : List Int} (hx : ev L x = some v) (k : WR C nt l ((d, .int .i64 (xs.length : Int)) :: L) D H K) (hH : hasH M n H := by assumption)
    (hS : Sl M 1 v (xs.map (Value.int .i64)) := by first | assumption | exact Sl.cons (by assumption) | exact Sl.cons (Sl.cons (by assumption)) | exact Sl.mono (by assumption) (fun q hq => List.mem_append_right _ hq))
    (hg : gOK L gd := by first | exact gN | exact gS rfl) (hd : Nat.blt d nt = true := by exact rfl) : WR C nt (⟨i, some d, .len x, gd, lo⟩ :: l) L D H K := WR.op hg hd (OpV.lenSI hx hS) k
theorem y2 {kk : IntKind} {x : Operand} {v : Value} {xs : List Nat} (hx : ev L x = some v) (k : WR C nt l ((d, .int .i64 (xs.length : Int)) :: L) D H K) (hH : hasH M n H := by assumption)
    (hS : Sl M 1 v (xs.map (fun (x : Nat) => Value.int kk (x : Int))) := by first | assumption | exact Sl.cons (by assumption) | exact Sl.cons (Sl.cons (by assumption)) | exact Sl.mono (by assumption) (fun q hq => List.mem_append_right _ hq))
    (hg : gOK L gd := by first | exact gN | exact gS rfl) (hd : Nat.blt d nt = true := by exact rfl) : WR C nt (⟨i, some d, .len x, gd, lo⟩ :: l) L D H K :=
  WR.op hg hd (by have := OpV.lenS (C := C) (H := H) hx hS; rwa [List.length_map] at this) k
theorem y3 {x : Operand} {v : Value} {xs : List Bool} (hx : ev L x = some v) (k : WR C nt l ((d, .int .i64 (xs.length : Int)) :: L) D H K) (hH : hasH M n H := by assumption)
    (hS : Sl M 1 v (xs.map Value.bool) := by first | assumption | exact Sl.cons (by assumption) | exact Sl.cons (Sl.cons (by assumption)) | exact Sl.mono (by assumption) (fun q hq => List.mem_append_right _ hq))
    (hg : gOK L gd := by first | exact gN | exact gS rfl) (hd : Nat.blt d nt = true := by exact rfl) : WR C nt (⟨i, some d, .len x, gd, lo⟩ :: l) L D H K :=
  WR.op hg hd (by have := OpV.lenS (C := C) (H := H) hx hS; rwa [List.length_map] at this) k

theorem y10 {x : Operand} {v : Value} {vs : List Value} (hx : ev L x = some v) (k : WR C nt l ((d, .int .i64 (vs.length : Int)) :: L) D H K) (hH : hasH M n H := by assumption)
    (hS : Sl M 1 v vs := by first | assumption | exact Sl.cons (by assumption) | exact Sl.cons (Sl.cons (by assumption)) | exact Sl.mono (by assumption) (fun q hq => List.mem_append_right _ hq)) (hg : gOK L gd := by first | exact gN | exact gS rfl) (hd : Nat.blt d nt = true := by exact rfl) : WR C nt (⟨i, some d, .len x, gd, lo⟩ :: l) L D H K := WR.op hg hd (OpV.lenS hx hS) k

/-- Arithmetic. -/
theorem y4 {x y : Operand} {a b : Int} (hx : ev L x = some (.int .i64 a)) (hy : ev L y = some (.int .i64 b)) (k : WR C nt l ((d, .int .i64 (a - b)) :: L) D H K) (hr : -9223372036854775808 ≤ a - b ∧ a - b ≤ 9223372036854775807 := by omega) (hg : gOK L gd := by first | exact gN | exact gS rfl)
    (hd : Nat.blt d nt = true := by exact rfl) : WR C nt (⟨i, some d, .ibin .sub .i64 x y, gd, lo⟩ :: l) L D H K := WR.op hg hd (OpV.sub hx hy hr) k
theorem y5 {x y : Operand} {a b : Int} (hx : ev L x = some (.int .i64 a)) (hy : ev L y = some (.int .i64 b)) (k : WR C nt l ((d, .int .i64 (a * b)) :: L) D H K) (hr : -9223372036854775808 ≤ a * b ∧ a * b ≤ 9223372036854775807 := by omega) (hg : gOK L gd := by first | exact gN | exact gS rfl)
    (hd : Nat.blt d nt = true := by exact rfl) : WR C nt (⟨i, some d, .ibin .mul .i64 x y, gd, lo⟩ :: l) L D H K := WR.op hg hd (OpV.mul hx hy hr) k
theorem y6 {x y : Operand} {a b : Int} {kd : IntKind} (hx : ev L x = some (.int kd a)) (hy : ev L y = some (.int kd b)) (k : WR C nt l ((d, .int kd (a % b)) :: L) D H K) (ha : 0 ≤ a := by omega) (hb : 0 < b := by omega) (hg : gOK L gd := by first | exact gN | exact gS rfl)
    (hd : Nat.blt d nt = true := by exact rfl) : WR C nt (⟨i, some d, .ibin .rem kd x y, gd, lo⟩ :: l) L D H K := WR.op hg hd (OpV.rem' hx hy rfl ha hb) k
theorem y7 {x y : Operand} {a b : Int} (hx : ev L x = some (.int .i64 a)) (hy : ev L y = some (.int .i64 b)) (k : WR C nt l ((d, .int .i64 (a / b)) :: L) D H K) (ha : 0 ≤ a ∧ a ≤ 9223372036854775807 := by omega) (hb : 1 ≤ b := by omega) (hg : gOK L gd := by first | exact gN | exact gS rfl)
    (hd : Nat.blt d nt = true := by exact rfl) : WR C nt (⟨i, some d, .ibin .quo .i64 x y, gd, lo⟩ :: l) L D H K := WR.op hg hd (OpV.quo' hx hy rfl ha hb) k
theorem y8 {dst : Option Tmp} {x y : Operand} {ts : Array TypeId} {ty : TypeId} {pos : String} {af : Array Edge} {g : Option (Nat × Bool)} {kd kd' : IntKind} {a b : Int} (hx : ev L x = some (.int kd a)) (hy : ev L y = some (.int kd' b)) (k : WR C nt l ((d, .int kd (Min.min a b)) :: L) D H K)
    (hg : gOK L gd := by first | exact gN | exact gS rfl) (hd : Nat.blt d nt = true := by exact rfl) : WR C nt (⟨i, some d, .plain ⟨dst, .call ⟨.builtin .min, #[x, y], ts⟩, ty, pos, af, g⟩, gd, lo⟩ :: l) L D H K := WR.op hg hd (OpV.min' hx hy rfl) k
theorem y9 {dst : Option Tmp} {x y : Operand} {ts : Array TypeId} {ty : TypeId} {pos : String} {af : Array Edge} {g : Option (Nat × Bool)} {kd kd' : IntKind} {a b : Int} (hx : ev L x = some (.int kd a)) (hy : ev L y = some (.int kd' b)) (k : WR C nt l ((d, .int kd (Max.max a b)) :: L) D H K)
    (hg : gOK L gd := by first | exact gN | exact gS rfl) (hd : Nat.blt d nt = true := by exact rfl) : WR C nt (⟨i, some d, .plain ⟨dst, .call ⟨.builtin .max, #[x, y], ts⟩, ty, pos, af, g⟩, gd, lo⟩ :: l) L D H K := WR.op hg hd (OpV.max' hx hy rfl) k

/-- Tests that are decided by what is known of numbers. -/
theorem wT {p : Prop} [Decidable p] {g : Nat} {dd : Option Tmp} {op : AOp} {q : Bool} (h : p) (k : WR C nt (⟨i, dd, op, some (g, q), lo⟩ :: l) ((g, .bool true) :: L) D H K) : WR C nt (⟨i, dd, op, some (g, q), lo⟩ :: l) ((g, .bool (decide p)) :: L) D H K := by
  rw [decide_eq_true h]; exact k
theorem wF {p : Prop} [Decidable p] {g : Nat} {dd : Option Tmp} {op : AOp} {q : Bool} (h : ¬ p) (k : WR C nt (⟨i, dd, op, some (g, q), lo⟩ :: l) ((g, .bool false) :: L) D H K) : WR C nt (⟨i, dd, op, some (g, q), lo⟩ :: l) ((g, .bool (decide p)) :: L) D H K := by
  rw [decide_eq_false h]; exact k
end

section
variable {C : CW} {ro : Option Nat} {fn : FuncId} {nt : Nat} {L L' : Env} {D : List Nat} {H H' : Heap} {K : Ex → St → Prop}
theorem cT {x : Operand} {a b : PC} {p : Prop} [Decidable p] (hx : ev L x = some (.bool (decide p))) (k : WC C ro fn nt a L D H K) (h : p := by omega) : WC C ro fn nt (.cond x a b) L D H K := WC.condP hx (fun _ => k) (fun hn => absurd h hn)
theorem cF {x : Operand} {a b : PC} {p : Prop} [Decidable p] (hx : ev L x = some (.bool (decide p))) (k : WC C ro fn nt b L D H K) (h : ¬ p := by omega) : WC C ro fn nt (.cond x a b) L D H K := WC.condP hx (fun hp => absurd hp h) (fun _ => k)
theorem gC {x : Operand} {a b : PC} (k : WC C ro fn nt (.cond x a b) L D H K) : WC C ro fn nt (.cond x a b) L D H K := k

/-- A loop; E: what stays as it is. -/
theorem WC.loopX {α : Type} {b : PC} (E : Env) (Lf : α → Env) (Df : List Nat) (hp : α → Heap → Prop) (m : α → Nat) (a0 : α) (h0 : Sub L (Lf a0 ++ E)) (hD : D = Df) (hH : hp a0 H)
    (hb : ∀ a H, hp a H → WC C ro fn nt b (Lf a ++ E) Df H (loopK (fun a => sat (Lf a ++ E) Df (hp a)) m a K)) : WC C ro fn nt (.loop b) L D H K :=
  WC.loop (fun a => Lf a ++ E) (fun _ => Df) hp m a0 h0 hD hH hb
theorem Ends.loopX {α : Type} {E : Env} {Lf : α → Env} {Df : List Nat} {hp : α → Heap → Prop} {m : α → Nat} {a : α} (a' : α) (hm : m a' < m a) (h0 : Sub L (Lf a' ++ E)) (hH : hp a' H) (hD : D = Df := by rfl) :
    Ends (loopK (fun a => sat (Lf a ++ E) Df (hp a)) m a K) .normal L D H := Ends.loop (Lf := fun a => Lf a ++ E) (Df := fun _ => Df) a' hm h0 hD hH
end

section
variable {C : CW} {ro : Option Nat} {fn : FuncId} {nt : Nat} {L L' : Env} {D : List Nat} {H H' : Heap} {K : Ex → St → Prop}
/-- Ways that meet again, with something that they have chosen; E: what stays as it is. -/
theorem WC.joinX {α : Type} {a b : PC} (E : Env) (hE : Sub L E) (Lf : α → Env) (hp : α → Heap → Prop) (h1 : WC C ro fn nt a L D H (midK (fun s => ∃ x, sat (Lf x ++ E) D (hp x) s) K))
    (h2 : ∀ x H', hp x H' → WC C ro fn nt b (Lf x ++ E) D H' K) : WC C ro fn nt a L D H (seqK C ro fn nt b K) := WC.joinE (fun x => Lf x ++ E) (fun _ => D) hp h1 h2
theorem Ends.midX {α : Type} {E : Env} {Lf : α → Env} {hp : α → Heap → Prop} (x : α) (h0 : Sub L (Lf x ++ E)) (hH : hp x H) : Ends (midK (fun s => ∃ x, sat (Lf x ++ E) D (hp x) s) K) .normal L D H :=
  Ends.midE (Lf := fun x => Lf x ++ E) (Df := fun _ => D) x h0 rfl hH
end

section
variable {C : CW} {nt : Nat} {L : Env} {D : List Nat} {H : Heap} {K : St → Prop} {i d : Nat} {gd : Option (Tmp × Bool)} {lo : List Nat} {l : List POp}
/-- The one behind, and the one before, of a slice that lies at a known place. -/
theorem xp1 {x ix : Operand} {b o m k' cap : Nat} {sp : Option Nat} {kd : IntKind} {a' : Addr} (hx : ev L x = some (.slice (some ⟨b, o, sp⟩) k' cap)) (hi : ev L ix = some (.int kd ((m : Int) + 1))) (k : WR C nt l ((d, .pointer (some a')) :: L) D H K) (hm : m + 1 < k' := by omega)
    (ha : (⟨b, o + (m + 1) * 1, sp⟩ : Addr) = a' := by first | exact addr01 _ _ _ | exact addr1 _ _ _ _) (hg : gOK L gd := by first | exact gN | exact gS rfl) (hd : Nat.blt d nt = true := by exact rfl) :
    WR C nt (⟨i, some d, .idxS x ix 1, gd, lo⟩ :: l) L D H K := WR.op hg hd (OpV.idxS hx hi (m := m + 1) (by omega) hm ha) k
theorem xm1 {x ix : Operand} {b o m k' cap : Nat} {sp : Option Nat} {kd : IntKind} {a' : Addr} (hx : ev L x = some (.slice (some ⟨b, o, sp⟩) k' cap)) (hi : ev L ix = some (.int kd ((m : Int) - 1))) (k : WR C nt l ((d, .pointer (some a')) :: L) D H K) (hm : 1 ≤ m ∧ m - 1 < k' := by omega)
    (ha : (⟨b, o + (m - 1) * 1, sp⟩ : Addr) = a' := by first | exact addr01 _ _ _ | exact addr1 _ _ _ _) (hg : gOK L gd := by first | exact gN | exact gS rfl) (hd : Nat.blt d nt = true := by exact rfl) :
    WR C nt (⟨i, some d, .idxS x ix 1, gd, lo⟩ :: l) L D H K := WR.op hg hd (OpV.idxS hx hi (m := m - 1) (by omega) hm.2 ha) k
end
theorem zP {p q : Prop} (k : q) (h : q → p := by
  intro k; refine gI ?_; first | exact xp1 rfl rfl k | exact xm1 rfl rfl k) : p := h k
theorem zX {p q : Prop} (k : q) (h : q → p := by
  intro k; refine zw ?_
  first
  | (refine gL ?_; first | exact x6 rfl k | exact x6n rfl k | exact x7 rfl k)
  | (refine gN' ?_; first | exact y1 rfl k | exact y2 rfl k | exact y3 rfl k | exact y10 rfl k)
  | (refine gB ?_; first | exact y4 rfl rfl k | exact y6 rfl rfl k | exact y7 rfl rfl k | exact y5 rfl rfl k)
  | (refine gP ?_; first | exact y8 rfl rfl k | exact y9 rfl rfl k)) : p := h k
theorem zC {p q : Prop} (k : q) (h : q → p := by
  intro k; refine gI ?_
  first | exact x1 rfl rfl k | exact x3 rfl rfl k | exact x5 rfl rfl k | exact x1z rfl rfl k | exact x3z rfl rfl k | exact x1m rfl rfl k | exact x3m rfl rfl k | exact x2 rfl rfl k | exact x4 rfl rfl k | exact x10 rfl rfl k | exact x10z rfl rfl k) : p := h k
theorem zS {p q : Prop} (k : q) (h : q → p := by
  intro k; refine gT ?_
  first | exact x8 rfl rfl k | exact x8n rfl rfl k | exact x9 rfl rfl k) : p := h k
/-- A test that numbers decide. -/
theorem zO {p q : Prop} (k : q) (h : q → p := by
  intro k
  first | (refine gC ?_; first | exact cT rfl k | exact cF rfl k) | exact wT (by omega) k | exact wF (by omega) k) : p := h k
section
variable {C : CW} {nt : Nat} {L : Env} {D : List Nat} {H H' : Heap} {K : St → Prop} {M M' : HL} {n i d : Nat} {gd : Option (Tmp × Bool)} {lo : List Nat} {l : List POp} {rs : List Rd}
theorem gD1 {x : Operand} {off : Nat} (kk : WD C nt (⟨i, some d, .fieldAddr x off, gd, lo⟩ :: l) rs L D H K) : WD C nt (⟨i, some d, .fieldAddr x off, gd, lo⟩ :: l) rs L D H K := kk
theorem gD2 {x : Operand} (kk : WD C nt (⟨i, some d, .load1 x, gd, lo⟩ :: l) rs L D H K) : WD C nt (⟨i, some d, .load1 x, gd, lo⟩ :: l) rs L D H K := kk
theorem gD3 {x ix : Operand} (kk : WD C nt (⟨i, some d, .idxS x ix 1, gd, lo⟩ :: l) rs L D H K) : WD C nt (⟨i, some d, .idxS x ix 1, gd, lo⟩ :: l) rs L D H K := kk
theorem gD4 {op : BinOp} {kd : IntKind} {x y : Operand} (kk : WD C nt (⟨i, some d, .ibin op kd x y, gd, lo⟩ :: l) rs L D H K) : WD C nt (⟨i, some d, .ibin op kd x y, gd, lo⟩ :: l) rs L D H K := kk
theorem gD5 {x : Operand} (kk : WD C nt (⟨i, some d, .len x, gd, lo⟩ :: l) rs L D H K) : WD C nt (⟨i, some d, .len x, gd, lo⟩ :: l) rs L D H K := kk
theorem gD6 {c a b : Operand} (kk : WD C nt (⟨i, some d, .pick c a b, gd, lo⟩ :: l) rs L D H K) : WD C nt (⟨i, some d, .pick c a b, gd, lo⟩ :: l) rs L D H K := kk
theorem gD7 {x : Operand} {m : Nat} (kk : WD C nt (⟨i, some d, .loadN x m, gd, lo⟩ :: l) rs L D H K) : WD C nt (⟨i, some d, .loadN x m, gd, lo⟩ :: l) rs L D H K := kk
theorem gD8 {x : Operand} {m : Nat} (kk : WD C nt (⟨i, some d, .ext x m, gd, lo⟩ :: l) rs L D H K) : WD C nt (⟨i, some d, .ext x m, gd, lo⟩ :: l) rs L D H K := kk
theorem gD9 {x : Operand} (kk : WD C nt (⟨i, some d, .not x, gd, lo⟩ :: l) rs L D H K) : WD C nt (⟨i, some d, .not x, gd, lo⟩ :: l) rs L D H K := kk
theorem e1 {x : Operand} {b u lo' o : Nat} {ch : Ch} {cs : List Value} {v : Value} (hx : ev L x = some (.pointer (some ⟨b, o, some u⟩))) (hv : cs[o - lo']? = some v) (k : WD C nt l (⟨i, ⟨b, o, some u⟩, none, v⟩ :: rs) ((d, v) :: L) D H K) (hH : hasH M n H := by assumption) (hm : (b, ch) ∈ M := by first | assumption | exact .head _ | exact .tail _ (.head _) | exact .tail _ (.tail _ (.head _)) | exact .tail _ (by assumption) | exact .tail _ (.tail _ (by assumption))) (hc : ch.cellsAre u lo' cs := by first | exact .row _ _ _ _ | exact .inp _ _ _ _) (hlo : lo' ≤ o := by exact Nat.zero_le _) (hg : gOK L gd := by first | exact gN | exact gS rfl) (hd : Nat.blt d nt = true := by exact rfl) :
    WD C nt (⟨i, some d, .load1 x, gd, []⟩ :: l) rs L D H K := WD.load1 hg hd hx (hH.read hm hc hlo hv) k
theorem e2 {x : Operand} {b o e u : Nat} {xs : List Int} (hx : ev L x = some (.pointer (some ⟨b, o, some u⟩))) (k : WD C nt l (⟨i, ⟨b, o, some u⟩, none, .int .i64 (xs.getD o 0)⟩ :: rs) ((d, .int .i64 (xs.getD o 0)) :: L) D H K) (hH : hasH M n H := by assumption) (hm : (b, .row e u 0 (xs.map (Value.int .i64))) ∈ M := by first | assumption | exact .head _ | exact .tail _ (.head _) | exact .tail _ (.tail _ (.head _)) | exact .tail _ (by assumption) | exact .tail _ (.tail _ (by assumption))) (ho : o < xs.length := by omega) (hg : gOK L gd := by first | exact gN | exact gS rfl) (hd : Nat.blt d nt = true := by exact rfl) :
    WD C nt (⟨i, some d, .load1 x, gd, []⟩ :: l) rs L D H K := WD.load1 hg hd hx (hH.read hm (.row _ _ _ _) (Nat.zero_le _) (ints_get ho)) k
theorem e2n {kk : IntKind} {x : Operand} {b o e u : Nat} {xs : List Nat} (hx : ev L x = some (.pointer (some ⟨b, o, some u⟩))) (k : WD C nt l (⟨i, ⟨b, o, some u⟩, none, .int kk (xs.getD o 0 : Nat)⟩ :: rs) ((d, .int kk (xs.getD o 0 : Nat)) :: L) D H K) (hH : hasH M n H := by assumption)
    (hm : (b, .row e u 0 (xs.map (fun (x : Nat) => Value.int kk (x : Int)))) ∈ M := by first | assumption | exact .head _ | exact .tail _ (.head _) | exact .tail _ (.tail _ (.head _)) | exact .tail _ (by assumption) | exact .tail _ (.tail _ (by assumption))) (ho : o < xs.length := by omega) (hg : gOK L gd := by first | exact gN | exact gS rfl) (hd : Nat.blt d nt = true := by exact rfl) :
    WD C nt (⟨i, some d, .load1 x, gd, []⟩ :: l) rs L D H K := WD.load1 hg hd hx (hH.read hm (.row _ _ _ _) (Nat.zero_le _) (nodes_get ho)) k
theorem e3 {x : Operand} {b o u : Nat} {v : Value} (hx : ev L x = some (.pointer (some ⟨b, o, some u⟩))) (k : WD C nt l (⟨i, ⟨b, o, some u⟩, none, v⟩ :: rs) ((d, v) :: L) D H K) (hc : Cell M b o u v := by assumption) (hH : hasH M n H := by assumption) (hg : gOK L gd := by first | exact gN | exact gS rfl) (hd : Nat.blt d nt = true := by exact rfl) :
    WD C nt (⟨i, some d, .load1 x, gd, []⟩ :: l) rs L D H K := WD.load1 hg hd hx (hc.read hH) k
theorem e4 {x ix : Operand} {kd : IntKind} {m : Nat} {v : Value} {xs : List Int} (hx : ev L x = some v) (hi : ev L ix = some (.int kd (m : Int)))
    (k : ∀ b o u, Cell M b o u (.int .i64 (xs.getD m 0)) → WD C nt l rs ((d, .pointer (some ⟨b, o, some u⟩)) :: L) D H K) (hH : hasH M n H := by assumption) (hS : Sl M 1 v (xs.map (Value.int .i64)) := by first | assumption | exact Sl.cons (by assumption) | exact Sl.cons (Sl.cons (by assumption)) | exact Sl.mono (by assumption) (fun q hq => List.mem_append_right _ hq)) (hm : m < xs.length := by omega) (hg : gOK L gd := by first | exact gN | exact gS rfl) (hd : Nat.blt d nt = true := by exact rfl) :
    WD C nt (⟨i, some d, .idxS x ix 1, gd, []⟩ :: l) rs L D H K := by
  obtain ⟨b, o, u, h1, h2⟩ := OpV.idxSl (C := C) (H := H) hx hS hi rfl (ints_get hm)
  exact WD.op hg hd h1 rfl (stands_nil _ _) (k b o u h2)
theorem e5 {kk : IntKind} {x ix : Operand} {kd : IntKind} {m : Nat} {v : Value} {xs : List Nat} (hx : ev L x = some v) (hi : ev L ix = some (.int kd (m : Int)))
    (k : ∀ b o u, Cell M b o u (.int kk (xs.getD m 0 : Nat)) → WD C nt l rs ((d, .pointer (some ⟨b, o, some u⟩)) :: L) D H K) (hH : hasH M n H := by assumption) (hS : Sl M 1 v (xs.map (fun (x : Nat) => Value.int kk (x : Int))) := by first | assumption | exact Sl.cons (by assumption) | exact Sl.cons (Sl.cons (by assumption)) | exact Sl.mono (by assumption) (fun q hq => List.mem_append_right _ hq)) (hm : m < xs.length := by omega) (hg : gOK L gd := by first | exact gN | exact gS rfl) (hd : Nat.blt d nt = true := by exact rfl) :
    WD C nt (⟨i, some d, .idxS x ix 1, gd, []⟩ :: l) rs L D H K := by
  obtain ⟨b, o, u, h1, h2⟩ := OpV.idxSl (C := C) (H := H) hx hS hi rfl (nodes_get hm)
  exact WD.op hg hd h1 rfl (stands_nil _ _) (k b o u h2)
theorem e10 {x ix : Operand} {kd : IntKind} {m : Nat} {v : Value} {vs : List Value} (hx : ev L x = some v) (hi : ev L ix = some (.int kd (m : Int)))
    (k : ∀ b o u, Cell M b o u (vs.getD m undef) → WD C nt l rs ((d, .pointer (some ⟨b, o, some u⟩)) :: L) D H K) (hH : hasH M n H := by assumption) (hS : Sl M 1 v vs := by first | assumption | exact Sl.cons (by assumption) | exact Sl.cons (Sl.cons (by assumption)) | exact Sl.mono (by assumption) (fun q hq => List.mem_append_right _ hq)) (hm : m < vs.length := by omega) (hg : gOK L gd := by first | exact gN | exact gS rfl) (hd : Nat.blt d nt = true := by exact rfl) :
    WD C nt (⟨i, some d, .idxS x ix 1, gd, []⟩ :: l) rs L D H K := by
  obtain ⟨b, o, u, h1, h2⟩ := OpV.idxSl (C := C) (H := H) (m := m) hx hS hi rfl (vals_get hm)
  exact WD.op hg hd h1 rfl (stands_nil _ _) (k b o u h2)
theorem e10z {x ix : Operand} {kd : IntKind} {v : Value} {vs : List Value} (hx : ev L x = some v) (hi : ev L ix = some (.int kd 0))
    (k : ∀ b o u, Cell M b o u (vs.getD 0 undef) → WD C nt l rs ((d, .pointer (some ⟨b, o, some u⟩)) :: L) D H K) (hH : hasH M n H := by assumption) (hS : Sl M 1 v vs := by first | assumption | exact Sl.cons (by assumption) | exact Sl.cons (Sl.cons (by assumption)) | exact Sl.mono (by assumption) (fun q hq => List.mem_append_right _ hq)) (hm : 0 < vs.length := by omega) (hg : gOK L gd := by first | exact gN | exact gS rfl) (hd : Nat.blt d nt = true := by exact rfl) :
    WD C nt (⟨i, some d, .idxS x ix 1, gd, []⟩ :: l) rs L D H K := by
  obtain ⟨b, o, u, h1, h2⟩ := OpV.idxSl (C := C) (H := H) (m := 0) hx hS hi rfl (vals_get hm)
  exact WD.op hg hd h1 rfl (stands_nil _ _) (k b o u h2)
theorem e6 {x ix : Operand} {b o m k' cap : Nat} {sp : Option Nat} {kd : IntKind} {a' : Addr} (hx : ev L x = some (.slice (some ⟨b, o, sp⟩) k' cap)) (hi : ev L ix = some (.int kd (m : Int))) (k : WD C nt l rs ((d, .pointer (some a')) :: L) D H K) (hm : m < k' := by first | decide | omega | assumption) (ha : (⟨b, o + m * 1, sp⟩ : Addr) = a' := by first | exact addr01 _ _ _ | exact addr1 _ _ _ _ | exact rfl) (hg : gOK L gd := by first | exact gN | exact gS rfl) (hd : Nat.blt d nt = true := by exact rfl) :
    WD C nt (⟨i, some d, .idxS x ix 1, gd, []⟩ :: l) rs L D H K := WD.op hg hd (OpV.idxS hx hi rfl hm ha) rfl (stands_nil _ _) k
theorem e7 {x : Operand} {v : Value} {xs : List Int} (hx : ev L x = some v) (k : WD C nt l rs ((d, .int .i64 (xs.length : Int)) :: L) D H K) (hH : hasH M n H := by assumption) (hS : Sl M 1 v (xs.map (Value.int .i64)) := by first | assumption | exact Sl.cons (by assumption) | exact Sl.cons (Sl.cons (by assumption)) | exact Sl.mono (by assumption) (fun q hq => List.mem_append_right _ hq)) (hg : gOK L gd := by first | exact gN | exact gS rfl) (hd : Nat.blt d nt = true := by exact rfl) :
    WD C nt (⟨i, some d, .len x, gd, []⟩ :: l) rs L D H K := WD.op hg hd (by have := OpV.lenS (C := C) (H := H) hx hS; rwa [List.length_map] at this) rfl (stands_nil _ _) k
theorem e8 {kk : IntKind} {x : Operand} {v : Value} {xs : List Nat} (hx : ev L x = some v) (k : WD C nt l rs ((d, .int .i64 (xs.length : Int)) :: L) D H K) (hH : hasH M n H := by assumption) (hS : Sl M 1 v (xs.map (fun (x : Nat) => Value.int kk (x : Int))) := by first | assumption | exact Sl.cons (by assumption) | exact Sl.cons (Sl.cons (by assumption)) | exact Sl.mono (by assumption) (fun q hq => List.mem_append_right _ hq)) (hg : gOK L gd := by first | exact gN | exact gS rfl) (hd : Nat.blt d nt = true := by exact rfl) :
    WD C nt (⟨i, some d, .len x, gd, []⟩ :: l) rs L D H K := WD.op hg hd (by have := OpV.lenS (C := C) (H := H) hx hS; rwa [List.length_map] at this) rfl (stands_nil _ _) k
theorem e9 {x y : Operand} {a b : Int} (hx : ev L x = some (.int .i64 a)) (hy : ev L y = some (.int .i64 b)) (k : WD C nt l rs ((d, .int .i64 (a + b)) :: L) D H K) (hr : -9223372036854775808 ≤ a + b ∧ a + b ≤ 9223372036854775807 := by omega) (hg : gOK L gd := by first | exact gN | exact gS rfl) (hd : Nat.blt d nt = true := by exact rfl) :
    WD C nt (⟨i, some d, .ibin .add .i64 x y, gd, []⟩ :: l) rs L D H K := WD.op hg hd (OpV.add hx hy hr) rfl (stands_nil _ _) k
theorem f1 {x y : Operand} {a b : Int} (hx : ev L x = some (.int .i64 a)) (hy : ev L y = some (.int .i64 b)) (k : WD C nt l rs ((d, .int .i64 (a - b)) :: L) D H K) (hr : -9223372036854775808 ≤ a - b ∧ a - b ≤ 9223372036854775807 := by omega) (hg : gOK L gd := by first | exact gN | exact gS rfl) (hd : Nat.blt d nt = true := by exact rfl) :
    WD C nt (⟨i, some d, .ibin .sub .i64 x y, gd, []⟩ :: l) rs L D H K := WD.op hg hd (OpV.sub hx hy hr) rfl (stands_nil _ _) k
theorem f2 {x y : Operand} {a b : Int} (hx : ev L x = some (.int .i64 a)) (hy : ev L y = some (.int .i64 b)) (k : WD C nt l rs ((d, .int .i64 (a * b)) :: L) D H K) (hr : -9223372036854775808 ≤ a * b ∧ a * b ≤ 9223372036854775807 := by omega) (hg : gOK L gd := by first | exact gN | exact gS rfl) (hd : Nat.blt d nt = true := by exact rfl) :
    WD C nt (⟨i, some d, .ibin .mul .i64 x y, gd, []⟩ :: l) rs L D H K := WD.op hg hd (OpV.mul hx hy hr) rfl (stands_nil _ _) k
theorem f3 {x y : Operand} {a b : Int} {kd : IntKind} (hx : ev L x = some (.int kd a)) (hy : ev L y = some (.int kd b)) (k : WD C nt l rs ((d, .int kd (a % b)) :: L) D H K) (ha : 0 ≤ a := by omega) (hb : 0 < b := by omega) (hg : gOK L gd := by first | exact gN | exact gS rfl) (hd : Nat.blt d nt = true := by exact rfl) :
    WD C nt (⟨i, some d, .ibin .rem kd x y, gd, []⟩ :: l) rs L D H K := WD.op hg hd (OpV.rem' hx hy rfl ha hb) rfl (stands_nil _ _) k
theorem f4 {x y : Operand} {a b : Int} (hx : ev L x = some (.int .i64 a)) (hy : ev L y = some (.int .i64 b)) (k : WD C nt l rs ((d, .int .i64 (a / b)) :: L) D H K) (ha : 0 ≤ a ∧ a ≤ 9223372036854775807 := by omega) (hb : 1 ≤ b := by omega) (hg : gOK L gd := by first | exact gN | exact gS rfl) (hd : Nat.blt d nt = true := by exact rfl) :
    WD C nt (⟨i, some d, .ibin .quo .i64 x y, gd, []⟩ :: l) rs L D H K := WD.op hg hd (OpV.quo' hx hy rfl ha hb) rfl (stands_nil _ _) k
theorem f5 {c a b : Operand} {v : Value} (hc : ev L c = some (.bool true)) (ha : ev L a = some v) (k : WD C nt l rs ((d, v) :: L) D H K)  (hg : gOK L gd := by first | exact gN | exact gS rfl) (hd : Nat.blt d nt = true := by exact rfl) :
    WD C nt (⟨i, some d, .pick c a b, gd, []⟩ :: l) rs L D H K := WD.op hg hd (OpV.pickT hc ha) rfl (stands_nil _ _) k
theorem f6 {c a b : Operand} {v : Value} (hc : ev L c = some (.bool false)) (hb : ev L b = some v) (k : WD C nt l rs ((d, v) :: L) D H K)  (hg : gOK L gd := by first | exact gN | exact gS rfl) (hd : Nat.blt d nt = true := by exact rfl) :
    WD C nt (⟨i, some d, .pick c a b, gd, []⟩ :: l) rs L D H K := WD.op hg hd (OpV.pickF hc hb) rfl (stands_nil _ _) k
theorem f7 {x : Operand} {b u lo' k' : Nat} {ch : Ch} {cs : List Value} (hx : ev L x = some (.pointer (some ⟨b, lo', some u⟩))) (k : WD C nt l (⟨i, ⟨b, lo', some u⟩, some k', .agg cs.toArray⟩ :: rs) ((d, .agg cs.toArray) :: L) D H K) (hH : hasH M n H := by assumption) (hm : (b, ch) ∈ M := by first | assumption | exact .head _ | exact .tail _ (.head _) | exact .tail _ (.tail _ (.head _)) | exact .tail _ (by assumption) | exact .tail _ (.tail _ (by assumption))) (hc : ch.cellsAre u lo' cs := by first | exact .row _ _ _ _ | exact .inp _ _ _ _) (hk : cs.length = k' := by first | exact rfl | assumption) (hg : gOK L gd := by first | exact gN | exact gS rfl) (hd : Nat.blt d nt = true := by exact rfl) :
    WD C nt (⟨i, some d, .loadN x k', gd, []⟩ :: l) rs L D H K := WD.loadN hg hd hx (by have := hH.readN (k := cs.length) hm hc (Nat.le_refl _) (by omega); rw [Nat.sub_self, List.drop_zero, List.take_length] at this; rw [← hk]; exact this) k
theorem f8 {x : Operand} {k' : Nat} {vs : List Value} {v : Value} (hx : ev L x = some (.tuple vs.toArray)) (hv : vs[k']? = some v) (k : WD C nt l rs ((d, v) :: L) D H K)  (hg : gOK L gd := by first | exact gN | exact gS rfl) (hd : Nat.blt d nt = true := by exact rfl) :
    WD C nt (⟨i, some d, .ext x k', gd, []⟩ :: l) rs L D H K := WD.op hg hd (OpV.ext hx hv) rfl (stands_nil _ _) k
theorem f9 {x : Operand} (hx : ev L x = some (.bool true)) (k : WD C nt l rs ((d, .bool false) :: L) D H K)  (hg : gOK L gd := by first | exact gN | exact gS rfl) (hd : Nat.blt d nt = true := by exact rfl) :
    WD C nt (⟨i, some d, .not x, gd, []⟩ :: l) rs L D H K := WD.op hg hd (OpV.notT hx) rfl (stands_nil _ _) k
theorem h1 {x : Operand} (hx : ev L x = some (.bool false)) (k : WD C nt l rs ((d, .bool true) :: L) D H K)  (hg : gOK L gd := by first | exact gN | exact gS rfl) (hd : Nat.blt d nt = true := by exact rfl) :
    WD C nt (⟨i, some d, .not x, gd, []⟩ :: l) rs L D H K := WD.op hg hd (OpV.notF hx) rfl (stands_nil _ _) k
theorem h2 {x : Operand} {p : Prop} [Decidable p] (hx : ev L x = some (.bool (decide p))) (k : WD C nt l rs ((d, .bool (decide (¬p))) :: L) D H K)  (hg : gOK L gd := by first | exact gN | exact gS rfl) (hd : Nat.blt d nt = true := by exact rfl) :
    WD C nt (⟨i, some d, .not x, gd, []⟩ :: l) rs L D H K := WD.op hg hd (OpV.notP hx) rfl (stands_nil _ _) k
end
theorem zD {p q : Prop} (k : q) (h : q → p := by
  intro k
  first
  | exact d1 rfl k
  | (refine gD1 ?_; first | exact d2 rfl k | exact d3 rfl k)
  | (refine gD2 ?_; first | exact e3 rfl k | exact e1 rfl rfl k | exact e2 rfl k | exact e2n rfl k)
  | (refine gD3 ?_; exact e6 rfl rfl k)
  | (refine gD4 ?_; first | exact e9 rfl rfl k | exact f1 rfl rfl k | exact f3 rfl rfl k | exact f4 rfl rfl k | exact f2 rfl rfl k)
  | (refine gD5 ?_; first | exact e7 rfl k | exact e8 rfl k)
  | (refine gD6 ?_; first | exact f5 rfl rfl k | exact f6 rfl rfl k)
  | (refine gD7 ?_; exact f7 rfl k)
  | (refine gD8 ?_; exact f8 rfl rfl k)
  | (refine gD9 ?_; first | exact f9 rfl k | exact h1 rfl k | exact h2 rfl k)) : p := h k
theorem zE {p q : Prop} (k : q) (h : q → p := by
  intro k; refine gD3 ?_
  first | exact e4 rfl rfl k | exact e5 rfl rfl k | exact e10 rfl rfl k | exact e10z rfl rfl k) : p := h k
/-- What was read still stands. -/
theorem zSt {p : Prop} (h : p := by
  repeat' first
  | exact stands_nil'
  | refine stands_cons (.inl rfl) ?_
  | refine stands_cons (.inr (holds_at (by first | exact Cell.read (by assumption) (by assumption) | exact hasH.read (by assumption) (by first | assumption | exact .head _ | exact .tail _ (.head _) | exact .tail _ (.tail _ (.head _)) | exact .tail _ (by assumption) | exact .tail _ (.tail _ (by assumption))) (.row _ _ _ _) (Nat.zero_le _) (by first | rfl | exact ints_get (by omega) | exact nodes_get (by omega))) (by first | exact same_int _ _ | exact same_ptr _ | exact Sl.same (by assumption) | exact same_fn _ [_, _, _] | rfl))) ?_) : p := h
end Go.Abs
