/- The evaluator's runs are the machine's. -/
import Derived.Test.YtdlfikobjnjmaaaAbsOps3
import Derived.Test.YtdlfikobjnjmaaaAbsDraw
namespace Go.Abs
set_option linter.unusedSectionVars false
variable [Globs]
open Go
set_option linter.unusedVariables false
set_option linter.unusedSimpArgs false

structure CtxOK (C : Ctx) : Prop where
  mixed : C.P.follows .mixedOrders = true
  funcs : ∀ f pf, C.funcs.get f = some pf → prepF C.P f = some pf

inductive DR (σ : Ren) : List Nat → List Deferred → Prop where
  | nil : DR σ [] []
  | cons {b blk : Nat} {d : List Nat} {ds : List Deferred} (h : σ.obj b = some blk) (k : DR σ d ds) : DR σ (b :: d) ({ target := .collected blk, args := #[] } :: ds)

inductive RoR (σ : Ren) : Option Nat → Option Nat → Prop where
  | none : RoR σ none none
  | some {l blk : Nat} (h : σ.obj l = some blk) : RoR σ (some l) (some blk)

theorem DR.le {σ τ : Ren} (k : σ.le τ) {d ds} (h : DR σ d ds) : DR τ d ds := by
  induction h with
  | nil => exact .nil
  | cons h _ ih => exact .cons (k.2 _ _ h) ih

theorem RoR.le {σ τ : Ren} (k : σ.le τ) {d ds} (h : RoR σ d ds) : RoR τ d ds := by
  cases h with
  | none => exact .none
  | some h => exact .some (k.2 _ _ h)

/-- Where the machine comes. -/
def ArrR (P : Program) (m : Machine) (b : Frame) (k : List Item) (cs : List Frame) : Ex → Act → World → Prop
  | .normal, a, w => Steps P m (lone (b.atR a k) cs w)
  | .exit id, a, w => (∀ k', exitTo id k = some k' → Steps P m (lone (b.atR a k') cs w)) ∧
      (exitTo id k = none → ∃ k1, exitTo id k1 = none ∧ Steps P m (lone (b.atR a (.code (.exit id) :: k1)) cs w))
  | .goto l, a, w => (∀ k', gotoIn l k = some k' → Steps P m (lone (b.atR a k') cs w)) ∧
      (gotoIn l k = none → ∃ k1, gotoIn l k1 = none ∧ Steps P m (lone (b.atR a (.code (.goto l) :: k1)) cs w))
  | .ret, a, w => ∃ k1, Steps P m (lone (b.atR a (.code .ret :: k1)) cs w)

theorem ArrR.of_steps {P : Program} {m m1 : Machine} {b : Frame} {k : List Item} {cs : List Frame} {e : Ex} {a : Act} {w : World} (h : Steps P m m1) (h' : ArrR P m1 b k cs e a w) : ArrR P m b k cs e a w := by
  cases e with
  | normal => exact h.trans h'
  | exit id => exact ⟨fun k' hk => h.trans (h'.1 k' hk), fun hk => by obtain ⟨k1, q1, q2⟩ := h'.2 hk; exact ⟨k1, q1, h.trans q2⟩⟩
  | goto id => exact ⟨fun k' hk => h.trans (h'.1 k' hk), fun hk => by obtain ⟨k1, q1, q2⟩ := h'.2 hk; exact ⟨k1, q1, h.trans q2⟩⟩
  | ret => obtain ⟨k1, q⟩ := h'; exact ⟨k1, h.trans q⟩

theorem ArrR.jump {P : Program} {b : Frame} {a : Act} {k : List Item} {cs : List Frame} {w : World} {m : Machine} (e : Ex) (c : Code) (hc : match e with | .normal => False | .exit id => c = .exit id | .goto l => c = .goto l | .ret => c = .ret)
    (h : Steps P m (lone (b.atR a (.code c :: k)) cs w)) : ArrR P m b k cs e a w := by
  cases e with
  | normal => exact hc.elim
  | exit id => subst hc; exact ⟨fun k' hk => h.trans (.one (stepR_exit hk)), fun hk => ⟨k, hk, h⟩⟩
  | goto id => subst hc; exact ⟨fun k' hk => h.trans (.one (stepR_goto hk)), fun hk => ⟨k, hk, h⟩⟩
  | ret => subst hc; exact ⟨k, h⟩

/-- Passing an item that no jump looks at. -/
theorem ArrR.pass {P : Program} {m : Machine} {b : Frame} {x : Item} {k : List Item} {cs : List Frame} {e : Ex} {a : Act} {w : World} (hx : x.plain = true) (he : e ≠ .normal) (h : ArrR P m b (x :: k) cs e a w) :
    ArrR P m b k cs e a w := by
  have e1 : ∀ id, exitTo id (x :: k) = exitTo id k := fun id => by cases x <;> simp_all [exitTo, Item.plain]
  have e2 : ∀ id, gotoIn id (x :: k) = gotoIn id k := fun id => by cases x <;> simp_all [gotoIn, Item.plain]
  cases e with
  | normal => exact absurd rfl he
  | exit id => simp only [ArrR, e1] at h; exact h
  | goto id => simp only [ArrR, e2] at h; exact h
  | ret => exact h

/-- A state of the evaluator, and the machine's. -/
structure At (P : Program) (σ : Ren) (N nt : Nat) (s : St) (a : Act) (w : World) : Prop where
  heap : HR P σ N s.H w
  tmps : TR σ nt s.t a.tmps
  defers : DR σ s.d a.defers

def SaidCode (C : Ctx) (ro : Option Nat) (fn : FuncId) (nt : Nat) (c : PC) (s : St) (e : Ex) (s' : St) : Prop :=
  ∀ bc pb, c = .loop pb → prepC C.P bc = some pb → ∀ σ N w a b k cs, At C.P σ N nt s a w → RoR σ ro b.roundOf → b.fn = fn →
    ∃ τ w' a', σ.le τ ∧ At C.P τ N nt s' a' w' ∧ Fr σ s.H w τ s'.H w' ∧ ArrR C.P (lone (b.atR a (.inLoop bc :: k)) cs w) b k cs e a' w'

def SaidScope (C : Ctx) (ro : Option Nat) (fn : FuncId) (nt : Nat) (whole c : PC) (s : St) (e : Ex) (s' : St) : Prop :=
  ∀ wc code, prepC C.P wc = some whole → prepC C.P code = some c → ∀ σ N w a b k cs, At C.P σ N nt s a w → RoR σ ro b.roundOf → b.fn = fn →
    ∃ τ w' a', σ.le τ ∧ At C.P τ N nt s' a' w' ∧ Fr σ s.H w τ s'.H w' ∧ ArrR C.P (lone (b.atR a (.code code :: .inScope wc :: k)) cs w) b k cs e a' w'

def SaidCall (C : Ctx) (f : FuncId) (args : List Value) (H : Heap) (v : Value) (H' : Heap) : Prop :=
  (∀ args w, (callFunc f args).run C.P w = .ok (.enter f args) w) ∧
  ∀ σ N w (args' : Array Value), HR C.P σ N H w → VL σ args args'.toList → ∀ cs, ∃ τ w' v' fr, σ.le τ ∧ HR C.P τ N H' w' ∧ VR τ v v' ∧ Fr σ H w τ H' w' ∧
    Steps C.P (lone (Frame.enter C.P f args' .normal) cs w) (lone fr cs w') ∧ fr.fn = f ∧ fr.leaving C.P w' (.returned v')

def SaidYield (C : Ctx) (l : Nat) (args : List Value) (H : Heap) (v : Value) (H' : Heap) : Prop :=
  ∀ σ N w (args' : Array Value) blk, HR C.P σ N H w → VL σ args args'.toList → σ.obj l = some blk → ∃ f tmps asg body, (Instr.yield blk args').run C.P w = .ok (.round blk f tmps asg body) w ∧
    ∀ c cs, ∃ τ w' v', σ.le τ ∧ HR C.P τ N H' w' ∧ VR τ v v' ∧ Fr σ H w τ H' w' ∧ Steps C.P (lone (Frame.round blk f tmps asg body .normal) (c :: cs) w) (lone (c.finish v') cs w')

def Said (C : Ctx) : Req → Resp → Prop
  | .code ro fn nt c s, .code e s' => SaidCode C ro fn nt c s e s'
  | .scope ro fn nt whole c s, .code e s' => SaidScope C ro fn nt whole c s e s'
  | .call f args H, .val v H' => SaidCall C f args H v H'
  | .yield l args H, .val v H' => SaidYield C l args H v H'
  | .code _ _ _ _ _, .val _ _ => True
  | .scope _ _ _ _ _ _, .val _ _ => True
  | _, _ => False

section
variable {P : Program} {σ : Ren} {N : Nat} {H : Heap} {w : World} {ρ ρ' : Operand → Value} {o : Oper}
theorem prep_new {e : TypeId} {z : List Value} (hp : prepOp P o = some (.new e z)) : o.op = .alloc e ∧ zeroT P e = some z := by
  unfold prepOp at hp
  split at hp
  case h_4 e' hop =>
    split at hp
    · rename_i z' hz; cases hp; exact ⟨hop, hz⟩
    · cases hp
  case h_6 =>
    split at hp
    · rename_i d hd
      cases hb : isAggD d <;> simp [hb] at hp
    · cases hp
  case h_21 op _ _ _ => cases op <;> cases hp
  all_goals ((repeat' split at hp) <;> first | (cases hp; done) | (have hq := bif_some hp; cases hq.2; done))

theorem prep_bldS {e : TypeId} {sz n : Nat} {z : List Value} {ps : List (Nat × Operand)} (hp : prepOp P o = some (.bldS e sz z n ps)) :
    ∃ t z0 parts, o.op = .buildSlice t n parts ∧ P.underlying t = some (.slice e) ∧ zeroT P e = some z0 ∧ n * sizeT P e ≤ 100000 ∧ 1 ≤ sizeT P e ∧ sz = sizeT P e ∧ z = (List.replicate n z0).flatten ∧ ps = parts.toList := by
  unfold prepOp at hp
  split at hp
  case h_13 t n' parts hop =>
    split at hp
    · rename_i e' hd
      split at hp
      · rename_i z' hz
        obtain ⟨hb, hp⟩ := bif_some hp
        cases hp
        simp only [Bool.and_eq_true] at hb
        exact ⟨t, z', parts, hop, hd, hz, Nat.le_of_ble_eq_true hb.1, Nat.le_of_ble_eq_true hb.2, rfl, rfl, rfl⟩
      · cases hp
    · cases hp
  case h_6 =>
    split at hp
    · rename_i d hd
      cases hb : isAggD d <;> simp [hb] at hp
    · cases hp
  case h_21 op _ _ _ => cases op <;> cases hp
  all_goals ((repeat' split at hp) <;> first | (cases hp; done) | (have hq := bif_some hp; cases hq.2; done))

theorem prep_mkS {e : TypeId} {z : List Value} {l c : Operand} (hp : prepOp P o = some (.mkS e z l c)) : ∃ t, o.op = .makeSlice t l c ∧ P.underlying t = some (.slice e) ∧ zeroT P e = some z ∧ bytesT P e ≤ 1000000 ∧ 1 ≤ sizeT P e := by
  unfold prepOp at hp
  split at hp
  case h_12 t l' c' hop =>
    split at hp
    · rename_i e' hd
      split at hp
      · rename_i z' hz
        obtain ⟨hb, hp⟩ := bif_some hp
        cases hp
        simp only [Bool.and_eq_true] at hb
        exact ⟨t, hop, hd, hz, Nat.le_of_ble_eq_true hb.1, Nat.le_of_ble_eq_true hb.2⟩
      · cases hp
    · cases hp
  case h_6 =>
    split at hp
    · rename_i d hd
      cases hb : isAggD d <;> simp [hb] at hp
    · cases hp
  case h_21 op _ _ _ => cases op <;> cases hp
  all_goals ((repeat' split at hp) <;> first | (cases hp; done) | (have hq := bif_some hp; cases hq.2; done))

/-- A new row of known cells, laid whenever it may be. -/
theorem late_run {ao : AOp} (hp : prepOp P o = some ao) (hl : lateA ao = true) (hρ : ∀ x ∈ o.op.operands.toList, VR σ (ρ x) (ρ' x)) {v : Value} {H H' : Heap} (hv : opA P ao ρ H = .val v H') :
    ∃ (e : TypeId) (ls ls' : List Value) (vE vW : Addr → Value), (∀ H, opA P ao ρ H = .val (vE (newAddr H)) (H.row e ls)) ∧ VL σ ls ls' ∧ (∀ w, (execOp ρ' o).run P w = .ok (.value (vW ⟨w.heap.size, 0, none⟩)) { w with heap := w.heap.push (.cells ls'.toArray e) }) ∧
      ∀ (τ : Ren) (a a' : Addr) (l : Loc), AR τ a a' l → VR τ (vE a) (vW a') := by
  cases ao with
  | new e z =>
    obtain ⟨hop, hz⟩ := prep_new hp
    obtain ⟨i, zv, hi, hzv, rfl, hpl, hs⟩ := zeroT_of hz
    refine ⟨e, _, _, fun a => .pointer (some a), fun a => .pointer (some a), fun H => rfl, VL.refl_plain hpl, fun w => ?_, fun τ a a' l h => .ptr h⟩
    have e1 := run_zeroValue (w := w) hi hzv
    simp [execOp, hop, Instr.alloc, e1, newVar, newRow]
  | bldS e sz z n ps =>
    obtain ⟨t, z0, parts, hop, hd, hz, hn, hsz, rfl, rfl, rfl⟩ := prep_bldS hp
    have hps : ∀ p ∈ parts.toList, VR σ (ρ p.2) (ρ' p.2) := fun p hq => hρ p.2 (by simp only [hop, Op.operands]; simpa using ⟨p.1, by simpa using hq⟩)
    obtain ⟨i, zv, hi, hzv, rfl, hp', hs⟩ := zeroT_of hz
    simp only [opA, oBldS] at hv
    split at hv
    · rename_i cs hfill
      obtain ⟨y', hy', hyy⟩ := fill_rel (σ := σ) (PL.map_ρ hps) (x' := ((List.replicate n zv.cells.toList).flatten).toArray) (VL.refl_plain (by simpa using all_flat hp' n)) hfill
      refine ⟨e, cs.toList, y'.toList, fun a => .slice (some a) n (2 * n + 1), fun a => .slice (some a) n n, fun H => ?_, hyy, fun w => ?_, fun τ a a' l h => .slK _ _ h⟩
      · simp only [opA, oBldS, hfill]
      · have e1 := run_underlying (w := w) hd
        have e2 := fun w => run_zeroValue (P := P) (w := w) hi hzv
        have e3 := run_sizeOf (P := P) (w := w) hi
        rw [sizeT_of hi] at hn hsz hy'
        have t1 : ¬ n * i.size > 2 ^ 24 := by omega
        have hflat : ((Array.range (n * i.size)).map (fun j => zv.cells[j % zv.cells.size]!)) = ((List.replicate n zv.cells.toList).flatten).toArray := by rw [← hs]; exact flat_eq (by omega) n
        by_cases h0 : n * i.size = 0
        · have hn0 : n = 0 := by rcases Nat.mul_eq_zero.1 h0 with h | h <;> omega
          subst hn0
          simp only [List.replicate_zero, List.flatten_nil] at hy'
          simp only [execOp, hop, Instr.buildSlice, Sem.run_bind, e1, Result.andThen_ok, e3, Nat.zero_mul, if_neg (show ¬ (0 : Nat) > 2 ^ 24 by decide), if_true, Sem.run_pure, Array.toList_map]
          have hr0 : (Array.range 0).map (fun j => (#[] : Array Value)[j % (#[] : Array Value).size]!) = #[] := by simp
          rw [hr0]
          simp only [hy', Sem.run_bind, newRow, run_newObj, Result.andThen_ok, Sem.run_pure, Array.toArray_toList]
        · simp only [execOp, hop, Instr.buildSlice, Sem.run_bind, e1, Result.andThen_ok, e3, if_neg t1, if_neg h0, e2, Sem.run_pure, Array.toList_map, hflat, hy', newRow, run_newObj, Array.toArray_toList]
    · cases hv
  | mkS e z x y =>
    obtain ⟨t, hop, hd, hz, hby, hsz⟩ := prep_mkS hp
    obtain ⟨i, zv, hi, hzv, hzz, hpl, hs⟩ := zeroT_of hz
    have hx : VR σ (ρ x) (ρ' x) := hρ x (by simp [hop, Op.operands])
    have hy : VR σ (ρ y) (ρ' y) := hρ y (by simp [hop, Op.operands])
    simp only [opA, oMkS] at hv
    split at hv
    · rename_i n m hn hm
      cases hb : (Nat.ble n m && Nat.ble m 100000) with
      | false => rw [hb] at hv; cases hv
      | true =>
        have hb2 := hb
        simp only [Bool.and_eq_true] at hb2
        refine ⟨e, (List.replicate m z).flatten, (List.replicate m z).flatten, fun a => .slice (some a) n (2 * m + 1), fun a => .slice (some a) n m, fun H => ?_, VL.refl_plain (all_flat hpl m), fun w => run_mkS w hop hd hz hby hsz hx hy hn hm (Nat.le_of_ble_eq_true hb2.1) (Nat.le_of_ble_eq_true hb2.2), fun τ a a' l h => .slK _ _ h⟩
        simp only [opA, oMkS, hn, hm, hb, cond_true]
    · cases hv
  | _ => cases hl
end

section
variable {C : Ctx} {σ : Ren} {N nt : Nat} {s : St} {a : Act} {w : World}

/-- Frames, some temporaries set apart. -/
structure TX (σ : Ren) (nt : Nat) (X : List Nat) (t : Tr Value) (tmps : Array Value) : Prop where
  size : tmps.size = nt
  get : ∀ i, i ∉ X → VR σ (evalO t (.tmp i)) (tmps.getD i undef)

theorem TR.tx {t : Tr Value} {tmps : Array Value} (h : TR σ nt t tmps) : TX σ nt [] t tmps := ⟨h.size, fun i _ => h.get i⟩
theorem TX.tr {t : Tr Value} {tmps : Array Value} (h : TX σ nt [] t tmps) : TR σ nt t tmps := ⟨h.size, fun i => h.get i (by simp)⟩
theorem TX.le {τ : Ren} (k : σ.le τ) {X : List Nat} {t : Tr Value} {tmps : Array Value} (h : TX σ nt X t tmps) : TX τ nt X t tmps := ⟨h.size, fun i hi => (h.get i hi).le k⟩

theorem TX.put {X : List Nat} {t t' : Tr Value} (h : TX σ nt X t a.tmps) {dst : Option Tmp} {v v' : Value} (hv : VR σ v v') (hp : putT nt t dst v = some t') : TX σ nt X t' (a.put dst v').tmps := by
  unfold putT at hp
  cases dst with
  | none => cases hp; exact h
  | some n =>
    obtain ⟨hb, hp⟩ := bif_some hp
    cases hp
    have hn : n < nt := Nat.le_of_ble_eq_true hb
    refine ⟨by simp [Act.put, h.size], fun i hX => ?_⟩
    have hs := h.size
    by_cases hi : i = n
    · have hlt : i < a.tmps.size := by rw [hs, hi]; exact hn
      subst hi
      simp only [evalO, Tr.get_put, if_true, Act.put]
      rw [Array.getD_eq_getD_getElem?, Array.getElem?_setIfInBounds_self_of_lt hlt]
      exact hv
    · have := h.get i hX
      simp only [evalO, Tr.get_put, if_neg hi, Act.put]
      rw [Array.getD_eq_getD_getElem?, Array.getElem?_setIfInBounds_ne (fun e => hi e.symm), ← Array.getD_eq_getD_getElem?]
      exact this

theorem put_getD {d : Nat} {dst : Option Tmp} {v : Value} (h : dst ≠ some d) : (a.put dst v).tmps.getD d undef = a.tmps.getD d undef := by
  cases dst with
  | none => rfl
  | some n =>
    simp only [Act.put]
    rw [Array.getD_eq_getD_getElem?, Array.getElem?_setIfInBounds_ne (fun e => h (by rw [e])), ← Array.getD_eq_getD_getElem?]

theorem put_getD_self {d : Nat} {v : Value} (h : d < a.tmps.size) : (a.put (some d) v).tmps.getD d undef = v := by
  simp only [Act.put]
  rw [Array.getD_eq_getD_getElem?, Array.getElem?_setIfInBounds_self_of_lt h]; rfl

theorem TR.put {t t' : Tr Value} (h : TR σ nt t a.tmps) {dst : Option Tmp} {v v' : Value} (hv : VR σ v v') (hp : putT nt t dst v = some t') : TR σ nt t' (a.put dst v').tmps := by
  unfold putT at hp
  cases dst with
  | none => cases hp; exact h
  | some n =>
    obtain ⟨hb, hp⟩ := bif_some hp
    cases hp
    have hn : n < nt := Nat.le_of_ble_eq_true hb
    refine ⟨by simp [Act.put, h.size], fun i => ?_⟩
    have hs := h.size
    by_cases hi : i = n
    · have hlt : i < a.tmps.size := by rw [hs, hi]; exact hn
      subst hi
      simp only [evalO, Tr.get_put, if_true, Act.put]
      rw [Array.getD_eq_getD_getElem?, Array.getElem?_setIfInBounds_self_of_lt hlt]
      exact hv
    · have := h.get i
      simp only [evalO, Tr.get_put, if_neg hi, Act.put]
      rw [Array.getD_eq_getD_getElem?, Array.getElem?_setIfInBounds_ne (fun e => hi e.symm), ← Array.getD_eq_getD_getElem?]
      exact this

theorem eval_VR (h : TR σ nt s.t a.tmps) {x : Operand} (hx : opdOK x = true) : VR σ (evalO s.t x) (a.eval x) := by
  cases x with
  | tmp n => exact h.get n
  | const v => exact VR.refl_plain hx
  | global g => exact .gptr _ _ _
  | func g => exact .fn _ (by simp) rfl (by simp) rfl (by simp)

theorem wanted_eqX {X : List Nat} {ops : Array Oper} {o : Oper} {g : Option (Tmp × Bool)} (hg : prepGuard ops o = some g) {po : POp} (hpo : po.guard = g) (h : TX σ nt X s.t a.tmps) (hX : ∀ d want, po.guard = some (d, want) → d ∉ X) : Region.wanted o (yielded ops a.tmps) = wantedA s.t po := by
  unfold prepGuard at hg
  cases hgd : o.guard with
  | none => rw [hgd] at hg; cases hg; simp [Region.wanted, hgd, wantedA, hpo]
  | some p =>
    obtain ⟨j, want⟩ := p
    rw [hgd] at hg
    simp only at hg
    split at hg
    · rename_i q hq
      split at hg
      · rename_i d hd
        cases hg
        have hv := h.get d (hX d want (by rw [hpo]))
        simp only [Region.wanted, hgd, wantedA, hpo, yielded, hq, Option.bind_some, hd]
        simp only [evalO] at hv
        rw [Array.getD_eq_getD_getElem?] at hv
        cases hc : s.t.get d with
        | none =>
          rw [hc] at hv
          cases he : a.tmps[d]? with
          | none => rfl
          | some y => rw [he] at hv; simp only [Option.getD_some] at hv; cases hv; rfl
        | some x =>
          rw [hc] at hv
          simp only at hv
          cases he : a.tmps[d]? with
          | none => rw [he] at hv; simp only [Option.getD_none] at hv; cases hv; rfl
          | some y =>
            rw [he] at hv; simp only [Option.getD_some] at hv
            cases hv <;> first | rfl | (rename_i b; cases b <;> cases want <;> rfl)
      · cases hg
    · cases hg


theorem wanted_eq {ops : Array Oper} {o : Oper} {g : Option (Tmp × Bool)} (hg : prepGuard ops o = some g) {po : POp} (hpo : po.guard = g) (h : TR σ nt s.t a.tmps) : Region.wanted o (yielded ops a.tmps) = wantedA s.t po :=
  wanted_eqX hg hpo h.tx (fun _ _ _ => by simp)

/-- What an object is in the model. -/
theorem obj_at {P : Program} {H : Heap} (h : HR P σ N H w) {f : Nat} {r : LoopE} {blk : Nat} (hg : H.t.get f = some (.loop r)) (hb : σ.obj f = some blk) : ∃ r', w.heap[blk]? = some (.loop r') ∧ LR P σ r r' := by
  obtain ⟨b', o', q1, q2, q3, q4⟩ := h.objs f _ hg (by simp)
  rw [hb] at q1; cases q1
  cases q4 with
  | loop h => exact ⟨_, q3, h⟩

theorem run_getLoop {P : Program} {l : Nat} {r : Loop} (h : w.heap[l]? = some (.loop r)) : (Instr.getLoop l).run P w = .ok r w := by
  simp [Instr.getLoop, getObj, Sem.run, h]

theorem run_setLoop {P : Program} {l : Nat} {r r2 : Loop} (h : w.heap[l]? = some (.loop r)) : (setObj l (.loop r2)).run P w = .ok () { w with heap := w.heap.setIfInBounds l (.loop r2) } := by
  simp [setObj, Sem.run, h]

theorem prep_opnds {P : Program} {o : Oper} {ao : AOp} (hp : prepOp P o = some ao) : ∀ d, (.tmp d : Operand) ∈ o.op.operands.toList → (.tmp d : Operand) ∈ ao.opnds := by
  intro d hd
  unfold prepOp at hp
  split at hp
  case h_6 t x hop =>
    split at hp
    · rename_i dd _
      cases hp
      cases isAggD dd <;> (rw [hop] at hd; simpa [Op.operands, AOp.opnds] using hd)
    · cases hp
  case h_13 t n parts hop =>
    (repeat' split at hp) <;> first | (cases hp; done) | skip
    obtain ⟨_, hq⟩ := bif_some hp
    cases hq
    rw [hop] at hd
    simpa [Op.operands, AOp.opnds] using hd
  case h_20 op t x y u hop =>
    have e : o.op.operands.toList = [x, y] := by rw [hop]; simp [Op.operands]
    have hpl : ∀ q : Oper, q = o → (.tmp d : Operand) ∈ (AOp.plain q).opnds := by rintro q rfl; exact hd
    split at hp
    · cases hp; exact hpl _ rfl
    · cases hp; exact hpl _ rfl
    · cases hp; rw [e] at hd; exact hd
    · split at hp
      · rename_i k hk
        cases hp
        unfold nilKind at hk
        rw [e] at hd
        split at hk <;> first | (simpa [AOp.opnds] using hd) | cases hk
      · cases hp; exact hpl _ rfl
    · split at hp
      · rename_i k hk
        cases hp
        unfold nilKind at hk
        rw [e] at hd
        split at hk <;> first | (simpa [AOp.opnds] using hd) | cases hk
      · cases hp; exact hpl _ rfl
    · cases hp; exact hpl _ rfl
    · cases hp
  case h_21 op t x hop =>
    cases hp
    cases op <;> first | (rw [hop] at hd; simpa [Op.operands, AOp.opnds] using hd) | exact hd
  case h_23 c hop =>
    have e : o.op.operands.toList = c.operands.toList := by rw [hop]; simp [Op.operands]
    split at hp <;> (repeat' split at hp) <;> first | (cases hp; done) | skip
    all_goals first
      | (cases hp; exact hd)
      | (cases hp; rw [e] at hd; simp_all [Call.operands, AOp.opnds]; done)
      | (obtain ⟨_, hq⟩ := bif_some hp; cases hq; rw [e] at hd; simp_all [Call.operands, AOp.opnds]; done)
      | skip
  all_goals
    ((repeat' split at hp) <;> first | (cases hp; done) | skip)
  all_goals first
    | (cases hp; exact hd)
    | (cases hp; simp_all [Op.operands, AOp.opnds]; done)
    | (obtain ⟨_, hq⟩ := bif_some hp; cases hq; simp_all [Op.operands, AOp.opnds]; done)
    | skip

structure AtX (P : Program) (σ : Ren) (N nt : Nat) (X : List Nat) (s : St) (a : Act) (w : World) : Prop where
  heap : HR P σ N s.H w
  tmps : TX σ nt X s.t a.tmps
  defers : DR σ s.d a.defers

theorem At.x {P : Program} (h : At P σ N nt s a w) : AtX P σ N nt [] s a w := ⟨h.heap, h.tmps.tx, h.defers⟩
theorem AtX.at_ {P : Program} (h : AtX P σ N nt [] s a w) : At P σ N nt s a w := ⟨h.heap, h.tmps.tr, h.defers⟩

theorem prepOpN_never {P : Program} {o : Oper} {ao : AOp} (h : ao = prepOpN P o) (hn : ao ≠ .never) : prepOp P o = some ao ∧ o.op.operands.toList.all opdOK = true := by
  unfold prepOpN at h
  cases hb : o.op.operands.toList.all opdOK with
  | false => rw [hb, cond_false] at h; exact absurd h hn
  | true =>
    rw [hb, cond_true] at h
    cases hp : prepOp P o with
    | none => rw [hp] at h; exact absurd h hn
    | some a => rw [hp] at h; exact ⟨by rw [h], rfl⟩

theorem operands_VR {P : Program} {X : List Nat} {o : Oper} {po : POp} (h : TX σ nt X s.t a.tmps) (hp : prepOp P o = some po.op) (hok : o.op.operands.toList.all opdOK = true) (hX : ∀ d ∈ X, po.looks d = false) :
    ∀ x ∈ o.op.operands.toList, VR σ (evalO s.t x) (a.eval x) := by
  intro x hx
  have hxo : opdOK x = true := by rw [List.all_eq_true] at hok; exact hok x hx
  cases x with
  | tmp n =>
    refine h.get n fun hn => ?_
    have := prep_opnds hp n hx
    exact looks_opnds (hX n hn) _ this rfl
  | const v => exact VR.refl_plain hxo
  | global g => exact .gptr _ _ _
  | func g => exact .fn _ (by simp) rfl (by simp) rfl (by simp)

/-- One operation of a region, its turn having come. -/
theorem doOp_soundX {X : List Nat} (hC : CtxOK C) {ih : Req → Option Resp} (IH : ∀ q r, ih q = some r → Said C q r) {ops : Array Oper} {i : Nat} {o : Oper} {po : POp} (hi : ops[i]? = some o) (hp : po.op = prepOpN C.P o)
    (hg : prepGuard ops o = some po.guard) (hd : po.dst = o.dst) {s' : St} (hs : doOp C ih nt po s = some s') (h : AtX C.P σ N nt X s a w) (hX : ∀ d ∈ X, po.looks d = false ∧ po.dst ≠ some d) (b : Frame) (rest : List Nat) (k : List Item) (cs : List Frame) :
    ∃ τ w' a', σ.le τ ∧ AtX C.P τ N nt X s' a' w' ∧ Fr σ s.H w τ s'.H w' ∧ (∀ d ∈ X, a'.tmps.getD d undef = a.tmps.getD d undef) ∧
      Steps C.P (lone (b.atR a (.inRegion ops (i :: rest) :: k)) cs w) (lone (b.atR a' (.inRegion ops rest :: k)) cs w') := by
  have hw := wanted_eqX (a := a) hg rfl h.tmps (fun d want hgd hdX => by
    have := (hX d hdX).1
    simp [POp.looks, hgd] at this)
  have hXd : ∀ v, ∀ d ∈ X, (a.put o.dst v).tmps.getD d undef = a.tmps.getD d undef := fun v d hdX => put_getD (by rw [← hd]; exact (hX d hdX).2)
  unfold doOp at hs
  cases hwa : wantedA s.t po with
  | false =>
    rw [hwa, cond_false] at hs
    rw [hwa] at hw
    cases hpt : putT nt s.t po.dst undef with
    | none => rw [hpt] at hs; cases hs
    | some t' =>
      rw [hpt] at hs; cases hs
      have hst := stepR_op_skip (P := C.P) (b := b) (a := a) (k := k) (cs := cs) (w := w) (ops := ops) (i := i) (rest := rest) (by simp [hi, hw])
      simp only [hi, Option.bind_some] at hst
      rw [hd] at hpt
      refine ⟨σ, w, _, σ.le_refl, ⟨h.heap, h.tmps.put (VR.undef σ) hpt, ?_⟩, Fr.refl _ _ _, hXd _, .one hst⟩
      cases ho : o.dst <;> exact h.defers
  | true =>
    rw [hwa, cond_true] at hs
    rw [hwa] at hw
    have hnv : po.op ≠ .never := by
      intro e; rw [e] at hs; cases hs
    obtain ⟨hp, hok⟩ := prepOpN_never hp hnv
    have hρ := operands_VR h.tmps hp hok (fun d hd => (hX d hd).1)
    have hnd : ∀ c, o.op ≠ .defer c := by
      intro c hc; unfold prepOp at hp; rw [hc] at hp; simp at hp
    have hg0 := stepGR_op (P := C.P) (b := b) (a := a) (k := k) (cs := cs) (w := w) (rest := rest) hi hw
    rw [Oper.semAt_eq _ _ _ hnd] at hg0
    have hfin : ∀ v, (b.atR a (.inRegion ops (i :: rest) :: k)).finish v = b.atR (a.put o.dst v) (.inRegion ops rest :: k) := by
      intro v; rw [Frame.finish_atR, hi]; rfl
    have hdef : ∀ v, (a.put o.dst v).defers = a.defers := by intro v; cases ho : o.dst <;> rfl
    -- behind a value
    have done : ∀ {v : Value} {H' : Heap} {τ : Ren} {v' : Value} {w' : World}, afterOp nt s po.dst (some (.val v H')) = some s' → σ.le τ → HR C.P τ N H' w' → VR τ v v' → Fr σ s.H w τ H' w' →
        Steps C.P (lone (b.atR a (.inRegion ops (i :: rest) :: k)) cs w) (lone ((b.atR a (.inRegion ops (i :: rest) :: k)).finish v') cs w') →
        ∃ τ w' a', σ.le τ ∧ AtX C.P τ N nt X s' a' w' ∧ Fr σ s.H w τ s'.H w' ∧ (∀ d ∈ X, a'.tmps.getD d undef = a.tmps.getD d undef) ∧
          Steps C.P (lone (b.atR a (.inRegion ops (i :: rest) :: k)) cs w) (lone (b.atR a' (.inRegion ops rest :: k)) cs w') := by
      intro v H' τ v' w' hq hle hH hv hfr hst
      simp only [afterOp] at hq
      cases hpt : putT nt s.t po.dst v with
      | none => rw [hpt] at hq; cases hq
      | some t' =>
        rw [hpt] at hq; cases hq
        rw [hd] at hpt
        refine ⟨τ, w', a.put o.dst v', hle, ⟨hH, (h.tmps.le hle).put hv hpt, ?_⟩, hfr, hXd _, ?_⟩
        · rw [hdef]; exact h.defers.le hle
        · rw [← hfin]; exact hst
    cases hop : opA C.P po.op (evalO s.t) s.H with
    | bad => rw [hop] at hs; cases hs
    | val v H' =>
      rw [hop] at hs
      obtain ⟨τ, v', w', n, hrun, hnx, hle, hH, hv, hfr⟩ := opA_val h.heap hp hρ (fun v => rfl) hop
      refine done hs hle hH hv hfr (.one (step_lone_go ?_))
      rw [hg0]
      cases n with
      | value x => simp only [nextVal, Option.some.injEq] at hnx; subst hnx; simp [stepG.apply, hrun]
      | skip => simp only [nextVal, Option.some.injEq] at hnx; subst hnx; simp [stepG.apply, hrun]
      | _ => simp [nextVal] at hnx
    | call f args =>
      rw [hop] at hs
      simp only [ans] at hs
      cases hih : ih (.call f args s.H) with
      | none => rw [hih] at hs; cases hs
      | some r =>
        rw [hih] at hs
        cases r with
        | code e s2 => cases hs
        | val v H' =>
          have hsaid : SaidCall C f args s.H v H' := IH _ _ hih
          obtain ⟨args', hrun, hvl⟩ := opA_call (w := w) hp hρ (fun g => rfl) hop hsaid.1
          obtain ⟨τ, w', v', fr, hle, hH, hv, hfr, hsteps, hfn, hleave⟩ := hsaid.2 σ N w args' h.heap hvl (b.atR a (.inRegion ops (i :: rest) :: k) :: cs)
          have henter : Go.step C.P (lone (b.atR a (.inRegion ops (i :: rest) :: k)) cs w) = .next (lone (Frame.enter C.P f args' .normal) (b.atR a (.inRegion ops (i :: rest) :: k) :: cs) w) :=
            step_lone_go (by rw [hg0]; simp [stepG.apply, hrun, Frame.atR])
          exact done hs hle hH hv hfr (.head henter (hsteps.trans (.one (step_leave_returned hleave))))
    | yield l args =>
      rw [hop] at hs
      simp only [ans] at hs
      cases hih : ih (.yield l args s.H) with
      | none => rw [hih] at hs; cases hs
      | some r =>
        rw [hih] at hs
        cases r with
        | code e s2 => cases hs
        | val v H' =>
          have hsaid : SaidYield C l args s.H v H' := IH _ _ hih
          obtain ⟨blk, args', hblk, hvl, hrun⟩ := opA_yield hp hρ hop (P := C.P) (w := w)
          obtain ⟨f, tmps, asg, body, hy, hround⟩ := hsaid σ N w args' blk h.heap hvl hblk
          have hrun' := hrun _ _ hy
          obtain ⟨τ, w', v', hle, hH, hv, hfr, hsteps⟩ := hround (b.atR a (.inRegion ops (i :: rest) :: k)) cs
          have henter : Go.step C.P (lone (b.atR a (.inRegion ops (i :: rest) :: k)) cs w) = .next (lone (Frame.round blk f tmps asg body .normal) (b.atR a (.inRegion ops (i :: rest) :: k) :: cs) w) :=
            step_lone_go (by rw [hg0]; simp [stepG.apply, hrun', Frame.atR])
          exact done hs hle hH hv hfr (.head henter hsteps)


theorem doOp_sound (hC : CtxOK C) {ih : Req → Option Resp} (IH : ∀ q r, ih q = some r → Said C q r) {ops : Array Oper} {i : Nat} {o : Oper} {po : POp} (hi : ops[i]? = some o) (hp : po.op = prepOpN C.P o)
    (hg : prepGuard ops o = some po.guard) (hd : po.dst = o.dst) {s' : St} (hs : doOp C ih nt po s = some s') (h : At C.P σ N nt s a w) (b : Frame) (rest : List Nat) (k : List Item) (cs : List Frame) :
    ∃ τ w' a', σ.le τ ∧ At C.P τ N nt s' a' w' ∧ Fr σ s.H w τ s'.H w' ∧
      Steps C.P (lone (b.atR a (.inRegion ops (i :: rest) :: k)) cs w) (lone (b.atR a' (.inRegion ops rest :: k)) cs w') := by
  obtain ⟨τ, w', a', q1, q2, q3, _, q4⟩ := doOp_soundX hC IH hi hp hg hd hs h.x (fun d hd => by cases hd) b rest k cs
  exact ⟨τ, w', a', q1, q2.at_, q3, q4⟩

theorem prepOps_cons {P : Program} {ops : Array Oper} {loose : Nat → List Nat} {i : Nat} {r : List Nat} {l : List POp} (h : prepOps P ops loose (i :: r) = some l) :
    ∃ o po l', l = po :: l' ∧ ops[i]? = some o ∧ po.op = prepOpN P o ∧ prepGuard ops o = some po.guard ∧ po.dst = o.dst ∧ prepOps P ops loose r = some l' := by
  simp only [prepOps] at h
  split at h
  · cases h
  · rename_i o ho
    split at h
    · rename_i g l' h2 h3
      cases h
      exact ⟨o, _, l', rfl, ho, rfl, h2, rfl, h3⟩
    · cases h

theorem ops_sound (hC : CtxOK C) {ih : Req → Option Resp} (IH : ∀ q r, ih q = some r → Said C q r) {ops : Array Oper} {loose : Nat → List Nat} (b : Frame) (k : List Item) (cs : List Frame) :
    ∀ (idx : List Nat) (l : List POp) (σ : Ren) (s s' : St) (a : Act) (w : World), prepOps C.P ops loose idx = some l → stepOps C ih nt l s = some s' → At C.P σ N nt s a w →
    ∃ τ w' a', σ.le τ ∧ At C.P τ N nt s' a' w' ∧ Fr σ s.H w τ s'.H w' ∧ Steps C.P (lone (b.atR a (.inRegion ops idx :: k)) cs w) (lone (b.atR a' (.inRegion ops [] :: k)) cs w')
  | [], l, σ, s, s', a, w, hp, hs, h => by
    simp only [prepOps, Option.some.injEq] at hp; subst hp
    simp only [stepOps, Option.some.injEq] at hs; subst hs
    exact ⟨σ, w, a, σ.le_refl, h, Fr.refl _ _ _, .refl _ _⟩
  | i :: r, l, σ, s, s', a, w, hp, hs, h => by
    obtain ⟨o, po, l', rfl, h1, h2, h3, h4, h6⟩ := prepOps_cons hp
    simp only [stepOps] at hs
    split at hs
    · rename_i s1 hs1
      obtain ⟨τ, w1, a1, q1, q2, q3, q4⟩ := doOp_sound hC IH h1 h2 h3 h4 hs1 h b r k cs
      obtain ⟨υ, w2, a2, p1, p2, p3, p4⟩ := ops_sound hC IH b k cs r l' τ s1 s' a1 w1 h6 hs q2
      exact ⟨υ, w2, a2, Ren.le_trans q1 p1, p2, q3.trans p3, q4.trans p4⟩
    · cases hs

/-! ### Orders that are drawn: some new rows are laid by the model before the evaluator lays them -/

def pdst (c : CL) : List Nat := c.filterMap fun p => match p.2 with | some _ => p.1.dst | none => none

theorem mem_pdst {c : CL} {d : Nat} : d ∈ pdst c ↔ ∃ p ∈ c, p.2 ≠ none ∧ p.1.dst = some d := by
  simp only [pdst, List.mem_filterMap]
  constructor
  · rintro ⟨p, hp, h⟩
    split at h
    · rename_i L hL; exact ⟨p, hp, by rw [hL]; simp, h⟩
    · cases h
  · rintro ⟨p, hp, hn, h⟩
    refine ⟨p, hp, ?_⟩
    cases hq : p.2 with
    | none => exact absurd hq hn
    | some L => exact h

/-- What lies in a block, and isn't in the evaluator's heap yet. -/
structure Pend (P : Program) (N nt : Nat) (x : POp) (L : Nat) (σ : Ren) (s : St) (a : Act) (w : World) (n0 : Nat) : Prop where
  ex : ∃ (e e' : TypeId) (ls ls' : List Value) (vE vW : Addr → Value) (d : Nat), x.dst = some d ∧ d < nt ∧ (∀ H, opA P x.op (evalO s.t) H = .val (vE (newAddr H)) (H.row e ls)) ∧ VL σ ls ls' ∧
    w.heap[L]? = some (.cells ls'.toArray e') ∧ (∀ (τ : Ren) (a a' : Addr) (l : Loc), AR τ a a' l → VR τ (vE a) (vW a')) ∧ a.tmps.getD d undef = vW ⟨L, 0, none⟩
  n0 : n0 ≤ L
  N_ : N ≤ L
  img : ¬ Img σ s.H L

theorem Pend.lt {P : Program} {x : POp} {L n0 : Nat} (h : Pend P N nt x L σ s a w n0) : L < w.heap.size := by
  obtain ⟨e, e', ls, ls', vE, vW, d, _, _, _, _, h5, _⟩ := h.ex
  exact (Array.getElem?_eq_some_iff.1 h5).1

structure Sim (C : Ctx) (ih : Req → Option Resp) (N nt : Nat) (ops : Array Oper) (lt : List Nat) (listed : Array Bool) (c : CL) (rs : List Rd) (s s' : St) (n0 : Nat) (σ : Ren) (a : Act) (w : World) : Prop where
  sch : Sch C.P ops lt listed c
  run : stepOpsD C ih nt (c.map (·.1)) rs s = some s'
  at_ : AtX C.P σ N nt (pdst c) s a w
  pend : ∀ p ∈ c, ∀ L, p.2 = some L → Pend C.P N nt p.1 L σ s a w n0
  dist : c.Pairwise (fun x y => ∀ L, x.2 = some L → y.2 ≠ some L)

theorem late_parts {x : POp} (h : x.canLate = true) : lateA x.op = true ∧ x.guard = none ∧ ∃ d, x.dst = some d := by
  simp only [POp.canLate, Bool.and_eq_true, Option.isNone_iff_eq_none, Option.isSome_iff_exists] at h
  exact ⟨h.1.1, h.1.2, h.2⟩

theorem late_noSel {x : AOp} (h : lateA x = true) : x.noSel = true := by
  cases x <;> first | rfl | cases h

theorem late_notNever {x : AOp} (h : lateA x = true) : x ≠ .never := by
  intro e; rw [e] at h; cases h

theorem wanted_none {t : Tr Value} {x : POp} (h : x.guard = none) : wantedA t x = true := by simp [wantedA, h]

theorem pairs_dist {c1 c2 : CL} {x : POp} {L : Nat} (h : (c1 ++ (x, some L) :: c2).Pairwise (fun x y => ∀ L, x.2 = some L → y.2 ≠ some L)) : ∀ p ∈ c1 ++ c2, p.2 ≠ some L := by
  intro p hp
  have ho := List.pairwise_append.1 h
  rcases List.mem_append.1 hp with h1 | h1
  · exact fun e => ho.2.2 p h1 (x, some L) (by simp) L e rfl
  · exact (List.pairwise_cons.1 ho.2.1).1 p h1 L rfl

/-- The evaluator lays what lies in a block. -/
theorem Sim.flush {ih : Req → Option Resp} {ops : Array Oper} {lt : List Nat} {listed : Array Bool} {d1 d2 : CL} {x : POp} {L : Nat} {rs : List Rd} {s' : St} {n0 : Nat}
    (h : Sim C ih N nt ops lt listed (d1 ++ (x, some L) :: d2) rs s s' n0 σ a w) (hf : ∀ j ∈ d1, freeA j.1 x = true) {σ0 : Ren} {H0 : Heap} {w0 : World} (hfr : Fr σ0 H0 w0 σ s.H w) (hn0 : w0.heap.size = n0) :
    ∃ τ s1 rs1, σ.le τ ∧ Sim C ih N nt ops lt listed (d1 ++ d2) rs1 s1 s' n0 τ a w ∧ Fr σ0 H0 w0 τ s1.H w := by
  have hxm : (x, some L) ∈ d1 ++ (x, some L) :: d2 := by simp
  have hrun := h.run
  rw [List.map_append, List.map_cons] at hrun
  have hb := bubble (C := C) (ih := ih) (nt := nt) (d1.map (·.1)) rs s s' (fun j hj => by obtain ⟨q, hq, rfl⟩ := List.mem_map.1 hj; exact hf q hq) hrun
  obtain ⟨s1, h1, _, h3⟩ := stepOpsD_cons.1 hb
  have hlx := h.sch.pend _ hxm (by simp)
  obtain ⟨hla, hgn, _⟩ := late_parts (h.sch.late _ hxm hlx)
  have hp := h.pend _ hxm L rfl
  obtain ⟨e, e', ls, ls', vE, vW, d, hd, hdn, hop, hvl, hL, hvr, hat⟩ := hp.ex
  obtain ⟨v, hdid, hput, hds⟩ := doOp_some.1 h1
  have hv : v = vE (newAddr s.H) ∧ s1.H = s.H.row e ls := by
    rcases hdid with ⟨_, ha⟩ | ⟨hw, _⟩
    · rw [hop] at ha
      simp only [ans, Option.some.injEq, Resp.val.injEq] at ha
      exact ⟨ha.1.symm, ha.2.symm⟩
    · rw [wanted_none hgn] at hw; cases hw
  obtain ⟨rfl, hH1⟩ := hv
  rw [hd] at hput
  obtain ⟨τ, l, q1, q2, q3, q4, q5⟩ := row_flush (e := e) h.at_.heap hvl (cs := ls'.toArray) (fun i x hx => by simpa using hx) (by simp [hvl.length]) hL hp.N_ hp.img
  have hpa : ∀ p ∈ d1 ++ d2, p.2 ≠ none → Apart x p.1 ∨ Apart p.1 x := by
    intro p hpm hpn
    have ho := List.pairwise_append.1 h.sch.ord
    rcases List.mem_append.1 hpm with hm | hm
    · exact .inr (pair_late (h.sch.pend p (by simp [hm]) hpn) hlx (ho.2.2 p hm (x, some L) (by simp)).2.2)
    · exact .inl (pair_late hlx (h.sch.pend p (by simp [hm]) hpn) ((List.pairwise_cons.1 ho.2.1).1 p hm).2.2)
  refine ⟨τ, s1, noteRd x s s1 rs, q1, ⟨h.sch.flush (by simp), by rw [List.map_append]; exact h3, ⟨by rw [hH1]; exact q2, ⟨h.at_.tmps.size, fun i hi => ?_⟩, by rw [hds]; exact h.at_.defers.le q1⟩, fun p hpm L' hL' => ?_, ?_⟩, ?_⟩
  · by_cases hid : i = d
    · subst hid
      rw [putT_at hput, hat]
      exact hvr τ _ _ l q3
    · rw [putT_eval hput (fun e he => by cases he; intro hc; cases hc; exact hid rfl)]
      refine (h.at_.tmps.get i ?_).le q1
      intro hm
      obtain ⟨p, hpm, hpn, hpd⟩ := mem_pdst.1 hm
      simp only [List.mem_append, List.mem_cons] at hpm
      rcases hpm with hm | rfl | hm
      · exact hi (mem_pdst.2 ⟨p, by simp [hm], hpn, hpd⟩)
      · rw [hd] at hpd; cases hpd; exact hid rfl
      · exact hi (mem_pdst.2 ⟨p, by simp [hm], hpn, hpd⟩)
  · have hpm' : p ∈ d1 ++ (x, some L) :: d2 := by
      simp only [List.mem_append, List.mem_cons] at hpm ⊢
      exact hpm.imp id .inr
    have hq := h.pend p hpm' L' hL'
    obtain ⟨e2, e2', ls2, ls2', vE2, vW2, dd, k1, k2, k3, k4, k5, k6, k7⟩ := hq.ex
    have hpn : p.2 ≠ none := by rw [hL']; simp
    have hlook : p.1.looks d = false := by
      rcases hpa p hpm hpn with ha | ha
      · exact (ha.1 d hd).1
      · exact ha.2 d hd
    refine ⟨⟨e2, e2', ls2, ls2', vE2, vW2, dd, k1, k2, fun H => ?_, k4.le q1, k5, k6, k7⟩, hq.n0, hq.N_, fun hi => ?_⟩
    · rw [opA_congr (late_noSel (late_parts (h.sch.late p hpm' (h.sch.pend p hpm' hpn))).1) H (ρ' := evalO s.t) (fun y hy => putT_eval hput (fun e he => by cases he; exact looks_opnds hlook y hy))]
      exact k3 H
    · rw [hH1] at hi
      rcases q5 L' hi with rfl | hi
      · exact pairs_dist h.dist p hpm hL'
      · exact hq.img hi
  · exact h.dist.sublist (List.Sublist.append (List.Sublist.refl _) (List.sublist_cons_self _ _))
  · rw [hH1]
    refine ⟨hfr.size, hfr.os, hfr.output, hfr.old, fun b hb hi => ?_, hfr.back, hfr.new⟩
    rcases q5 b hi with rfl | hi
    · have := hp.n0; omega
    · exact hfr.img b hb hi

def openN (c : CL) : Nat := (c.filter fun p => p.2.isNone).length

theorem openN_app (c d : CL) : openN (c ++ d) = openN c + openN d := by simp [openN]

/-- All of a beginning. -/
theorem Sim.flushes {ih : Req → Option Resp} {ops : Array Oper} {lt : List Nat} {listed : Array Bool} {s' : St} {n0 : Nat} {σ0 : Ren} {H0 : Heap} {w0 : World} (hn0 : w0.heap.size = n0) :
    ∀ (r e1 c2 : CL) (rs : List Rd) (σ : Ren) (s : St), Sim C ih N nt ops lt listed (e1 ++ r ++ c2) rs s s' n0 σ a w → Fr σ0 H0 w0 σ s.H w → (∀ j ∈ e1, j.2 = none) → (∀ j ∈ e1 ++ r, j.2 = none → effect j.1.op = false) →
      ∃ τ s1 rs1 e2, σ.le τ ∧ Sim C ih N nt ops lt listed (e2 ++ c2) rs1 s1 s' n0 τ a w ∧ Fr σ0 H0 w0 τ s1.H w ∧ (∀ j ∈ e2, j.2 = none ∧ j ∈ e1 ++ r) ∧ openN e2 ≤ openN (e1 ++ r)
  | [], e1, c2, rs, σ, s, h, hfr, h1, h2 => ⟨σ, s, rs, e1, σ.le_refl, by rw [List.append_nil] at h; exact h, hfr, fun j hj => ⟨h1 j hj, by simp [hj]⟩, by simp⟩
  | (x, none) :: r, e1, c2, rs, σ, s, h, hfr, h1, h2 => by
    obtain ⟨τ, s1, rs1, e2, q1, q2, q3, q4, q5⟩ := Sim.flushes hn0 r (e1 ++ [(x, none)]) c2 rs σ s (by simpa using h) hfr
      (fun j hj => by rcases List.mem_append.1 hj with hj | hj; exact h1 j hj; rw [List.mem_singleton.1 hj]) (fun j hj => h2 j (by simpa using hj))
    exact ⟨τ, s1, rs1, e2, q1, q2, q3, fun j hj => ⟨(q4 j hj).1, by simpa using (q4 j hj).2⟩, by simpa using q5⟩
  | (x, some L) :: r, e1, c2, rs, σ, s, h, hfr, h1, h2 => by
    have h' : Sim C ih N nt ops lt listed (e1 ++ (x, some L) :: (r ++ c2)) rs s s' n0 σ a w := by simpa using h
    obtain ⟨τ, s1, rs1, p1, p2, p3⟩ := h'.flush (fun j hj => by
      have ho := (List.pairwise_append.1 h'.sch.ord).2.2 j hj (x, some L) (by simp)
      exact h'.sch.free_pend (by simp [hj]) (by simp) (h1 j hj) (by simp) (h2 j (by simp [hj]) (h1 j hj)) ho.2.2) hfr hn0
    obtain ⟨υ, s2, rs2, e2, q1, q2, q3, q4, q5⟩ := Sim.flushes hn0 r e1 c2 rs1 τ s1 (by simpa using p2) p3 h1 (fun j hj => h2 j (by
      rcases List.mem_append.1 hj with hj | hj
      · simp [hj]
      · simp [hj]))
    refine ⟨υ, s2, rs2, e2, Ren.le_trans p1 q1, q2, q3, fun j hj => ⟨(q4 j hj).1, ?_⟩, (by rw [openN_app] at q5 ⊢; rw [show openN ((x, some L) :: r) = openN r by simp [openN]]; exact q5)⟩
    rcases List.mem_append.1 (q4 j hj).2 with hj | hj
    · simp [hj]
    · simp [hj]

/-- What will be carried out can be, from now on, if nothing before it turns what it looks at. -/
theorem did_later {ih : Req → Option Resp} {x : POp} {l2 : List POp} {s' : St} : ∀ (l1 : List POp) (rs : List Rd) (s : St), stepOpsD C ih nt (l1 ++ x :: l2) rs s = some s' → (∀ j ∈ l1, ∀ d, j.dst = some d → x.looks d = false) →
    ∃ q q', doOp C ih nt x q = some q' ∧ ∀ o ∈ x.op.opnds, evalO q.t o = evalO s.t o
  | [], rs, s, h, _ => by
    obtain ⟨s1, h1, _, _⟩ := stepOpsD_cons.1 h
    exact ⟨s, s1, h1, fun _ _ => rfl⟩
  | j :: l1, rs, s, h, hj => by
    obtain ⟨s1, h1, _, h3⟩ := stepOpsD_cons.1 (show stepOpsD C ih nt (j :: (l1 ++ x :: l2)) rs s = some s' from h)
    obtain ⟨q, q', k1, k2⟩ := did_later l1 _ s1 h3 (fun i hi => hj i (by simp [hi]))
    obtain ⟨v, _, hput, _⟩ := doOp_some.1 h1
    refine ⟨q, q', k1, fun o ho => (k2 o ho).trans (putT_eval hput fun e he => looks_opnds (hj j (by simp) e he) o ho)⟩

/-- The model lays a new row before the evaluator. -/
theorem Sim.early (hC : CtxOK C) {ih : Req → Option Resp} {ops : Array Oper} {lt : List Nat} {listed : Array Bool} {c1 c2 : CL} {z : POp} {rs : List Rd} {s' : St} {n0 : Nat}
    (h : Sim C ih N nt ops lt listed (c1 ++ (z, none) :: c2) rs s s' n0 σ a w) (hr : z.i ∈ Region.ready .any ops listed) (hl : lt.contains z.i = true) {σ0 : Ren} {H0 : Heap} {w0 : World} (hfr : Fr σ0 H0 w0 σ s.H w) (hn0 : w0.heap.size = n0)
    (b : Frame) (rest : List Nat) (k : List Item) (cs : List Frame) :
    ∃ w' a', Sim C ih N nt ops lt (listed.setIfInBounds z.i true) (c1 ++ (z, some w.heap.size) :: c2) rs s s' n0 σ a' w' ∧ Fr σ0 H0 w0 σ s.H w' ∧
      Steps C.P (lone (b.atR a (.inRegion ops (z.i :: rest) :: k)) cs w) (lone (b.atR a' (.inRegion ops rest :: k)) cs w') := by
  have hzm : (z, none) ∈ c1 ++ (z, none) :: c2 := by simp
  have ho := List.pairwise_append.1 h.sch.ord
  obtain ⟨hla, hgn, d, hd⟩ := late_parts (h.sch.late _ hzm hl)
  obtain ⟨o, ho1, ho2, ho3, ho4⟩ := h.sch.prep _ hzm
  obtain ⟨hp, hok⟩ := prepOpN_never ho2 (late_notNever hla)
  -- what stands before and behind it is apart
  have hap1 : ∀ j ∈ c1, Apart j.1 z := by
    intro j hj
    have hpair := (ho.2.2 j hj (z, none) (by simp)).2.2
    by_cases hjn : j.2 = none
    · unfold pairOK at hpair
      cases hb : (lt.contains j.1.i && lt.contains z.i) with
      | true => rw [hb, cond_true] at hpair; exact apart_of hpair
      | false =>
        rw [hb, cond_false] at hpair
        simp only [Bool.or_eq_true, Bool.and_eq_true] at hpair
        rcases hpair with (hc | hf) | hq
        · have hD := closedL_in (D := fun k => listed.getD k false = true) h.sch.down ((ready_iff (h.sch.lt_ hzm)).1 hr).2 j.1.i (List.contains_iff_mem.1 hc)
          rw [h.sch.listed_no (by simp [hj]) hjn] at hD
          cases hD
        · exact free_apart hf
        · exact apart_of hq.2
    · exact pair_late (h.sch.pend j (by simp [hj]) hjn) hl hpair
  have hap2 : ∀ j ∈ c2, j.2 ≠ none → Apart z j.1 := by
    intro j hj hjn
    exact pair_late hl (h.sch.pend j (by simp [hj]) hjn) ((List.pairwise_cons.1 ho.2.1).1 j hj).2.2
  have hX : ∀ d' ∈ pdst (c1 ++ (z, none) :: c2), z.looks d' = false ∧ z.dst ≠ some d' := by
    intro d' hd'
    obtain ⟨p, hpm, hpn, hpd⟩ := mem_pdst.1 hd'
    simp only [List.mem_append, List.mem_cons] at hpm
    rcases hpm with hm | rfl | hm
    · exact (hap1 p hm).1 d' hpd
    · exact absurd rfl hpn
    · refine ⟨(hap2 p hm hpn).2 d' hpd, fun hzd => ?_⟩
      exact ((hap2 p hm hpn).1 d' hzd).2 hpd
  -- it can be carried out
  have hrun := h.run
  rw [List.map_append, List.map_cons] at hrun
  obtain ⟨q, q', hq1, hq2⟩ := did_later (c1.map (·.1)) rs s hrun (fun j hj d' hd' => by
    obtain ⟨p, hpm, rfl⟩ := List.mem_map.1 hj
    exact ((hap1 p hpm).1 d' hd').1)
  obtain ⟨v, hdid, hput, _⟩ := doOp_some.1 hq1
  have hdn : d < nt := by
    rw [hd] at hput
    simp only [putT] at hput
    exact Nat.le_of_ble_eq_true (bif_some hput).1
  have hop : ∃ v H', opA C.P z.op (evalO s.t) q.H = .val v H' := by
    rcases hdid with ⟨_, ha⟩ | ⟨hw, _⟩
    · rw [opA_congr (late_noSel hla) q.H (ρ' := evalO s.t) hq2] at ha
      cases hz : z.op with
      | new e zz => exact ⟨_, _, rfl⟩
      | bldS e sz zz n ps =>
        rw [hz] at ha
        simp only [opA, oBldS] at ha ⊢
        split at ha
        · exact ⟨_, _, rfl⟩
        · cases ha
      | mkS e zz x y =>
        rw [hz] at ha
        simp only [opA, oMkS] at ha ⊢
        split at ha
        · rename_i n m hn hm
          cases hb : (Nat.ble n m && Nat.ble m 100000) with
          | false => rw [hb] at ha; cases ha
          | true => exact ⟨_, _, rfl⟩
        · cases ha
      | _ => rw [hz] at hla; cases hla
    · rw [wanted_none hgn] at hw; cases hw
  obtain ⟨v1, H1, hop⟩ := hop
  have hρ := operands_VR h.at_.tmps hp hok (fun d hd => (hX d hd).1)
  obtain ⟨e, ls, ls', vE, vW, r1, r2, r3, r4⟩ := late_run hp hla hρ hop
  -- the model's step
  have hwant : Region.wanted o (yielded ops a.tmps) = true := by
    have : o.guard = none := by
      unfold prepGuard at ho3
      rw [hgn] at ho3
      cases hg : o.guard with
      | none => rfl
      | some p =>
        rw [hg] at ho3
        simp only at ho3
        split at ho3
        · split at ho3 <;> cases ho3
        · cases ho3
    simp [Region.wanted, this]
  have hnd : ∀ c, o.op ≠ .defer c := by
    intro c hc; unfold prepOp at hp; rw [hc] at hp; simp at hp
  have hg0 := stepGR_op (P := C.P) (b := b) (a := a) (k := k) (cs := cs) (w := w) (rest := rest) ho1 hwant
  rw [Oper.semAt_eq _ _ _ hnd] at hg0
  have hfin : ∀ v, (b.atR a (.inRegion ops (z.i :: rest) :: k)).finish v = b.atR (a.put o.dst v) (.inRegion ops rest :: k) := by
    intro v; rw [Frame.finish_atR, ho1]; rfl
  have hk : Lays w { w with heap := w.heap.push (.cells ls'.toArray e) } (.cells ls'.toArray e) := ⟨rfl, rfl, rfl⟩
  have hod : o.dst = some d := ho4 ▸ hd
  have hsz := h.at_.tmps.size
  refine ⟨{ w with heap := w.heap.push (.cells ls'.toArray e) }, a.put o.dst (vW ⟨w.heap.size, 0, none⟩), ⟨h.sch.mark hr hl, by rw [List.map_append, List.map_cons]; exact hrun, ⟨h.at_.heap.lays hk, ⟨by rw [hod]; simp [Act.put, hsz], fun i hi => ?_⟩, ?_⟩, fun p hpm L hL => ?_, ?_⟩, ?_, ?_⟩
  · have hne : o.dst ≠ some i := by
      intro hc
      exact hi (mem_pdst.2 ⟨(z, some w.heap.size), by simp, by simp, ho4.trans hc⟩)
    rw [put_getD hne]
    refine h.at_.tmps.get i fun hm => hi ?_
    obtain ⟨p, hpm, hpn, hpd⟩ := mem_pdst.1 hm
    refine mem_pdst.2 ⟨p, ?_, hpn, hpd⟩
    simp only [List.mem_append, List.mem_cons] at hpm ⊢
    rcases hpm with hm | rfl | hm
    · exact .inl hm
    · exact absurd rfl hpn
    · exact .inr (.inr hm)
  · have : (a.put o.dst (vW ⟨w.heap.size, 0, none⟩)).defers = a.defers := by rw [hod]; rfl
    rw [this]; exact h.at_.defers
  · have hcase : p = (z, some w.heap.size) ∨ p ∈ c1 ∨ p ∈ c2 := by
      simp only [List.mem_append, List.mem_cons] at hpm
      rcases hpm with hm | hm | hm
      · exact .inr (.inl hm)
      · exact .inl hm
      · exact .inr (.inr hm)
    rcases hcase with rfl | hm
    · cases hL
      refine ⟨⟨e, e, ls, ls', vE, vW, d, hd, hdn, r1, r2, hk.at_, r4, ?_⟩, ?_, h.at_.heap.size, fun hi => absurd (hi.lt h.at_.heap) (Nat.lt_irrefl _)⟩
      · rw [hod]; exact put_getD_self (by rw [hsz]; exact hdn)
      · rw [← hn0]; exact hfr.size
    · have hpm' : p ∈ c1 ++ (z, none) :: c2 := by
        simp only [List.mem_append, List.mem_cons]
        exact hm.imp id .inr
      have hq := h.pend p hpm' L hL
      obtain ⟨e2, e2', ls2, ls2', vE2, vW2, dd, k1, k2, k3, k4, k5, k6, k7⟩ := hq.ex
      refine ⟨⟨e2, e2', ls2, ls2', vE2, vW2, dd, k1, k2, k3, k4, (hk.other hq.lt).trans k5, k6, ?_⟩, hq.n0, hq.N_, hq.img⟩
      rw [put_getD, k7]
      have := (hX dd (mem_pdst.2 ⟨p, hpm', by rw [hL]; simp, k1⟩)).2
      rw [← ho4]; exact this
  · have hd0 := List.pairwise_append.1 h.dist
    have hlt : ∀ p ∈ c1 ++ (z, none) :: c2, p.2 ≠ some w.heap.size := fun p hpm he => absurd (h.pend p hpm _ he).lt (Nat.lt_irrefl _)
    refine List.pairwise_append.2 ⟨hd0.1, List.pairwise_cons.2 ⟨fun y hy L hL => ?_, (List.pairwise_cons.1 hd0.2.1).2⟩, fun p hpm y hy L hL => ?_⟩
    · cases hL; exact hlt y (by simp [hy])
    · rcases List.mem_cons.1 hy with rfl | hy
      · intro he; cases he; exact hlt p (by simp [hpm]) hL
      · exact hd0.2.2 p hpm y (by simp [hy]) L hL
  · have f2 : Fr σ s.H w σ s.H { w with heap := w.heap.push (.cells ls'.toArray e) } := Fr.lays hk (fun _ _ h => h) (by rintro _ _ _ ⟨⟩; rfl)
    exact hfr.trans f2
  · refine .one (step_lone_go ?_)
    rw [hg0, ← hfin]
    simp [stepG.apply, r3]

/-- The next one. -/
theorem Sim.pick (hC : CtxOK C) {ih : Req → Option Resp} (IH : ∀ q r, ih q = some r → Said C q r) {ops : Array Oper} {lt : List Nat} {listed : Array Bool} {c1 c2 : CL} {z : POp} {rs : List Rd} {s' : St} {n0 : Nat}
    (h : Sim C ih N nt ops lt listed (c1 ++ (z, none) :: c2) rs s s' n0 σ a w) (hr : z.i ∈ Region.ready .any ops listed) (hl : lt.contains z.i = false) {σ0 : Ren} {H0 : Heap} {w0 : World} (hfr : Fr σ0 H0 w0 σ s.H w) (hn0 : w0.heap.size = n0)
    (hN : N ≤ n0) (hc1 : ∀ j ∈ c1, j.2 = none) (b : Frame) (rest : List Nat) (k : List Item) (cs : List Frame) :
    ∃ τ s1 rs1 w' a', σ.le τ ∧ Sim C ih N nt ops lt (listed.setIfInBounds z.i true) (c1 ++ c2) rs1 s1 s' n0 τ a' w' ∧ Fr σ0 H0 w0 τ s1.H w' ∧
      Steps C.P (lone (b.atR a (.inRegion ops (z.i :: rest) :: k)) cs w) (lone (b.atR a' (.inRegion ops rest :: k)) cs w') := by
  have hzm : (z, none) ∈ c1 ++ (z, none) :: c2 := by simp
  have ho := List.pairwise_append.1 h.sch.ord
  obtain ⟨o, ho1, ho2, ho3, ho4⟩ := h.sch.prep _ hzm
  have hrun := h.run
  rw [List.map_append, List.map_cons] at hrun
  have hb := bubble (C := C) (ih := ih) (nt := nt) (c1.map (·.1)) rs s s' (fun j hj => by
    obtain ⟨q, hq, rfl⟩ := List.mem_map.1 hj
    exact h.sch.free hr hl q hq (hc1 q hq)) hrun
  obtain ⟨s1, h1, _, h3⟩ := stepOpsD_cons.1 hb
  have hap : ∀ p ∈ c2, p.2 ≠ none → Apart z p.1 := fun p hpm hpn =>
    h.sch.apart_behind hzm (by simp [hpm]) rfl hpn ((List.pairwise_cons.1 ho.2.1).1 p hpm).2.2
  have hin : ∀ p ∈ c1 ++ (z, none) :: c2, p.2 ≠ none → p ∈ c2 := by
    intro p hpm hpn
    simp only [List.mem_append, List.mem_cons] at hpm
    rcases hpm with hm | rfl | hm
    · exact absurd (hc1 p hm) hpn
    · exact absurd rfl hpn
    · exact hm
  have hX : ∀ d' ∈ pdst (c1 ++ (z, none) :: c2), z.looks d' = false ∧ z.dst ≠ some d' := by
    intro d' hd'
    obtain ⟨p, hpm, hpn, hpd⟩ := mem_pdst.1 hd'
    have hm := hin p hpm hpn
    refine ⟨(hap p hm hpn).2 d' hpd, fun hzd => ?_⟩
    exact ((hap p hm hpn).1 d' hzd).2 hpd
  obtain ⟨τ, w', a', q1, q2, q3, q4, q5⟩ := doOp_soundX hC IH ho1 ho2 ho3 ho4 h1 h.at_ hX b rest k cs
  obtain ⟨v, _, hput, _⟩ := doOp_some.1 h1
  refine ⟨τ, s1, noteRd z s s1 rs, w', a', q1, ⟨h.sch.next hr, by rw [List.map_append]; exact h3, ⟨q2.heap, ⟨q2.tmps.size, fun i hi => q2.tmps.get i fun hm => hi ?_⟩, q2.defers⟩, fun p hpm L hL => ?_, ?_⟩, hfr.trans q3, q5⟩
  · obtain ⟨p, hpm, hpn, hpd⟩ := mem_pdst.1 hm
    exact mem_pdst.2 ⟨p, by simp [hin p hpm hpn], hpn, hpd⟩
  · have hpm' : p ∈ c1 ++ (z, none) :: c2 := by
      simp only [List.mem_append, List.mem_cons] at hpm ⊢
      exact hpm.imp id .inr
    have hpn : p.2 ≠ none := by rw [hL]; simp
    have hq := h.pend p hpm' L hL
    obtain ⟨e2, e2', ls2, ls2', vE2, vW2, dd, k1, k2, k3, k4, k5, k6, k7⟩ := hq.ex
    refine ⟨⟨e2, e2', ls2, ls2', vE2, vW2, dd, k1, k2, fun H => ?_, k4.le q1, ?_, k6, ?_⟩, hq.n0, hq.N_, fun hi => ?_⟩
    · rw [opA_congr (late_noSel (late_parts (h.sch.late p hpm' (h.sch.pend p hpm' hpn))).1) H (ρ' := evalO s.t) (fun y hy => putT_eval hput (fun e he => looks_opnds ((hap p (hin p hpm' hpn) hpn).1 e he).1 y hy))]
      exact k3 H
    · exact (q3.old L hq.lt hq.img).trans k5
    · rw [q4 dd (mem_pdst.2 ⟨p, hpm', hpn, k1⟩)]; exact k7
    · exact hq.img (q3.img L hq.lt hi)
  · exact h.dist.sublist (List.Sublist.append (List.Sublist.refl _) (List.sublist_cons_self _ _))

theorem sched_sim (hC : CtxOK C) {ih : Req → Option Resp} (IH : ∀ q r, ih q = some r → Said C q r) {ops : Array Oper} {lt : List Nat} {s' : St} {n0 : Nat} {σ0 : Ren} {H0 : Heap} {w0 : World} (hn0 : w0.heap.size = n0) (hN : N ≤ n0)
    (b : Frame) (k : List Item) (cs : List Frame) : ∀ (fuel t : Nat) (listed : Array Bool) (c : CL) (rs : List Rd) (s : St) (σ : Ren) (a : Act) (w : World), openN c ≤ fuel → Sim C ih N nt ops lt listed c rs s s' n0 σ a w → Fr σ0 H0 w0 σ s.H w → σ0.le σ →
    ∃ τ w' a', σ0.le τ ∧ At C.P τ N nt s' a' w' ∧ Fr σ0 H0 w0 τ s'.H w' ∧ Steps C.P (lone (b.atR a (.inRegion ops (Region.linearise.go .any ops fuel t listed []) :: k)) cs w) (lone (b.atR a' (.inRegion ops [] :: k)) cs w') := by
  -- nothing is open
  have hend : ∀ (listed : Array Bool) (c : CL) (rs : List Rd) (s : St) (σ : Ren) (a : Act) (w : World), (∀ p ∈ c, p.2 ≠ none) → Sim C ih N nt ops lt listed c rs s s' n0 σ a w → Fr σ0 H0 w0 σ s.H w → σ0.le σ →
      ∃ τ, σ0.le τ ∧ At C.P τ N nt s' a w ∧ Fr σ0 H0 w0 τ s'.H w := by
    intro listed c rs s σ a w hno h hfr hle
    obtain ⟨τ, s1, rs1, e2, q1, q2, q3, q4, _⟩ := Sim.flushes (σ0 := σ0) (H0 := H0) (w0 := w0) hn0 c [] [] rs σ s (by simpa using h) hfr (fun j hj => by cases hj) (fun j hj hn => absurd hn (hno j (by simpa using hj)))
    have he : e2 = [] := by
      cases e2 with
      | nil => rfl
      | cons p e2 =>
        obtain ⟨k1, k2⟩ := q4 p (by simp)
        exact absurd k1 (hno p (by simpa using k2))
    subst he
    have hr := q2.run
    simp only [List.append_nil, List.map_nil, stepOpsD, Option.some.injEq] at hr
    subst hr
    exact ⟨τ, Ren.le_trans hle q1, (show AtX C.P τ N nt [] s1 a w from q2.at_).at_, q3⟩
  intro fuel
  induction fuel with
  | zero =>
    intro t listed c rs s σ a w hl h hfr hle
    have hno : ∀ p ∈ c, p.2 ≠ none := by
      intro p hp hn
      have : p ∈ c.filter fun p => p.2.isNone := List.mem_filter.2 ⟨hp, by rw [hn]; rfl⟩
      have := List.length_pos_of_mem this
      simp only [openN] at hl
      omega
    obtain ⟨τ, q1, q2, q3⟩ := hend listed c rs s σ a w hno h hfr hle
    exact ⟨τ, w, a, q1, q2, q3, .refl _ _⟩
  | succ fuel ihf =>
    intro t listed c rs s σ a w hl h hfr hle
    simp only [Region.linearise.go]
    change ∃ τ w' a', _ ∧ _ ∧ _ ∧ Steps C.P (lone (b.atR a (.inRegion ops (match (Region.ready .any ops listed)[t % (Region.ready .any ops listed).length]? with
      | some i => Region.linearise.go .any ops fuel (t / (Region.ready .any ops listed).length) (listed.setIfInBounds i true) [i]
      | none => [].reverse) :: k)) cs w) _
    cases hi : (Region.ready .any ops listed)[t % (Region.ready .any ops listed).length]? with
    | none =>
      have hno : ∀ p ∈ c, p.2 ≠ none := by
        intro p hp hn
        obtain ⟨q, hq, hqn, hqr⟩ := h.sch.ready ⟨p, hp, hn⟩
        have hlt : t % (Region.ready .any ops listed).length < (Region.ready .any ops listed).length := Nat.mod_lt _ (List.length_pos_of_mem hqr)
        rw [List.getElem?_eq_getElem hlt] at hi; cases hi
      obtain ⟨τ, q1, q2, q3⟩ := hend listed c rs s σ a w hno h hfr hle
      exact ⟨τ, w, a, q1, q2, q3, .refl _ _⟩
    | some i =>
      have hi' := List.mem_of_getElem? hi
      obtain ⟨h0, o, ho, _⟩ := mem_ready.1 hi'
      obtain ⟨p, hpm, hpn, rfl⟩ := (h.sch.un i (Array.getElem?_eq_some_iff.1 ho).1).1 h0
      obtain ⟨z, q⟩ := p
      simp only at hpn
      subst hpn
      obtain ⟨c1, c2, rfl⟩ := List.append_of_mem hpm
      simp only []
      rw [linearise_go_acc, List.reverse_singleton, List.singleton_append]
      have hopen : openN (c1 ++ (z, none) :: c2) = openN c1 + (openN c2 + 1) := by
        rw [openN_app]; simp [openN]
      cases hlz : lt.contains z.i with
      | true =>
        obtain ⟨w1, a1, q1, q2, q3⟩ := h.early hC hi' hlz hfr hn0 b (Region.linearise.go .any ops fuel (t / (Region.ready .any ops listed).length) (listed.setIfInBounds z.i true) []) k cs
        have hopen2 : openN (c1 ++ (z, some w.heap.size) :: c2) = openN c1 + openN c2 := by
          rw [openN_app]; simp [openN]
        obtain ⟨τ, w2, a2, p1, p2, p3, p4⟩ := ihf (t / (Region.ready .any ops listed).length) (listed.setIfInBounds z.i true) _ rs s σ a1 w1 (by omega) q1 q2 hle
        exact ⟨τ, w2, a2, p1, p2, p3, q3.trans p4⟩
      | false =>
        have heff : ∀ j ∈ [] ++ c1, j.2 = none → effect j.1.op = false := fun j hj hn => free_still (h.sch.free hi' hlz j (by simpa using hj) hn)
        obtain ⟨τ1, s1, rs1, e2, q1, q2, q3, q4, q5⟩ := Sim.flushes (σ0 := σ0) (H0 := H0) (w0 := w0) hn0 c1 [] ((z, none) :: c2) rs σ s (by simpa using h) hfr (fun j hj => by cases hj) heff
        obtain ⟨τ2, s2, rs2, w2, a2, p1, p2, p3, p4⟩ := q2.pick hC IH hi' hlz q3 hn0 hN (fun j hj => (q4 j hj).1) b (Region.linearise.go .any ops fuel (t / (Region.ready .any ops listed).length) (listed.setIfInBounds z.i true) []) k cs
        have hopen3 : openN (e2 ++ c2) ≤ fuel := by
          have hs1 : openN (e2 ++ (z, none) :: c2) = openN e2 + (openN c2 + 1) := by rw [openN_app]; simp [openN]
          rw [openN_app]
          have he2 : openN e2 ≤ openN c1 := by simpa using q5
          omega
        obtain ⟨τ, w3, a3, r1, r2, r3, r4⟩ := ihf (t / (Region.ready .any ops listed).length) (listed.setIfInBounds z.i true) _ rs2 s2 τ2 a2 w2 hopen3 p2 p3 (Ren.le_trans hle (Ren.le_trans q1 p1))
        exact ⟨τ, w3, a3, r1, r2, r3, p4.trans r4⟩

/-- A region whose order is drawn. -/
theorem draw_sound (hC : CtxOK C) {ih : Req → Option Resp} (IH : ∀ q r, ih q = some r → Said C q r) {id : Nat} {ops : Array Oper} {l : List POp} {s' : St} (hp : prepRegion C.P ops true = some l)
    (hs : stepOpsD C ih nt l [] s = some s') (h : At C.P σ N nt s a w) (b : Frame) (k : List Item) (cs : List Frame) :
    ∃ τ w' a', σ.le τ ∧ At C.P τ N nt s' a' w' ∧ Fr σ s.H w τ s'.H w' ∧ Steps C.P (lone (b.atR a (.code (.region id ops true) :: k)) cs w) (lone (b.atR a' k) cs w') := by
  obtain ⟨lt, hsch, hlen⟩ := prepRegion_draw hp
  have hH : HR C.P σ N s.H { w with drawn := w.drawn + 1 } := by
    refine ⟨fun f e ro vs top c hg v hv => ?_, h.heap.uniq, h.heap.objs, h.heap.uniqO, h.heap.next, h.heap.tops, h.heap.size, h.heap.glob⟩
    obtain ⟨l, hl⟩ := h.heap.rows f e ro vs top c hg v hv
    exact ⟨l, hl.world rfl⟩
  have hfst : (fresh l).map (·.1) = l := by simp [fresh, List.map_map, Function.comp_def]
  have hnn : ∀ p ∈ fresh l, p.2 = none := by
    intro p hp
    obtain ⟨x, _, rfl⟩ := List.mem_map.1 hp
    rfl
  have hpd : pdst (fresh l) = [] := by
    rw [List.eq_nil_iff_forall_not_mem]
    intro d hd
    obtain ⟨p, hp, hn, _⟩ := mem_pdst.1 hd
    exact hn (hnn p hp)
  have hsim : Sim C ih N nt ops lt (Array.replicate ops.size false) (fresh l) [] s s' w.heap.size σ a { w with drawn := w.drawn + 1 } := by
    refine ⟨hsch, by rw [hfst]; exact hs, by rw [hpd]; exact ⟨hH, h.tmps.tx, h.defers⟩, fun p hp L hL => ?_, ?_⟩
    · rw [hnn p hp] at hL; cases hL
    · exact List.Pairwise.imp_of_mem (fun {a b} ha _ _ L hL => by rw [hnn a ha] at hL; cases hL) (List.pairwise_of_forall (R := fun _ _ => True) (fun _ _ => trivial))
  have hopen : openN (fresh l) ≤ ops.size := by
    refine Nat.le_trans (List.length_filter_le _ _) ?_
    simpa [fresh] using hlen
  obtain ⟨τ, w', a', q1, q2, q3, q4⟩ := sched_sim hC IH (w0 := { w with drawn := w.drawn + 1 }) (σ0 := σ) (H0 := s.H) rfl h.heap.size b k cs ops.size (w.tape w.drawn (.order b.fn id)) _ _ [] s σ a _ hopen hsim (Fr.refl _ _ _) σ.le_refl
  have hstep := stepR_region_draw (P := C.P) (b := b) (a := a) (k := k) (cs := cs) (w := w) (ops := ops) (id := id)
  have hsc : Region.schedule (C.P.follows .mixedOrders) ops (w.tape w.drawn (.order b.fn id)) = Region.linearise.go .any ops ops.size (w.tape w.drawn (.order b.fn id)) (Array.replicate ops.size false) [] := by
    simp only [Region.schedule, hC.mixed, Bool.true_or, if_true]; rfl
  rw [hsc] at hstep
  exact ⟨τ, w', a', q1, q2, ⟨q3.size, q3.os, q3.output, q3.old, q3.img, q3.back, q3.new⟩, (Steps.head hstep q4).trans (.one stepR_region_end)⟩

theorem thenC_some {k : St → Option Resp} {r : Option Resp} {e : Ex} {s : St} (h : thenC k r = some (.code e s)) :
    (∃ s1, r = some (.code .normal s1) ∧ k s1 = some (.code e s)) ∨ (e ≠ .normal ∧ r = some (.code e s)) := by
  unfold thenC at h
  split at h
  · exact .inl ⟨_, rfl, h⟩
  · rename_i hn
    refine .inr ⟨fun he => ?_, h⟩
    subst he
    exact hn _ h

theorem findLabel_prep {P : Program} {l : Nat} : ∀ {c : Code} {pc : PC}, prepC P c = some pc →
    (∀ rest, findLabelA pc l = some rest → ∃ rc, findLabel c l = some rc ∧ prepC P rc = some rest) ∧ (findLabelA pc l = none → findLabel c l = none) := by
  intro c
  induction c with
  | seq x y ihx ihy =>
    intro pc hp
    simp only [prepC] at hp
    split at hp
    · rename_i px py hx hy
      cases hp
      obtain ⟨x1, x2⟩ := ihx hx
      obtain ⟨y1, y2⟩ := ihy hy
      constructor
      · intro rest hr
        simp only [findLabelA] at hr
        split at hr
        · rename_i r hr2
          cases hr
          obtain ⟨rc, q1, q2⟩ := x1 _ hr2
          exact ⟨.seq rc y, by simp [findLabel, q1], by simp [prepC, q2, hy]⟩
        · rename_i hr2
          obtain ⟨rc, q1, q2⟩ := y1 _ hr
          exact ⟨rc, by simp [findLabel, x2 hr2, q1], q2⟩
      · intro hr
        simp only [findLabelA] at hr
        split at hr
        · cases hr
        · rename_i hr2
          simp [findLabel, x2 hr2, y2 hr]
    · cases hp
  | label l' =>
    intro pc hp
    simp only [prepC, Option.some.injEq] at hp; subst hp
    constructor
    · intro rest hr
      simp only [findLabelA] at hr
      obtain ⟨hb, hr⟩ := bif_some hr
      cases hr
      have := Nat.eq_of_beq_eq_true hb
      exact ⟨.skip, by simp [findLabel, this], rfl⟩
    · intro hr
      simp only [findLabelA] at hr
      cases hb : Nat.beq l' l with
      | true => rw [hb] at hr; cases hr
      | false =>
        have : l' ≠ l := fun he => by subst he; rw [Nat.beq_refl] at hb; cases hb
        simp [findLabel, this]
  | _ =>
    intro pc hp
    simp only [prepC] at hp
    constructor
    · intro rest hr
      exfalso
      (repeat' split at hp) <;> first
        | (cases hp; done)
        | (cases hp; simp [findLabelA] at hr; done)
        | (have hq := bif_some hp; cases hq.2; simp [findLabelA] at hr; done)
    · intro _; rfl

theorem exCode_some {r : Option Resp} {id : Nat} {e : Ex} {s : St} (h : blockC id r = some (.code e s)) :
    (r = some (.code (.exit id) s) ∧ e = .normal) ∨ (r = some (.code e s) ∧ e ≠ .exit id) := by
  unfold blockC at h
  split at h
  · rename_i j s1
    cases hb : Nat.beq j id with
    | true =>
      rw [hb, cond_true] at h; cases h
      have := Nat.eq_of_beq_eq_true hb
      subst this
      exact .inl ⟨rfl, rfl⟩
    | false =>
      rw [hb, cond_false] at h; cases h
      refine .inr ⟨rfl, fun he => ?_⟩
      cases he; rw [Nat.beq_refl] at hb; cases hb
  · rename_i hn
    refine .inr ⟨h, fun he => ?_⟩
    subst he
    exact hn _ _ h

theorem stepR_inScope {P : Program} {b : Frame} {a : Act} {k : List Item} {cs : List Frame} {w : World} {body : Code} : Go.step P (lone (b.atR a (.inScope body :: k)) cs w) = .next (lone (b.atR a k) cs w) :=
  step_lone_go (by simp [stepG, stepG.exec, Frame.atR])

theorem stepR_scope {P : Program} {b : Frame} {a : Act} {k : List Item} {cs : List Frame} {w : World} {body : Code} :
    Go.step P (lone (b.atR a (.code (.scope body) :: k)) cs w) = .next (lone (b.atR a (.code body :: .inScope body :: k)) cs w) :=
  step_lone_go (by simp [stepG, stepG.exec, Frame.atR])

/-- Out of a scope, or back into it. -/
theorem scope_fin {ih : Req → Option Resp} (IH : ∀ q r, ih q = some r → Said C q r) {ro : Option Nat} {fn : FuncId} {whole : PC} {wc : Code} (hwc : prepC C.P wc = some whole) {e1 e : Ex} {s1 s' : St}
    (hs : scopeC ih ro fn nt whole (some (.code e1 s1)) = some (.code e s')) {τ : Ren} {w1 : World} {a1 : Act} {b : Frame} {k : List Item} {cs : List Frame} {m : Machine} (h : At C.P τ N nt s1 a1 w1) (hro : RoR τ ro b.roundOf) (hfn : b.fn = fn)
    (harr : ArrR C.P m b (.inScope wc :: k) cs e1 a1 w1) :
    ∃ υ w' a', τ.le υ ∧ At C.P υ N nt s' a' w' ∧ Fr τ s1.H w1 υ s'.H w' ∧ ArrR C.P m b k cs e a' w' := by
  unfold scopeC at hs
  split at hs
  · rename_i l s2 heq
    cases heq
    obtain ⟨f1, f2⟩ := findLabel_prep (l := l) hwc
    split at hs
    · rename_i rest hr
      obtain ⟨rc, g1, g2⟩ := f1 _ hr
      have hsaid : SaidScope C ro fn nt whole rest s1 e s' := IH _ _ hs
      obtain ⟨υ, w2, a2, p1, p2, p3, p4⟩ := hsaid wc rc hwc g2 τ N w1 a1 b k cs h hro hfn
      exact ⟨υ, w2, a2, p1, p2, p3, .of_steps (harr.1 _ (by simp [gotoIn, g1])) p4⟩
    · rename_i hr
      cases hs
      refine ⟨τ, w1, a1, τ.le_refl, h, Fr.refl _ _ _, ?_⟩
      have hnone := f2 hr
      simp only [ArrR, gotoIn, hnone] at harr
      exact harr
  · rename_i hn
    cases hs
    refine ⟨τ, w1, a1, τ.le_refl, h, Fr.refl _ _ _, ?_⟩
    cases e1 with
    | normal => exact Steps.trans harr (.one stepR_inScope)
    | exit id => simp only [ArrR, exitTo] at harr; exact harr
    | goto l => exact (hn l s1 rfl).elim
    | ret => exact harr

/-- The code that a jump leaves behind. -/
def jumpCode : Ex → Option Code
  | .normal => none
  | .exit id => some (.exit id)
  | .goto l => some (.goto l)
  | .ret => some .ret

/-- A range over a function, once its record lies. -/
theorem range_fin (hC : CtxOK C) {ih : Req → Option Resp} (IH : ∀ q r, ih q = some r → Said C q r) {fn : FuncId} {f : Operand} {ps : Array Tmp} {asg body : Code} {pa pb : PC} (ha : prepC C.P asg = some pa) (hb : prepC C.P body = some pb)
    {t : Tr Value} {d : List Nat} {H : Heap} {e : Ex} {s' : St} {fv : Value} (hs : rangeC ih fn nt fv ps.toList pa pb t d H = some (.code e s')) {b : Frame} (hfn : b.fn = fn) {k : List Item} {cs : List Frame}
    {w1 w2 : World} {mark : List Deferred} {blk : Nat} {τ : Ren} {dfr : Nat} (hfv : VR τ fv (a.eval f)) (htm : TR τ nt t a.tmps) (hdf : DR τ d (mark ++ a.defers)) (hH : HR C.P τ N H w1)
    (hblk : w1.heap.size = blk) (hw2 : w2 = { w1 with heap := w1.heap.push (.loop { state := .ready, pending := none, fn := b.fn, tmps := a.tmps, params := ps, assign := asg, body := body, defers := dfr }) })
    (he : (Instr.enterLoop b.fn a.tmps ps asg body b.roundOf).run C.P w = .ok (blk, mark) w2) :
    ∃ υ w' a', τ.le υ ∧ At C.P υ N nt s' a' w' ∧ Fr τ H w1 υ s'.H w' ∧ ArrR C.P (lone (b.atR a (.code (.rangeFunc f ps asg body) :: k)) cs w) b k cs e a' w' := by
  unfold rangeC at hs
  split at hs
  · rename_i g first cap
    have hor : OR C.P τ (.loop { state := .ready, pending := none, fn := fn, tmps := t, params := ps.toList, assign := pa, body := pb, nt := nt })
        (.loop { state := .ready, pending := none, fn := b.fn, tmps := a.tmps, params := ps, assign := asg, body := body, defers := dfr }) :=
      .loop ⟨rfl, .none, hfn, htm, rfl, ha, hb⟩
    obtain ⟨q1, q2, q3, q4⟩ := obj_sound hH hor (by simp) (w' := w2) ⟨by rw [hw2], by rw [hw2], by rw [hw2]⟩
    rw [hblk] at q1 q2 q3 q4
    generalize hy : a.eval f = y at hfv
    cases hfv with
    | fn f' hf' hx hxs hy2 hys =>
      rename_i first' cap'
      cases hih : ih (.call g (first.toList ++ [.func (.yield H.next) #[] #[]] ++ cap.toList) (H.add (.loop { state := .ready, pending := none, fn := fn, tmps := t, params := ps.toList, assign := pa, body := pb, nt := nt }))) with
      | none => rw [hih] at hs; simp only [endRange] at hs; cases hs
      | some r =>
        rw [hih] at hs
        cases r with
        | code e2 s2 => simp only [endRange] at hs; cases hs
        | val v H3 =>
          have hsaid : SaidCall C g _ _ v H3 := IH _ _ hih
          obtain ⟨hcall, hsaid⟩ := hsaid
          have hvl : VL (τ.addObj H.next blk) (first.toList ++ [Value.func (.yield H.next) #[] #[]] ++ cap.toList) (first' ++ #[Value.func (.yield blk) #[] #[]] ++ cap').toList := by
            simp only [Array.toList_append]
            exact (((VL.of_array hx hxs).le q1).append (.cons (.yld q4) .nil)).append ((VL.of_array hy2 hys).le q1)
          have hres : (resolve a.eval (rangeCall f blk) 0).run C.P w2 = .ok { target := .fn (.func g) cap', args := first' ++ #[Value.func (.yield blk) #[] #[]] } w2 := by
            have hm : (#[Operand.const (Value.func (.yield blk) #[] #[])]).map a.eval = #[Value.func (.yield blk) #[] #[]] := by simp [Act.eval]
            unfold resolve rangeCall
            simp only [hm, hy]
            rfl
          have hinv : (invoke (.fn (.func g) cap') (first' ++ #[Value.func (.yield blk) #[] #[]])).run C.P w2 = .ok (.enter g (first' ++ #[Value.func (.yield blk) #[] #[]] ++ cap')) w2 := by
            simp only [invoke]; exact hcall _ _
          have henter := stepR_rangeFunc (P := C.P) (b := b) (a := a) (k := k) (cs := cs) (w := w) he hres hinv
          obtain ⟨υ, w3, v', fr, p1, p2, p3, p4, p5, p6, p7⟩ := hsaid _ N w2 _ q2 hvl (b.atR { a with defers := mark ++ a.defers } (.inRangeFunc blk :: k) :: cs)
          have hback := step_leave_returned (P := C.P) (c := b.atR { a with defers := mark ++ a.defers } (.inRangeFunc blk :: k)) (cs := cs) p7
          rw [finish_atR_inRangeFunc] at hback
          -- the loop's end
          simp only [endRange] at hs
          split at hs
          · rename_i rec hrec
            have hblk3 : υ.obj H.next = some blk := p1.2 _ _ q4
            obtain ⟨r', hr', hlr⟩ := obj_at p2 hrec hblk3
            split at hs
            · cases hs
            · rename_i e3 hex hnb
              cases hs
              have hst : (r'.state == LoopState.busy) = false := by
                rw [hlr.state]; cases hst : rec.state <;> first | rfl | (exact absurd hst hnb)
              have hend : (Instr.endLoop blk).run C.P w3 = .ok r'.pending { w3 with heap := w3.heap.setIfInBounds blk (.loop { r' with state := .exhausted }) } := by
                have e1 := run_getLoop (P := C.P) hr'
                have e2 := run_setLoop (P := C.P) (r2 := { r' with state := .exhausted }) hr'
                simp only [Instr.endLoop, Sem.run_bind, e1, Result.andThen_ok, hst, Bool.false_eq_true, if_false, e2, Sem.run_pure]
              obtain ⟨u1, u2⟩ := upd_sound p2 hrec (by simp) (o2 := .loop { rec with state := .exhausted }) (by simp) hblk3 (.loop (r' := { r' with state := .exhausted }) ⟨rfl, hlr.pending, hlr.fn, hlr.tmps, hlr.params, hlr.assign, hlr.body⟩)
              have hsteps : Steps C.P (lone (b.atR a (.code (.rangeFunc f ps asg body) :: k)) cs w)
                  (lone (b.atR { a with defers := mark ++ a.defers } ((r'.pending.map Item.code).toList ++ k)) cs { w3 with heap := w3.heap.setIfInBounds blk (.loop { r' with state := .exhausted }) }) :=
                .head henter (p5.trans (.head hback (.one (stepR_endRangeFunc hend))))
              refine ⟨υ, _, { a with defers := mark ++ a.defers }, Ren.le_trans q1 p1, ⟨u1, htm.le (Ren.le_trans q1 p1), hdf.le (Ren.le_trans q1 p1)⟩, q3.trans (p4.trans u2), ?_⟩
              have hpend := hlr.pending
              generalize hrp : rec.pending = rp at hpend hex
              generalize hrp' : r'.pending = rp' at hpend hsteps
              cases hpend with
              | none => simp only [exOf, Option.some.injEq] at hex; subst hex; simpa [ArrR] using hsteps
              | exit id => simp only [exOf, Option.some.injEq] at hex; subst hex; exact .jump _ (.exit id) rfl (by simpa using hsteps)
              | goto id => simp only [exOf, Option.some.injEq] at hex; subst hex; exact .jump _ (.goto id) rfl (by simpa using hsteps)
              | ret => simp only [exOf, Option.some.injEq] at hex; subst hex; exact .jump _ .ret rfl (by simpa using hsteps)
            · cases hs
          · cases hs
  · cases hs

theorem code_sound (hC : CtxOK C) {ih : Req → Option Resp} (IH : ∀ q r, ih q = some r → Said C q r) {ro : Option Nat} {fn : FuncId} :
    ∀ (code : Code) (c : PC) (s : St) (e : Ex) (s' : St), prepC C.P code = some c → stepC C ih ro fn nt c s = some (.code e s') →
    ∀ σ w a b k cs, At C.P σ N nt s a w → RoR σ ro b.roundOf → b.fn = fn →
    ∃ τ w' a', σ.le τ ∧ At C.P τ N nt s' a' w' ∧ Fr σ s.H w τ s'.H w' ∧ ArrR C.P (lone (b.atR a (.code code :: k)) cs w) b k cs e a' w' := by
  intro code
  induction code with
  | skip =>
    intro c s e s' hp hs σ w a b k cs h hro hfn
    simp only [prepC, Option.some.injEq] at hp; subst hp
    simp only [stepC, Option.some.injEq, Resp.code.injEq] at hs; obtain ⟨rfl, rfl⟩ := hs
    exact ⟨σ, w, a, σ.le_refl, h, Fr.refl _ _ _, .one stepR_skip⟩
  | label l =>
    intro c s e s' hp hs σ w a b k cs h hro hfn
    simp only [prepC, Option.some.injEq] at hp; subst hp
    simp only [stepC, Option.some.injEq, Resp.code.injEq] at hs; obtain ⟨rfl, rfl⟩ := hs
    exact ⟨σ, w, a, σ.le_refl, h, Fr.refl _ _ _, .one stepR_label⟩
  | exit id =>
    intro c s e s' hp hs σ w a b k cs h hro hfn
    simp only [prepC, Option.some.injEq] at hp; subst hp
    simp only [stepC, Option.some.injEq, Resp.code.injEq] at hs; obtain ⟨rfl, rfl⟩ := hs
    exact ⟨σ, w, a, σ.le_refl, h, Fr.refl _ _ _, .jump _ (.exit id) rfl (.refl _ _)⟩
  | goto l =>
    intro c s e s' hp hs σ w a b k cs h hro hfn
    simp only [prepC, Option.some.injEq] at hp; subst hp
    simp only [stepC, Option.some.injEq, Resp.code.injEq] at hs; obtain ⟨rfl, rfl⟩ := hs
    exact ⟨σ, w, a, σ.le_refl, h, Fr.refl _ _ _, .jump _ (.goto l) rfl (.refl _ _)⟩
  | ret =>
    intro c s e s' hp hs σ w a b k cs h hro hfn
    simp only [prepC, Option.some.injEq] at hp; subst hp
    simp only [stepC, Option.some.injEq, Resp.code.injEq] at hs; obtain ⟨rfl, rfl⟩ := hs
    exact ⟨σ, w, a, σ.le_refl, h, Fr.refl _ _ _, .jump _ .ret rfl (.refl _ _)⟩
  | refuse why => intro c s e s' hp; simp [prepC] at hp
  | region id ops draw =>
    intro c s e s' hp hs σ w a b k cs h hro hfn
    simp only [prepC] at hp
    split at hp
    · rename_i l hl
      cases hp
      cases draw with
      | false =>
        simp only [stepC] at hs
        cases hst : stepOps C ih nt l s with
        | none => rw [hst] at hs; cases hs
        | some s1 =>
          rw [hst] at hs; cases hs
          simp only [prepRegion, cond_false] at hl
          obtain ⟨τ, w', a', q1, q2, q3, q4⟩ := ops_sound hC IH b k cs _ _ σ s s' a w hl hst h
          exact ⟨τ, w', a', q1, q2, q3, (Steps.head stepR_region q4).trans (.one stepR_region_end)⟩
      | true =>
        simp only [stepC] at hs
        cases hst : stepOpsD C ih nt l [] s with
        | none => rw [hst] at hs; cases hs
        | some s1 =>
          rw [hst] at hs; cases hs
          exact draw_sound hC IH hl hst h b k cs
    · cases hp
  | seq x y ihx ihy =>
    intro c s e s' hp hs σ w a b k cs h hro hfn
    simp only [prepC] at hp
    split at hp
    · rename_i px py hx hy
      cases hp
      simp only [stepC] at hs
      rcases thenC_some hs with ⟨s1, h1, h2⟩ | ⟨he, h1⟩
      · obtain ⟨τ, w1, a1, q1, q2, q3, q4⟩ := ihx px s .normal s1 hx h1 σ w a b (.code y :: k) cs h hro hfn
        obtain ⟨υ, w2, a2, p1, p2, p3, p4⟩ := ihy py s1 e s' hy h2 τ w1 a1 b k cs q2 (hro.le q1) hfn
        exact ⟨υ, w2, a2, Ren.le_trans q1 p1, p2, q3.trans p3, .of_steps (.head stepR_seq q4) p4⟩
      · obtain ⟨τ, w1, a1, q1, q2, q3, q4⟩ := ihx px s e s' hx h1 σ w a b (.code y :: k) cs h hro hfn
        exact ⟨τ, w1, a1, q1, q2, q3, .of_steps (.one stepR_seq) (.pass (x := .code y) rfl he q4)⟩
    · cases hp
  | cond x p q ihp ihq =>
    intro c s e s' hp hs σ w a b k cs h hro hfn
    simp only [prepC] at hp
    split at hp
    · rename_i pp pq hpp hpq
      obtain ⟨hb, hp⟩ := bif_some hp
      cases hp
      simp only [stepC, condC] at hs
      have hv := eval_VR h.tmps hb
      split at hs
      · rename_i he
        rw [he] at hv
        have hx : a.eval x = .bool true := by generalize a.eval x = y at hv; cases hv; rfl
        obtain ⟨τ, w1, a1, q1, q2, q3, q4⟩ := ihp pp s e s' hpp hs σ w a b k cs h hro hfn
        exact ⟨τ, w1, a1, q1, q2, q3, .of_steps (.one (stepR_cond hx)) q4⟩
      · rename_i he
        rw [he] at hv
        have hx : a.eval x = .bool false := by generalize a.eval x = y at hv; cases hv; rfl
        obtain ⟨τ, w1, a1, q1, q2, q3, q4⟩ := ihq pq s e s' hpq hs σ w a b k cs h hro hfn
        exact ⟨τ, w1, a1, q1, q2, q3, .of_steps (.one (stepR_cond hx)) q4⟩
      · cases hs
    · cases hp
  | block id body ihb =>
    intro c s e s' hp hs σ w a b k cs h hro hfn
    simp only [prepC] at hp
    split at hp
    · rename_i pb hb
      cases hp
      simp only [stepC] at hs
      rcases exCode_some hs with ⟨h1, rfl⟩ | ⟨h1, he⟩
      · obtain ⟨τ, w1, a1, q1, q2, q3, q4⟩ := ihb pb s _ s' hb h1 σ w a b (.inBlock id :: k) cs h hro hfn
        exact ⟨τ, w1, a1, q1, q2, q3, .head stepR_block (q4.1 k (by simp [exitTo]))⟩
      · obtain ⟨τ, w1, a1, q1, q2, q3, q4⟩ := ihb pb s e s' hb h1 σ w a b (.inBlock id :: k) cs h hro hfn
        refine ⟨τ, w1, a1, q1, q2, q3, .of_steps (.one stepR_block) ?_⟩
        cases e with
        | normal => exact q4.trans (.one stepR_inBlock)
        | exit j =>
          have hj : (id == j) = false := by simp; intro h; exact he (by rw [h])
          simp only [ArrR, exitTo, hj, Bool.false_eq_true, if_false] at q4
          exact q4
        | goto l => simp only [ArrR, gotoIn] at q4; exact q4
        | ret => exact q4
    · cases hp
  | loop body ihb =>
    intro c s e s' hp hs σ w a b k cs h hro hfn
    have hp0 := hp
    simp only [prepC] at hp
    split at hp
    · rename_i pb hb
      cases hp
      simp only [stepC] at hs
      rcases thenC_some hs with ⟨s1, h1, h2⟩ | ⟨he, h1⟩
      · obtain ⟨τ, w1, a1, q1, q2, q3, q4⟩ := ihb pb s .normal s1 hb h1 σ w a b (.inLoop body :: k) cs h hro hfn
        have hsaid : SaidCode C ro fn nt (.loop pb) s1 e s' := IH _ _ h2
        obtain ⟨υ, w2, a2, p1, p2, p3, p4⟩ := hsaid body pb rfl hb τ N w1 a1 b k cs q2 (hro.le q1) hfn
        exact ⟨υ, w2, a2, Ren.le_trans q1 p1, p2, q3.trans p3, .of_steps (.head stepR_loop q4) p4⟩
      · obtain ⟨τ, w1, a1, q1, q2, q3, q4⟩ := ihb pb s e s' hb h1 σ w a b (.inLoop body :: k) cs h hro hfn
        exact ⟨τ, w1, a1, q1, q2, q3, .of_steps (.one stepR_loop) (.pass (x := .inLoop body) rfl he q4)⟩
    · cases hp
  | scope body ihb =>
    intro c s e s' hp hs σ w a b k cs h hro hfn
    simp only [prepC] at hp
    split at hp
    · rename_i pb hb
      cases hp
      simp only [stepC] at hs
      cases hst : stepC C ih ro fn nt pb s with
      | none => rw [hst] at hs; cases hs
      | some r =>
        rw [hst] at hs
        cases r with
        | val v H => simp only [scopeC] at hs; cases hs
        | code e1 s1 =>
          obtain ⟨τ, w1, a1, q1, q2, q3, q4⟩ := ihb pb s e1 s1 hb hst σ w a b (.inScope body :: k) cs h hro hfn
          obtain ⟨υ, w2, a2, p1, p2, p3, p4⟩ := scope_fin IH hb hs q2 (hro.le q1) hfn q4
          exact ⟨υ, w2, a2, Ren.le_trans q1 p1, p2, q3.trans p3, .of_steps (.one stepR_scope) p4⟩
    · cases hp
  | rangeFunc f ps asg body iha ihb =>
    intro c s e s' hp hs σ w a b k cs h hro hfn
    simp only [prepC] at hp
    split at hp
    · rename_i pa pb hpa hpb
      obtain ⟨hok, hp⟩ := bif_some hp
      cases hp
      have hfv := eval_VR h.tmps hok
      simp only [stepC] at hs
      split at hs
      · rename_i l
        generalize hr : b.roundOf = ro' at hro
        cases hro with
        | some hblk =>
          rename_i blk0
          split at hs
          · rename_i rec hrec
            obtain ⟨r', hr', hlr⟩ := obj_at h.heap hrec hblk
            have he : (Instr.enterLoop b.fn a.tmps ps asg body b.roundOf).run C.P w = .ok (w.heap.size, []) { w with heap := w.heap.push (.loop { state := .ready, pending := none, fn := b.fn, tmps := a.tmps, params := ps, assign := asg, body := body, defers := r'.defers }) } := by
              have e1 := run_getLoop (P := C.P) hr'
              rw [hr]
              simp only [Instr.enterLoop, Sem.run_bind, e1, Result.andThen_ok, Sem.run_pure, run_newObj]
            obtain ⟨υ, w', a', p1, p2, p3, p4⟩ := range_fin hC IH hpa hpb hs hfn hfv h.tmps (mark := []) (by simpa using h.defers) h.heap rfl rfl he (k := k) (cs := cs)
            exact ⟨υ, w', a', p1, p2, p3, p4⟩
          · cases hs
      · generalize hr : b.roundOf = ro' at hro
        cases hro with
        | none =>
          have hor : OR C.P σ (.defd false) (.deferred (some [])) := .defd false
          obtain ⟨q1, q2, q3, q4⟩ := obj_sound h.heap hor (by simp) (w' := { w with heap := w.heap.push (.deferred (some [])) }) ⟨rfl, rfl, rfl⟩
          have he : (Instr.enterLoop b.fn a.tmps ps asg body b.roundOf).run C.P w = .ok (w.heap.size + 1, [{ target := .collected w.heap.size, args := #[] }])
              { w with heap := (w.heap.push (.deferred (some []))).push (.loop { state := .ready, pending := none, fn := b.fn, tmps := a.tmps, params := ps, assign := asg, body := body, defers := w.heap.size }) } := by
            rw [hr]
            simp only [Instr.enterLoop, Sem.run_bind, Sem.run_pure, Result.andThen_ok, run_newObj, Array.size_push]
          obtain ⟨υ, w', a', p1, p2, p3, p4⟩ := range_fin hC IH hpa hpb hs hfn (hfv.le q1) (h.tmps.le q1) (mark := [{ target := .collected w.heap.size, args := #[] }]) (.cons q4 (h.defers.le q1)) q2 (by simp) rfl he (k := k) (cs := cs)
          exact ⟨υ, w', a', Ren.le_trans q1 p1, p2, q3.trans p3, p4⟩
    · cases hp

end
end Go.Abs
