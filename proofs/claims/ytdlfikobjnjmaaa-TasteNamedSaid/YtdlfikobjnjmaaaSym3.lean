/- Rules for operations. -/
import Derived.Test.YtdlfikobjnjmaaaSym2
import Derived.IntWalk
namespace Go.Abs
set_option linter.unusedSectionVars false
variable [Globs]
open Go
set_option linter.unusedVariables false
set_option linter.unusedSimpArgs false

section
variable {C : CW} {ro : Option Nat} {fn : FuncId} {nt : Nat} {L L' : Env} {D : List Nat} {H H' : Heap} {K : St → Prop} {M M' : HL} {n : Nat}

/-- An operation that comes to a value. -/
def OpV (C : CW) (op : AOp) (L : Env) (H : Heap) (v : Value) (H' : Heap) : Prop := ∀ t, has L t → opA C.c.P op (evalO t) H = .val v H'

/-- What guards an operation has come out as it must. -/
def gOK (L : Env) : Option (Tmp × Bool) → Prop
  | none => True
  | some (g, q) => Env.get L g = some (.bool q)

theorem gN {L : Env} : gOK L none := True.intro
theorem gS {L : Env} {g : Tmp} {q : Bool} (h : Env.get L g = some (.bool q)) : gOK L (some (g, q)) := h

theorem gOK.wanted {L : Env} {gd : Option (Tmp × Bool)} (h : gOK L gd) {t : Tr Value} (ht : has L t) {i : Nat} {d : Option Tmp} {op : AOp} {lo : List Nat} : wantedA t ⟨i, d, op, gd, lo⟩ = true := by
  cases gd with
  | none => rfl
  | some p => obtain ⟨g, q⟩ := p; simp [wantedA, ht g _ h]

theorem WR.op {i d : Nat} {op : AOp} {gd : Option (Tmp × Bool)} {lo : List Nat} {l : List POp} {v : Value} (hg : gOK L gd) (hd : Nat.blt d nt = true) (hv : OpV C op L H v H') (k : WR C nt l ((d, v) :: L) D H' K) : WR C nt (⟨i, some d, op, gd, lo⟩ :: l) L D H K := by
  intro t ht
  obtain ⟨m, s', h1, h2⟩ := k _ (ht.put d v)
  exact ⟨m, s', by simp only [stepOps, doOp, hg.wanted ht, cond_true, hv t ht, ans, afterOp, putT, hd, stOf]; exact h1, h2⟩

theorem WR.op0 {i : Nat} {op : AOp} {gd : Option (Tmp × Bool)} {lo : List Nat} {l : List POp} {v : Value} (hg : gOK L gd) (hv : OpV C op L H v H') (k : WR C nt l L D H' K) : WR C nt (⟨i, none, op, gd, lo⟩ :: l) L D H K := by
  intro t ht
  obtain ⟨m, s', h1, h2⟩ := k _ ht
  exact ⟨m, s', by simp only [stepOps, doOp, hg.wanted ht, cond_true, hv t ht, ans, afterOp, putT, stOf]; exact h1, h2⟩

/-- An operation that is not wanted. -/
theorem WR.guardF {i d g : Nat} {q : Bool} {op : AOp} {lo : List Nat} {l : List POp} (hg : Env.get L g = some (.bool (!q))) (hd : Nat.blt d nt = true) (k : WR C nt l ((d, undef) :: L) D H K) :
    WR C nt (⟨i, some d, op, some (g, q), lo⟩ :: l) L D H K := by
  intro t ht
  obtain ⟨m, s', h1, h2⟩ := k _ (ht.put d undef)
  have hw : wantedA t ⟨i, some d, op, some (g, q), lo⟩ = false := by cases q <;> simp [wantedA, ht g _ hg]
  exact ⟨m, s', by simp only [stepOps, doOp, hw, cond_false, putT, hd, cond_true, stOf]; exact h1, h2⟩

theorem WR.guardF0 {i g : Nat} {q : Bool} {op : AOp} {lo : List Nat} {l : List POp} (hg : Env.get L g = some (.bool (!q))) (k : WR C nt l L D H K) :
    WR C nt (⟨i, none, op, some (g, q), lo⟩ :: l) L D H K := by
  intro t ht
  obtain ⟨m, s', h1, h2⟩ := k _ ht
  have hw : wantedA t ⟨i, none, op, some (g, q), lo⟩ = false := by cases q <;> simp [wantedA, ht g _ hg]
  exact ⟨m, s', by simp only [stepOps, doOp, hw, cond_false, putT, stOf]; exact h1, h2⟩

/-- A test is parted: what is behind it is done for both. -/
theorem WR.split {l : List POp} {p : Prop} [Decidable p] {g : Nat} {L : Env} (h1 : p → WR C nt l ((g, .bool true) :: L) D H K) (h2 : ¬p → WR C nt l ((g, .bool false) :: L) D H K) :
    WR C nt l ((g, .bool (decide p)) :: L) D H K := by
  by_cases h : p
  · rw [decide_eq_true h]; exact h1 h
  · rw [decide_eq_false h]; exact h2 h

/-- Where the next operation asks for it. -/
theorem WR.splitG {l : List POp} {p : Prop} [Decidable p] {g : Nat} {L : Env} {i : Nat} {d : Option Tmp} {op : AOp} {q : Bool} {lo : List Nat} (h1 : p → WR C nt (⟨i, d, op, some (g, q), lo⟩ :: l) ((g, .bool true) :: L) D H K)
    (h2 : ¬p → WR C nt (⟨i, d, op, some (g, q), lo⟩ :: l) ((g, .bool false) :: L) D H K) : WR C nt (⟨i, d, op, some (g, q), lo⟩ :: l) ((g, .bool (decide p)) :: L) D H K := WR.split h1 h2

theorem WC.split {c : PC} {p : Prop} [Decidable p] {g : Nat} {L : Env} {K : Ex → St → Prop} (h1 : p → WC C ro fn nt c ((g, .bool true) :: L) D H K) (h2 : ¬p → WC C ro fn nt c ((g, .bool false) :: L) D H K) :
    WC C ro fn nt c ((g, .bool (decide p)) :: L) D H K := by
  by_cases h : p
  · rw [decide_eq_true h]; exact h1 h
  · rw [decide_eq_false h]; exact h2 h

/-! Regions that draw. -/

theorem stands_nil (H : Heap) (rs : List Rd) : stands H [] rs = true := by simp [stands]

theorem WD.toWR {l : List POp} {rs : List Rd} (h : l.all (fun o => o.loose.isEmpty) = true) (k : WR C nt l L D H K) : WD C nt l rs L D H K := by
  intro t ht
  obtain ⟨m, s', h1, h2⟩ := k t ht
  refine ⟨m, s', ?_, h2⟩
  have : ∀ (l : List POp) (rs : List Rd) (s : St), l.all (fun o => o.loose.isEmpty) = true → stepOps C.c (runW C m) nt l s = some s' → stepOpsD C.c (runW C m) nt l rs s = some s' := by
    intro l
    induction l with
    | nil => intro rs s _ h; exact h
    | cons o l ih =>
      intro rs s ha h
      simp only [List.all_cons, Bool.and_eq_true] at ha
      unfold stepOps at h
      unfold stepOpsD
      cases hd : doOp C.c (runW C m) nt o s with
      | none => rw [hd] at h; cases h
      | some s1 =>
        rw [hd] at h
        have hl : o.loose = [] := by have := ha.1; cases ho : o.loose with | nil => rfl | cons _ _ => rw [ho] at this; cases this
        simp only [hl, stands_nil, cond_true]
        exact ih _ _ ha.2 h
  exact this l rs _ h h1

theorem WD.of {l : List POp} (h : l.all (fun o => o.loose.isEmpty) = true) (k : WR C nt l L D H K) : WD C nt l [] L D H K := WD.toWR h k

/-- An operation of a region that draws: what was read before, and may be read again, still stands. -/
theorem WD.op {i d : Nat} {op : AOp} {gd : Option (Tmp × Bool)} {lo : List Nat} {l : List POp} {rs : List Rd} {v : Value} (hg : gOK L gd) (hd : Nat.blt d nt = true) (hv : OpV C op L H v H') (hn : reads op = false) (hs : stands H' lo rs = true)
    (k : WD C nt l rs ((d, v) :: L) D H' K) : WD C nt (⟨i, some d, op, gd, lo⟩ :: l) rs L D H K := by
  intro t ht
  obtain ⟨m, s', h1, h2⟩ := k _ (ht.put d v)
  refine ⟨m, s', ?_, h2⟩
  have e1 : doOp C.c (runW C m) nt ⟨i, some d, op, gd, lo⟩ ⟨t, D, H⟩ = some ⟨t.put d v, D, H'⟩ := by simp only [doOp, hg.wanted ht, cond_true, hv t ht, ans, afterOp, putT, hd, stOf]
  have e2 : noteRd ⟨i, some d, op, gd, lo⟩ ⟨t, D, H⟩ ⟨t.put d v, D, H'⟩ rs = rs := by
    unfold noteRd
    rw [hg.wanted ht, cond_true]
    cases op <;> first | rfl | cases hn
  simp only [stepOpsD, e1, hs, cond_true, e2]; exact h1

theorem WD.load1 {i d : Nat} {x : Operand} {a : Addr} {gd : Option (Tmp × Bool)} {l : List POp} {rs : List Rd} {v : Value} (hg : gOK L gd) (hd : Nat.blt d nt = true) (hx : ev L x = some (.pointer (some a))) (hr : H.read a = some v)
    (k : WD C nt l (⟨i, a, none, v⟩ :: rs) ((d, v) :: L) D H K) : WD C nt (⟨i, some d, .load1 x, gd, []⟩ :: l) rs L D H K := by
  intro t ht
  obtain ⟨m, s', h1, h2⟩ := k _ (ht.put d v)
  refine ⟨m, s', ?_, h2⟩
  have e1 : doOp C.c (runW C m) nt ⟨i, some d, .load1 x, gd, []⟩ ⟨t, D, H⟩ = some ⟨t.put d v, D, H⟩ := by simp only [doOp, hg.wanted ht, cond_true, opA, ev_ok ht hx, oLoad1, hr, asVal, ans, afterOp, putT, hd, stOf]
  have e2 : noteRd ⟨i, some d, .load1 x, gd, []⟩ ⟨t, D, H⟩ ⟨t.put d v, D, H⟩ rs = ⟨i, a, none, v⟩ :: rs := by
    have e3 : evalO (t.put d v) (.tmp d) = v := by simp only [evalO, Tr.get_put, if_true]
    simp only [noteRd, hg.wanted ht, cond_true, ev_ok ht hx, e3]
  simp only [stepOpsD, e1, stands_nil, cond_true, e2]; exact h1

theorem stands_cons {H : Heap} {lo : List Nat} {r : Rd} {rs : List Rd} (h : lo.contains r.i = false ∨ holds H r = true) (k : stands H lo rs = true) : stands H lo (r :: rs) = true := by
  simp only [stands, List.all_cons, Bool.and_eq_true, Bool.or_eq_true, Bool.not_eq_true'] at k ⊢
  exact ⟨h, k⟩
theorem stands_nil' {H : Heap} {lo : List Nat} : stands H lo [] = true := rfl
theorem WC.regD {l : List POp} {K : Ex → St → Prop} (h : l.all (fun o => o.loose.isEmpty) = true) (k : WR C nt l L D H (fun s => K .normal s)) : WC C ro fn nt (.region true l) L D H K := WC.regionD (WD.of h k)

/-! ### Values -/

theorem OpV.move {x : Operand} {v : Value} (hx : ev L x = some v) : OpV C (.move x) L H v H := fun t ht => by simp only [opA, ev_ok ht hx]

theorem OpV.pick {c a b : Operand} {q : Bool} {v u : Value} (hc : ev L c = some (.bool q)) (ha : ev L a = some v) (hb : ev L b = some u) : OpV C (.pick c a b) L H (bif q then v else u) H := fun t ht => by
  simp only [opA, ev_ok ht hc, ev_ok ht ha, ev_ok ht hb, oPick]; cases q <;> rfl
theorem OpV.pickT {c a b : Operand} {v : Value} (hc : ev L c = some (.bool true)) (ha : ev L a = some v) : OpV C (.pick c a b) L H v H := fun t ht => by
  simp only [opA, ev_ok ht hc, ev_ok ht ha, oPick]
theorem OpV.pickF {c a b : Operand} {v : Value} (hc : ev L c = some (.bool false)) (hb : ev L b = some v) : OpV C (.pick c a b) L H v H := fun t ht => by
  simp only [opA, ev_ok ht hc, ev_ok ht hb, oPick]

theorem OpV.nilCheck {x : Operand} {a : Addr} (hx : ev L x = some (.pointer (some a))) : OpV C (.nilCheck x) L H (.pointer (some a)) H := fun t ht => by simp only [opA, ev_ok ht hx, oNil]
theorem OpV.nilCheckF {x : Operand} {g : FuncId} {a b : Array Value} (hx : ev L x = some (.func (.func g) a b)) : OpV C (.nilCheck x) L H (.func (.func g) a b) H := fun t ht => by simp only [opA, ev_ok ht hx, oNil]
theorem OpV.nilCheckY {x : Operand} {g : Nat} {a b : Array Value} (hx : ev L x = some (.func (.yield g) a b)) : OpV C (.nilCheck x) L H (.func (.yield g) a b) H := fun t ht => by simp only [opA, ev_ok ht hx, oNil]

theorem OpV.field0 {x : Operand} {b : Nat} {sp : Option Nat} {off : Nat} (hx : ev L x = some (.pointer (some ⟨b, 0, sp⟩))) : OpV C (.fieldAddr x off) L H (.pointer (some ⟨b, off, sp⟩)) H := fun t ht => by
  simp only [opA, ev_ok ht hx, oField, ptrAt, Addr.plus, Nat.zero_add]
theorem OpV.field {x : Operand} {b o : Nat} {sp : Option Nat} {off : Nat} (hx : ev L x = some (.pointer (some ⟨b, o, sp⟩))) : OpV C (.fieldAddr x off) L H (.pointer (some ⟨b, o + off, sp⟩)) H := fun t ht => by
  simp only [opA, ev_ok ht hx, oField, ptrAt, Addr.plus]

theorem blt_of {i n : Nat} (h : i < n) : Nat.blt i n = true := by simp only [Nat.blt]; exact Nat.ble_eq_true_of_le h

theorem OpV.idxA {x ix : Operand} {b o m k sz : Nat} {sp : Option Nat} {kd : IntKind} {j : Int} {a' : Addr} (hx : ev L x = some (.pointer (some ⟨b, o, sp⟩))) (hi : ev L ix = some (.int kd j)) (hj : j = (m : Int)) (hm : m < k)
    (ha : (⟨b, o + m * sz, sp⟩ : Addr) = a') : OpV C (.idxA x ix k sz) L H (.pointer (some a')) H := fun t ht => by
  subst hj; subst ha
  have : natOf (.int kd (m : Int)) = some m := rfl
  simp only [opA, ev_ok ht hx, ev_ok ht hi, oIdxA, this, blt_of hm, cond_true, ptrAt, Addr.plus]

theorem OpV.idxS {x ix : Operand} {b o m k cap sz : Nat} {sp : Option Nat} {kd : IntKind} {j : Int} {a' : Addr} (hx : ev L x = some (.slice (some ⟨b, o, sp⟩) k cap)) (hi : ev L ix = some (.int kd j)) (hj : j = (m : Int)) (hm : m < k)
    (ha : (⟨b, o + m * sz, sp⟩ : Addr) = a') : OpV C (.idxS x ix sz) L H (.pointer (some a')) H := fun t ht => by
  subst hj; subst ha
  have : natOf (.int kd (m : Int)) = some m := rfl
  simp only [opA, ev_ok ht hx, ev_ok ht hi, oIdxS, this, blt_of hm, cond_true, ptrAt, Addr.plus]

/-- Addresses. -/
theorem addr01 (b m : Nat) (sp : Option Nat) : (⟨b, 0 + m * 1, sp⟩ : Addr) = ⟨b, m, sp⟩ := by rw [Nat.zero_add, Nat.mul_one]
theorem addr1 (b o m : Nat) (sp : Option Nat) : (⟨b, o + m * 1, sp⟩ : Addr) = ⟨b, o + m, sp⟩ := by rw [Nat.mul_one]
theorem addr0 (b m k : Nat) (sp : Option Nat) : (⟨b, 0 + m * k, sp⟩ : Addr) = ⟨b, m * k, sp⟩ := by rw [Nat.zero_add]

theorem OpV.load1 {x : Operand} {b u lo o : Nat} {ch : Ch} {cs : List Value} {v : Value} (hx : ev L x = some (.pointer (some ⟨b, o, some u⟩))) (hH : hasH M n H) (hm : (b, ch) ∈ M) (hc : ch.cellsAre u lo cs) (hlo : lo ≤ o)
    (hv : cs[o - lo]? = some v) : OpV C (.load1 x) L H v H := fun t ht => by
  simp only [opA, ev_ok ht hx, oLoad1, hH.read hm hc hlo hv, asVal]

theorem OpV.loadN {x : Operand} {b u lo o k : Nat} {ch : Ch} {cs l : List Value} (hx : ev L x = some (.pointer (some ⟨b, o, some u⟩))) (hH : hasH M n H) (hm : (b, ch) ∈ M) (hc : ch.cellsAre u lo cs) (hlo : lo ≤ o)
    (hk : o - lo + k ≤ cs.length) (hl : (cs.drop (o - lo)).take k = l) : OpV C (.loadN x k) L H (.agg l.toArray) H := fun t ht => by
  simp only [opA, ev_ok ht hx, oLoadN, hH.readN hm hc hlo hk, aggOf, asVal, hl]

theorem OpV.loadAll {x : Operand} {b u lo k : Nat} {ch : Ch} {cs : List Value} (hx : ev L x = some (.pointer (some ⟨b, lo, some u⟩))) (hH : hasH M n H) (hm : (b, ch) ∈ M) (hc : ch.cellsAre u lo cs)
    (hk : cs.length = k) : OpV C (.loadN x k) L H (.agg cs.toArray) H :=
  OpV.loadN hx hH hm hc (Nat.le_refl _) (by omega) (by simp [← hk])

theorem OpV.ext {x : Operand} {k : Nat} {vs : List Value} {v : Value} (hx : ev L x = some (.tuple vs.toArray)) (hv : vs[k]? = some v) : OpV C (.ext x k) L H v H := fun t ht => by
  have hv' : vs.toArray[k]? = some v := by simpa using hv
  simp only [opA, ev_ok ht hx, oExt, hv', asVal]

theorem OpV.fld {x : Operand} {off : Nat} {cs : List Value} {v : Value} (hx : ev L x = some (.agg cs.toArray)) (hv : cs[off]? = some v) : OpV C (.fld x off none) L H v H := fun t ht => by
  have hv' : cs.toArray[off]? = some v := by simpa using hv
  simp only [opA, ev_ok ht hx, oFld, partA, hv', asVal]
theorem OpV.idx {x ix : Operand} {k m sz : Nat} {kd : IntKind} {j : Int} {cs : Array Value} {v : Value} (hx : ev L x = some (.agg cs)) (hi : ev L ix = some (.int kd j)) (hj : j = (m : Int)) (hm : m < k) (hv : cs[m * sz]? = some v) :
    OpV C (.idx x ix k sz false) L H v H := fun t ht => by
  subst hj
  have : natOf (.int kd (m : Int)) = some m := rfl
  simp only [opA, ev_ok ht hx, ev_ok ht hi, oIdx, this, blt_of hm, cond_true, cond_false, partA, hv, asVal]
theorem OpV.len {x : Operand} {a : Option Addr} {k c : Nat} (hx : ev L x = some (.slice a k c)) : OpV C (.len x) L H (.int .i64 (k : Int)) H := fun t ht => by simp only [opA, ev_ok ht hx, oLen, goInt]

theorem OpV.not {x : Operand} {q : Bool} (hx : ev L x = some (.bool q)) : OpV C (.not x) L H (.bool (!q)) H := fun t ht => by simp only [opA, ev_ok ht hx, oNot]
theorem OpV.notT {x : Operand} (hx : ev L x = some (.bool true)) : OpV C (.not x) L H (.bool false) H := OpV.not hx
theorem OpV.notF {x : Operand} (hx : ev L x = some (.bool false)) : OpV C (.not x) L H (.bool true) H := OpV.not hx
theorem OpV.notP {x : Operand} {p : Prop} [Decidable p] (hx : ev L x = some (.bool (decide p))) : OpV C (.not x) L H (.bool (decide (¬p))) H := fun t ht => by
  have := OpV.not (C := C) (H := H) hx t ht
  rw [this]; by_cases h : p <;> simp [h]

theorem OpV.mkF {f : Fn} {a b : Array Operand} {va vb : List Value} (ha : evs L a.toList = some va) (hb : evs L b.toList = some vb) : OpV C (.mkF f a b) L H (.func f va.toArray vb.toArray) H := fun t ht => by
  have h1 : a.map (evalO t) = va.toArray := by apply Array.ext'; simp [evs_ok ht ha]
  have h2 : b.map (evalO t) = vb.toArray := by apply Array.ext'; simp [evs_ok ht hb]
  simp only [opA, h1, h2]

theorem OpV.mkI {ty : TypeId} {x : Operand} {v : Value} (hx : ev L x = some v) : OpV C (.mkI ty x) L H (.iface ty v) H := fun t ht => by simp only [opA, ev_ok ht hx]

theorem OpV.nilSl {neg : Bool} {x : Operand} {a : Option Addr} {k c : Nat} (hx : ev L x = some (.slice a k c)) : OpV C (.nilEq neg .sl x) L H (.bool (a.isNone != neg)) H := fun t ht => by simp only [opA, ev_ok ht hx, oNilEq]
theorem OpV.nilPtr {neg : Bool} {x : Operand} {a : Option Addr} (hx : ev L x = some (.pointer a)) : OpV C (.nilEq neg .ptr x) L H (.bool (a.isNone != neg)) H := fun t ht => by simp only [opA, ev_ok ht hx, oNilEq]

/-! Numbers. -/

theorem OpV.arith {op : BinOp} {k : IntKind} {x y : Operand} {a b : Int} {v : Value} (hx : ev L x = some (.int k a)) (hy : ev L y = some (.int k b)) (hv : ibinA op k a b = some v) : OpV C (.ibin op k x y) L H v H := fun t ht => by
  simp only [opA, ev_ok ht hx, ev_ok ht hy, oIbin, decide_true, Bool.and_self, cond_true, hv]

theorem OpV.add {x y : Operand} {a b : Int} (hx : ev L x = some (.int .i64 a)) (hy : ev L y = some (.int .i64 b)) (hr : -9223372036854775808 ≤ a + b ∧ a + b ≤ 9223372036854775807) : OpV C (.ibin .add .i64 x y) L H (.int .i64 (a + b)) H :=
  OpV.arith hx hy (by simp only [ibinA, fitI_wrap, IntWalk.i64_in _ hr])
theorem OpV.sub {x y : Operand} {a b : Int} (hx : ev L x = some (.int .i64 a)) (hy : ev L y = some (.int .i64 b)) (hr : -9223372036854775808 ≤ a - b ∧ a - b ≤ 9223372036854775807) : OpV C (.ibin .sub .i64 x y) L H (.int .i64 (a - b)) H :=
  OpV.arith hx hy (by simp only [ibinA, fitI_wrap, IntWalk.i64_in _ hr])
theorem OpV.mul {x y : Operand} {a b : Int} (hx : ev L x = some (.int .i64 a)) (hy : ev L y = some (.int .i64 b)) (hr : -9223372036854775808 ≤ a * b ∧ a * b ≤ 9223372036854775807) : OpV C (.ibin .mul .i64 x y) L H (.int .i64 (a * b)) H :=
  OpV.arith hx hy (by simp only [ibinA, fitI_wrap, IntWalk.i64_in _ hr])
theorem OpV.ne {k : IntKind} {x y : Operand} {a b : Int} (hx : ev L x = some (.int k a)) (hy : ev L y = some (.int k b)) : OpV C (.ibin .neq k x y) L H (.bool (decide (a ≠ b))) H :=
  OpV.arith hx hy (by simp only [ibinA]; congr 2; by_cases h : a = b <;> simp [h])
theorem OpV.lt {k : IntKind} {x y : Operand} {a b : Int} (hx : ev L x = some (.int k a)) (hy : ev L y = some (.int k b)) : OpV C (.ibin .lss k x y) L H (.bool (decide (a < b))) H := OpV.arith hx hy rfl
theorem OpV.le {k : IntKind} {x y : Operand} {a b : Int} (hx : ev L x = some (.int k a)) (hy : ev L y = some (.int k b)) : OpV C (.ibin .leq k x y) L H (.bool (decide (a ≤ b))) H := OpV.arith hx hy rfl
theorem OpV.gt {k : IntKind} {x y : Operand} {a b : Int} (hx : ev L x = some (.int k a)) (hy : ev L y = some (.int k b)) : OpV C (.ibin .gtr k x y) L H (.bool (decide (b < a))) H := OpV.arith hx hy rfl
theorem OpV.ge {k : IntKind} {x y : Operand} {a b : Int} (hx : ev L x = some (.int k a)) (hy : ev L y = some (.int k b)) : OpV C (.ibin .geq k x y) L H (.bool (decide (b ≤ a))) H := OpV.arith hx hy rfl

theorem OpV.other {op : BinOp} {k : IntKind} {x y : Operand} {a b : Int} {v : Value} (hx : ev L x = some (.int k a)) (hy : ev L y = some (.int k b)) (hn : ibinA op k a b = none) (hv : pureRun C.c.P (binOp op 0 (.int k a) (.int k b)) = some v) (hp : plainV v = true) :
    OpV C (.ibin op k x y) L H v H := fun t ht => by
  simp only [opA, ev_ok ht hx, ev_ok ht hy, oIbin, decide_true, Bool.and_self, cond_true, hn, hv, asPlain, hp]

theorem OpV.rem {k : IntKind} {x y : Operand} {a b : Int} (hx : ev L x = some (.int k a)) (hy : ev L y = some (.int k b)) (ha : 0 ≤ a) (hb : 0 < b) : OpV C (.ibin .rem k x y) L H (.int k (a % b)) H := by
  refine OpV.other hx hy rfl ?_ rfl
  have hb' : b ≠ 0 := by omega
  simp only [binOp, ne_eq, not_true_eq_false, if_false, Op.intDiv, hb']
  rw [Int.tmod_eq_emod_of_nonneg ha]; rfl
theorem OpV.quo {x y : Operand} {a b : Int} (hx : ev L x = some (.int .i64 a)) (hy : ev L y = some (.int .i64 b)) (ha : 0 ≤ a ∧ a ≤ 9223372036854775807) (hb : 1 ≤ b) : OpV C (.ibin .quo .i64 x y) L H (.int .i64 (a / b)) H := by
  refine OpV.other hx hy rfl ?_ rfl
  have hb' : b ≠ 0 := by omega
  simp only [binOp, ne_eq, not_true_eq_false, if_false, Op.intDiv, hb']
  rw [IntWalk.i64_quo a b ⟨ha.1, ha.2, hb⟩]; rfl

/-! Plain operations. -/

theorem OpV.plain {o : Oper} {v : Value} (hv : ∀ t, has L t → pureNext C.c.P (execOp (evalO t) o) = some v) (ho : ∀ t, has L t → o.op.operands.toList.all (fun x => plainV (evalO t x)) = true) (hp : plainV v = true) : OpV C (.plain o) L H v H := fun t ht => by
  simp only [opA, oPlain, ho t ht, cond_true, hv t ht, asPlain, hp]

theorem OpV.max {dst : Option Tmp} {x y : Operand} {ts : Array TypeId} {ty : TypeId} {pos : String} {af : Array Edge} {g : Option (Nat × Bool)} {k k' : IntKind} {a b : Int} (hx : ev L x = some (.int k a)) (hy : ev L y = some (.int k' b)) :
    OpV C (.plain ⟨dst, .call ⟨.builtin .max, #[x, y], ts⟩, ty, pos, af, g⟩) L H (.int k (if b > a then b else a)) H :=
  OpV.plain (fun t ht => by
    have hm : (#[x, y] : Array Operand).map (evalO t) = #[.int k a, .int k' b] := by simp [ev_ok ht hx, ev_ok ht hy]
    simp only [execOp, resolve, hm]
    rfl) (fun t ht => by simp [Op.operands, Call.operands, ev_ok ht hx, ev_ok ht hy, plainV, plain1]) rfl
theorem OpV.min {dst : Option Tmp} {x y : Operand} {ts : Array TypeId} {ty : TypeId} {pos : String} {af : Array Edge} {g : Option (Nat × Bool)} {k k' : IntKind} {a b : Int} (hx : ev L x = some (.int k a)) (hy : ev L y = some (.int k' b)) :
    OpV C (.plain ⟨dst, .call ⟨.builtin .min, #[x, y], ts⟩, ty, pos, af, g⟩) L H (.int k (if b < a then b else a)) H :=
  OpV.plain (fun t ht => by
    have hm : (#[x, y] : Array Operand).map (evalO t) = #[.int k a, .int k' b] := by simp [ev_ok ht hx, ev_ok ht hy]
    simp only [execOp, resolve, hm]
    rfl) (fun t ht => by simp [Op.operands, Call.operands, ev_ok ht hx, ev_ok ht hy, plainV, plain1]) rfl

theorem pureRun_bind {α β : Type} (P : Program) (f : α → Sem β) : ∀ (s : Sem α), pureRun P (s >>= f) = (pureRun P s).bind (fun a => pureRun P (f a))
  | .pure a => rfl
  | .program k => pureRun_bind P f (k P)
  | .load _ _ _ => rfl
  | .store _ _ _ _ => rfl
  | .new _ _ => rfl
  | .shape _ _ => rfl
  | .freeze _ _ _ => rfl
  | .frozen _ _ => rfl
  | .getObj _ _ => rfl
  | .setObj _ _ _ => rfl
  | .choose _ _ => rfl
  | .sys _ _ => rfl
  | .mark _ _ => rfl
  | .halt _ => rfl

theorem pureRun_underlying (P : Program) {t : TypeId} {d : TypeDesc} (h : P.underlying t = some d) : pureRun P (underlying t) = some d := by
  have e : pureRun P (program : Sem Program) = some P := rfl
  simp only [underlying, pureRun_bind, e, Option.bind_some, h]; rfl

theorem OpV.conv {dst : Option Tmp} {x : Operand} {s t' ty : TypeId} {pos : String} {af : Array Edge} {g : Option (Nat × Bool)} {k k1 : IntKind} {a c : Int} (h1 : C.c.P.underlying s = some (.int k1)) (h2 : C.c.P.underlying t' = some (.int k)) (hx : ev L x = some (.int k1 a)) (hw : k.wrap a = c) :
    OpV C (.plain ⟨dst, .convert s t' x, ty, pos, af, g⟩) L H (.int k c) H := by
  subst hw
  refine OpV.plain (fun t ht => ?_) (fun t ht => by simp [Op.operands, ev_ok ht hx, plainV, plain1]) rfl
  have e2 : pureRun C.c.P (convert s t' (.int k1 a)) = some (.int k (k.wrap a)) := by
    simp only [convert, pureRun_bind, pureRun_underlying C.c.P h1, pureRun_underlying C.c.P h2, Option.bind_some]
    rfl
  simp only [pureNext, execOp, ev_ok ht hx, pureRun_bind, e2, Option.bind_some]
  rfl

/-! ### Memory -/

theorem WR.new {i d : Nat} {e : TypeId} {z : List Value} {lo : List Nat} {l : List POp} {gd : Option (Tmp × Bool)} (hg : gOK L gd) (hd : Nat.blt d nt = true) (hH : hasH M n H) (hz : z.all one = true)
    (k : ∀ H', hasH ((n, .row e 0 0 z) :: M) (n + 1) H' → WR C nt l ((d, .pointer (some ⟨n, 0, some 0⟩)) :: L) D H' K) : WR C nt (⟨i, some d, .new e z, gd, lo⟩ :: l) L D H K := by
  refine WR.op hg hd (H' := H.row e z) (v := .pointer (some ⟨n, 0, some 0⟩)) (fun t ht => ?_) (k _ (hH.row e hz))
  simp only [opA, oNew, newAddr, hH.next]

theorem WR.box {i d : Nat} {e : TypeId} {x : Operand} {v : Value} {cs : List Value} {lo : List Nat} {l : List POp} {gd : Option (Tmp × Bool)} (hg : gOK L gd) (hd : Nat.blt d nt = true) (hH : hasH M n H) (hx : ev L x = some v) (hc : v.cells.toList = cs) (hz : cs.all one = true)
    (k : ∀ H', hasH ((n, .row e 0 0 cs) :: M) (n + 1) H' → WR C nt l ((d, .pointer (some ⟨n, 0, some 0⟩)) :: L) D H' K) : WR C nt (⟨i, some d, .box e x, gd, lo⟩ :: l) L D H K := by
  refine WR.op hg hd (H' := H.row e cs) (v := .pointer (some ⟨n, 0, some 0⟩)) (fun t ht => ?_) (k _ (hH.row e hz))
  simp only [opA, ev_ok ht hx, hc, oNew, newAddr, hH.next]

theorem all_nil : ([] : List Value).all one = true := rfl
theorem all_cons {v : Value} {l : List Value} (h : one v = true) (k : l.all one = true) : (v :: l).all one = true := by rw [List.all_cons, h, k]; rfl

theorem WR.box1 {i d : Nat} {e : TypeId} {x : Operand} {v : Value} {lo : List Nat} {l : List POp} {gd : Option (Tmp × Bool)} (hg : gOK L gd) (hd : Nat.blt d nt = true) (hH : hasH M n H) (hx : ev L x = some v) (hz : one v = true)
    (k : ∀ H', hasH ((n, .row e 0 0 [v]) :: M) (n + 1) H' → WR C nt l ((d, .pointer (some ⟨n, 0, some 0⟩)) :: L) D H' K) : WR C nt (⟨i, some d, .box e x, gd, lo⟩ :: l) L D H K :=
  WR.box hg hd hH hx (by cases v <;> first | rfl | cases hz) (by simp [hz]) k
theorem WR.boxA {i d : Nat} {e : TypeId} {x : Operand} {cs : List Value} {lo : List Nat} {l : List POp} {gd : Option (Tmp × Bool)} (hg : gOK L gd) (hd : Nat.blt d nt = true) (hH : hasH M n H) (hx : ev L x = some (.agg cs.toArray)) (hz : cs.all one = true)
    (k : ∀ H', hasH ((n, .row e 0 0 cs) :: M) (n + 1) H' → WR C nt l ((d, .pointer (some ⟨n, 0, some 0⟩)) :: L) D H' K) : WR C nt (⟨i, some d, .box e x, gd, lo⟩ :: l) L D H K :=
  WR.box hg hd hH hx (by simp [Value.cells]) hz k

theorem WR.storeL {i : Nat} {x y : Operand} {v : Value} {b e u lo o sz : Nat} {cs ls cs' : List Value} {lo' : List Nat} {l : List POp} {gd : Option (Tmp × Bool)} (hg : gOK L gd) (hH : hasH M n H) (hx : ev L x = some (.pointer (some ⟨b, o, some u⟩))) (hy : ev L y = some v)
    (hc : v.cells.toList = ls) (hs : ls.length = sz) (hu : Upd M b (.row e u lo cs) (.row e u lo cs') M') (hl : ls.all one = true) (hlo : lo ≤ o) (hk : o - lo + ls.length ≤ cs.length) (hcs : cs' = splice cs (o - lo) ls)
    (k : ∀ H', hasH M' n H' → WR C nt l L D H' K) : WR C nt (⟨i, none, .store x y sz, gd, lo'⟩ :: l) L D H K := by
  obtain ⟨H', h1, h2⟩ := hH.writeN hu hl hlo hk hcs
  refine WR.op0 hg (H' := H') (v := undef) (fun t ht => ?_) (k _ h2)
  have hb : Nat.beq ls.length sz = true := by rw [hs]; exact Nat.beq_refl _
  simp only [opA, ev_ok ht hx, ev_ok ht hy, hc, oStore, hb, cond_true, h1, asSkip]

/-- One cell. -/
theorem WR.store1 {i : Nat} {x y : Operand} {v : Value} {b e u lo o : Nat} {cs cs' : List Value} {lo' : List Nat} {l : List POp} {gd : Option (Tmp × Bool)} (hg : gOK L gd) (hH : hasH M n H) (hx : ev L x = some (.pointer (some ⟨b, o, some u⟩))) (hy : ev L y = some v)
    (h1 : one v = true) (hu : Upd M b (.row e u lo cs) (.row e u lo cs') M') (hlo : lo ≤ o) (hk : o - lo < cs.length) (hcs : cs' = cs.set (o - lo) v)
    (k : ∀ H', hasH M' n H' → WR C nt l L D H' K) : WR C nt (⟨i, none, .store x y 1, gd, lo'⟩ :: l) L D H K := by
  refine WR.storeL hg hH hx hy (ls := [v]) ?_ rfl hu (by simp [h1]) hlo (by simp; omega) (by rw [hcs, splice_one hk]) k
  cases v <;> first | rfl | cases h1

/-- All cells. -/
theorem WR.storeAll {i : Nat} {x y : Operand} {v : Value} {b e u lo sz : Nat} {cs ls : List Value} {lo' : List Nat} {l : List POp} {gd : Option (Tmp × Bool)} (hg : gOK L gd) (hH : hasH M n H) (hx : ev L x = some (.pointer (some ⟨b, lo, some u⟩))) (hy : ev L y = some v)
    (hc : v.cells.toList = ls) (hs : ls.length = sz) (hu : Upd M b (.row e u lo cs) (.row e u lo ls) M') (hl : ls.all one = true) (hk : ls.length = cs.length)
    (k : ∀ H', hasH M' n H' → WR C nt l L D H' K) : WR C nt (⟨i, none, .store x y sz, gd, lo'⟩ :: l) L D H K :=
  WR.storeL hg hH hx hy hc hs hu hl (Nat.le_refl _) (by omega) (by rw [Nat.sub_self, splice_whole hk]) k

/-! ### Calls -/

theorem WR.req {i d : Nat} {op : AOp} {lo : List Nat} {l : List POp} {gd : Option (Tmp × Bool)} {g : FuncId} {vs : List Value} (hg : gOK L gd) (hd : Nat.blt d nt = true) (hv : ∀ t, has L t → opA C.c.P op (evalO t) H = .call g vs) {R : Value → Heap → Prop} (hc : FS C g vs H R)
    (k : ∀ v H', R v H' → WR C nt l ((d, v) :: L) D H' K) : WR C nt (⟨i, some d, op, gd, lo⟩ :: l) L D H K := by
  obtain ⟨v, H1, ⟨m1, h1⟩, h2⟩ := hc
  intro t ht
  obtain ⟨m2, s', h3, h4⟩ := k v H1 h2 _ (ht.put d v)
  refine ⟨max m1 m2, s', ?_, h4⟩
  simp only [stepOps, doOp, hg.wanted ht, cond_true, hv t ht, ans, run_mono (Nat.le_max_left m1 m2) _ _ h1, afterOp, putT, hd, stOf]
  exact stepOps_mono (run_mono (Nat.le_max_right m1 m2)) h3
theorem WR.call {i d : Nat} {g : FuncId} {xs : List Operand} {vs : List Value} {lo : List Nat} {l : List POp} {gd : Option (Tmp × Bool)} (hg : gOK L gd) (hd : Nat.blt d nt = true) (hx : evs L xs = some vs) {R : Value → Heap → Prop} (hc : FS C g vs H R)
    (k : ∀ v H', R v H' → WR C nt l ((d, v) :: L) D H' K) : WR C nt (⟨i, some d, .callF g xs, gd, lo⟩ :: l) L D H K :=
  WR.req hg hd (fun t ht => by simp only [opA, evs_ok ht hx]) hc k
theorem WR.callV {i d : Nat} {f : Operand} {g : FuncId} {va vb : List Value} {xs : List Operand} {vs : List Value} {lo : List Nat} {l : List POp} {gd : Option (Tmp × Bool)} (hg : gOK L gd) (hd : Nat.blt d nt = true) (hf : ev L f = some (.func (.func g) va.toArray vb.toArray)) (hx : evs L xs = some vs)
    {R : Value → Heap → Prop} (hc : FS C g (va ++ vs ++ vb) H R) (k : ∀ v H', R v H' → WR C nt l ((d, v) :: L) D H' K) : WR C nt (⟨i, some d, .callV f xs, gd, lo⟩ :: l) L D H K :=
  WR.req hg hd (fun t ht => by simp only [opA, ev_ok ht hf, evs_ok ht hx, callVA]) hc k
theorem WR.yield {i d : Nat} {f : Operand} {y : Nat} {xs : List Operand} {vs : List Value} {lo : List Nat} {l : List POp} {gd : Option (Tmp × Bool)} (hg : gOK L gd) (hd : Nat.blt d nt = true) (hf : ev L f = some (.func (.yield y) #[] #[])) (hx : evs L xs = some vs)
    {R : Value → Heap → Prop} (hc : YS C y vs H R) (k : ∀ v H', R v H' → WR C nt l ((d, v) :: L) D H' K) : WR C nt (⟨i, some d, .callV f xs, gd, lo⟩ :: l) L D H K := by
  obtain ⟨v, H1, ⟨m1, h1⟩, h2⟩ := hc
  intro t ht
  obtain ⟨m2, s', h3, h4⟩ := k v H1 h2 _ (ht.put d v)
  refine ⟨max m1 m2, s', ?_, h4⟩
  have hv : opA C.c.P (.callV f xs) (evalO t) H = .yield y vs := by simp only [opA, ev_ok ht hf, evs_ok ht hx, callVA]; rfl
  simp only [stepOps, doOp, hg.wanted ht, cond_true, hv, ans, run_mono (Nat.le_max_left m1 m2) _ _ h1, afterOp, putT, hd, stOf]
  exact stepOps_mono (run_mono (Nat.le_max_right m1 m2)) h3

end
end Go.Abs
