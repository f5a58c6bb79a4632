/- The evaluator's runs are the machine's. -/
import Derived.Test.YtbnggdekpiopmaaAbsOps3
import Derived.Test.YtbnggdekpiopmaaAbsDraw
namespace Go.Abs
open Go
set_option linter.unusedVariables false
set_option linter.unusedSimpArgs false

structure CtxOK (C : Ctx) : Prop where
  mixed : C.P.follows .mixedOrders = true
  funcs : ∀ f pf, C.funcs.get f = some pf → prepF C.P f = some pf

inductive DR (σ : Ren) : List Nat → List Deferred → Prop where
  | nil : DR σ [] []
  | cons {b blk : Nat} {d : List Nat} {ds : List Deferred} (h : σ.obj b = some blk) (k : DR σ d ds) : DR σ (b :: d) ({ target := .collected blk, args := #[] } :: ds)

inductive RoR (σ : Ren) : Option Nat → Option Nat → Prop where
  | none : RoR σ none none
  | some {l blk : Nat} (h : σ.obj l = some blk) : RoR σ (some l) (some blk)

theorem DR.le {σ τ : Ren} (k : σ.le τ) {d ds} (h : DR σ d ds) : DR τ d ds := by
  induction h with
  | nil => exact .nil
  | cons h _ ih => exact .cons (k.2 _ _ h) ih

theorem RoR.le {σ τ : Ren} (k : σ.le τ) {d ds} (h : RoR σ d ds) : RoR τ d ds := by
  cases h with
  | none => exact .none
  | some h => exact .some (k.2 _ _ h)

/-- Where the machine comes. -/
def ArrR (P : Program) (m : Machine) (b : Frame) (k : List Item) (cs : List Frame) : Ex → Act → World → Prop
  | .normal, a, w => Steps P m (lone (b.atR a k) cs w)
  | .exit id, a, w => (∀ k', exitTo id k = some k' → Steps P m (lone (b.atR a k') cs w)) ∧
      (exitTo id k = none → ∃ k1, exitTo id k1 = none ∧ Steps P m (lone (b.atR a (.code (.exit id) :: k1)) cs w))
  | .goto l, a, w => (∀ k', gotoIn l k = some k' → Steps P m (lone (b.atR a k') cs w)) ∧
      (gotoIn l k = none → ∃ k1, gotoIn l k1 = none ∧ Steps P m (lone (b.atR a (.code (.goto l) :: k1)) cs w))
  | .ret, a, w => ∃ k1, Steps P m (lone (b.atR a (.code .ret :: k1)) cs w)

theorem ArrR.of_steps {P : Program} {m m1 : Machine} {b : Frame} {k : List Item} {cs : List Frame} {e : Ex} {a : Act} {w : World} (h : Steps P m m1) (h' : ArrR P m1 b k cs e a w) : ArrR P m b k cs e a w := by
  cases e with
  | normal => exact h.trans h'
  | exit id => exact ⟨fun k' hk => h.trans (h'.1 k' hk), fun hk => by obtain ⟨k1, q1, q2⟩ := h'.2 hk; exact ⟨k1, q1, h.trans q2⟩⟩
  | goto id => exact ⟨fun k' hk => h.trans (h'.1 k' hk), fun hk => by obtain ⟨k1, q1, q2⟩ := h'.2 hk; exact ⟨k1, q1, h.trans q2⟩⟩
  | ret => obtain ⟨k1, q⟩ := h'; exact ⟨k1, h.trans q⟩

theorem ArrR.jump {P : Program} {b : Frame} {a : Act} {k : List Item} {cs : List Frame} {w : World} {m : Machine} (e : Ex) (c : Code) (hc : match e with | .normal => False | .exit id => c = .exit id | .goto l => c = .goto l | .ret => c = .ret)
    (h : Steps P m (lone (b.atR a (.code c :: k)) cs w)) : ArrR P m b k cs e a w := by
  cases e with
  | normal => exact hc.elim
  | exit id => subst hc; exact ⟨fun k' hk => h.trans (.one (stepR_exit hk)), fun hk => ⟨k, hk, h⟩⟩
  | goto id => subst hc; exact ⟨fun k' hk => h.trans (.one (stepR_goto hk)), fun hk => ⟨k, hk, h⟩⟩
  | ret => subst hc; exact ⟨k, h⟩

/-- Passing an item that no jump looks at. -/
theorem ArrR.pass {P : Program} {m : Machine} {b : Frame} {x : Item} {k : List Item} {cs : List Frame} {e : Ex} {a : Act} {w : World} (hx : x.plain = true) (he : e ≠ .normal) (h : ArrR P m b (x :: k) cs e a w) :
    ArrR P m b k cs e a w := by
  have e1 : ∀ id, exitTo id (x :: k) = exitTo id k := fun id => by cases x <;> simp_all [exitTo, Item.plain]
  have e2 : ∀ id, gotoIn id (x :: k) = gotoIn id k := fun id => by cases x <;> simp_all [gotoIn, Item.plain]
  cases e with
  | normal => exact absurd rfl he
  | exit id => simp only [ArrR, e1] at h; exact h
  | goto id => simp only [ArrR, e2] at h; exact h
  | ret => exact h

/-- A state of the evaluator, and the machine's. -/
structure At (P : Program) (σ : Ren) (N nt : Nat) (s : St) (a : Act) (w : World) : Prop where
  heap : HR P σ N s.H w
  tmps : TR σ nt s.t a.tmps
  defers : DR σ s.d a.defers

def SaidCode (C : Ctx) (ro : Option Nat) (fn : FuncId) (nt : Nat) (c : PC) (s : St) (e : Ex) (s' : St) : Prop :=
  ∀ bc pb, c = .loop pb → prepC C.P bc = some pb → ∀ σ N w a b k cs, At C.P σ N nt s a w → RoR σ ro b.roundOf → b.fn = fn →
    ∃ τ w' a', σ.le τ ∧ At C.P τ N nt s' a' w' ∧ Fr σ s.H w τ s'.H w' ∧ ArrR C.P (lone (b.atR a (.inLoop bc :: k)) cs w) b k cs e a' w'

def SaidScope (C : Ctx) (ro : Option Nat) (fn : FuncId) (nt : Nat) (whole c : PC) (s : St) (e : Ex) (s' : St) : Prop :=
  ∀ wc code, prepC C.P wc = some whole → prepC C.P code = some c → ∀ σ N w a b k cs, At C.P σ N nt s a w → RoR σ ro b.roundOf → b.fn = fn →
    ∃ τ w' a', σ.le τ ∧ At C.P τ N nt s' a' w' ∧ Fr σ s.H w τ s'.H w' ∧ ArrR C.P (lone (b.atR a (.code code :: .inScope wc :: k)) cs w) b k cs e a' w'

def SaidCall (C : Ctx) (f : FuncId) (args : List Value) (H : Heap) (v : Value) (H' : Heap) : Prop :=
  (∀ args w, (callFunc f args).run C.P w = .ok (.enter f args) w) ∧
  ∀ σ N w (args' : Array Value), HR C.P σ N H w → VL σ args args'.toList → ∀ cs, ∃ τ w' v' fr, σ.le τ ∧ HR C.P τ N H' w' ∧ VR τ v v' ∧ Fr σ H w τ H' w' ∧
    Steps C.P (lone (Frame.enter C.P f args' .normal) cs w) (lone fr cs w') ∧ fr.fn = f ∧ fr.leaving C.P w' (.returned v')

def SaidYield (C : Ctx) (l : Nat) (args : List Value) (H : Heap) (v : Value) (H' : Heap) : Prop :=
  ∀ σ N w (args' : Array Value) blk, HR C.P σ N H w → VL σ args args'.toList → σ.obj l = some blk → ∃ f tmps asg body, (Instr.yield blk args').run C.P w = .ok (.round blk f tmps asg body) w ∧
    ∀ c cs, ∃ τ w' v', σ.le τ ∧ HR C.P τ N H' w' ∧ VR τ v v' ∧ Fr σ H w τ H' w' ∧ Steps C.P (lone (Frame.round blk f tmps asg body .normal) (c :: cs) w) (lone (c.finish v') cs w')

def Said (C : Ctx) : Req → Resp → Prop
  | .code ro fn nt c s, .code e s' => SaidCode C ro fn nt c s e s'
  | .scope ro fn nt whole c s, .code e s' => SaidScope C ro fn nt whole c s e s'
  | .call f args H, .val v H' => SaidCall C f args H v H'
  | .yield l args H, .val v H' => SaidYield C l args H v H'
  | .code _ _ _ _ _, .val _ _ => True
  | .scope _ _ _ _ _ _, .val _ _ => True
  | _, _ => False

section
variable {C : Ctx} {σ : Ren} {N nt : Nat} {s : St} {a : Act} {w : World}

theorem TR.put {t t' : Tr Value} (h : TR σ nt t a.tmps) {dst : Option Tmp} {v v' : Value} (hv : VR σ v v') (hp : putT nt t dst v = some t') : TR σ nt t' (a.put dst v').tmps := by
  unfold putT at hp
  cases dst with
  | none => cases hp; exact h
  | some n =>
    obtain ⟨hb, hp⟩ := bif_some hp
    cases hp
    have hn : n < nt := Nat.le_of_ble_eq_true hb
    refine ⟨by simp [Act.put, h.size], fun i => ?_⟩
    have hs := h.size
    by_cases hi : i = n
    · have hlt : i < a.tmps.size := by rw [hs, hi]; exact hn
      subst hi
      simp only [evalO, Tr.get_put, if_true, Act.put]
      rw [Array.getD_eq_getD_getElem?, Array.getElem?_setIfInBounds_self_of_lt hlt]
      exact hv
    · have := h.get i
      simp only [evalO, Tr.get_put, if_neg hi, Act.put]
      rw [Array.getD_eq_getD_getElem?, Array.getElem?_setIfInBounds_ne (fun e => hi e.symm), ← Array.getD_eq_getD_getElem?]
      exact this

theorem eval_VR (h : TR σ nt s.t a.tmps) {x : Operand} (hx : opdOK x = true) : VR σ (evalO s.t x) (a.eval x) := by
  cases x with
  | tmp n => exact h.get n
  | const v => exact VR.refl_plain hx
  | global g => cases hx
  | func g => exact .fn _ (by simp) rfl (by simp) rfl (by simp)

theorem wanted_eq {ops : Array Oper} {o : Oper} {g : Option (Tmp × Bool)} (hg : prepGuard ops o = some g) {po : POp} (hpo : po.guard = g) (h : TR σ nt s.t a.tmps) : Region.wanted o (yielded ops a.tmps) = wantedA s.t po := by
  unfold prepGuard at hg
  cases hgd : o.guard with
  | none => rw [hgd] at hg; cases hg; simp [Region.wanted, hgd, wantedA, hpo]
  | some p =>
    obtain ⟨j, want⟩ := p
    rw [hgd] at hg
    simp only at hg
    split at hg
    · rename_i q hq
      split at hg
      · rename_i d hd
        cases hg
        have hv := h.get d
        simp only [Region.wanted, hgd, wantedA, hpo, yielded, hq, Option.bind_some, hd]
        simp only [evalO] at hv
        rw [Array.getD_eq_getD_getElem?] at hv
        cases hc : s.t.get d with
        | none =>
          rw [hc] at hv
          cases he : a.tmps[d]? with
          | none => rfl
          | some y => rw [he] at hv; simp only [Option.getD_some] at hv; cases hv; rfl
        | some x =>
          rw [hc] at hv
          simp only at hv
          cases he : a.tmps[d]? with
          | none => rw [he] at hv; simp only [Option.getD_none] at hv; cases hv; rfl
          | some y =>
            rw [he] at hv; simp only [Option.getD_some] at hv
            cases hv <;> first | rfl | (rename_i b; cases b <;> cases want <;> rfl)
      · cases hg
    · cases hg

/-- An object turns. -/
theorem upd_sound {P : Program} {H : Heap} (h : HR P σ N H w) {f : Nat} {o o2 : Ent} {o1 : Obj} {blk : Nat} (hg : H.t.get f = some o) (hno : ∀ e ro vs top c, o ≠ .cells e ro vs top c) (hno2 : ∀ e ro vs top c, o2 ≠ .cells e ro vs top c)
    (hb : σ.obj f = some blk) (ho : OR P σ o2 o1) :
    HR P σ N (H.upd f o2) { w with heap := w.heap.setIfInBounds blk o1 } ∧ Fr σ H w σ (H.upd f o2) { w with heap := w.heap.setIfInBounds blk o1 } := by
  obtain ⟨b', o', q1, q2, q3, q4⟩ := h.objs f o hg hno
  rw [hb] at q1; cases q1
  have hlt := (Array.getElem?_eq_some_iff.1 q3).1
  have hat : (w.heap.setIfInBounds blk o1)[blk]? = some o1 := Array.getElem?_setIfInBounds_self_of_lt hlt
  have hoth : ∀ c, c ≠ blk → (w.heap.setIfInBounds blk o1)[c]? = w.heap[c]? := fun c hc => Array.getElem?_setIfInBounds_ne (fun e => hc e.symm)
  have hcell : ∀ {g e ro vs top c}, (H.upd f o2).t.get g = some (.cells e ro vs top c) → H.t.get g = some (.cells e ro vs top c) := by
    intro g e ro vs top c hg2
    rw [get_upd] at hg2
    by_cases hh : g = f
    · subst hh; rw [if_pos rfl] at hg2; cases hg2; exact absurd rfl (hno2 _ _ _ _ _)
    · rw [if_neg hh] at hg2; exact hg2
  have hrow : ∀ {g ro top c v l}, RowAt σ N w g ro top c v l → l.blk ≠ blk := by
    intro g ro top c v l hr he
    obtain ⟨cs, e, fz, k1, _⟩ := hr.blk
    rw [he, q3] at k1; cases k1; exact q4.notCells _ _ _ rfl
  constructor
  · constructor
    · intro g e ro vs top c hg2 v hv
      obtain ⟨l, hl⟩ := h.rows g e ro vs top c (hcell hg2) v hv
      exact ⟨l, hl.world (hoth _ (hrow hl))⟩
    · intro f1 f2 e1 e2 r1 r2 vs1 vs2 t1 t2 c1 c2 h1 h2
      exact h.uniq f1 f2 _ _ _ _ _ _ _ _ _ _ (hcell h1) (hcell h2)
    · intro g o3 hg2 hn3
      rw [get_upd] at hg2
      by_cases hh : g = f
      · subst hh; rw [if_pos rfl] at hg2; cases hg2
        exact ⟨blk, o1, hb, q2, hat, ho⟩
      · rw [if_neg hh] at hg2
        obtain ⟨b2, o4, p1, p2, p3, p4⟩ := h.objs g o3 hg2 hn3
        refine ⟨b2, o4, p1, p2, (hoth b2 (fun he => ?_)).trans p3, p4⟩
        subst he
        exact hh (h.uniqO g f _ _ _ hg2 hn3 hg hno p1 hb)
    · intro g1 g2 o3 o4 b h1 n1 h2 n2 h3 h4
      rw [get_upd] at h1 h2
      have A : ∃ o5, H.t.get g1 = some o5 ∧ ∀ e ro vs top c, o5 ≠ .cells e ro vs top c := by
        by_cases hh : g1 = f
        · exact ⟨o, hh ▸ hg, hno⟩
        · rw [if_neg hh] at h1; exact ⟨_, h1, n1⟩
      have B : ∃ o5, H.t.get g2 = some o5 ∧ ∀ e ro vs top c, o5 ≠ .cells e ro vs top c := by
        by_cases hh : g2 = f
        · exact ⟨o, hh ▸ hg, hno⟩
        · rw [if_neg hh] at h2; exact ⟨_, h2, n2⟩
      obtain ⟨_, A1, A2⟩ := A
      obtain ⟨_, B1, B2⟩ := B
      exact h.uniqO g1 g2 _ _ b A1 A2 B1 B2 h3 h4
    · intro g hgn
      have hgn' : H.next ≤ g := hgn
      obtain ⟨p1, p2, p3⟩ := h.next g hgn'
      refine ⟨p1, p2, ?_⟩
      rw [get_upd, if_neg (fun he => by subst he; rw [hg] at p3; cases p3)]; exact p3
    · intro g e ro vs top c hg2 u hu
      exact h.tops _ _ _ _ _ _ (hcell hg2) u hu
    · show N ≤ (w.heap.setIfInBounds blk o1).size
      rw [Array.size_setIfInBounds]; exact h.size
  · refine ⟨by simp, rfl, rfl, fun b hb1 hb2 => hoth b (fun he => hb2 (.inr ⟨f, o, hg, hno, he ▸ hb⟩)), ?_, ?_, ?_⟩
    · rintro b hb1 (⟨g, e, vs, top, c, v, l, p1, p2, p3, p4⟩ | ⟨g, o3, p1, p2, p3⟩)
      · exact .inl ⟨g, e, vs, top, c, v, l, hcell p1, p2, p3, p4⟩
      · rw [get_upd] at p1
        by_cases hh : g = f
        · subst hh; exact .inr ⟨g, o, hg, hno, p3⟩
        · rw [if_neg hh] at p1; exact .inr ⟨g, o3, p1, p2, p3⟩
    · intro b cs e fz hb1 hc
      have hc' : (w.heap.setIfInBounds blk o1)[b]? = some (.cells cs e fz) := hc
      by_cases hh : b = blk
      · subst hh; rw [hat] at hc'; cases hc'; exact absurd rfl (ho.notCells _ _ _)
      · rw [hoth b hh] at hc'; exact ⟨_, hc'⟩
    · intro b cs e fz hb1 hc
      have hc' : (w.heap.setIfInBounds blk o1)[b]? = some (.cells cs e fz) := hc
      rw [hoth b (by omega), Array.getElem?_eq_none hb1] at hc'; cases hc'

/-- What an object is in the model. -/
theorem obj_at {P : Program} {H : Heap} (h : HR P σ N H w) {f : Nat} {r : LoopE} {blk : Nat} (hg : H.t.get f = some (.loop r)) (hb : σ.obj f = some blk) : ∃ r', w.heap[blk]? = some (.loop r') ∧ LR P σ r r' := by
  obtain ⟨b', o', q1, q2, q3, q4⟩ := h.objs f _ hg (by simp)
  rw [hb] at q1; cases q1
  cases q4 with
  | loop h => exact ⟨_, q3, h⟩

theorem run_getLoop {P : Program} {l : Nat} {r : Loop} (h : w.heap[l]? = some (.loop r)) : (Instr.getLoop l).run P w = .ok r w := by
  simp [Instr.getLoop, getObj, Sem.run, h]

theorem run_setLoop {P : Program} {l : Nat} {r r2 : Loop} (h : w.heap[l]? = some (.loop r)) : (setObj l (.loop r2)).run P w = .ok () { w with heap := w.heap.setIfInBounds l (.loop r2) } := by
  simp [setObj, Sem.run, h]

/-- One operation of a region, its turn having come. -/
theorem doOp_sound (hC : CtxOK C) {ih : Req → Option Resp} (IH : ∀ q r, ih q = some r → Said C q r) {ops : Array Oper} {i : Nat} {o : Oper} {po : POp} (hi : ops[i]? = some o) (hp : prepOp C.P o = some po.op)
    (hg : prepGuard ops o = some po.guard) (hd : po.dst = o.dst) (hok : o.op.operands.toList.all opdOK = true) {s' : St} (hs : doOp C ih nt po s = some s') (h : At C.P σ N nt s a w) (b : Frame) (rest : List Nat) (k : List Item) (cs : List Frame) :
    ∃ τ w' a', σ.le τ ∧ At C.P τ N nt s' a' w' ∧ Fr σ s.H w τ s'.H w' ∧
      Steps C.P (lone (b.atR a (.inRegion ops (i :: rest) :: k)) cs w) (lone (b.atR a' (.inRegion ops rest :: k)) cs w') := by
  have hw := wanted_eq (a := a) hg rfl h.tmps
  have hρ : ∀ x ∈ o.op.operands.toList, VR σ (evalO s.t x) (a.eval x) := fun x hx => eval_VR h.tmps (by rw [List.all_eq_true] at hok; exact hok x hx)
  have hnd : ∀ c, o.op ≠ .defer c := by
    intro c hc; unfold prepOp at hp; rw [hc] at hp; simp at hp
  unfold doOp at hs
  cases hwa : wantedA s.t po with
  | false =>
    rw [hwa, cond_false] at hs
    rw [hwa] at hw
    cases hpt : putT nt s.t po.dst undef with
    | none => rw [hpt] at hs; cases hs
    | some t' =>
      rw [hpt] at hs; cases hs
      have hst := stepR_op_skip (P := C.P) (b := b) (a := a) (k := k) (cs := cs) (w := w) (ops := ops) (i := i) (rest := rest) (by simp [hi, hw])
      simp only [hi, Option.bind_some] at hst
      rw [hd] at hpt
      refine ⟨σ, w, _, σ.le_refl, ⟨h.heap, h.tmps.put (VR.undef σ) hpt, ?_⟩, Fr.refl _ _ _, .one hst⟩
      cases ho : o.dst <;> exact h.defers
  | true =>
    rw [hwa, cond_true] at hs
    rw [hwa] at hw
    have hg0 := stepGR_op (P := C.P) (b := b) (a := a) (k := k) (cs := cs) (w := w) (rest := rest) hi hw
    rw [Oper.semAt_eq _ _ _ hnd] at hg0
    have hfin : ∀ v, (b.atR a (.inRegion ops (i :: rest) :: k)).finish v = b.atR (a.put o.dst v) (.inRegion ops rest :: k) := by
      intro v; rw [Frame.finish_atR, hi]; rfl
    have hdef : ∀ v, (a.put o.dst v).defers = a.defers := by intro v; cases ho : o.dst <;> rfl
    -- behind a value
    have done : ∀ {v : Value} {H' : Heap} {τ : Ren} {v' : Value} {w' : World}, afterOp nt s po.dst (some (.val v H')) = some s' → σ.le τ → HR C.P τ N H' w' → VR τ v v' → Fr σ s.H w τ H' w' →
        Steps C.P (lone (b.atR a (.inRegion ops (i :: rest) :: k)) cs w) (lone ((b.atR a (.inRegion ops (i :: rest) :: k)).finish v') cs w') →
        ∃ τ w' a', σ.le τ ∧ At C.P τ N nt s' a' w' ∧ Fr σ s.H w τ s'.H w' ∧
          Steps C.P (lone (b.atR a (.inRegion ops (i :: rest) :: k)) cs w) (lone (b.atR a' (.inRegion ops rest :: k)) cs w') := by
      intro v H' τ v' w' hq hle hH hv hfr hst
      simp only [afterOp] at hq
      cases hpt : putT nt s.t po.dst v with
      | none => rw [hpt] at hq; cases hq
      | some t' =>
        rw [hpt] at hq; cases hq
        rw [hd] at hpt
        refine ⟨τ, w', a.put o.dst v', hle, ⟨hH, (h.tmps.le hle).put hv hpt, ?_⟩, hfr, ?_⟩
        · rw [hdef]; exact h.defers.le hle
        · rw [← hfin]; exact hst
    cases hop : opA C.P po.op (evalO s.t) s.H with
    | bad => rw [hop] at hs; cases hs
    | val v H' =>
      rw [hop] at hs
      obtain ⟨τ, v', w', n, hrun, hnx, hle, hH, hv, hfr⟩ := opA_val h.heap hp hρ (fun v => rfl) hop
      refine done hs hle hH hv hfr (.one (step_lone_go ?_))
      rw [hg0]
      cases n with
      | value x => simp only [nextVal, Option.some.injEq] at hnx; subst hnx; simp [stepG.apply, hrun]
      | skip => simp only [nextVal, Option.some.injEq] at hnx; subst hnx; simp [stepG.apply, hrun]
      | _ => simp [nextVal] at hnx
    | call f args =>
      rw [hop] at hs
      simp only [ans] at hs
      cases hih : ih (.call f args s.H) with
      | none => rw [hih] at hs; cases hs
      | some r =>
        rw [hih] at hs
        cases r with
        | code e s2 => cases hs
        | val v H' =>
          have hsaid : SaidCall C f args s.H v H' := IH _ _ hih
          obtain ⟨args', hrun, hvl⟩ := opA_call (w := w) hp hρ (fun g => rfl) hop hsaid.1
          obtain ⟨τ, w', v', fr, hle, hH, hv, hfr, hsteps, hfn, hleave⟩ := hsaid.2 σ N w args' h.heap hvl (b.atR a (.inRegion ops (i :: rest) :: k) :: cs)
          have henter : Go.step C.P (lone (b.atR a (.inRegion ops (i :: rest) :: k)) cs w) = .next (lone (Frame.enter C.P f args' .normal) (b.atR a (.inRegion ops (i :: rest) :: k) :: cs) w) :=
            step_lone_go (by rw [hg0]; simp [stepG.apply, hrun, Frame.atR])
          exact done hs hle hH hv hfr (.head henter (hsteps.trans (.one (step_leave_returned hleave))))
    | yield l args =>
      rw [hop] at hs
      simp only [ans] at hs
      cases hih : ih (.yield l args s.H) with
      | none => rw [hih] at hs; cases hs
      | some r =>
        rw [hih] at hs
        cases r with
        | code e s2 => cases hs
        | val v H' =>
          have hsaid : SaidYield C l args s.H v H' := IH _ _ hih
          obtain ⟨blk, args', hblk, hvl, hrun⟩ := opA_yield hp hρ hop (P := C.P) (w := w)
          obtain ⟨f, tmps, asg, body, hy, hround⟩ := hsaid σ N w args' blk h.heap hvl hblk
          have hrun' := hrun _ _ hy
          obtain ⟨τ, w', v', hle, hH, hv, hfr, hsteps⟩ := hround (b.atR a (.inRegion ops (i :: rest) :: k)) cs
          have henter : Go.step C.P (lone (b.atR a (.inRegion ops (i :: rest) :: k)) cs w) = .next (lone (Frame.round blk f tmps asg body .normal) (b.atR a (.inRegion ops (i :: rest) :: k) :: cs) w) :=
            step_lone_go (by rw [hg0]; simp [stepG.apply, hrun', Frame.atR])
          exact done hs hle hH hv hfr (.head henter hsteps)


theorem prepOps_cons {P : Program} {ops : Array Oper} {loose : Nat → List Nat} {i : Nat} {r : List Nat} {l : List POp} (h : prepOps P ops loose (i :: r) = some l) :
    ∃ o po l', l = po :: l' ∧ ops[i]? = some o ∧ prepOp P o = some po.op ∧ prepGuard ops o = some po.guard ∧ po.dst = o.dst ∧ o.op.operands.toList.all opdOK = true ∧ po.i = i ∧ po.loose = loose i ∧ prepOps P ops loose r = some l' := by
  simp only [prepOps] at h
  split at h
  · cases h
  · rename_i o ho
    split at h
    · rename_i ao g l' h1 h2 h3
      obtain ⟨hb, h⟩ := bif_some h
      cases h
      exact ⟨o, _, l', rfl, ho, h1, h2, rfl, hb, rfl, rfl, h3⟩
    · cases h

theorem ops_sound (hC : CtxOK C) {ih : Req → Option Resp} (IH : ∀ q r, ih q = some r → Said C q r) {ops : Array Oper} {loose : Nat → List Nat} (b : Frame) (k : List Item) (cs : List Frame) :
    ∀ (idx : List Nat) (l : List POp) (σ : Ren) (s s' : St) (a : Act) (w : World), prepOps C.P ops loose idx = some l → stepOps C ih nt l s = some s' → At C.P σ N nt s a w →
    ∃ τ w' a', σ.le τ ∧ At C.P τ N nt s' a' w' ∧ Fr σ s.H w τ s'.H w' ∧ Steps C.P (lone (b.atR a (.inRegion ops idx :: k)) cs w) (lone (b.atR a' (.inRegion ops [] :: k)) cs w')
  | [], l, σ, s, s', a, w, hp, hs, h => by
    simp only [prepOps, Option.some.injEq] at hp; subst hp
    simp only [stepOps, Option.some.injEq] at hs; subst hs
    exact ⟨σ, w, a, σ.le_refl, h, Fr.refl _ _ _, .refl _ _⟩
  | i :: r, l, σ, s, s', a, w, hp, hs, h => by
    obtain ⟨o, po, l', rfl, h1, h2, h3, h4, h5, _, _, h6⟩ := prepOps_cons hp
    simp only [stepOps] at hs
    split at hs
    · rename_i s1 hs1
      obtain ⟨τ, w1, a1, q1, q2, q3, q4⟩ := doOp_sound hC IH h1 h2 h3 h4 h5 hs1 h b r k cs
      obtain ⟨υ, w2, a2, p1, p2, p3, p4⟩ := ops_sound hC IH b k cs r l' τ s1 s' a1 w1 h6 hs q2
      exact ⟨υ, w2, a2, Ren.le_trans q1 p1, p2, q3.trans p3, q4.trans p4⟩
    · cases hs

/-- A region whose order is drawn. -/
theorem draw_sound (hC : CtxOK C) {ih : Req → Option Resp} (IH : ∀ q r, ih q = some r → Said C q r) {id : Nat} {ops : Array Oper} {l : List POp} {s' : St} (hp : prepRegion C.P ops true = some l)
    (hs : stepOpsD C ih nt l [] s = some s') (h : At C.P σ N nt s a w) (b : Frame) (k : List Item) (cs : List Frame) :
    ∃ τ w' a', σ.le τ ∧ At C.P τ N nt s' a' w' ∧ Fr σ s.H w τ s'.H w' ∧ Steps C.P (lone (b.atR a (.code (.region id ops true) :: k)) cs w) (lone (b.atR a' k) cs w') := by
  obtain ⟨loose, hsch, hlen⟩ := prepRegion_draw hp
  obtain ⟨l', h1, h2⟩ := sched_run (C := C) (ih := ih) (nt := nt) ops.size (w.tape w.drawn (.order b.fn id)) _ l [] s s' hlen hsch hs
  have hH : HR C.P σ N s.H { w with drawn := w.drawn + 1 } := by
    refine ⟨fun f e ro vs top c hg v hv => ?_, h.heap.uniq, h.heap.objs, h.heap.uniqO, h.heap.next, h.heap.tops, h.heap.size⟩
    obtain ⟨l, hl⟩ := h.heap.rows f e ro vs top c hg v hv
    exact ⟨l, hl.world rfl⟩
  obtain ⟨τ, w', a', q1, q2, q3, q4⟩ := ops_sound hC IH b k cs _ l' σ s s' a { w with drawn := w.drawn + 1 } h1 h2 ⟨hH, h.tmps, h.defers⟩
  have hstep := stepR_region_draw (P := C.P) (b := b) (a := a) (k := k) (cs := cs) (w := w) (ops := ops) (id := id)
  have hsc : Region.schedule (C.P.follows .mixedOrders) ops (w.tape w.drawn (.order b.fn id)) = Region.linearise.go .any ops ops.size (w.tape w.drawn (.order b.fn id)) (Array.replicate ops.size false) [] := by
    simp only [Region.schedule, hC.mixed, Bool.true_or, if_true]; rfl
  rw [hsc] at hstep
  exact ⟨τ, w', a', q1, q2, ⟨q3.size, q3.os, q3.output, q3.old, q3.img, q3.back, q3.new⟩, (Steps.head hstep q4).trans (.one stepR_region_end)⟩

theorem thenC_some {k : St → Option Resp} {r : Option Resp} {e : Ex} {s : St} (h : thenC k r = some (.code e s)) :
    (∃ s1, r = some (.code .normal s1) ∧ k s1 = some (.code e s)) ∨ (e ≠ .normal ∧ r = some (.code e s)) := by
  unfold thenC at h
  split at h
  · exact .inl ⟨_, rfl, h⟩
  · rename_i hn
    refine .inr ⟨fun he => ?_, h⟩
    subst he
    exact hn _ h

theorem findLabel_prep {P : Program} {l : Nat} : ∀ {c : Code} {pc : PC}, prepC P c = some pc →
    (∀ rest, findLabelA pc l = some rest → ∃ rc, findLabel c l = some rc ∧ prepC P rc = some rest) ∧ (findLabelA pc l = none → findLabel c l = none) := by
  intro c
  induction c with
  | seq x y ihx ihy =>
    intro pc hp
    simp only [prepC] at hp
    split at hp
    · rename_i px py hx hy
      cases hp
      obtain ⟨x1, x2⟩ := ihx hx
      obtain ⟨y1, y2⟩ := ihy hy
      constructor
      · intro rest hr
        simp only [findLabelA] at hr
        split at hr
        · rename_i r hr2
          cases hr
          obtain ⟨rc, q1, q2⟩ := x1 _ hr2
          exact ⟨.seq rc y, by simp [findLabel, q1], by simp [prepC, q2, hy]⟩
        · rename_i hr2
          obtain ⟨rc, q1, q2⟩ := y1 _ hr
          exact ⟨rc, by simp [findLabel, x2 hr2, q1], q2⟩
      · intro hr
        simp only [findLabelA] at hr
        split at hr
        · cases hr
        · rename_i hr2
          simp [findLabel, x2 hr2, y2 hr]
    · cases hp
  | label l' =>
    intro pc hp
    simp only [prepC, Option.some.injEq] at hp; subst hp
    constructor
    · intro rest hr
      simp only [findLabelA] at hr
      obtain ⟨hb, hr⟩ := bif_some hr
      cases hr
      have := Nat.eq_of_beq_eq_true hb
      exact ⟨.skip, by simp [findLabel, this], rfl⟩
    · intro hr
      simp only [findLabelA] at hr
      cases hb : Nat.beq l' l with
      | true => rw [hb] at hr; cases hr
      | false =>
        have : l' ≠ l := fun he => by subst he; rw [Nat.beq_refl] at hb; cases hb
        simp [findLabel, this]
  | _ =>
    intro pc hp
    simp only [prepC] at hp
    constructor
    · intro rest hr
      exfalso
      (repeat' split at hp) <;> first
        | (cases hp; done)
        | (cases hp; simp [findLabelA] at hr; done)
        | (have hq := bif_some hp; cases hq.2; simp [findLabelA] at hr; done)
    · intro _; rfl

theorem exCode_some {r : Option Resp} {id : Nat} {e : Ex} {s : St} (h : blockC id r = some (.code e s)) :
    (r = some (.code (.exit id) s) ∧ e = .normal) ∨ (r = some (.code e s) ∧ e ≠ .exit id) := by
  unfold blockC at h
  split at h
  · rename_i j s1
    cases hb : Nat.beq j id with
    | true =>
      rw [hb, cond_true] at h; cases h
      have := Nat.eq_of_beq_eq_true hb
      subst this
      exact .inl ⟨rfl, rfl⟩
    | false =>
      rw [hb, cond_false] at h; cases h
      refine .inr ⟨rfl, fun he => ?_⟩
      cases he; rw [Nat.beq_refl] at hb; cases hb
  · rename_i hn
    refine .inr ⟨h, fun he => ?_⟩
    subst he
    exact hn _ _ h

theorem stepR_inScope {P : Program} {b : Frame} {a : Act} {k : List Item} {cs : List Frame} {w : World} {body : Code} : Go.step P (lone (b.atR a (.inScope body :: k)) cs w) = .next (lone (b.atR a k) cs w) :=
  step_lone_go (by simp [stepG, stepG.exec, Frame.atR])

theorem stepR_scope {P : Program} {b : Frame} {a : Act} {k : List Item} {cs : List Frame} {w : World} {body : Code} :
    Go.step P (lone (b.atR a (.code (.scope body) :: k)) cs w) = .next (lone (b.atR a (.code body :: .inScope body :: k)) cs w) :=
  step_lone_go (by simp [stepG, stepG.exec, Frame.atR])

/-- Out of a scope, or back into it. -/
theorem scope_fin {ih : Req → Option Resp} (IH : ∀ q r, ih q = some r → Said C q r) {ro : Option Nat} {fn : FuncId} {whole : PC} {wc : Code} (hwc : prepC C.P wc = some whole) {e1 e : Ex} {s1 s' : St}
    (hs : scopeC ih ro fn nt whole (some (.code e1 s1)) = some (.code e s')) {τ : Ren} {w1 : World} {a1 : Act} {b : Frame} {k : List Item} {cs : List Frame} {m : Machine} (h : At C.P τ N nt s1 a1 w1) (hro : RoR τ ro b.roundOf) (hfn : b.fn = fn)
    (harr : ArrR C.P m b (.inScope wc :: k) cs e1 a1 w1) :
    ∃ υ w' a', τ.le υ ∧ At C.P υ N nt s' a' w' ∧ Fr τ s1.H w1 υ s'.H w' ∧ ArrR C.P m b k cs e a' w' := by
  unfold scopeC at hs
  split at hs
  · rename_i l s2 heq
    cases heq
    obtain ⟨f1, f2⟩ := findLabel_prep (l := l) hwc
    split at hs
    · rename_i rest hr
      obtain ⟨rc, g1, g2⟩ := f1 _ hr
      have hsaid : SaidScope C ro fn nt whole rest s1 e s' := IH _ _ hs
      obtain ⟨υ, w2, a2, p1, p2, p3, p4⟩ := hsaid wc rc hwc g2 τ N w1 a1 b k cs h hro hfn
      exact ⟨υ, w2, a2, p1, p2, p3, .of_steps (harr.1 _ (by simp [gotoIn, g1])) p4⟩
    · rename_i hr
      cases hs
      refine ⟨τ, w1, a1, τ.le_refl, h, Fr.refl _ _ _, ?_⟩
      have hnone := f2 hr
      simp only [ArrR, gotoIn, hnone] at harr
      exact harr
  · rename_i hn
    cases hs
    refine ⟨τ, w1, a1, τ.le_refl, h, Fr.refl _ _ _, ?_⟩
    cases e1 with
    | normal => exact Steps.trans harr (.one stepR_inScope)
    | exit id => simp only [ArrR, exitTo] at harr; exact harr
    | goto l => exact (hn l s1 rfl).elim
    | ret => exact harr

/-- The code that a jump leaves behind. -/
def jumpCode : Ex → Option Code
  | .normal => none
  | .exit id => some (.exit id)
  | .goto l => some (.goto l)
  | .ret => some .ret

/-- A range over a function, once its record lies. -/
theorem range_fin (hC : CtxOK C) {ih : Req → Option Resp} (IH : ∀ q r, ih q = some r → Said C q r) {fn : FuncId} {f : Operand} {ps : Array Tmp} {asg body : Code} {pa pb : PC} (ha : prepC C.P asg = some pa) (hb : prepC C.P body = some pb)
    {t : Tr Value} {d : List Nat} {H : Heap} {e : Ex} {s' : St} {fv : Value} (hs : rangeC ih fn nt fv ps.toList pa pb t d H = some (.code e s')) {b : Frame} (hfn : b.fn = fn) {k : List Item} {cs : List Frame}
    {w1 w2 : World} {mark : List Deferred} {blk : Nat} {τ : Ren} {dfr : Nat} (hfv : VR τ fv (a.eval f)) (htm : TR τ nt t a.tmps) (hdf : DR τ d (mark ++ a.defers)) (hH : HR C.P τ N H w1)
    (hblk : w1.heap.size = blk) (hw2 : w2 = { w1 with heap := w1.heap.push (.loop { state := .ready, pending := none, fn := b.fn, tmps := a.tmps, params := ps, assign := asg, body := body, defers := dfr }) })
    (he : (Instr.enterLoop b.fn a.tmps ps asg body b.roundOf).run C.P w = .ok (blk, mark) w2) :
    ∃ υ w' a', τ.le υ ∧ At C.P υ N nt s' a' w' ∧ Fr τ H w1 υ s'.H w' ∧ ArrR C.P (lone (b.atR a (.code (.rangeFunc f ps asg body) :: k)) cs w) b k cs e a' w' := by
  unfold rangeC at hs
  split at hs
  · rename_i g first cap
    have hor : OR C.P τ (.loop { state := .ready, pending := none, fn := fn, tmps := t, params := ps.toList, assign := pa, body := pb, nt := nt })
        (.loop { state := .ready, pending := none, fn := b.fn, tmps := a.tmps, params := ps, assign := asg, body := body, defers := dfr }) :=
      .loop ⟨rfl, .none, hfn, htm, rfl, ha, hb⟩
    obtain ⟨q1, q2, q3, q4⟩ := obj_sound hH hor (by simp) (w' := w2) ⟨by rw [hw2], by rw [hw2], by rw [hw2]⟩
    rw [hblk] at q1 q2 q3 q4
    generalize hy : a.eval f = y at hfv
    cases hfv with
    | fn f' hf' hx hxs hy2 hys =>
      rename_i first' cap'
      cases hih : ih (.call g (first.toList ++ [.func (.yield H.next) #[] #[]] ++ cap.toList) (H.add (.loop { state := .ready, pending := none, fn := fn, tmps := t, params := ps.toList, assign := pa, body := pb, nt := nt }))) with
      | none => rw [hih] at hs; simp only [endRange] at hs; cases hs
      | some r =>
        rw [hih] at hs
        cases r with
        | code e2 s2 => simp only [endRange] at hs; cases hs
        | val v H3 =>
          have hsaid : SaidCall C g _ _ v H3 := IH _ _ hih
          obtain ⟨hcall, hsaid⟩ := hsaid
          have hvl : VL (τ.addObj H.next blk) (first.toList ++ [Value.func (.yield H.next) #[] #[]] ++ cap.toList) (first' ++ #[Value.func (.yield blk) #[] #[]] ++ cap').toList := by
            simp only [Array.toList_append]
            exact (((VL.of_array hx hxs).le q1).append (.cons (.yld q4) .nil)).append ((VL.of_array hy2 hys).le q1)
          have hres : (resolve a.eval (rangeCall f blk) 0).run C.P w2 = .ok { target := .fn (.func g) cap', args := first' ++ #[Value.func (.yield blk) #[] #[]] } w2 := by
            have hm : (#[Operand.const (Value.func (.yield blk) #[] #[])]).map a.eval = #[Value.func (.yield blk) #[] #[]] := by simp [Act.eval]
            unfold resolve rangeCall
            simp only [hm, hy]
            rfl
          have hinv : (invoke (.fn (.func g) cap') (first' ++ #[Value.func (.yield blk) #[] #[]])).run C.P w2 = .ok (.enter g (first' ++ #[Value.func (.yield blk) #[] #[]] ++ cap')) w2 := by
            simp only [invoke]; exact hcall _ _
          have henter := stepR_rangeFunc (P := C.P) (b := b) (a := a) (k := k) (cs := cs) (w := w) he hres hinv
          obtain ⟨υ, w3, v', fr, p1, p2, p3, p4, p5, p6, p7⟩ := hsaid _ N w2 _ q2 hvl (b.atR { a with defers := mark ++ a.defers } (.inRangeFunc blk :: k) :: cs)
          have hback := step_leave_returned (P := C.P) (c := b.atR { a with defers := mark ++ a.defers } (.inRangeFunc blk :: k)) (cs := cs) p7
          rw [finish_atR_inRangeFunc] at hback
          -- the loop's end
          simp only [endRange] at hs
          split at hs
          · rename_i rec hrec
            have hblk3 : υ.obj H.next = some blk := p1.2 _ _ q4
            obtain ⟨r', hr', hlr⟩ := obj_at p2 hrec hblk3
            split at hs
            · cases hs
            · rename_i e3 hex hnb
              cases hs
              have hst : (r'.state == LoopState.busy) = false := by
                rw [hlr.state]; cases hst : rec.state <;> first | rfl | (exact absurd hst hnb)
              have hend : (Instr.endLoop blk).run C.P w3 = .ok r'.pending { w3 with heap := w3.heap.setIfInBounds blk (.loop { r' with state := .exhausted }) } := by
                have e1 := run_getLoop (P := C.P) hr'
                have e2 := run_setLoop (P := C.P) (r2 := { r' with state := .exhausted }) hr'
                simp only [Instr.endLoop, Sem.run_bind, e1, Result.andThen_ok, hst, Bool.false_eq_true, if_false, e2, Sem.run_pure]
              obtain ⟨u1, u2⟩ := upd_sound p2 hrec (by simp) (o2 := .loop { rec with state := .exhausted }) (by simp) hblk3 (.loop (r' := { r' with state := .exhausted }) ⟨rfl, hlr.pending, hlr.fn, hlr.tmps, hlr.params, hlr.assign, hlr.body⟩)
              have hsteps : Steps C.P (lone (b.atR a (.code (.rangeFunc f ps asg body) :: k)) cs w)
                  (lone (b.atR { a with defers := mark ++ a.defers } ((r'.pending.map Item.code).toList ++ k)) cs { w3 with heap := w3.heap.setIfInBounds blk (.loop { r' with state := .exhausted }) }) :=
                .head henter (p5.trans (.head hback (.one (stepR_endRangeFunc hend))))
              refine ⟨υ, _, { a with defers := mark ++ a.defers }, Ren.le_trans q1 p1, ⟨u1, htm.le (Ren.le_trans q1 p1), hdf.le (Ren.le_trans q1 p1)⟩, q3.trans (p4.trans u2), ?_⟩
              have hpend := hlr.pending
              generalize hrp : rec.pending = rp at hpend hex
              generalize hrp' : r'.pending = rp' at hpend hsteps
              cases hpend with
              | none => simp only [exOf, Option.some.injEq] at hex; subst hex; simpa [ArrR] using hsteps
              | exit id => simp only [exOf, Option.some.injEq] at hex; subst hex; exact .jump _ (.exit id) rfl (by simpa using hsteps)
              | goto id => simp only [exOf, Option.some.injEq] at hex; subst hex; exact .jump _ (.goto id) rfl (by simpa using hsteps)
              | ret => simp only [exOf, Option.some.injEq] at hex; subst hex; exact .jump _ .ret rfl (by simpa using hsteps)
            · cases hs
          · cases hs
  · cases hs

theorem code_sound (hC : CtxOK C) {ih : Req → Option Resp} (IH : ∀ q r, ih q = some r → Said C q r) {ro : Option Nat} {fn : FuncId} :
    ∀ (code : Code) (c : PC) (s : St) (e : Ex) (s' : St), prepC C.P code = some c → stepC C ih ro fn nt c s = some (.code e s') →
    ∀ σ w a b k cs, At C.P σ N nt s a w → RoR σ ro b.roundOf → b.fn = fn →
    ∃ τ w' a', σ.le τ ∧ At C.P τ N nt s' a' w' ∧ Fr σ s.H w τ s'.H w' ∧ ArrR C.P (lone (b.atR a (.code code :: k)) cs w) b k cs e a' w' := by
  intro code
  induction code with
  | skip =>
    intro c s e s' hp hs σ w a b k cs h hro hfn
    simp only [prepC, Option.some.injEq] at hp; subst hp
    simp only [stepC, Option.some.injEq, Resp.code.injEq] at hs; obtain ⟨rfl, rfl⟩ := hs
    exact ⟨σ, w, a, σ.le_refl, h, Fr.refl _ _ _, .one stepR_skip⟩
  | label l =>
    intro c s e s' hp hs σ w a b k cs h hro hfn
    simp only [prepC, Option.some.injEq] at hp; subst hp
    simp only [stepC, Option.some.injEq, Resp.code.injEq] at hs; obtain ⟨rfl, rfl⟩ := hs
    exact ⟨σ, w, a, σ.le_refl, h, Fr.refl _ _ _, .one stepR_label⟩
  | exit id =>
    intro c s e s' hp hs σ w a b k cs h hro hfn
    simp only [prepC, Option.some.injEq] at hp; subst hp
    simp only [stepC, Option.some.injEq, Resp.code.injEq] at hs; obtain ⟨rfl, rfl⟩ := hs
    exact ⟨σ, w, a, σ.le_refl, h, Fr.refl _ _ _, .jump _ (.exit id) rfl (.refl _ _)⟩
  | goto l =>
    intro c s e s' hp hs σ w a b k cs h hro hfn
    simp only [prepC, Option.some.injEq] at hp; subst hp
    simp only [stepC, Option.some.injEq, Resp.code.injEq] at hs; obtain ⟨rfl, rfl⟩ := hs
    exact ⟨σ, w, a, σ.le_refl, h, Fr.refl _ _ _, .jump _ (.goto l) rfl (.refl _ _)⟩
  | ret =>
    intro c s e s' hp hs σ w a b k cs h hro hfn
    simp only [prepC, Option.some.injEq] at hp; subst hp
    simp only [stepC, Option.some.injEq, Resp.code.injEq] at hs; obtain ⟨rfl, rfl⟩ := hs
    exact ⟨σ, w, a, σ.le_refl, h, Fr.refl _ _ _, .jump _ .ret rfl (.refl _ _)⟩
  | refuse why => intro c s e s' hp; simp [prepC] at hp
  | region id ops draw =>
    intro c s e s' hp hs σ w a b k cs h hro hfn
    simp only [prepC] at hp
    split at hp
    · rename_i l hl
      cases hp
      cases draw with
      | false =>
        simp only [stepC] at hs
        cases hst : stepOps C ih nt l s with
        | none => rw [hst] at hs; cases hs
        | some s1 =>
          rw [hst] at hs; cases hs
          simp only [prepRegion, cond_false] at hl
          obtain ⟨τ, w', a', q1, q2, q3, q4⟩ := ops_sound hC IH b k cs _ _ σ s s' a w hl hst h
          exact ⟨τ, w', a', q1, q2, q3, (Steps.head stepR_region q4).trans (.one stepR_region_end)⟩
      | true =>
        simp only [stepC] at hs
        cases hst : stepOpsD C ih nt l [] s with
        | none => rw [hst] at hs; cases hs
        | some s1 =>
          rw [hst] at hs; cases hs
          exact draw_sound hC IH hl hst h b k cs
    · cases hp
  | seq x y ihx ihy =>
    intro c s e s' hp hs σ w a b k cs h hro hfn
    simp only [prepC] at hp
    split at hp
    · rename_i px py hx hy
      cases hp
      simp only [stepC] at hs
      rcases thenC_some hs with ⟨s1, h1, h2⟩ | ⟨he, h1⟩
      · obtain ⟨τ, w1, a1, q1, q2, q3, q4⟩ := ihx px s .normal s1 hx h1 σ w a b (.code y :: k) cs h hro hfn
        obtain ⟨υ, w2, a2, p1, p2, p3, p4⟩ := ihy py s1 e s' hy h2 τ w1 a1 b k cs q2 (hro.le q1) hfn
        exact ⟨υ, w2, a2, Ren.le_trans q1 p1, p2, q3.trans p3, .of_steps (.head stepR_seq q4) p4⟩
      · obtain ⟨τ, w1, a1, q1, q2, q3, q4⟩ := ihx px s e s' hx h1 σ w a b (.code y :: k) cs h hro hfn
        exact ⟨τ, w1, a1, q1, q2, q3, .of_steps (.one stepR_seq) (.pass (x := .code y) rfl he q4)⟩
    · cases hp
  | cond x p q ihp ihq =>
    intro c s e s' hp hs σ w a b k cs h hro hfn
    simp only [prepC] at hp
    split at hp
    · rename_i pp pq hpp hpq
      obtain ⟨hb, hp⟩ := bif_some hp
      cases hp
      simp only [stepC, condC] at hs
      have hv := eval_VR h.tmps hb
      split at hs
      · rename_i he
        rw [he] at hv
        have hx : a.eval x = .bool true := by generalize a.eval x = y at hv; cases hv; rfl
        obtain ⟨τ, w1, a1, q1, q2, q3, q4⟩ := ihp pp s e s' hpp hs σ w a b k cs h hro hfn
        exact ⟨τ, w1, a1, q1, q2, q3, .of_steps (.one (stepR_cond hx)) q4⟩
      · rename_i he
        rw [he] at hv
        have hx : a.eval x = .bool false := by generalize a.eval x = y at hv; cases hv; rfl
        obtain ⟨τ, w1, a1, q1, q2, q3, q4⟩ := ihq pq s e s' hpq hs σ w a b k cs h hro hfn
        exact ⟨τ, w1, a1, q1, q2, q3, .of_steps (.one (stepR_cond hx)) q4⟩
      · cases hs
    · cases hp
  | block id body ihb =>
    intro c s e s' hp hs σ w a b k cs h hro hfn
    simp only [prepC] at hp
    split at hp
    · rename_i pb hb
      cases hp
      simp only [stepC] at hs
      rcases exCode_some hs with ⟨h1, rfl⟩ | ⟨h1, he⟩
      · obtain ⟨τ, w1, a1, q1, q2, q3, q4⟩ := ihb pb s _ s' hb h1 σ w a b (.inBlock id :: k) cs h hro hfn
        exact ⟨τ, w1, a1, q1, q2, q3, .head stepR_block (q4.1 k (by simp [exitTo]))⟩
      · obtain ⟨τ, w1, a1, q1, q2, q3, q4⟩ := ihb pb s e s' hb h1 σ w a b (.inBlock id :: k) cs h hro hfn
        refine ⟨τ, w1, a1, q1, q2, q3, .of_steps (.one stepR_block) ?_⟩
        cases e with
        | normal => exact q4.trans (.one stepR_inBlock)
        | exit j =>
          have hj : (id == j) = false := by simp; intro h; exact he (by rw [h])
          simp only [ArrR, exitTo, hj, Bool.false_eq_true, if_false] at q4
          exact q4
        | goto l => simp only [ArrR, gotoIn] at q4; exact q4
        | ret => exact q4
    · cases hp
  | loop body ihb =>
    intro c s e s' hp hs σ w a b k cs h hro hfn
    have hp0 := hp
    simp only [prepC] at hp
    split at hp
    · rename_i pb hb
      cases hp
      simp only [stepC] at hs
      rcases thenC_some hs with ⟨s1, h1, h2⟩ | ⟨he, h1⟩
      · obtain ⟨τ, w1, a1, q1, q2, q3, q4⟩ := ihb pb s .normal s1 hb h1 σ w a b (.inLoop body :: k) cs h hro hfn
        have hsaid : SaidCode C ro fn nt (.loop pb) s1 e s' := IH _ _ h2
        obtain ⟨υ, w2, a2, p1, p2, p3, p4⟩ := hsaid body pb rfl hb τ N w1 a1 b k cs q2 (hro.le q1) hfn
        exact ⟨υ, w2, a2, Ren.le_trans q1 p1, p2, q3.trans p3, .of_steps (.head stepR_loop q4) p4⟩
      · obtain ⟨τ, w1, a1, q1, q2, q3, q4⟩ := ihb pb s e s' hb h1 σ w a b (.inLoop body :: k) cs h hro hfn
        exact ⟨τ, w1, a1, q1, q2, q3, .of_steps (.one stepR_loop) (.pass (x := .inLoop body) rfl he q4)⟩
    · cases hp
  | scope body ihb =>
    intro c s e s' hp hs σ w a b k cs h hro hfn
    simp only [prepC] at hp
    split at hp
    · rename_i pb hb
      cases hp
      simp only [stepC] at hs
      cases hst : stepC C ih ro fn nt pb s with
      | none => rw [hst] at hs; cases hs
      | some r =>
        rw [hst] at hs
        cases r with
        | val v H => simp only [scopeC] at hs; cases hs
        | code e1 s1 =>
          obtain ⟨τ, w1, a1, q1, q2, q3, q4⟩ := ihb pb s e1 s1 hb hst σ w a b (.inScope body :: k) cs h hro hfn
          obtain ⟨υ, w2, a2, p1, p2, p3, p4⟩ := scope_fin IH hb hs q2 (hro.le q1) hfn q4
          exact ⟨υ, w2, a2, Ren.le_trans q1 p1, p2, q3.trans p3, .of_steps (.one stepR_scope) p4⟩
    · cases hp
  | rangeFunc f ps asg body iha ihb =>
    intro c s e s' hp hs σ w a b k cs h hro hfn
    simp only [prepC] at hp
    split at hp
    · rename_i pa pb hpa hpb
      obtain ⟨hok, hp⟩ := bif_some hp
      cases hp
      have hfv := eval_VR h.tmps hok
      simp only [stepC] at hs
      split at hs
      · rename_i l
        generalize hr : b.roundOf = ro' at hro
        cases hro with
        | some hblk =>
          rename_i blk0
          split at hs
          · rename_i rec hrec
            obtain ⟨r', hr', hlr⟩ := obj_at h.heap hrec hblk
            have he : (Instr.enterLoop b.fn a.tmps ps asg body b.roundOf).run C.P w = .ok (w.heap.size, []) { w with heap := w.heap.push (.loop { state := .ready, pending := none, fn := b.fn, tmps := a.tmps, params := ps, assign := asg, body := body, defers := r'.defers }) } := by
              have e1 := run_getLoop (P := C.P) hr'
              rw [hr]
              simp only [Instr.enterLoop, Sem.run_bind, e1, Result.andThen_ok, Sem.run_pure, run_newObj]
            obtain ⟨υ, w', a', p1, p2, p3, p4⟩ := range_fin hC IH hpa hpb hs hfn hfv h.tmps (mark := []) (by simpa using h.defers) h.heap rfl rfl he (k := k) (cs := cs)
            exact ⟨υ, w', a', p1, p2, p3, p4⟩
          · cases hs
      · generalize hr : b.roundOf = ro' at hro
        cases hro with
        | none =>
          have hor : OR C.P σ (.defd false) (.deferred (some [])) := .defd false
          obtain ⟨q1, q2, q3, q4⟩ := obj_sound h.heap hor (by simp) (w' := { w with heap := w.heap.push (.deferred (some [])) }) ⟨rfl, rfl, rfl⟩
          have he : (Instr.enterLoop b.fn a.tmps ps asg body b.roundOf).run C.P w = .ok (w.heap.size + 1, [{ target := .collected w.heap.size, args := #[] }])
              { w with heap := (w.heap.push (.deferred (some []))).push (.loop { state := .ready, pending := none, fn := b.fn, tmps := a.tmps, params := ps, assign := asg, body := body, defers := w.heap.size }) } := by
            rw [hr]
            simp only [Instr.enterLoop, Sem.run_bind, Sem.run_pure, Result.andThen_ok, run_newObj, Array.size_push]
          obtain ⟨υ, w', a', p1, p2, p3, p4⟩ := range_fin hC IH hpa hpb hs hfn (hfv.le q1) (h.tmps.le q1) (mark := [{ target := .collected w.heap.size, args := #[] }]) (.cons q4 (h.defers.le q1)) q2 (by simp) rfl he (k := k) (cs := cs)
          exact ⟨υ, w', a', Ren.le_trans q1 p1, p2, q3.trans p3, p4⟩
    · cases hp

end
end Go.Abs
