/- Symbolic runs of the evaluator: what is known of the temporaries is a list; judgements about operations, code and calls. -/
import Derived.Test.YtdlfikobjnjmaaaSymMono
namespace Go.Abs
set_option linter.unusedSectionVars false
variable [Globs]
open Go
set_option linter.unusedVariables false
set_option linter.unusedSimpArgs false

abbrev Env := List (Nat × Value)

def Env.get : Env → Nat → Option Value
  | [], _ => none
  | (m, v) :: l, n => bif Nat.beq m n then some v else Env.get l n

/-- The temporaries have what the list says. -/
def has (L : Env) (t : Tr Value) : Prop := ∀ n v, Env.get L n = some v → t.get n = some v

def ev (L : Env) : Operand → Option Value
  | .tmp n => Env.get L n
  | .const v => some v
  | .global g => some (.complex .f64 g 0)
  | .func f => some (.func (.func f) #[] #[])

def evs (L : Env) : List Operand → Option (List Value)
  | [] => some []
  | x :: l => match ev L x, evs L l with
    | some v, some r => some (v :: r)
    | _, _ => none

theorem ev_ok {L : Env} {t : Tr Value} (h : has L t) {x : Operand} {v : Value} (hx : ev L x = some v) : evalO t x = v := by
  cases x with
  | tmp n => simp only [ev] at hx; simp only [evalO, h n v hx]
  | const c => simp only [ev] at hx; cases hx; rfl
  | global g => simp only [ev] at hx; cases hx; rfl
  | func f => simp only [ev] at hx; cases hx; rfl

theorem evs_ok {L : Env} {t : Tr Value} (h : has L t) : ∀ {xs : List Operand} {vs : List Value}, evs L xs = some vs → xs.map (evalO t) = vs
  | [], vs, hx => by cases hx; rfl
  | x :: xs, vs, hx => by
    unfold evs at hx
    split at hx
    · rename_i v r h1 h2
      cases hx
      rw [List.map_cons, ev_ok h h1, evs_ok h h2]
    · cases hx

theorem has.put {L : Env} {t : Tr Value} (h : has L t) (d : Nat) (v : Value) : has ((d, v) :: L) (t.put d v) := by
  intro n u hu
  rw [Tr.get_put]
  simp only [Env.get] at hu
  by_cases hn : n = d
  · subst hn; rw [if_pos rfl]; simpa using hu
  · rw [if_neg hn]
    have : Nat.beq d n = false := by cases hb : Nat.beq d n with | false => rfl | true => exact absurd (Nat.eq_of_beq_eq_true hb).symm hn
    rw [this, cond_false] at hu
    exact h n u hu

theorem has.weaken {L L' : Env} {t : Tr Value} (h : has L t) (k : ∀ p ∈ L', Env.get L p.1 = some p.2) : has L' t := by
  intro n v hv
  have : ∀ (l : Env), (∀ p ∈ l, Env.get L p.1 = some p.2) → Env.get l n = some v → Env.get L n = some v := by
    intro l
    induction l with
    | nil => intro _ hc; cases hc
    | cons p l ih =>
      intro hl hc
      obtain ⟨m, u⟩ := p
      simp only [Env.get] at hc
      cases hb : Nat.beq m n with
      | true =>
        rw [hb, cond_true] at hc; cases hc
        have := hl (m, v) (by simp)
        rw [← Nat.eq_of_beq_eq_true hb]; exact this
      | false => rw [hb, cond_false] at hc; exact ih (fun p hp => hl p (by simp [hp])) hc
  exact h n v (this L' k hv)

theorem has.nil (t : Tr Value) : has [] t := by intro n v h; cases h

/-- One list of temporaries from another. -/
inductive Sub (L : Env) : Env → Prop where
  | nil : Sub L []
  | cons {n : Nat} {v : Value} {l : Env} (h : Env.get L n = some v) (k : Sub L l) : Sub L ((n, v) :: l)

theorem Sub.mem {L L' : Env} (h : Sub L L') : ∀ p ∈ L', Env.get L p.1 = some p.2 := by
  induction h with
  | nil => intro p hp; cases hp
  | cons h _ ih =>
    intro p hp
    rcases List.mem_cons.1 hp with rfl | hp
    · exact h
    · exact ih p hp

/-! ### Judgements -/

def Ev (C : CW) (q : Req) (r : Resp) : Prop := ∃ n, runW C n q = some r

def WS (C : CW) (ro : Option Nat) (fn : FuncId) (nt : Nat) (c : PC) (s : St) (K : Ex → St → Prop) : Prop :=
  ∃ n e s', stepC C.c (runW C n) ro fn nt c s = some (.code e s') ∧ K e s'

def WC (C : CW) (ro : Option Nat) (fn : FuncId) (nt : Nat) (c : PC) (L : Env) (D : List Nat) (H : Heap) (K : Ex → St → Prop) : Prop :=
  ∀ t, has L t → WS C ro fn nt c ⟨t, D, H⟩ K

def WR (C : CW) (nt : Nat) (l : List POp) (L : Env) (D : List Nat) (H : Heap) (K : St → Prop) : Prop :=
  ∀ t, has L t → ∃ n s', stepOps C.c (runW C n) nt l ⟨t, D, H⟩ = some s' ∧ K s'

def WD (C : CW) (nt : Nat) (l : List POp) (rs : List Rd) (L : Env) (D : List Nat) (H : Heap) (K : St → Prop) : Prop :=
  ∀ t, has L t → ∃ n s', stepOpsD C.c (runW C n) nt l rs ⟨t, D, H⟩ = some s' ∧ K s'

def Ends (K : Ex → St → Prop) (e : Ex) (L : Env) (D : List Nat) (H : Heap) : Prop := ∀ t, has L t → K e ⟨t, D, H⟩

/-- A call comes to something of which R holds. -/
def FS (C : CW) (g : FuncId) (args : List Value) (H : Heap) (R : Value → Heap → Prop) : Prop := ∃ v H', Ev C (.call g args H) (.val v H') ∧ R v H'

def YS (C : CW) (l : Nat) (args : List Value) (H : Heap) (R : Value → Heap → Prop) : Prop := ∃ v H', Ev C (.yield l args H) (.val v H') ∧ R v H'

section
variable {C : CW} {ro : Option Nat} {fn : FuncId} {nt : Nat} {L L' : Env} {D : List Nat} {H : Heap} {K : Ex → St → Prop}

def seqK (C : CW) (ro : Option Nat) (fn : FuncId) (nt : Nat) (b : PC) (K : Ex → St → Prop) : Ex → St → Prop
  | .normal, s => WS C ro fn nt b s K
  | e, s => K e s

def blockK (id : Nat) (K : Ex → St → Prop) : Ex → St → Prop
  | .exit j, s => bif Nat.beq j id then K .normal s else K (.exit j) s
  | e, s => K e s

theorem stepC_up {n m : Nat} (h : n ≤ m) {c : PC} {s : St} {r : Resp} (hs : stepC C.c (runW C n) ro fn nt c s = some r) : stepC C.c (runW C m) ro fn nt c s = some r :=
  stepC_mono (run_mono h) hs

theorem WS.seq {a b : PC} {s : St} (h : WS C ro fn nt a s (seqK C ro fn nt b K)) : WS C ro fn nt (.seq a b) s K := by
  obtain ⟨n, e, s1, h1, h2⟩ := h
  cases e with
  | normal =>
    obtain ⟨m, e2, s2, h3, h4⟩ := h2
    refine ⟨max n m, e2, s2, ?_, h4⟩
    simp only [stepC, stepC_up (Nat.le_max_left n m) h1, thenC, stepC_up (Nat.le_max_right n m) h3]
  | _ => exact ⟨n, _, s1, by simp only [stepC, h1, thenC], h2⟩

theorem WC.seq {a b : PC} (h : WC C ro fn nt a L D H (seqK C ro fn nt b K)) : WC C ro fn nt (.seq a b) L D H K := fun t ht => WS.seq (h t ht)

theorem WS.mono {c : PC} {s : St} {K' : Ex → St → Prop} (h : WS C ro fn nt c s K) (k : ∀ e s, K e s → K' e s) : WS C ro fn nt c s K' := by
  obtain ⟨n, e, s1, h1, h2⟩ := h
  exact ⟨n, e, s1, h1, k _ _ h2⟩

theorem WC.weaken {c : PC} (h : WC C ro fn nt c L' D H K) (k : Sub L L') : WC C ro fn nt c L D H K := fun t ht => h t (ht.weaken k.mem)
theorem Ends.weaken {e : Ex} (h : Ends K e L' D H) (k : Sub L L') : Ends K e L D H := fun t ht => h t (ht.weaken k.mem)
theorem WR.weaken {l : List POp} {Q : St → Prop} (h : WR C nt l L' D H Q) (k : Sub L L') : WR C nt l L D H Q := fun t ht => h t (ht.weaken k.mem)

theorem WC.skip (h : Ends K .normal L D H) : WC C ro fn nt .skip L D H K := fun t ht => ⟨0, _, _, rfl, h t ht⟩
theorem WC.label {l : Nat} (h : Ends K .normal L D H) : WC C ro fn nt (.label l) L D H K := fun t ht => ⟨0, _, _, rfl, h t ht⟩
theorem WC.exit {l : Nat} (h : Ends K (.exit l) L D H) : WC C ro fn nt (.exit l) L D H K := fun t ht => ⟨0, _, _, rfl, h t ht⟩
theorem WC.goto {l : Nat} (h : Ends K (.goto l) L D H) : WC C ro fn nt (.goto l) L D H K := fun t ht => ⟨0, _, _, rfl, h t ht⟩
theorem WC.ret (h : Ends K .ret L D H) : WC C ro fn nt .ret L D H K := fun t ht => ⟨0, _, _, rfl, h t ht⟩

theorem WC.cond {x : Operand} {a b : PC} {q : Bool} (hx : ev L x = some (.bool q)) (h1 : q = true → WC C ro fn nt a L D H K) (h2 : q = false → WC C ro fn nt b L D H K) : WC C ro fn nt (.cond x a b) L D H K := by
  intro t ht
  have e := ev_ok ht hx
  cases q with
  | true => obtain ⟨n, e1, s1, h3, h4⟩ := h1 rfl t ht; exact ⟨n, e1, s1, by simp only [stepC, e, condC]; exact h3, h4⟩
  | false => obtain ⟨n, e1, s1, h3, h4⟩ := h2 rfl t ht; exact ⟨n, e1, s1, by simp only [stepC, e, condC]; exact h3, h4⟩

theorem WC.condP {x : Operand} {a b : PC} {p : Prop} [Decidable p] (hx : ev L x = some (.bool (decide p))) (h1 : p → WC C ro fn nt a L D H K) (h2 : ¬p → WC C ro fn nt b L D H K) : WC C ro fn nt (.cond x a b) L D H K :=
  WC.cond hx (fun h => h1 (of_decide_eq_true h)) (fun h => h2 (of_decide_eq_false h))

theorem WC.condT {x : Operand} {a b : PC} (hx : ev L x = some (.bool true)) (h1 : WC C ro fn nt a L D H K) : WC C ro fn nt (.cond x a b) L D H K :=
  WC.cond hx (fun _ => h1) (fun h => by cases h)
theorem WC.condF {x : Operand} {a b : PC} (hx : ev L x = some (.bool false)) (h1 : WC C ro fn nt b L D H K) : WC C ro fn nt (.cond x a b) L D H K :=
  WC.cond hx (fun h => by cases h) (fun _ => h1)

theorem WC.block {id : Nat} {b : PC} (h : WC C ro fn nt b L D H (blockK id K)) : WC C ro fn nt (.block id b) L D H K := by
  intro t ht
  obtain ⟨n, e, s1, h1, h2⟩ := h t ht
  cases e with
  | exit j =>
    simp only [blockK] at h2
    cases hb : Nat.beq j id with
    | true => rw [hb, cond_true] at h2; exact ⟨n, _, s1, by simp only [stepC, h1, blockC, hb, cond_true], h2⟩
    | false => rw [hb, cond_false] at h2; exact ⟨n, _, s1, by simp only [stepC, h1, blockC, hb, cond_false], h2⟩
  | _ => exact ⟨n, _, s1, by simp only [stepC, h1, blockC], h2⟩

theorem WC.region {l : List POp} (h : WR C nt l L D H (fun s => K .normal s)) : WC C ro fn nt (.region false l) L D H K := by
  intro t ht
  obtain ⟨n, s1, h1, h2⟩ := h t ht
  exact ⟨n, _, s1, by simp only [stepC, h1, normal], h2⟩

theorem WC.regionD {l : List POp} (h : WD C nt l [] L D H (fun s => K .normal s)) : WC C ro fn nt (.region true l) L D H K := by
  intro t ht
  obtain ⟨n, s1, h1, h2⟩ := h t ht
  exact ⟨n, _, s1, by simp only [stepC, h1, normal], h2⟩

theorem WR.nil (h : Ends K .normal L D H) : WR C nt [] L D H (fun s => K .normal s) := fun t ht => ⟨0, _, rfl, h t ht⟩
theorem WD.nil {rs : List Rd} (h : Ends K .normal L D H) : WD C nt [] rs L D H (fun s => K .normal s) := fun t ht => ⟨0, _, rfl, h t ht⟩

/-! What becomes of an end. -/

theorem Ends.seq {b : PC} (h : WC C ro fn nt b L D H K) : Ends (seqK C ro fn nt b K) .normal L D H := h
theorem Ends.seq_exit {b : PC} {j : Nat} (h : Ends K (.exit j) L D H) : Ends (seqK C ro fn nt b K) (.exit j) L D H := h
theorem Ends.seq_ret {b : PC} (h : Ends K .ret L D H) : Ends (seqK C ro fn nt b K) .ret L D H := h
theorem Ends.block {id : Nat} (h : Ends K .normal L D H) : Ends (blockK id K) .normal L D H := h
theorem Ends.block_ret {id : Nat} (h : Ends K .ret L D H) : Ends (blockK id K) .ret L D H := h
theorem Ends.block_exit {id : Nat} (h : Ends K .normal L D H) : Ends (blockK id K) (.exit id) L D H := by
  intro t ht; simp only [blockK, Nat.beq_refl, cond_true]; exact h t ht
theorem Ends.block_pass {id j : Nat} (hb : Nat.beq j id = false) (h : Ends K (.exit j) L D H) : Ends (blockK id K) (.exit j) L D H := by
  intro t ht; simp only [blockK, hb, cond_false]; exact h t ht

/-! Loops. -/

/-- What a round must come to: the relation again, lower, or an end that leaves the loop. -/
def loopK {α : Type} (I : α → St → Prop) (m : α → Nat) (a : α) (K : Ex → St → Prop) : Ex → St → Prop
  | .normal, s => ∃ a', m a' < m a ∧ I a' s
  | e, s => K e s

theorem WS.loop {α : Type} {b : PC} (I : α → St → Prop) (m : α → Nat) (hb : ∀ a s, I a s → WS C ro fn nt b s (loopK I m a K)) : ∀ (k : Nat) (a : α), m a < k → ∀ s, I a s → WS C ro fn nt (.loop b) s K := by
  intro k
  induction k with
  | zero => intro a h; exact absurd h (Nat.not_lt_zero _)
  | succ k ih =>
    intro a hk s hs
    obtain ⟨n, e, s1, h1, h2⟩ := hb a s hs
    cases e with
    | normal =>
      obtain ⟨a', hl, hi⟩ := h2
      obtain ⟨n2, e2, s2, h3, h4⟩ := ih a' (by omega) s1 hi
      refine ⟨max n (n2 + 1), e2, s2, ?_, h4⟩
      have h5 : runW C (n2 + 1) (.code ro fn nt (.loop b) s1) = some (.code e2 s2) := h3
      simp only [stepC, stepC_up (Nat.le_max_left n (n2 + 1)) h1, thenC]
      exact run_mono (Nat.le_max_right n (n2 + 1)) _ _ h5
    | _ => exact ⟨n, _, s1, by simp only [stepC, h1, thenC], h2⟩

/-- A state as it is known: temporaries, deferred things, heap. -/
def sat (L : Env) (D : List Nat) (hp : Heap → Prop) (s : St) : Prop := has L s.t ∧ s.d = D ∧ hp s.H

theorem WC.loop {α : Type} {b : PC} (Lf : α → Env) (Df : α → List Nat) (hp : α → Heap → Prop) (m : α → Nat) (a0 : α) (h0 : Sub L (Lf a0)) (hD : D = Df a0) (hH : hp a0 H)
    (hb : ∀ a H, hp a H → WC C ro fn nt b (Lf a) (Df a) H (loopK (fun a => sat (Lf a) (Df a) (hp a)) m a K)) : WC C ro fn nt (.loop b) L D H K := by
  intro t ht
  refine WS.loop (fun a => sat (Lf a) (Df a) (hp a)) m ?_ (m a0 + 1) a0 (Nat.lt_succ_self _) _ ⟨ht.weaken h0.mem, hD, hH⟩
  intro a s hs
  obtain ⟨h1, h2, h3⟩ := hs
  have := hb a s.H h3 s.t h1
  cases s
  simp only at h2
  subst h2
  exact this

theorem Ends.loop {α : Type} {Lf : α → Env} {Df : α → List Nat} {hp : α → Heap → Prop} {m : α → Nat} {a : α} (a' : α) (hm : m a' < m a) (h0 : Sub L (Lf a')) (hD : D = Df a') (hH : hp a' H) :
    Ends (loopK (fun a => sat (Lf a) (Df a) (hp a)) m a K) .normal L D H :=
  fun t ht => ⟨a', hm, ht.weaken h0.mem, hD, hH⟩
/-- Ways that meet again. -/
def midK (I : St → Prop) (K : Ex → St → Prop) : Ex → St → Prop
  | .normal, s => I s
  | e, s => K e s
theorem Ends.mid_ret {I : St → Prop} (h : Ends K .ret L D H) : Ends (midK I K) .ret L D H := h
theorem Ends.mid_exit {I : St → Prop} {j : Nat} (h : Ends K (.exit j) L D H) : Ends (midK I K) (.exit j) L D H := h
theorem Ends.loop_exit {α : Type} {I : α → St → Prop} {m : α → Nat} {a : α} {j : Nat} (h : Ends K (.exit j) L D H) : Ends (loopK I m a K) (.exit j) L D H := h
theorem Ends.loop_ret {α : Type} {I : α → St → Prop} {m : α → Nat} {a : α} (h : Ends K .ret L D H) : Ends (loopK I m a K) .ret L D H := h
/-! Calls. -/

def retK (rs : List PRes) (R : Value → Heap → Prop) (e : Ex) (s : St) : Prop :=
  (match e with | .normal => True | .ret => True | _ => False) ∧ ∃ v H', leaveC rs s (takeAll s.H s.d) = some (.val v H') ∧ R v H'

def argEnv : Nat → List Value → Env
  | _, [] => []
  | i, v :: l => (i, v) :: argEnv (i + 1) l

theorem argEnv_lt : ∀ (l : List Value) (i n : Nat) (v : Value), Env.get (argEnv i l) n = some v → i ≤ n ∧ l[n - i]? = some v
  | [], i, n, v, h => by cases h
  | u :: l, i, n, v, h => by
    simp only [argEnv, Env.get] at h
    cases hb : Nat.beq i n with
    | true =>
      rw [hb, cond_true] at h; cases h
      have := Nat.eq_of_beq_eq_true hb
      subst this
      exact ⟨Nat.le_refl _, by simp⟩
    | false =>
      rw [hb, cond_false] at h
      obtain ⟨h1, h2⟩ := argEnv_lt l (i + 1) n v h
      refine ⟨by omega, ?_⟩
      rw [show n - i = (n - (i + 1)) + 1 by omega, List.getElem?_cons_succ]; exact h2

theorem has_args (args : List Value) : has (argEnv 0 args) (Tr.putL .nil 0 args) := by
  intro n v h
  obtain ⟨_, h2⟩ := argEnv_lt args 0 n v h
  rw [Tr.get_putL]
  have hlt : n < args.length := by
    rcases Nat.lt_or_ge n args.length with h | h
    · exact h
    · rw [Nat.sub_zero, List.getElem?_eq_none h] at h2; cases h2
  rw [if_pos ⟨Nat.zero_le _, by omega⟩]; exact h2

theorem FS.intro {g : FuncId} {args : List Value} {R : Value → Heap → Prop} {pf : PF} (hf : C.c.funcs.get g = some pf) (ha : Nat.ble args.length pf.nt = true) (hw : Nat.beq g C.w = false)
    (h : WC C none g pf.nt pf.body (argEnv 0 args) [] H (retK pf.results R)) : FS C g args H R := by
  obtain ⟨n, e, s1, h1, h2, v, H', h3, h4⟩ := h _ (has_args args)
  refine ⟨v, H', ⟨n + 1, ?_⟩, h4⟩
  simp only [runW, ihW, hw, Bool.false_and, cond_false, step, stepCall, hf, callPF, ha, cond_true, h1]
  cases e with
  | normal => exact h3
  | ret => exact h3
  | exit j => exact h2.elim
  | goto j => exact h2.elim

theorem FS.works {R : Value → Heap → Prop} (h : R (.bool true) H) : FS C C.w [] H R :=
  ⟨.bool true, H, ⟨0, by simp [runW, ihW]⟩, h⟩

theorem FS.mono {g : FuncId} {args : List Value} {R R' : Value → Heap → Prop} (h : FS C g args H R) (k : ∀ v H', R v H' → R' v H') : FS C g args H R' := by
  obtain ⟨v, H', h1, h2⟩ := h; exact ⟨v, H', h1, k _ _ h2⟩

theorem FS.ex {g : FuncId} {args : List Value} {R : Value → Heap → Prop} (h : FS C g args H R) : ∃ v H', R v H' := by
  obtain ⟨v, H', _, h2⟩ := h; exact ⟨v, H', h2⟩

theorem Ends.ret_of {rs : List PRes} {R : Value → Heap → Prop} {e : Ex} (he : (match e with | .normal => True | .ret => True | _ => False)) (h : ∀ t, has L t → ∃ v H', leaveC rs ⟨t, D, H⟩ (takeAll H D) = some (.val v H') ∧ R v H') : Ends (retK rs R) e L D H :=
  fun t ht => ⟨he, h t ht⟩

theorem Ends.ret1 {a : Nat} {v : Value} {R : Value → Heap → Prop} (hx : ev L (.tmp a) = some v) (h : R v H) : Ends (retK [.tmp a] R) .ret L [] H := by
  refine Ends.ret_of trivial fun t ht => ⟨v, H, ?_, h⟩
  simp only [takeAll, leaveC, resultOf, ev_ok ht hx, retVal]
theorem Ends.ret2 {a b : Nat} {v u : Value} {R : Value → Heap → Prop} (hx : ev L (.tmp a) = some v) (hy : ev L (.tmp b) = some u) (h : R (.tuple #[v, u]) H) : Ends (retK [.tmp a, .tmp b] R) .ret L [] H := by
  refine Ends.ret_of trivial fun t ht => ⟨_, H, ?_, h⟩
  simp only [takeAll, leaveC, resultOf, ev_ok ht hx, ev_ok ht hy, retVal]
theorem Ends.ret0 {R : Value → Heap → Prop} (h : R (.tuple #[]) H) : Ends (retK [] R) .ret L [] H :=
  Ends.ret_of trivial fun t ht => ⟨_, H, rfl, h⟩
theorem Ends.end0 {R : Value → Heap → Prop} (h : R (.tuple #[]) H) : Ends (retK [] R) .normal L [] H :=
  Ends.ret_of trivial fun t ht => ⟨_, H, rfl, h⟩

end
end Go.Abs
