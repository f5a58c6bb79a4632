/- The evaluator with a table of calls that have been carried out before: so that one long run is checked in parts. -/
import Derived.Test.YtdlfikobjnjmaaaAbsTop
namespace Go.Abs
set_option linter.unusedSectionVars false
variable [Globs]
open Go
set_option linter.unusedVariables false
set_option linter.unusedSimpArgs false

def all2 {α : Type} (e : α → α → Bool) : List α → List α → Bool
  | [], [] => true
  | a :: l, b :: r => e a b && all2 e l r
  | _, _ => false

theorem all2_eq {α : Type} {e : α → α → Bool} (he : ∀ a b, e a b = true → a = b) : ∀ {l r : List α}, all2 e l r = true → l = r
  | [], [], _ => rfl
  | a :: l, b :: r, h => by
    simp only [all2, Bool.and_eq_true] at h
    rw [he _ _ h.1, all2_eq he h.2]
  | [], _ :: _, h => by cases h
  | _ :: _, [], h => by cases h

/-- Are these surely one value? To a depth. -/
def sameD : Nat → Value → Value → Bool
  | 0, v, w => same1 v w
  | n + 1, v, w =>
    match v, w with
    | .agg a, .agg b => all2 (sameD n) a.toList b.toList
    | .tuple a, .tuple b => all2 (sameD n) a.toList b.toList
    | .func (.func f) a b, .func (.func g) c d => Nat.beq f g && all2 (sameD n) a.toList c.toList && all2 (sameD n) b.toList d.toList
    | v, w => same1 v w

theorem sameD_eq : ∀ {n : Nat} {v w : Value}, sameD n v w = true → v = w
  | 0, v, w, h => same1_eq h
  | n + 1, v, w, h => by
    have ih : ∀ a b, sameD n a b = true → a = b := fun a b => sameD_eq
    unfold sameD at h
    split at h
    · rw [Array.ext' (all2_eq ih h)]
    · rw [Array.ext' (all2_eq ih h)]
    · simp only [Bool.and_eq_true] at h
      rw [Nat.eq_of_beq_eq_true h.1.1, Array.ext' (all2_eq ih h.1.2), Array.ext' (all2_eq ih h.2)]
    · exact same1_eq h

def sameO {α : Type} (e : α → α → Bool) : Option α → Option α → Bool
  | none, none => true
  | some a, some b => e a b
  | _, _ => false

def sameT {α : Type} (e : α → α → Bool) : Tr α → Tr α → Bool
  | .nil, .nil => true
  | .node u l r, .node u' l' r' => sameO e u u' && sameT e l l' && sameT e r r'
  | _, _ => false

theorem sameO_eq {α : Type} {e : α → α → Bool} (he : ∀ a b, e a b = true → a = b) {a b : Option α} (h : sameO e a b = true) : a = b := by
  cases a <;> cases b <;> simp only [sameO] at h <;> first | rfl | (rw [he _ _ h]) | cases h

theorem sameT_eq {α : Type} {e : α → α → Bool} (he : ∀ a b, e a b = true → a = b) : ∀ {t t' : Tr α}, sameT e t t' = true → t = t' := by
  intro t
  induction t with
  | nil => intro t' h; cases t' with | nil => rfl | node => cases h
  | node u l r ihl ihr =>
    intro t' h
    cases t' with
    | nil => cases h
    | node u' l' r' =>
      simp only [sameT, Bool.and_eq_true] at h
      rw [sameO_eq he h.1.1, ihl h.1.2, ihr h.2]

def sameVer (a b : Ver) : Bool := Nat.beq a.id b.id && Nat.beq a.lo b.lo && Nat.beq a.hi b.hi

theorem sameVer_eq (a b : Ver) (h : sameVer a b = true) : a = b := by
  cases a; cases b
  simp only [sameVer, Bool.and_eq_true] at h
  have h1 := Nat.eq_of_beq_eq_true h.1.1
  have h2 := Nat.eq_of_beq_eq_true h.1.2
  have h3 := Nat.eq_of_beq_eq_true h.2
  subst h1; subst h2; subst h3; rfl

def sameOpd : Operand → Operand → Bool
  | .tmp a, .tmp b => Nat.beq a b
  | .const v, .const w => sameD 3 v w
  | .func f, .func g => Nat.beq f g
  | _, _ => false
theorem sameOpd_eq (a b : Operand) (h : sameOpd a b = true) : a = b := by
  cases a <;> cases b <;> simp only [sameOpd] at h <;> first | (rw [Nat.eq_of_beq_eq_true h]) | (rw [sameD_eq h]) | cases h
/-- Some operations: are they the same? -/
def sameA : AOp → AOp → Bool
  | .move x, .move y => sameOpd x y
  | .load1 x, .load1 y => sameOpd x y
  | .len x, .len y => sameOpd x y
  | .not x, .not y => sameOpd x y
  | .callF f l, .callF g r => Nat.beq f g && all2 sameOpd l r
  | .callV f l, .callV g r => sameOpd f g && all2 sameOpd l r
  | .ibin op k x y, .ibin op' k' x' y' => decide (op = op') && decide (k = k') && sameOpd x x' && sameOpd y y'
  | .store x y n, .store x' y' n' => sameOpd x x' && sameOpd y y' && Nat.beq n n'
  | _, _ => false
theorem sameA_eq (a b : AOp) (h : sameA a b = true) : a = b := by
  unfold sameA at h
  split at h
  · rw [sameOpd_eq _ _ h]
  · rw [sameOpd_eq _ _ h]
  · rw [sameOpd_eq _ _ h]
  · rw [sameOpd_eq _ _ h]
  · simp only [Bool.and_eq_true] at h; rw [Nat.eq_of_beq_eq_true h.1, all2_eq sameOpd_eq h.2]
  · simp only [Bool.and_eq_true] at h; rw [sameOpd_eq _ _ h.1, all2_eq sameOpd_eq h.2]
  · simp only [Bool.and_eq_true, decide_eq_true_eq] at h; rw [h.1.1.1, h.1.1.2, sameOpd_eq _ _ h.1.2, sameOpd_eq _ _ h.2]
  · simp only [Bool.and_eq_true] at h; rw [sameOpd_eq _ _ h.1.1, sameOpd_eq _ _ h.1.2, Nat.eq_of_beq_eq_true h.2]
  · cases h
def sameN (a b : Nat) : Bool := Nat.beq a b
theorem sameN_eq (a b : Nat) (h : sameN a b = true) : a = b := Nat.eq_of_beq_eq_true h
def sameG (a b : Tmp × Bool) : Bool := Nat.beq a.1 b.1 && (a.2 == b.2)
theorem sameG_eq (a b : Tmp × Bool) (h : sameG a b = true) : a = b := by
  simp only [sameG, Bool.and_eq_true] at h
  exact Prod.ext (Nat.eq_of_beq_eq_true h.1) (eq_of_beq h.2)
def sameP (a b : POp) : Bool := Nat.beq a.i b.i && sameO sameN a.dst b.dst && sameA a.op b.op && sameO sameG a.guard b.guard && all2 sameN a.loose b.loose
theorem sameP_eq (a b : POp) (h : sameP a b = true) : a = b := by
  simp only [sameP, Bool.and_eq_true] at h
  have h1 := Nat.eq_of_beq_eq_true h.1.1.1.1
  have h2 := sameO_eq sameN_eq h.1.1.1.2
  have h3 := sameA_eq _ _ h.1.1.2
  have h4 := sameO_eq sameG_eq h.1.2
  have h5 := all2_eq sameN_eq h.2
  cases a; cases b
  simp only at h1 h2 h3 h4 h5
  subst h1; subst h2; subst h3; subst h4; subst h5; rfl
def sameC : PC → PC → Bool
  | .skip, .skip => true
  | .region d l, .region d' l' => (d == d') && all2 sameP l l'
  | .seq a b, .seq a' b' => sameC a a' && sameC b b'
  | .cond c a b, .cond c' a' b' => sameOpd c c' && sameC a a' && sameC b b'
  | .block i b, .block i' b' => Nat.beq i i' && sameC b b'
  | .loop b, .loop b' => sameC b b'
  | .exit i, .exit i' => Nat.beq i i'
  | .ret, .ret => true
  | _, _ => false
theorem sameC_eq : ∀ (a b : PC), sameC a b = true → a = b
  | .skip, b, h => by cases b <;> first | rfl | cases h
  | .region d l, b, h => by
    cases b <;> first | cases h | skip
    simp only [sameC, Bool.and_eq_true] at h
    rw [eq_of_beq h.1, all2_eq sameP_eq h.2]
  | .seq x y, b, h => by
    cases b <;> first | cases h | skip
    simp only [sameC, Bool.and_eq_true] at h
    rw [sameC_eq _ _ h.1, sameC_eq _ _ h.2]
  | .cond c x y, b, h => by
    cases b <;> first | cases h | skip
    simp only [sameC, Bool.and_eq_true] at h
    rw [sameOpd_eq _ _ h.1.1, sameC_eq _ _ h.1.2, sameC_eq _ _ h.2]
  | .block i x, b, h => by
    cases b <;> first | cases h | skip
    simp only [sameC, Bool.and_eq_true] at h
    rw [Nat.eq_of_beq_eq_true h.1, sameC_eq _ _ h.2]
  | .loop x, b, h => by
    cases b <;> first | cases h | skip
    simp only [sameC] at h
    rw [sameC_eq _ _ h]
  | .rangeFunc _ _ _ _, b, h => by cases b <;> cases h
  | .exit i, b, h => by
    cases b <;> first | cases h | skip
    rw [Nat.eq_of_beq_eq_true h]
  | .scope _, b, h => by cases b <;> cases h
  | .label _, b, h => by cases b <;> cases h
  | .goto _, b, h => by cases b <;> cases h
  | .ret, b, h => by cases b <;> first | rfl | cases h
def sameLp (a b : LoopE) : Bool := decide (a.state = b.state) && a.pending.isNone && b.pending.isNone && Nat.beq a.fn b.fn && sameT (sameD 3) a.tmps b.tmps && all2 sameN a.params b.params && sameC a.assign b.assign && sameC a.body b.body && Nat.beq a.nt b.nt
theorem sameLp_eq (a b : LoopE) (h : sameLp a b = true) : a = b := by
  simp only [sameLp, Bool.and_eq_true, decide_eq_true_eq] at h
  obtain ⟨⟨⟨⟨⟨⟨⟨⟨h1, h2⟩, h3⟩, h4⟩, h5⟩, h6⟩, h7⟩, h8⟩, h9⟩ := h
  replace h4 := Nat.eq_of_beq_eq_true h4
  replace h5 := sameT_eq (fun _ _ => sameD_eq) h5
  replace h6 := all2_eq sameN_eq h6
  replace h7 := sameC_eq _ _ h7
  replace h8 := sameC_eq _ _ h8
  replace h9 := Nat.eq_of_beq_eq_true h9
  have h23 := (Option.isNone_iff_eq_none.1 h2).trans (Option.isNone_iff_eq_none.1 h3).symm
  cases a; cases b
  simp only at h1 h23 h4 h5 h6 h7 h8 h9
  subst h1; subst h23; subst h4; subst h5; subst h6; subst h7; subst h8; subst h9; rfl
def sameE : Ent → Ent → Bool
  | .loop a, .loop b => sameLp a b
  | .defd a, .defd b => a == b
  | .cells e ro vs top c, .cells e' ro' vs' top' c' => Nat.beq e e' && (ro == ro') && all2 sameVer vs vs' && Nat.beq top top' && sameT (sameD 3) c c'
  | _, _ => false

theorem sameE_eq (a b : Ent) (h : sameE a b = true) : a = b := by
  cases a with
  | cells e ro vs top c =>
    cases b with
    | cells e' ro' vs' top' c' =>
      simp only [sameE, Bool.and_eq_true] at h
      obtain ⟨⟨⟨⟨h1, h2⟩, h3⟩, h4⟩, h5⟩ := h
      rw [Nat.eq_of_beq_eq_true h1, eq_of_beq h2, all2_eq sameVer_eq h3, Nat.eq_of_beq_eq_true h4, sameT_eq (fun _ _ => sameD_eq) h5]
    | _ => cases h
  | loop r =>
    cases b with
    | loop r' => rw [sameLp_eq _ _ h]
    | _ => cases h
  | defd x =>
    cases b with
    | defd y => rw [show x = y from eq_of_beq h]
    | _ => cases h
  | _ => cases b <;> cases h

def sameH (H H' : Heap) : Bool := Nat.beq H.next H'.next && sameT sameE H.t H'.t

theorem sameH_eq {H H' : Heap} (h : sameH H H' = true) : H = H' := by
  cases H; cases H'
  simp only [sameH, Bool.and_eq_true] at h
  have h1 := Nat.eq_of_beq_eq_true h.1
  have h2 := sameT_eq sameE_eq h.2
  subst h1; subst h2; rfl

def subT {α : Type} (e : α → α → Bool) : Tr α → Tr α → Bool
  | .nil, _ => true
  | .node u l r, .nil => u.isNone && subT e l .nil && subT e r .nil
  | .node u l r, .node u' l' r' => (u.isNone || sameO e u u') && subT e l l' && subT e r r'

theorem subT_get {α : Type} {e : α → α → Bool} (he : ∀ a b, e a b = true → a = b) : ∀ {t t' : Tr α}, subT e t t' = true → ∀ n o, t.get n = some o → t'.get n = some o := by
  intro t
  induction t with
  | nil => intro t' h n o hg; cases hg
  | node u l r ihl ihr =>
    intro t' h n o hg
    cases t' with
    | nil =>
      simp only [subT, Bool.and_eq_true] at h
      simp only [Tr.get] at hg
      cases h0 : Nat.beq n 0 with
      | true =>
        simp only [h0, cond_true] at hg
        rw [hg] at h; cases h.1.1
      | false =>
        simp only [h0, cond_false] at hg
        cases h1 : Nat.beq (n % 2) 1 with
        | true => simp only [h1, cond_true] at hg; have := ihl h.1.2 _ _ hg; cases this
        | false => simp only [h1, cond_false] at hg; have := ihr h.2 _ _ hg; cases this
    | node u' l' r' =>
      simp only [subT, Bool.and_eq_true, Bool.or_eq_true] at h
      simp only [Tr.get] at hg ⊢
      cases h0 : Nat.beq n 0 with
      | true =>
        simp only [h0, cond_true] at hg ⊢
        rcases h.1.1 with hn | hs
        · rw [hg] at hn; cases hn
        · rw [← sameO_eq he hs]; exact hg
      | false =>
        simp only [h0, cond_false] at hg ⊢
        cases h1 : Nat.beq (n % 2) 1 with
        | true => simp only [h1, cond_true] at hg ⊢; exact ihl h.1.2 _ _ hg
        | false => simp only [h1, cond_false] at hg ⊢; exact ihr h.2 _ _ hg

def subH (H2 H : Heap) : Bool := Nat.beq H2.next H.next && subT sameE H2.t H.t

theorem subH_sub {H2 H : Heap} (h : subH H2 H = true) : H2.Sub H := by
  simp only [subH, Bool.and_eq_true] at h
  exact ⟨Nat.eq_of_beq_eq_true h.1, subT_get sameE_eq h.2⟩

/-- A call that has been carried out. -/
structure Ora where
  f : FuncId
  args : List Value
  H : Heap
  v : Value
  H2 : Heap

def findOra (f : FuncId) (args : List Value) (H : Heap) : List Ora → Option Resp
  | [] => none
  | e :: l => bif Nat.beq e.f f && Nat.beq e.H.next H.next && all2 (sameD 3) e.args args && sameH e.H H then some (.val e.v e.H2) else findOra f args H l

def ihOra (tab : List Ora) (ih : Req → Option Resp) : Req → Option Resp
  | .call f args H => (match findOra f args H tab with | some r => some r | none => ih (.call f args H))
  | q => ih q

def runO (C : Ctx) (tab : List Ora) : Nat → Req → Option Resp
  | 0, _ => none
  | n + 1, q => step C (ihOra tab (runO C tab n)) q

def TabOK (C : Ctx) (tab : List Ora) : Prop := ∀ e ∈ tab, Said C (.call e.f e.args e.H) (.val e.v e.H2)

theorem findOra_said {C : Ctx} {f : FuncId} {args : List Value} {H : Heap} {r : Resp} : ∀ {tab : List Ora}, TabOK C tab → findOra f args H tab = some r → Said C (.call f args H) r
  | [], _, h => by cases h
  | e :: l, ht, h => by
    simp only [findOra] at h
    cases hb : (Nat.beq e.f f && Nat.beq e.H.next H.next && all2 (sameD 3) e.args args && sameH e.H H) with
    | true =>
      rw [hb, cond_true] at h; cases h
      simp only [Bool.and_eq_true] at hb
      have h1 := Nat.eq_of_beq_eq_true hb.1.1.1
      have h2 := all2_eq (fun _ _ => sameD_eq) hb.1.2
      have h3 := sameH_eq hb.2
      have := ht e (by simp)
      rw [h1, h2, h3] at this
      exact this
    | false =>
      rw [hb, cond_false] at h
      exact findOra_said (fun e he => ht e (by simp [he])) h

theorem step_sound {C : Ctx} (hC : CtxOK C) {ih : Req → Option Resp} (IH : ∀ q r, ih q = some r → Said C q r) (q : Req) (r : Resp) (h : step C ih q = some r) : Said C q r := by
  cases q with
  | call f args H => exact call_sound hC IH h
  | yield l args H => exact yield_sound hC IH h
  | code ro fn nt c s => exact loop_sound hC IH h
  | scope ro fn nt whole c s => exact scope_sound hC IH h

theorem runO_sound {C : Ctx} (hC : CtxOK C) {tab : List Ora} (ht : TabOK C tab) : ∀ (n : Nat) (q : Req) (r : Resp), runO C tab n q = some r → Said C q r
  | 0, q, r, h => by cases h
  | n + 1, q, r, h => by
    refine step_sound hC (ih := ihOra tab (runO C tab n)) (fun q r hq => ?_) q r h
    have IH := runO_sound hC ht n
    unfold ihOra at hq
    split at hq
    · rename_i f args H
      cases hf : findOra f args H tab with
      | some r0 => rw [hf] at hq; cases hq; exact findOra_said ht hf
      | none => rw [hf] at hq; exact IH _ _ hq
    · exact IH _ _ hq

/-- Does the run come to what the table says? -/
def checkO (C : Ctx) (tab : List Ora) (n : Nat) (e : Ora) : Bool :=
  match runO C tab n (.call e.f e.args e.H) with
  | some (.val v H) => sameD 3 v e.v && subH e.H2 H
  | _ => false

theorem checkO_said {C : Ctx} (hC : CtxOK C) {tab : List Ora} (ht : TabOK C tab) {n : Nat} {e : Ora} (h : checkO C tab n e = true) : Said C (.call e.f e.args e.H) (.val e.v e.H2) := by
  unfold checkO at h
  split at h
  · rename_i v H hr
    simp only [Bool.and_eq_true] at h
    have hs := runO_sound hC ht n _ _ hr
    rw [sameD_eq h.1] at hs
    exact Said.sub hs (subH_sub h.2)
  · cases h

theorem TabOK.cons {C : Ctx} {e : Ora} {tab : List Ora} (h : Said C (.call e.f e.args e.H) (.val e.v e.H2)) (ht : TabOK C tab) : TabOK C (e :: tab) := by
  intro x hx
  rcases List.mem_cons.1 hx with rfl | hx
  · exact h
  · exact ht x hx

theorem TabOK.nil {C : Ctx} : TabOK C [] := by intro x hx; cases hx

/-- The prepared functions, one after another. -/
def ofFuncs : List (Nat × PF) → Tr PF
  | [] => .nil
  | (k, pf) :: l => (ofFuncs l).put k pf

theorem ofFuncs_get {f : Nat} {pf : PF} : ∀ {l : List (Nat × PF)}, (ofFuncs l).get f = some pf → (f, pf) ∈ l
  | [], h => by cases h
  | (k, q) :: l, h => by
    simp only [ofFuncs, Tr.get_put] at h
    by_cases hk : f = k
    · subst hk; rw [if_pos rfl] at h; cases h; simp
    · rw [if_neg hk] at h; exact List.mem_cons_of_mem _ (ofFuncs_get h)

/-- A heap, entry by entry. -/
def heapOf (n : Nat) (l : List (Nat × Ent)) : Heap := { next := n, t := l.foldl (fun t p => t.put p.1 p.2) .nil }

/-- A heap with some rows more, or changed. -/
def heapAdd (H : Heap) (n : Nat) (l : List (Nat × Ent)) : Heap := { next := n, t := l.foldl (fun t p => t.put p.1 p.2) H.t }

/-- What a call of nothing has come to over no heap, it comes to over every heap. -/
theorem Said.frame {C : Ctx} {f : FuncId} {b : Bool} {H0 : Heap} (h : Said C (.call f [] noHeap) (.val (.bool b) H0)) (H : Heap) : Said C (.call f [] H) (.val (.bool b) H) := by
  refine ⟨h.1, fun σ N w args' hH hv cs => ?_⟩
  cases args' with
  | mk l =>
    cases hv
    obtain ⟨τ, w', v', fr, q1, q2, q3, q4, q5⟩ := h.2 noRen w.heap.size w #[] (noHeap_HR (hH.glob.up hH.size)) .nil cs
    have hold : ∀ b, b < w.heap.size → w'.heap[b]? = w.heap[b]? := fun b hb => q4.old b hb noHeap_Img
    have hlt : ∀ {b : Nat} {o : Obj}, w.heap[b]? = some o → w'.heap[b]? = some o := fun {b o} ho => (hold b (Array.getElem?_eq_some_iff.1 ho).1).trans ho
    cases q3
    refine ⟨σ, w', .bool b, fr, σ.le_refl, ?_, .bool b, ?_, q5⟩
    · refine ⟨fun f e ro vs top c hg v hv => ?_, hH.uniq, fun f o hg hn => ?_, hH.uniqO, hH.next, hH.tops, Nat.le_trans hH.size q4.size, hH.glob.to fun b hb => hold b (Nat.lt_of_lt_of_le hb hH.size)⟩
      · obtain ⟨l, hl⟩ := hH.rows f e ro vs top c hg v hv
        obtain ⟨cs, e, fz, k1, k2⟩ := hl.blk
        exact ⟨l, hl.world ((hlt k1).trans k1.symm)⟩
      · obtain ⟨b, o', k1, k2, k3, k4⟩ := hH.objs f o hg hn
        exact ⟨b, o', k1, k2, hlt k3, k4⟩
    · exact ⟨q4.size, q4.os, q4.output, fun b hb _ => hold b hb, fun _ _ h => h, fun b cs e fz hb hc => ⟨cs, by rw [← hold b hb]; exact hc⟩, q4.new⟩

end Go.Abs
