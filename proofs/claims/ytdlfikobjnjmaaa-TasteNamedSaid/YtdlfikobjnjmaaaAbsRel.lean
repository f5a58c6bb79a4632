/- How the evaluator's heap lies in the model's: which version of which row is which block, from where on. -/
import Derived.Test.YtdlfikobjnjmaaaAbsEv
import Derived.RangeFuncIn
import Derived.Laws.CopyRow
import Derived.Laws.Cells
import Derived.Orders
namespace Go.Abs
open Go
set_option linter.unusedVariables false

/-! ### Trees -/

theorem Tr.get_nil {α : Type} (n : Nat) : (Tr.nil : Tr α).get n = none := rfl

theorem Tr.get_set {α : Type} : ∀ (f : Nat) (t : Tr α) (n m : Nat) (v : Option α), n + 1 < 2 ^ f → (Tr.set f t n v).get m = if m = n then v else t.get m := by
  intro f
  induction f with
  | zero => intro t n m v h; simp at h
  | succ f ih =>
    intro t n m v h
    have hp : 2 ^ (f + 1) = 2 * 2 ^ f := by rw [Nat.pow_succ]; omega
    have key : ∀ (u : Option α) (l r : Tr α),
        (bif Nat.beq n 0 then Tr.node v l r else bif Nat.beq (n % 2) 1 then Tr.node u (Tr.set f l (n / 2) v) r else Tr.node u l (Tr.set f r (n / 2 - 1) v)).get m
          = if m = n then v else (Tr.node u l r).get m := by
      intro u l r
      by_cases h0 : n = 0
      · subst h0
        simp only [Nat.beq_refl, cond_true]
        by_cases hm : m = 0
        · subst hm; simp [Tr.get]
        · have : Nat.beq m 0 = false := by cases hb : Nat.beq m 0 with | false => rfl | true => exact absurd (Nat.eq_of_beq_eq_true hb) hm
          simp [Tr.get, this, hm]
      · have hb0 : Nat.beq n 0 = false := by cases hb : Nat.beq n 0 with | false => rfl | true => exact absurd (Nat.eq_of_beq_eq_true hb) h0
        rw [hb0, cond_false]
        by_cases h1 : n % 2 = 1
        · have hb1 : Nat.beq (n % 2) 1 = true := by rw [h1]; rfl
          rw [hb1, cond_true]
          simp only [Tr.get]
          by_cases hm0 : m = 0
          · subst hm0; simp [show (0 : Nat) ≠ n from fun e => h0 e.symm]
          · have hbm : Nat.beq m 0 = false := by cases hb : Nat.beq m 0 with | false => rfl | true => exact absurd (Nat.eq_of_beq_eq_true hb) hm0
            rw [hbm, cond_false, cond_false]
            by_cases hm1 : m % 2 = 1
            · have hbm1 : Nat.beq (m % 2) 1 = true := by rw [hm1]; rfl
              rw [hbm1, cond_true, cond_true, ih _ _ _ _ (by omega)]
              by_cases e : m = n
              · simp [e]
              · rw [if_neg (by omega), if_neg e]
            · have hbm1 : Nat.beq (m % 2) 1 = false := by cases hb : Nat.beq (m % 2) 1 with | false => rfl | true => exact absurd (Nat.eq_of_beq_eq_true hb) hm1
              rw [hbm1, cond_false, cond_false, if_neg (by omega)]
        · have hb1 : Nat.beq (n % 2) 1 = false := by cases hb : Nat.beq (n % 2) 1 with | false => rfl | true => exact absurd (Nat.eq_of_beq_eq_true hb) h1
          rw [hb1, cond_false]
          simp only [Tr.get]
          by_cases hm0 : m = 0
          · subst hm0; simp [show (0 : Nat) ≠ n from fun e => h0 e.symm]
          · have hbm : Nat.beq m 0 = false := by cases hb : Nat.beq m 0 with | false => rfl | true => exact absurd (Nat.eq_of_beq_eq_true hb) hm0
            rw [hbm, cond_false, cond_false]
            by_cases hm1 : m % 2 = 1
            · have hbm1 : Nat.beq (m % 2) 1 = true := by rw [hm1]; rfl
              rw [hbm1, cond_true, cond_true, if_neg (by omega)]
            · have hbm1 : Nat.beq (m % 2) 1 = false := by cases hb : Nat.beq (m % 2) 1 with | false => rfl | true => exact absurd (Nat.eq_of_beq_eq_true hb) hm1
              rw [hbm1, cond_false, cond_false, ih _ _ _ _ (by omega)]
              by_cases e : m = n
              · simp [e]
              · rw [if_neg (by omega), if_neg e]
    cases t with
    | nil =>
      have := key none .nil .nil
      simp only [Tr.set]
      have e : ∀ k, (Tr.node none (Tr.nil : Tr α) .nil).get k = (Tr.nil : Tr α).get k := by
        intro k; simp only [Tr.get]; cases Nat.beq k 0 <;> cases Nat.beq (k % 2) 1 <;> rfl
      rw [e] at this
      exact this
    | node u l r => exact key u l r

theorem Tr.get_put {α : Type} (t : Tr α) (n m : Nat) (v : α) : (t.put n v).get m = if m = n then some v else t.get m := by
  have h : ∀ n : Nat, n + 1 < 2 ^ (n + 1) := by
    intro n
    induction n with
    | zero => decide
    | succ n ih => rw [Nat.pow_succ]; omega
  have h' : n + 1 < 2 ^ (n + 1) := h n
  exact Tr.get_set _ _ _ _ _ h'

theorem Tr.get_putL {α : Type} : ∀ (l : List α) (t : Tr α) (n m : Nat), (t.putL n l).get m = if n ≤ m ∧ m < n + l.length then l[m - n]? else t.get m := by
  intro l
  induction l with
  | nil => intro t n m; simp only [Tr.putL, List.length_nil]; rw [if_neg (by omega)]
  | cons x l ih =>
    intro t n m
    simp only [Tr.putL, List.length_cons]
    rw [ih, Tr.get_put]
    by_cases h1 : n + 1 ≤ m ∧ m < n + 1 + l.length
    · rw [if_pos h1, if_pos (by omega), show m - n = (m - (n + 1)) + 1 from by omega, List.getElem?_cons_succ]
    · rw [if_neg h1]
      by_cases h2 : m = n
      · subst h2; rw [if_pos rfl, if_pos (by omega)]; simp
      · rw [if_neg h2, if_neg (by omega)]

/-! ### Where things lie -/

structure Loc where
  blk : Nat
  sh : Nat
  n : Nat

structure Ren where
  row : Nat → Nat → Option Loc
  obj : Nat → Option Nat

def Ren.le (σ τ : Ren) : Prop := (∀ f u l, σ.row f u = some l → τ.row f u = some l) ∧ ∀ f b, σ.obj f = some b → τ.obj f = some b

theorem Ren.le_refl (σ : Ren) : σ.le σ := ⟨fun _ _ _ h => h, fun _ _ h => h⟩
theorem Ren.le_trans {σ τ υ : Ren} (h : σ.le τ) (k : τ.le υ) : σ.le υ := ⟨fun f u l e => k.1 f u l (h.1 f u l e), fun f b e => k.2 f b (h.2 f b e)⟩

def AR (σ : Ren) (a a' : Addr) (l : Loc) : Prop := ∃ u, a.spot = some u ∧ σ.row a.block u = some l ∧ a'.block = l.blk ∧ a'.spot = none ∧ a.off = a'.off + l.sh

theorem AR.le {σ τ : Ren} {a a' : Addr} {l : Loc} (h : AR σ a a' l) (k : σ.le τ) : AR τ a a' l := by
  obtain ⟨u, h1, h2, h3⟩ := h
  exact ⟨u, h1, k.1 _ _ _ h2, h3⟩

inductive VR (σ : Ren) : Value → Value → Prop where
  | bool (b : Bool) : VR σ (.bool b) (.bool b)
  | int (k : IntKind) (n : Int) : VR σ (.int k n) (.int k n)
  | string (s : ByteArray) : VR σ (.string s) (.string s)
  | ptr0 : VR σ (.pointer none) (.pointer none)
  | ptr {a a' : Addr} {l : Loc} (h : AR σ a a' l) : VR σ (.pointer (some a)) (.pointer (some a'))
  | sl0 (n c : Nat) : VR σ (.slice none n c) (.slice none n c)
  | slK {a a' : Addr} {l : Loc} (n c : Nat) (h : AR σ a a' l) : VR σ (.slice (some a) n (2 * c + 1)) (.slice (some a') n c)
  | slO {a a' : Addr} {l : Loc} (n z c : Nat) (h : AR σ a a' l) (hc : a'.off + c * z ≤ l.n) (hn : n ≤ c) (hz : z ≤ 1000) : VR σ (.slice (some a) n (2 * z)) (.slice (some a') n c)
  | slR {a a' : Addr} {l : Loc} (n z r c : Nat) (h : AR σ a a' l) (hc : a'.off + c * z ≤ l.n) (hn : n ≤ r) (hr : r ≤ c) (hz : z ≤ 1000) : VR σ (.slice (some a) n (roomCode z r)) (.slice (some a') n c)
  | slE (a a' : Addr) (z : Nat) (hz : z ≤ 1000) : VR σ (.slice (some a) 0 (2 * z)) (.slice (some a') 0 0)
  | fn (f : Fn) {x x' y y' : Array Value} (hf : ∀ l, f ≠ .yield l) (hx : x.size = x'.size) (hxs : ∀ (i : Nat) (v v' : Value), x[i]? = some v → x'[i]? = some v' → VR σ v v')
      (hy : y.size = y'.size) (hys : ∀ (i : Nat) (v v' : Value), y[i]? = some v → y'[i]? = some v' → VR σ v v') : VR σ (.func f x y) (.func f x' y')
  | yld {l b : Nat} (h : σ.obj l = some b) : VR σ (.func (.yield l) #[] #[]) (.func (.yield b) #[] #[])
  | nilFunc : VR σ .nilFunc .nilFunc
  | nilIface : VR σ .nilIface .nilIface
  | map0 : VR σ (.map none) (.map none)
  | map {l b : Nat} (h : σ.obj l = some b) : VR σ (.map (some l)) (.map (some b))
  | gptr (k : FloatKind) (g off : Nat) : VR σ (.complex k g off) (.pointer (some ⟨g, off, none⟩))
  | iter {l b : Nat} (h : σ.obj l = some b) : VR σ (.chan (some l)) (.pointer (some ⟨b, 0, none⟩))
  | iface (t : TypeId) {v v' : Value} (h : VR σ v v') : VR σ (.iface t v) (.iface t v')
  | agg {x x' : Array Value} (hx : x.size = x'.size) (hxs : ∀ (i : Nat) (v v' : Value), x[i]? = some v → x'[i]? = some v' → VR σ v v') : VR σ (.agg x) (.agg x')
  | tuple {x x' : Array Value} (hx : x.size = x'.size) (hxs : ∀ (i : Nat) (v v' : Value), x[i]? = some v → x'[i]? = some v' → VR σ v v') : VR σ (.tuple x) (.tuple x')

theorem VR.le {σ τ : Ren} (k : σ.le τ) {v v' : Value} (h : VR σ v v') : VR τ v v' := by
  induction h with
  | bool b => exact .bool b
  | int k n => exact .int k n
  | string s => exact .string s
  | ptr0 => exact .ptr0
  | ptr h => exact .ptr (h.le k)
  | sl0 n c => exact .sl0 n c
  | slK n c h => exact .slK n c (h.le k)
  | slO n z c h hc hn hz => exact .slO n z c (h.le k) hc hn hz
  | slR n z r c h hc hn hr hz => exact .slR n z r c (h.le k) hc hn hr hz
  | slE a a' z hz => exact .slE a a' z hz
  | fn f hf hx _ hy _ ihx ihy => exact .fn f hf hx ihx hy ihy
  | yld h => exact .yld (k.2 _ _ h)
  | nilFunc => exact .nilFunc
  | nilIface => exact .nilIface
  | map0 => exact .map0
  | map h => exact .map (k.2 _ _ h)
  | gptr k g o => exact .gptr k g o
  | iter h => exact .iter (k.2 _ _ h)
  | iface t _ ih => exact .iface t ih
  | agg hx _ ih => exact .agg hx ih
  | tuple hx _ ih => exact .tuple hx ih

theorem VR.undef (σ : Ren) : VR σ undef undef := .tuple rfl (fun i v v' h => by simp at h)

/-- Lists of values. -/
inductive VL (σ : Ren) : List Value → List Value → Prop where
  | nil : VL σ [] []
  | cons {v v' : Value} {l l' : List Value} (h : VR σ v v') (k : VL σ l l') : VL σ (v :: l) (v' :: l')

theorem VL.le {σ τ : Ren} (k : σ.le τ) {l l' : List Value} (h : VL σ l l') : VL τ l l' := by
  induction h with
  | nil => exact .nil
  | cons h _ ih => exact .cons (h.le k) ih

theorem VL.length {σ : Ren} {l l' : List Value} (h : VL σ l l') : l.length = l'.length := by
  induction h with
  | nil => rfl
  | cons _ _ ih => simp [ih]

theorem VL.get {σ : Ren} {l l' : List Value} (h : VL σ l l') (i : Nat) (v : Value) (hv : l[i]? = some v) : ∃ v', l'[i]? = some v' ∧ VR σ v v' := by
  induction h generalizing i with
  | nil => simp at hv
  | cons h1 _ ih =>
    cases i with
    | zero => simp at hv; subst hv; exact ⟨_, rfl, h1⟩
    | succ i => simp only [List.getElem?_cons_succ] at hv ⊢; exact ih i hv

theorem VL.of_get {σ : Ren} : ∀ (l l' : List Value), l.length = l'.length → (∀ (i : Nat) (v v' : Value), l[i]? = some v → l'[i]? = some v' → VR σ v v') → VL σ l l'
  | [], [], _, _ => .nil
  | [], _ :: _, h, _ => by simp at h
  | _ :: _, [], h, _ => by simp at h
  | a :: l, b :: l', h, k => .cons (k 0 a b rfl rfl) (VL.of_get l l' (by simpa using h) (fun i v v' h1 h2 => k (i + 1) v v' (by simpa using h1) (by simpa using h2)))

theorem VL.append {σ : Ren} {l l' r r' : List Value} (h : VL σ l l') (k : VL σ r r') : VL σ (l ++ r) (l' ++ r') := by
  induction h with
  | nil => exact k
  | cons h _ ih => exact .cons h ih

theorem VR.agg_list {σ : Ren} {x x' : Array Value} (h : VL σ x.toList x'.toList) : VR σ (.agg x) (.agg x') :=
  .agg (by simpa using h.length) (fun i v v' h1 h2 => by
    obtain ⟨u, hu, hr⟩ := h.get i v (by simpa using h1)
    have : x'[i]? = some u := by simpa using hu
    rw [h2] at this; cases this; exact hr)

theorem VR.tuple_list {σ : Ren} {x x' : Array Value} (h : VL σ x.toList x'.toList) : VR σ (.tuple x) (.tuple x') :=
  .tuple (by simpa using h.length) (fun i v v' h1 h2 => by
    obtain ⟨u, hu, hr⟩ := h.get i v (by simpa using h1)
    have : x'[i]? = some u := by simpa using hu
    rw [h2] at this; cases this; exact hr)

theorem VL.of_array {σ : Ren} {x x' : Array Value} (hx : x.size = x'.size) (h : ∀ (i : Nat) (v v' : Value), x[i]? = some v → x'[i]? = some v' → VR σ v v') : VL σ x.toList x'.toList :=
  VL.of_get _ _ (by simpa using hx) (fun i v v' h1 h2 => h i v v' (by simpa using h1) (by simpa using h2))

/-- The cells of a value. -/
theorem VR.cells {σ : Ren} {v v' : Value} (h : VR σ v v') : VL σ v.cells.toList v'.cells.toList := by
  have k := h
  cases h with
  | agg hx hxs => exact VL.of_array hx hxs
  | _ => exact .cons k .nil

theorem VR.one_ {σ : Ren} {v v' : Value} (h : VR σ v v') : v'.oneCell' = one v := by cases h <;> rfl

theorem VR.plain1_ {σ : Ren} {v v' : Value} (h : VR σ v v') (hp : plain1 v = true) : v' = v := by
  cases h <;> first | rfl | (simp [Abs.plain1] at hp)

theorem VR.plainV_ {σ : Ren} {v v' : Value} (h : VR σ v v') (hp : plainV v = true) : v' = v := by
  cases h with
  | agg hx hxs =>
    rename_i x x'
    have hp' : x.toList.all plain1 = true := hp
    congr 1
    apply Array.ext_getElem?
    intro i
    by_cases hi : i < x.size
    · have h1 : x[i]? = some x[i] := by simp [hi]
      have h2 : x'[i]? = some (x'[i]'(hx ▸ hi)) := by simp [hx ▸ hi]
      rw [h1, h2]
      have := (hxs i _ _ h1 h2).plain1_ (by rw [List.all_eq_true] at hp'; exact hp' _ (by simp))
      rw [this]
    · rw [Array.getElem?_eq_none (by omega), Array.getElem?_eq_none (by omega)]
  | tuple hx hxs => simp [Abs.plainV, Abs.plain1] at hp
  | _ => first | rfl | (simp [Abs.plainV, Abs.plain1] at hp)

theorem VR.natOf_ {σ : Ren} {v v' : Value} (h : VR σ v v') {n : Nat} (hn : natOf v = some n) : ∃ k, v = .int k (.ofNat n) ∧ v' = .int k (.ofNat n) := by
  cases h with
  | int k m => cases m with
    | ofNat m => simp [Abs.natOf] at hn; subst hn; exact ⟨k, rfl, rfl⟩
    | negSucc m => simp [Abs.natOf] at hn
  | _ => simp [Abs.natOf] at hn


/-! ### The heaps -/

/-- A block's frozen range covers nothing. -/
def Thawed (fz : Nat × Nat) : Prop := ∀ o, ¬ (fz.1 ≤ o ∧ o < fz.2)

/-- Frames. -/
structure TR (σ : Ren) (nt : Nat) (t : Tr Value) (tmps : Array Value) : Prop where
  size : tmps.size = nt
  get : ∀ i, VR σ (evalO t (.tmp i)) (tmps.getD i undef)

inductive PendR : Option PC → Option Code → Prop where
  | none : PendR none none
  | exit (id : Nat) : PendR (some (.exit id)) (some (.exit id))
  | goto (l : Nat) : PendR (some (.goto l)) (some (.goto l))
  | ret : PendR (some .ret) (some .ret)

structure LR (P : Program) (σ : Ren) (r : LoopE) (r' : Loop) : Prop where
  state : r'.state = r.state
  pending : PendR r.pending r'.pending
  fn : r'.fn = r.fn
  tmps : TR σ r.nt r.tmps r'.tmps
  params : r'.params.toList = r.params
  assign : prepC P r'.assign = some r.assign
  body : prepC P r'.body = some r.body

/-- The entries of a map. -/
inductive MR (σ : Ren) : List ME → List MapEntry → Prop where
  | nil : MR σ [] []
  | cons {k v v' : Value} {b : Nat} {l : List ME} {l' : List MapEntry} (h : VR σ v v') (hk : plainV k = true) (t : MR σ l l') : MR σ (⟨k, v, b⟩ :: l) ({ key := k, val := v', born := b } :: l')

/-- What is no row of cells. -/
inductive OR (P : Program) (σ : Ren) : Ent → Obj → Prop where
  | loop {r : LoopE} {r' : Loop} (h : LR P σ r r') : OR P σ (.loop r) (.loop r')
  | defd (taken : Bool) : OR P σ (.defd taken) (.deferred (if taken then none else some []))
  | map {l : List ME} {l' : List MapEntry} {c : Nat} (h : MR σ l l') : OR P σ (.map l c) (.map l'.toArray c)
  | iter (s : ByteArray) (pos : Nat) : OR P σ (.iter s pos) (.stringIter s pos)

/-- A version of a row, and its block. -/
structure RowAt (σ : Ren) (N : Nat) (w : World) (f : Nat) (ro : Bool) (top : Nat) (c : Tr Value) (v : Ver) (l : Loc) : Prop where
  at_ : σ.row f v.id = some l
  blk : ∃ cs e fz, w.heap[l.blk]? = some (.cells cs e fz) ∧ cs.size = l.n ∧ (ro = false → fz = (0, 0) ∧ N ≤ l.blk) ∧
    ∀ i, v.lo ≤ i → i < v.hi → ∃ x x', c.get i = some x ∧ cs[i - l.sh]? = some x' ∧ VR σ x x'
  lo : l.sh ≤ v.lo
  hi : v.hi ≤ l.sh + l.n
  id : v.id < top
  old : ro = true → l.blk < N

/-- The variables have what the evaluator takes them to have. -/
def GlobIn [Globs] (N : Nat) (w : World) : Prop :=
  ∀ g ls, Globs.gl g = some ls → g < N ∧ ∃ cs e fz, w.heap[g]? = some (.cells cs e fz) ∧ ∀ (i : Nat) (x : Value), ls[i]? = some x → cs[i]? = some x

theorem GlobIn.up [Globs] {N M : Nat} {w : World} (h : GlobIn N w) (k : N ≤ M) : GlobIn M w := fun g ls hg => by
  obtain ⟨h1, h2⟩ := h g ls hg
  exact ⟨Nat.lt_of_lt_of_le h1 k, h2⟩

theorem GlobIn.to [Globs] {N : Nat} {w w' : World} (h : GlobIn N w) (k : ∀ b, b < N → w'.heap[b]? = w.heap[b]?) : GlobIn N w' := fun g ls hg => by
  obtain ⟨h1, cs, e, fz, h2, h3⟩ := h g ls hg
  exact ⟨h1, cs, e, fz, (k g h1).trans h2, h3⟩

structure HR [Globs] (P : Program) (σ : Ren) (N : Nat) (H : Heap) (w : World) : Prop where
  rows : ∀ f e ro vs top c, H.t.get f = some (.cells e ro vs top c) → ∀ v ∈ vs, ∃ l, RowAt σ N w f ro top c v l
  uniq : ∀ f g e e' ro ro' vs vs' top top' c c', H.t.get f = some (.cells e ro vs top c) → H.t.get g = some (.cells e' ro' vs' top' c') →
    ∀ v ∈ vs, ∀ u ∈ vs', ∀ l m, σ.row f v.id = some l → σ.row g u.id = some m → l.blk = m.blk → (f = g ∧ l.sh = m.sh) ∨ (ro = true ∧ ro' = true)
  objs : ∀ f o, H.t.get f = some o → (∀ e ro vs top c, o ≠ .cells e ro vs top c) → ∃ b o', σ.obj f = some b ∧ N ≤ b ∧ w.heap[b]? = some o' ∧ OR P σ o o'
  uniqO : ∀ f g o o' b, H.t.get f = some o → (∀ e ro vs top c, o ≠ .cells e ro vs top c) → H.t.get g = some o' → (∀ e ro vs top c, o' ≠ .cells e ro vs top c) →
    σ.obj f = some b → σ.obj g = some b → f = g
  next : ∀ f, H.next ≤ f → (∀ u, σ.row f u = none) ∧ σ.obj f = none ∧ H.t.get f = none
  tops : ∀ f e ro vs top c, H.t.get f = some (.cells e ro vs top c) → ∀ u, top ≤ u → σ.row f u = none
  size : N ≤ w.heap.size
  glob : GlobIn N w

/-- The blocks that a run may turn. -/
def Img (σ : Ren) (H : Heap) (b : Nat) : Prop :=
  (∃ f e vs top c v l, H.t.get f = some (.cells e false vs top c) ∧ v ∈ vs ∧ σ.row f v.id = some l ∧ l.blk = b) ∨
  (∃ f o, H.t.get f = some o ∧ (∀ e ro vs top c, o ≠ .cells e ro vs top c) ∧ σ.obj f = some b)

/-- What a run leaves as it was: all blocks that are no rows and no objects of its heap. -/
structure Fr (σ : Ren) (H : Heap) (w : World) (σ' : Ren) (H' : Heap) (w' : World) : Prop where
  size : w.heap.size ≤ w'.heap.size
  os : w'.os = w.os
  output : w'.output = w.output
  old : ∀ b, b < w.heap.size → ¬ Img σ H b → w'.heap[b]? = w.heap[b]?
  img : ∀ b, b < w.heap.size → Img σ' H' b → Img σ H b
  back : ∀ b cs e fz, b < w.heap.size → w'.heap[b]? = some (.cells cs e fz) → ∃ cs0, w.heap[b]? = some (.cells cs0 e fz)
  new : ∀ b cs e fz, w.heap.size ≤ b → w'.heap[b]? = some (.cells cs e fz) → fz = (0, 0)

theorem Fr.refl (σ : Ren) (H : Heap) (w : World) : Fr σ H w σ H w :=
  ⟨Nat.le_refl _, rfl, rfl, fun _ _ _ => rfl, fun _ _ h => h, fun b cs e fz _ k => ⟨cs, k⟩, fun b cs e fz h k => by simp [Array.getElem?_eq_none h] at k⟩

theorem Fr.trans {σ τ υ : Ren} {H H1 H2 : Heap} {w w1 w2 : World} (h : Fr σ H w τ H1 w1) (k : Fr τ H1 w1 υ H2 w2) : Fr σ H w υ H2 w2 where
  size := Nat.le_trans h.size k.size
  os := k.os.trans h.os
  output := k.output.trans h.output
  old b hb hn := by rw [k.old b (Nat.lt_of_lt_of_le hb h.size) (fun hi => hn (h.img b hb hi))]; exact h.old b hb hn
  img b hb hi := h.img b hb (k.img b (Nat.lt_of_lt_of_le hb h.size) hi)
  back b cs e fz hb hc := by
    obtain ⟨c1, h1⟩ := k.back b cs e fz (Nat.lt_of_lt_of_le hb h.size) hc
    exact h.back b c1 e fz hb h1
  new b cs e fz hb hc := by
    by_cases hs : b < w1.heap.size
    · obtain ⟨c1, h1⟩ := k.back b cs e fz hs hc
      exact h.new b c1 e fz hb h1
    · exact k.new b cs e fz (by omega) hc

end Go.Abs
