/- Texts of the law, joined. -/
import Derived.Test.YtfnflkcjhefddaaSymB
import Derived.Test.YtfnflkcjhefddaaPerm
import Derived.Test.YtfnflkcjhefddaaLkP
/- Mathematics of lists and of what is found first: no word of the program. -/
namespace Go.Mth
set_option linter.unusedVariables false

/-! The first error of several tests. -/
def firstE (f : Nat → Int) : Nat → Int
  | 0 => 0
  | k + 1 => if firstE f k = 0 then f k else firstE f k

theorem firstE_at {f : Nat → Int} {i : Nat} (h0 : firstE f i = 0) (hi : f i ≠ 0) : ∀ {m : Nat}, i < m → firstE f m = f i := by
  intro m
  induction m with
  | zero => intro h; omega
  | succ m ih =>
    intro h
    rcases Nat.lt_or_ge i m with h1 | h1
    · have := ih h1
      simp only [firstE]; rw [if_neg (by rw [this]; exact hi)]; exact this
    · have : i = m := by omega
      subst this
      simp only [firstE]; rw [if_pos h0]

theorem firstE_succ {f : Nat → Int} {i : Nat} (h0 : firstE f i = 0) (hi : f i = 0) : firstE f (i + 1) = 0 := by simp only [firstE]; rw [if_pos h0]; exact hi
theorem firstE_zero {f : Nat → Int} : ∀ {m : Nat}, firstE f m = 0 ↔ ∀ i, i < m → f i = 0 := by
  intro m
  induction m with
  | zero => simp [firstE]
  | succ m ih =>
    simp only [firstE]
    constructor
    · intro h i hi
      by_cases h0 : firstE f m = 0
      · rw [if_pos h0] at h
        rcases Nat.lt_or_ge i m with h1 | h1
        · exact ih.1 h0 i h1
        · have : i = m := by omega
          subst this; exact h
      · rw [if_neg h0] at h; exact absurd h h0
    · intro h
      have h0 : firstE f m = 0 := ih.2 fun i hi => h i (by omega)
      rw [if_pos h0]; exact h m (by omega)
/-! Sums. -/
def sumN (f : Nat → Nat) : Nat → Nat
  | 0 => 0
  | k + 1 => sumN f k + f k
/-! Runs: a place at which a run begins. -/
section
variable (p : Nat → Bool)
def RN : Nat → Nat
  | 0 => 0
  | k + 1 => RN k + if p k = true ∧ (k = 0 ∨ p (k - 1) = false) then 1 else 0
def cntN (k : Nat) : Nat := sumN (fun i => if p i = true then 1 else 0) k
/-- The first and the last place. -/
structure Ends2 (k a b : Nat) : Prop where
  pa : p a = true
  ak : a < k
  lo : ∀ i, i < a → p i = false
  pb : p b = true
  bk : b < k
  hi : ∀ i, b < i → i < k → p i = false

variable {p}
theorem Ends2.le {k a b : Nat} (h : Ends2 p k a b) : a ≤ b := by
  rcases Nat.lt_or_ge b a with h1 | h1
  · have := h.lo b h1; rw [h.pb] at this; cases this
  · exact h1
theorem Ends2.first {k : Nat} (hk : p k = true) (hn : ∀ i, i < k → p i = false) : Ends2 p (k + 1) k k := ⟨hk, by omega, hn, hk, by omega, fun i h1 h2 => by omega⟩
theorem Ends2.next {k a b : Nat} (h : Ends2 p k a b) (hk : p k = true) : Ends2 p (k + 1) a k := ⟨h.pa, by have := h.ak; omega, h.lo, hk, by omega, fun i h1 h2 => by omega⟩
theorem Ends2.skip {k a b : Nat} (h : Ends2 p k a b) (hk : p k = false) : Ends2 p (k + 1) a b := ⟨h.pa, by have := h.ak; omega, h.lo, h.pb, by have := h.bk; omega, fun i h1 h2 => by
  rcases Nat.lt_or_ge i k with h3 | h3
  · exact h.hi i h1 h3
  · have : i = k := by omega
    subst this; exact hk⟩
end
end Go.Mth

/- What all laws' texts share. -/
namespace Go.Abs
set_option linter.unusedSectionVars false
variable [Globs]
open Go Go.Mth
set_option linter.unusedVariables false
abbrev ints (xs : List Int) : List Value := xs.map (Value.int .i64)
abbrev bools (xs : List Bool) : List Value := xs.map Value.bool
abbrev nodes (l : List Nat) : List Value := l.map (fun (x : Nat) => Value.int .i64 (x : Int))
theorem getD_eq {α : Type} {l : List α} {k : Nat} {a : α} (h : k < l.length) : l.getD k a = l[k] := by rw [List.getD_eq_getElem?_getD, List.getElem?_eq_getElem h]; rfl
theorem getD_mem {α : Type} {l : List α} {k : Nat} {a : α} (h : k < l.length) : l.getD k a ∈ l := by rw [getD_eq h]; exact List.getElem_mem h
theorem getD_snoc {α : Type} {l : List α} {x a : α} : (l ++ [x]).getD l.length a = x := by
  rw [List.getD_eq_getElem?_getD, List.getElem?_append_right (Nat.le_refl _)]; simp
theorem ext_getD {α : Type} {l m : List α} {a : α} (h : l.length = m.length) (k : ∀ i, i < l.length → l.getD i a = m.getD i a) : l = m := by
  apply List.ext_getElem h
  intro i h1 h2
  have := k i h1
  rwa [getD_eq h1, getD_eq h2] at this

/-- A slice of slices of numbers. -/
def RowsI (M : HL) (v : Value) (fs : List (List Int)) : Prop := ∃ vs : List Value, Sl M 1 v vs ∧ vs.length = fs.length ∧ ∀ i, i < fs.length → Sl M 1 (vs.getD i undef) (ints (fs.getD i []))
theorem RowsI.mono {M M' : HL} {v : Value} {fs : List (List Int)} (h : RowsI M v fs) (k : ∀ p ∈ M, p ∈ M') : RowsI M' v fs := by
  obtain ⟨vs, h1, h2, h3⟩ := h
  exact ⟨vs, h1.mono k, h2, fun i hi => (h3 i hi).mono k⟩
theorem RowsI.cons {M : HL} {p : Nat × Ch} {v : Value} {fs : List (List Int)} (h : RowsI M v fs) : RowsI (p :: M) v fs := h.mono fun q hq => List.mem_cons_of_mem _ hq
theorem RowsI.one_ {M : HL} {v : Value} {fs : List (List Int)} (h : RowsI M v fs) : one v = true := by obtain ⟨vs, h1, _⟩ := h; exact h1.one_
section
variable {C : CW} {nt : Nat} {L : Env} {D : List Nat} {H : Heap} {K : St → Prop} {M M' : HL} {n i d : Nat} {gd : Option (Tmp × Bool)} {lo' : List Nat} {l : List POp}
/-- The first numbers of a slice. -/
theorem WR.cutHi {x hi : Operand} {v : Value} {xs : List Int} {m : Nat} {kd : IntKind} (hg : gOK L gd) (hd : Nat.blt d nt = true) (hx : ev L x = some v) (hS : Sl M 1 v (ints xs)) (hh : ev L hi = some (.int kd (m : Int))) (hm : m ≤ xs.length)
    (k : ∀ v', Sl M 1 v' (ints (xs.take m)) → WR C nt l ((d, v') :: L) D H K) : WR C nt (⟨i, some d, .slS x 1 none (some hi) none, gd, lo'⟩ :: l) L D H K := by
  refine WR.slS (vl := none) (vh := some (.int kd (m : Int))) (a := 0) (b := m) hg hd hx hS rfl (by simp [bnd, hh]) rfl (fun _ _ => rfl) (Nat.zero_le _) (by simpa using hm) (Nat.le_refl _) fun v' h => k v' ?_
  simpa [List.map_take] using h
end
section
variable {C : CW} {nt : Nat} {L : Env} {D : List Nat} {H : Heap} {K : St → Prop} {M M' : HL} {n i d : Nat} {gd : Option (Tmp × Bool)} {lo : List Nat} {l : List POp}
end
abbrev numsK (kk : IntKind) (l : List Nat) : List Value := l.map (fun (x : Nat) => Value.int kk (x : Int))

/-! Pairs of numbers, two cells each. -/
def pcells : List (Int × Int) → List Value
  | [] => []
  | p :: l => .int .i64 p.1 :: .int .i64 p.2 :: pcells l
/-- Two cells, one behind another. -/
def PCell (M : HL) (b o u : Nat) (p : Int × Int) : Prop := ∃ ch lo cs, (b, ch) ∈ M ∧ ch.cellsAre u lo cs ∧ lo ≤ o ∧ cs[o - lo]? = some (.int .i64 p.1) ∧ cs[o - lo + 1]? = some (.int .i64 p.2)
theorem PCell.readN {M : HL} {n : Nat} {H : Heap} {b o u : Nat} {p : Int × Int} (h : PCell M b o u p) (hH : hasH M n H) : H.readN ⟨b, o, some u⟩ 2 = some [.int .i64 p.1, .int .i64 p.2] := by
  obtain ⟨ch, lo, cs, h1, h2, h3, h4, h5⟩ := h
  have hlt : o - lo + 1 < cs.length := (List.getElem?_eq_some_iff.1 h5).1
  rw [hH.readN (k := 2) h1 h2 h3 (by omega)]
  congr 1
  refine List.ext_getElem? fun i => ?_
  rcases i with _ | _ | i
  · rw [List.getElem?_take_of_lt (by omega), List.getElem?_drop, Nat.add_zero, h4]; rfl
  · rw [List.getElem?_take_of_lt (by omega), List.getElem?_drop, h5]; rfl
  · rw [List.getElem?_eq_none (by simp; omega), List.getElem?_eq_none (by simp)]
section
variable {C : CW} {nt : Nat} {L : Env} {D : List Nat} {H : Heap} {K : St → Prop} {M M' : HL} {n i d : Nat} {gd : Option (Tmp × Bool)} {lo : List Nat} {l : List POp} {rs : List Rd}
end
end Go.Abs

/- Two basins: what leaves them, and when all can leave. -/
namespace Go.Proofs.Ytfnflkcjhefddaa.Lk
open Go Go.Abs Go.Mth
set_option linter.unusedVariables false
set_option linter.unusedSimpArgs false
/-- An order of barges. -/
structure OrdN (l : List Nat) : Prop where
  one : 1 ≤ l.length
  most : l.length ≤ 7
  lt : ∀ x ∈ l, x < l.length
  nodup : l.Nodup
theorem nodup_get {l : List Nat} (h : l.Nodup) {i j : Nat} (hi : i < l.length) (hj : j < l.length) (he : l.getD i 0 = l.getD j 0) : i = j := by
  rw [getD_eq hi, getD_eq hj] at he
  exact (List.getElem_inj h).1 he
/-- So many numbers below n, each once: all. -/
theorem full_of : ∀ {n : Nat} {l : List Nat}, l.Nodup → (∀ x ∈ l, x < n) → l.length = n → ∀ x, x < n → x ∈ l := by
  intro n
  induction n with
  | zero => intro l _ _ _ x hx; omega
  | succ n ih =>
    intro l hn hl hlen x hx
    have hm : n ∈ l := by
      refine Classical.byContradiction fun hc => ?_
      have h2 : ∀ y ∈ l, y < n := fun y hy => by
        have := hl y hy
        have : y ≠ n := fun e => hc (e ▸ hy)
        omega
      have h3 : l.Sublist (List.range n) ∨ True := .inr trivial
      have h4 : l.length ≤ n := by
        clear ih h3 hlen hl hx
        induction n generalizing l with
        | zero =>
          cases l with
          | nil => simp
          | cons a l => exact absurd (h2 a (.head _)) (Nat.not_lt_zero _)
        | succ n ih =>
          by_cases hm : n ∈ l
          · have e1 := List.length_erase_of_mem hm
            have := ih (hn.erase n) (fun hc2 => (hn.not_mem_erase hc2)) (fun y hy => by
              have h5 := h2 y (List.mem_of_mem_erase hy)
              have h6 : y ≠ n := fun e => by subst e; exact hn.not_mem_erase hy
              omega)
            have h7 := List.length_pos_of_mem hm
            omega
          · have := ih hn hm (fun y hy => by
              have h5 := h2 y hy
              have h6 : y ≠ n := fun e => hm (e ▸ hy)
              omega)
            omega
      omega
    by_cases hxn : x = n
    · rw [hxn]; exact hm
    · have e1 := List.length_erase_of_mem hm
      have := ih (l := l.erase n) (hn.erase n) (fun y hy => by
        have h5 := hl y (List.mem_of_mem_erase hy)
        have h6 : y ≠ n := fun e => by subst e; exact hn.not_mem_erase hy
        omega) (by omega) x (by omega)
      exact List.mem_of_mem_erase this
theorem OrdN.mem {l : List Nat} (h : OrdN l) {x : Nat} (hx : x < l.length) : x ∈ l := full_of h.nodup h.lt rfl x hx
abbrev Bas := List Nat × List Nat × List Nat
/-- What is wanted is taken out, as long as it can be. -/
def popAll : List Nat → List Nat → List Nat → Bas
  | p, q, [] => (p, q, [])
  | p, q, w :: ws => if p.head? = some w then popAll p.tail q ws else if q.head? = some w then popAll p q.tail ws else (p, q, w :: ws)
def put2 (s : Bas) (x b : Nat) : Bas := if b = 0 then popAll (x :: s.1) s.2.1 s.2.2 else popAll s.1 (x :: s.2.1) s.2.2
def basK (o t ws : List Nat) : Nat → Bas
  | 0 => ([], [], ws)
  | k + 1 => put2 (basK o t ws k) (o.getD k 0) (t.getD k 0)
/-- What is taken out, move by move. -/
def popTr : List Nat → List Nat → List Nat → List (Nat × Nat)
  | p, q, [] => []
  | p, q, w :: ws => if p.head? = some w then (111, w) :: popTr p.tail q ws else if q.head? = some w then (111, w) :: popTr p q.tail ws else []
def putTr (s : Bas) (x b : Nat) : List (Nat × Nat) := (105, x) :: (if b = 0 then popTr (x :: s.1) s.2.1 s.2.2 else popTr s.1 (x :: s.2.1) s.2.2)
def trK (o t ws : List Nat) : Nat → List (Nat × Nat)
  | 0 => []
  | k + 1 => trK o t ws k ++ putTr (basK o t ws k) (o.getD k 0) (t.getD k 0)
def upN (w n : Nat) : List Nat := List.range' w (n - w)
theorem upN_nil {w n : Nat} (h : n ≤ w) : upN w n = [] := by unfold upN; rw [show n - w = 0 by omega]; rfl
theorem upN_cons {w n : Nat} (h : w < n) : upN w n = w :: upN (w + 1) n := by
  unfold upN
  rw [show n - w = (n - (w + 1)) + 1 by omega]; rfl
/-- After so many barges: what lies in the basins, and what left. -/
structure InvB (o t : List Nat) (k w : Nat) (p q : List Nat) : Prop where
  mem : ∀ x, (x ∈ p ∨ x ∈ q) ↔ (x ∈ o.take k ∧ w ≤ x)
  dis : ∀ x, x ∈ p → x ∈ q → False
  inp : ∀ x, x ∈ p → ∃ i, i < k ∧ i < o.length ∧ o.getD i 0 = x ∧ t.getD i 0 = 0
  inq : ∀ x, x ∈ q → ∃ i, i < k ∧ i < o.length ∧ o.getD i 0 = x ∧ t.getD i 0 ≠ 0
  sp : p.Sublist (o.take k).reverse
  sq : q.Sublist (o.take k).reverse
  low : ∀ x, x < w → x ∈ o.take k
theorem InvB.pop {o t : List Nat} {k n : Nat} (ho : o.Nodup) (hn : ∀ x ∈ o, x < n) : ∀ (d w : Nat) {p q : List Nat}, d = n - w → w ≤ n → InvB o t k w p q →
    ∃ p' q' w', popAll p q (upN w n) = (p', q', upN w' n) ∧ w ≤ w' ∧ w' ≤ n ∧ InvB o t k w' p' q' ∧ (w' < n → p'.head? ≠ some w' ∧ q'.head? ≠ some w') ∧
      ∀ s, (∀ p2 q2, InvB o t k s p2 q2 → p2.head? ≠ some s ∧ q2.head? ≠ some s) → w ≤ s → s ≤ n → w' ≤ s := by
  intro d
  induction d with
  | zero =>
    intro w p q hd hw h
    rw [upN_nil (by omega)]
    cases hp : p <;> exact ⟨_, _, n, by rw [upN_nil (Nat.le_refl _)]; rfl, hw, Nat.le_refl _, by rw [← hp]; rw [show n = w by omega]; exact h, fun h => absurd h (Nat.lt_irrefl _), fun s _ h2 h3 => by omega⟩
  | succ d ih =>
    intro w p q hd hw h
    have hwn : w < n := by omega
    have hnt : (o.take k).Nodup := (List.take_sublist k o).nodup ho
    have hnr : (o.take k).reverse.Nodup := (List.reverse_perm _).nodup_iff.2 hnt
    rw [upN_cons hwn]
    by_cases h1 : p.head? = some w
    · obtain ⟨p2, rfl⟩ : ∃ p2, p = w :: p2 := by
        cases p with
        | nil => cases h1
        | cons a p2 => simp only [List.head?_cons, Option.some.injEq] at h1; exact ⟨p2, by rw [h1]⟩
      have hnp : (w :: p2).Nodup := h.sp.nodup hnr
      have hwt : w ∈ o.take k := ((h.mem w).1 (.inl (.head _))).1
      obtain ⟨p', q', w', e1, e2, e3, e4, e5, e6⟩ := ih (w + 1) (p := p2) (q := q) (by omega) (by omega) {
        mem := fun x => by
          constructor
          · intro hx
            have h3 := (h.mem x).1 (hx.imp (List.mem_cons_of_mem _) id)
            refine ⟨h3.1, ?_⟩
            have : x ≠ w := by
              rintro rfl
              rcases hx with hx | hx
              · exact (List.nodup_cons.1 hnp).1 hx
              · exact h.dis x (.head _) hx
            omega
          · rintro ⟨hx1, hx2⟩
            rcases (h.mem x).2 ⟨hx1, by omega⟩ with h3 | h3
            · rcases List.mem_cons.1 h3 with h3 | h3
              · omega
              · exact .inl h3
            · exact .inr h3
        dis := fun x a b => h.dis x (.tail _ a) b
        inp := fun x a => h.inp x (.tail _ a)
        inq := h.inq
        sp := (List.sublist_cons_self _ _).trans h.sp
        sq := h.sq
        low := fun x hx => by
          rcases Nat.lt_or_ge x w with h3 | h3
          · exact h.low x h3
          · rw [show x = w by omega]; exact hwt }
      refine ⟨p', q', w', ?_, by omega, e3, e4, e5, fun s hs h2 h3 => e6 s hs ?_ h3⟩
      · rw [← e1]
        simp [popAll]
      · have : w ≠ s := by rintro rfl; exact (hs _ _ h).1 rfl
        omega
    · by_cases h2 : q.head? = some w
      · obtain ⟨q2, rfl⟩ : ∃ q2, q = w :: q2 := by
          cases q with
          | nil => cases h2
          | cons a q2 => simp only [List.head?_cons, Option.some.injEq] at h2; exact ⟨q2, by rw [h2]⟩
        have hnp : (w :: q2).Nodup := h.sq.nodup hnr
        have hwt : w ∈ o.take k := ((h.mem w).1 (.inr (.head _))).1
        obtain ⟨p', q', w', e1, e2, e3, e4, e5, e6⟩ := ih (w + 1) (p := p) (q := q2) (by omega) (by omega) {
          mem := fun x => by
            constructor
            · intro hx
              have h3 := (h.mem x).1 (hx.imp id (List.mem_cons_of_mem _))
              refine ⟨h3.1, ?_⟩
              have : x ≠ w := by
                rintro rfl
                rcases hx with hx | hx
                · exact h.dis x hx (.head _)
                · exact (List.nodup_cons.1 hnp).1 hx
              omega
            · rintro ⟨hx1, hx2⟩
              rcases (h.mem x).2 ⟨hx1, by omega⟩ with h3 | h3
              · exact .inl h3
              · rcases List.mem_cons.1 h3 with h3 | h3
                · omega
                · exact .inr h3
          dis := fun x a b => h.dis x a (.tail _ b)
          inp := h.inp
          inq := fun x a => h.inq x (.tail _ a)
          sp := h.sp
          sq := (List.sublist_cons_self _ _).trans h.sq
          low := fun x hx => by
            rcases Nat.lt_or_ge x w with h3 | h3
            · exact h.low x h3
            · rw [show x = w by omega]; exact hwt }
        refine ⟨p', q', w', ?_, by omega, e3, e4, e5, fun s hs h2 h3 => e6 s hs ?_ h3⟩
        · rw [← e1]
          simp [popAll, h1]
        · have : w ≠ s := by rintro rfl; exact (hs _ _ h).2 rfl
          omega
      · refine ⟨p, q, w, ?_, Nat.le_refl _, hw, h, fun _ => ⟨h1, h2⟩, fun s _ h2 _ => h2⟩
        rw [upN_cons hwn]
        simp only [popAll, if_neg h1, if_neg h2]
theorem InvB.push {o t : List Nat} {k w : Nat} {p q : List Nat} (ho : o.Nodup) (hk : k < o.length) (hw : w ≤ o.getD k 0) (h : InvB o t k w p q) :
    InvB o t (k + 1) w (if t.getD k 0 = 0 then o.getD k 0 :: p else p) (if t.getD k 0 = 0 then q else o.getD k 0 :: q) := by
  have ht : o.take (k + 1) = o.take k ++ [o.getD k 0] := by rw [List.take_succ_eq_append_getElem hk, getD_eq hk]
  have hnew : o.getD k 0 ∉ o.take k := by
    intro hm
    have : (o.take (k + 1)).Nodup := (List.take_sublist _ o).nodup ho
    rw [ht] at this
    exact (List.nodup_append.1 this).2.2 _ hm _ (List.mem_singleton_self _) rfl
  have hr : (o.take (k + 1)).reverse = o.getD k 0 :: (o.take k).reverse := by rw [ht, List.reverse_append]; rfl
  generalize hx : o.getD k 0 = x at *
  have hm : ∀ y, y ∈ o.take (k + 1) ↔ y ∈ o.take k ∨ y = x := fun y => by rw [ht, List.mem_append, List.mem_singleton]
  by_cases hb : t.getD k 0 = 0
  · simp only [if_pos hb]
    refine ⟨fun y => ?_, fun y a b => ?_, fun y a => ?_, fun y a => ?_, ?_, ?_, fun y hy => (hm y).2 (.inl (h.low y hy))⟩
    · rw [hm, List.mem_cons]
      constructor
      · rintro ((rfl | h1) | h1)
        · exact ⟨.inr rfl, hw⟩
        · have := (h.mem y).1 (.inl h1); exact ⟨.inl this.1, this.2⟩
        · have := (h.mem y).1 (.inr h1); exact ⟨.inl this.1, this.2⟩
      · rintro ⟨h1 | h1, h2⟩
        · rcases (h.mem y).2 ⟨h1, h2⟩ with h3 | h3
          · exact .inl (.inr h3)
          · exact .inr h3
        · exact .inl (.inl h1)
    · rcases List.mem_cons.1 a with rfl | a
      · exact hnew ((h.mem y).1 (.inr b)).1
      · exact h.dis y a b
    · rcases List.mem_cons.1 a with rfl | a
      · exact ⟨k, Nat.lt_succ_self k, hk, hx, hb⟩
      · obtain ⟨i, h1, h2⟩ := h.inp y a
        exact ⟨i, by omega, h2⟩
    · obtain ⟨i, h1, h2⟩ := h.inq y a
      exact ⟨i, by omega, h2⟩
    · rw [hr]; exact h.sp.cons_cons x
    · rw [hr]; exact h.sq.cons x
  · simp only [if_neg hb]
    refine ⟨fun y => ?_, fun y a b => ?_, fun y a => ?_, fun y a => ?_, ?_, ?_, fun y hy => (hm y).2 (.inl (h.low y hy))⟩
    · rw [hm, List.mem_cons]
      constructor
      · rintro (h1 | rfl | h1)
        · have := (h.mem y).1 (.inl h1); exact ⟨.inl this.1, this.2⟩
        · exact ⟨.inr rfl, hw⟩
        · have := (h.mem y).1 (.inr h1); exact ⟨.inl this.1, this.2⟩
      · rintro ⟨h1 | h1, h2⟩
        · rcases (h.mem y).2 ⟨h1, h2⟩ with h3 | h3
          · exact .inl h3
          · exact .inr (.inr h3)
        · exact .inr (.inl h1)
    · rcases List.mem_cons.1 b with rfl | b
      · exact hnew ((h.mem y).1 (.inl a)).1
      · exact h.dis y a b
    · obtain ⟨i, h1, h2⟩ := h.inp y a
      exact ⟨i, by omega, h2⟩
    · rcases List.mem_cons.1 a with rfl | a
      · exact ⟨k, Nat.lt_succ_self k, hk, hx, hb⟩
      · obtain ⟨i, h1, h2⟩ := h.inq y a
        exact ⟨i, by omega, h2⟩
    · rw [hr]; exact h.sp.cons x
    · rw [hr]; exact h.sq.cons_cons x
end Go.Proofs.Ytfnflkcjhefddaa.Lk
