/- Texts of the law, joined. -/
import Derived.Test.YtckpocjeikkblaaSymB
import Derived.Test.YtckpocjeikkblaaStP
/- Mathematics of lists and of what is found first: no word of the program. -/
namespace Go.Mth
set_option linter.unusedVariables false

/-! The first error of several tests. -/
def firstE (f : Nat → Int) : Nat → Int
  | 0 => 0
  | k + 1 => if firstE f k = 0 then f k else firstE f k

theorem firstE_at {f : Nat → Int} {i : Nat} (h0 : firstE f i = 0) (hi : f i ≠ 0) : ∀ {m : Nat}, i < m → firstE f m = f i := by
  intro m
  induction m with
  | zero => intro h; omega
  | succ m ih =>
    intro h
    rcases Nat.lt_or_ge i m with h1 | h1
    · have := ih h1
      simp only [firstE]; rw [if_neg (by rw [this]; exact hi)]; exact this
    · have : i = m := by omega
      subst this
      simp only [firstE]; rw [if_pos h0]

theorem firstE_succ {f : Nat → Int} {i : Nat} (h0 : firstE f i = 0) (hi : f i = 0) : firstE f (i + 1) = 0 := by simp only [firstE]; rw [if_pos h0]; exact hi
theorem firstE_zero {f : Nat → Int} : ∀ {m : Nat}, firstE f m = 0 ↔ ∀ i, i < m → f i = 0 := by
  intro m
  induction m with
  | zero => simp [firstE]
  | succ m ih =>
    simp only [firstE]
    constructor
    · intro h i hi
      by_cases h0 : firstE f m = 0
      · rw [if_pos h0] at h
        rcases Nat.lt_or_ge i m with h1 | h1
        · exact ih.1 h0 i h1
        · have : i = m := by omega
          subst this; exact h
      · rw [if_neg h0] at h; exact absurd h h0
    · intro h
      have h0 : firstE f m = 0 := ih.2 fun i hi => h i (by omega)
      rw [if_pos h0]; exact h m (by omega)
/-! Lists without repetition. -/
theorem nodup_le : ∀ (r : Nat) (l : List Nat), l.Nodup → (∀ y ∈ l, y < r) → l.length ≤ r
  | 0, l, _, h => by
    cases l with
    | nil => exact Nat.le_refl _
    | cons x l => have := h x (by simp); omega
  | r + 1, l, hn, h => by
    have h1 := nodup_le r (l.filter (fun y => decide (y ≠ r))) (hn.filter _) (fun y hy => by
      obtain ⟨h2, h3⟩ := List.mem_filter.1 hy
      have := h y h2
      have : y ≠ r := by simpa using h3
      omega)
    have h2 : (l.filter (fun y => decide (y = r))).length ≤ 1 := by
      have h3 : (l.filter (fun y => decide (y = r))).Nodup := hn.filter _
      match hf : l.filter (fun y => decide (y = r)) with
      | [] => simp
      | [a] => simp
      | a :: b :: m =>
        rw [hf] at h3
        have ha : a ∈ l.filter (fun y => decide (y = r)) := by rw [hf]; simp
        have hb : b ∈ l.filter (fun y => decide (y = r)) := by rw [hf]; simp
        have e1 := (List.mem_filter.1 ha).2
        have e2 := (List.mem_filter.1 hb).2
        simp only [decide_eq_true_eq] at e1 e2
        rw [e1, e2] at h3
        simp at h3
    have h4 : ∀ m : List Nat, m.length = (m.filter (fun y => decide (y = r))).length + (m.filter (fun y => decide (y ≠ r))).length := by
      intro m
      induction m with
      | nil => rfl
      | cons x m ih => by_cases h : x = r <;> simp [h] <;> simp at ih <;> omega
    have := h4 l
    omega
/-- As many different numbers as there are: each one is among them. -/
theorem nodup_all {n : Nat} {l : List Nat} (hn : l.Nodup) (hb : ∀ y ∈ l, y < n) (hl : l.length = n) {x : Nat} (hx : x < n) : x ∈ l := by
  refine Classical.byContradiction fun hnot => ?_
  have h1 : ((l.map fun y => if y < x then y else y - 1)).Nodup := by
    refine List.pairwise_map.2 (hn.imp_of_mem ?_)
    intro a b ha hb' hab he
    have h2 : a ≠ x := fun e => hnot (e ▸ ha)
    have h3 : b ≠ x := fun e => hnot (e ▸ hb')
    split at he <;> split at he <;> omega
  have h2 := nodup_le (n - 1) _ h1 (fun y hy => by
    obtain ⟨z, hz, rfl⟩ := List.mem_map.1 hy
    have := hb z hz
    have h3 : z ≠ x := fun e => hnot (e ▸ hz)
    split <;> omega)
  rw [List.length_map] at h2
  omega
theorem nodup_allI {n : Int} {l : List Int} (hn : l.Nodup) (hb : ∀ y ∈ l, 0 ≤ y ∧ y < n) (hl : (l.length : Int) = n) {x : Int} (hx : 0 ≤ x ∧ x < n) : x ∈ l := by
  have h1 : (l.map Int.toNat).Nodup := by
    refine List.pairwise_map.2 (hn.imp_of_mem ?_)
    intro a b ha hb' hab he
    have := hb a ha; have := hb b hb'
    omega
  have h2 := nodup_all (n := n.toNat) h1 (fun y hy => by
    obtain ⟨z, hz, rfl⟩ := List.mem_map.1 hy
    have := hb z hz; omega) (by rw [List.length_map]; omega) (x := x.toNat) (by omega)
  obtain ⟨z, hz, he⟩ := List.mem_map.1 h2
  have := hb z hz
  have : z = x := by omega
  exact this ▸ hz

/-! Sums. -/
def sumN (f : Nat → Nat) : Nat → Nat
  | 0 => 0
  | k + 1 => sumN f k + f k
/-! Runs: a place at which a run begins. -/
section
variable (p : Nat → Bool)
def RN : Nat → Nat
  | 0 => 0
  | k + 1 => RN k + if p k = true ∧ (k = 0 ∨ p (k - 1) = false) then 1 else 0
def cntN (k : Nat) : Nat := sumN (fun i => if p i = true then 1 else 0) k
/-- The first and the last place. -/
structure Ends2 (k a b : Nat) : Prop where
  pa : p a = true
  ak : a < k
  lo : ∀ i, i < a → p i = false
  pb : p b = true
  bk : b < k
  hi : ∀ i, b < i → i < k → p i = false

variable {p}
theorem Ends2.le {k a b : Nat} (h : Ends2 p k a b) : a ≤ b := by
  rcases Nat.lt_or_ge b a with h1 | h1
  · have := h.lo b h1; rw [h.pb] at this; cases this
  · exact h1
theorem Ends2.first {k : Nat} (hk : p k = true) (hn : ∀ i, i < k → p i = false) : Ends2 p (k + 1) k k := ⟨hk, by omega, hn, hk, by omega, fun i h1 h2 => by omega⟩
theorem Ends2.next {k a b : Nat} (h : Ends2 p k a b) (hk : p k = true) : Ends2 p (k + 1) a k := ⟨h.pa, by have := h.ak; omega, h.lo, hk, by omega, fun i h1 h2 => by omega⟩
theorem Ends2.skip {k a b : Nat} (h : Ends2 p k a b) (hk : p k = false) : Ends2 p (k + 1) a b := ⟨h.pa, by have := h.ak; omega, h.lo, h.pb, by have := h.bk; omega, fun i h1 h2 => by
  rcases Nat.lt_or_ge i k with h3 | h3
  · exact h.hi i h1 h3
  · have : i = k := by omega
    subst this; exact hk⟩
theorem none_runs : ∀ {k : Nat}, (∀ i, i < k → p i = false) → RN p k = 0 ∧ cntN p k = 0
  | 0, _ => ⟨rfl, rfl⟩
  | k + 1, h => by
    have := none_runs (k := k) fun i hi => h i (by omega)
    have hk := h k (by omega)
    refine ⟨by rw [RN, this.1, hk]; simp, ?_⟩
    have h2 := this.2
    rw [cntN] at h2 ⊢
    rw [sumN, h2, hk]; simp

/-- What runs, places and their number have to do with each other. -/
theorem runs_all : ∀ k, (∀ i, i < k → p i = false) ∨ ∃ a b, Ends2 p k a b ∧ cntN p k ≤ b - a + 1 ∧ 1 ≤ RN p k ∧ (RN p k = 1 ↔ cntN p k = b - a + 1)
  | 0 => .inl fun i hi => by omega
  | k + 1 => by
    have hc : cntN p (k + 1) = cntN p k + if p k = true then 1 else 0 := rfl
    cases hk : p k with
    | true =>
      rw [hk, if_pos rfl] at hc
      rcases runs_all k with h | ⟨a, b, h1, h2, h3, h4⟩
      · obtain ⟨g1, g2⟩ := none_runs h
        refine .inr ⟨k, k, .first hk h, by omega, ?_, ?_⟩
        · rw [RN, g1, if_pos]
          · exact Nat.le_refl _
          · refine ⟨hk, ?_⟩
            rcases Nat.eq_zero_or_pos k with e | e
            · exact .inl e
            · exact .inr (h _ (by omega))
        · have : RN p (k + 1) = 1 := by
            rw [RN, g1, if_pos]
            refine ⟨hk, ?_⟩
            rcases Nat.eq_zero_or_pos k with e | e
            · exact .inl e
            · exact .inr (h _ (by omega))
          rw [this]; constructor <;> intro _ <;> omega
      · have hab := h1.le
        have hbk := h1.bk
        refine .inr ⟨a, k, h1.next hk, by omega, by rw [RN]; omega, ?_⟩
        by_cases hb : b = k - 1
        · have hp : p (k - 1) = true := by rw [← hb]; exact h1.pb
          have : RN p (k + 1) = RN p k := by
            rw [RN, if_neg]
            · rfl
            · rintro ⟨_, h5 | h5⟩
              · omega
              · rw [hp] at h5; cases h5
          rw [this, h4]; omega
        · have hp : p (k - 1) = false := h1.hi _ (by omega) (by omega)
          have : RN p (k + 1) = RN p k + 1 := by rw [RN, if_pos ⟨hk, .inr hp⟩]
          rw [this]; constructor <;> intro _ <;> omega
    | false =>
      rw [hk] at hc
      have hr : RN p (k + 1) = RN p k := by rw [RN, hk]; simp
      rw [hr, hc]
      rcases runs_all k with h | ⟨a, b, h1, h2, h3, h4⟩
      · exact .inl fun i hi => by
          rcases Nat.lt_or_ge i k with h3 | h3
          · exact h i h3
          · have : i = k := by omega
            subst this; exact hk
      · exact .inr ⟨a, b, h1.skip hk, by simpa using h2, h3, by simpa using h4⟩
end
end Go.Mth

/- What all laws' texts share. -/
namespace Go.Abs
set_option linter.unusedSectionVars false
variable [Globs]
open Go Go.Mth
set_option linter.unusedVariables false
abbrev ints (xs : List Int) : List Value := xs.map (Value.int .i64)
abbrev bools (xs : List Bool) : List Value := xs.map Value.bool
abbrev nodes (l : List Nat) : List Value := l.map (fun (x : Nat) => Value.int .i64 (x : Int))
theorem nodesI (l : List Nat) : nodes l = ints (l.map fun (x : Nat) => (x : Int)) := by simp [nodes, ints]
theorem getD_eq {α : Type} {l : List α} {k : Nat} {a : α} (h : k < l.length) : l.getD k a = l[k] := by rw [List.getD_eq_getElem?_getD, List.getElem?_eq_getElem h]; rfl
theorem getD_mem {α : Type} {l : List α} {k : Nat} {a : α} (h : k < l.length) : l.getD k a ∈ l := by rw [getD_eq h]; exact List.getElem_mem h
theorem getD_set' {α : Type} {l : List α} {y z : Nat} {v a : α} (h : y < l.length) : (l.set y v).getD z a = if z = y then v else l.getD z a := by
  rw [List.getD_eq_getElem?_getD, List.getD_eq_getElem?_getD, List.getElem?_set]
  by_cases e : y = z
  · subst e; rw [if_pos rfl, if_pos h, if_pos rfl]; rfl
  · rw [if_neg e, if_neg (fun q => e q.symm)]
theorem getD_app_l {α : Type} {l m : List α} {k : Nat} {a : α} (h : k < l.length) : (l ++ m).getD k a = l.getD k a := by
  rw [List.getD_eq_getElem?_getD, List.getD_eq_getElem?_getD, List.getElem?_append_left h]
theorem getD_snoc {α : Type} {l : List α} {x a : α} : (l ++ [x]).getD l.length a = x := by
  rw [List.getD_eq_getElem?_getD, List.getElem?_append_right (Nat.le_refl _)]; simp
theorem getD_take {α : Type} {l : List α} {k m : Nat} {a : α} (h : m < k) : (l.take k).getD m a = l.getD m a := by
  rw [List.getD_eq_getElem?_getD, List.getD_eq_getElem?_getD, List.getElem?_take_of_lt h]
theorem ext_getD {α : Type} {l m : List α} {a : α} (h : l.length = m.length) (k : ∀ i, i < l.length → l.getD i a = m.getD i a) : l = m := by
  apply List.ext_getElem h
  intro i h1 h2
  have := k i h1
  rwa [getD_eq h1, getD_eq h2] at this

/-- A slice of slices of numbers. -/
def RowsI (M : HL) (v : Value) (fs : List (List Int)) : Prop := ∃ vs : List Value, Sl M 1 v vs ∧ vs.length = fs.length ∧ ∀ i, i < fs.length → Sl M 1 (vs.getD i undef) (ints (fs.getD i []))
theorem RowsI.mono {M M' : HL} {v : Value} {fs : List (List Int)} (h : RowsI M v fs) (k : ∀ p ∈ M, p ∈ M') : RowsI M' v fs := by
  obtain ⟨vs, h1, h2, h3⟩ := h
  exact ⟨vs, h1.mono k, h2, fun i hi => (h3 i hi).mono k⟩
theorem RowsI.cons {M : HL} {p : Nat × Ch} {v : Value} {fs : List (List Int)} (h : RowsI M v fs) : RowsI (p :: M) v fs := h.mono fun q hq => List.mem_cons_of_mem _ hq
theorem RowsI.one_ {M : HL} {v : Value} {fs : List (List Int)} (h : RowsI M v fs) : one v = true := by obtain ⟨vs, h1, _⟩ := h; exact h1.one_
section
variable {C : CW} {nt : Nat} {L : Env} {D : List Nat} {H : Heap} {K : St → Prop} {M M' : HL} {n i d : Nat} {gd : Option (Tmp × Bool)} {lo' : List Nat} {l : List POp}
/-- The first numbers of a slice. -/
theorem WR.cutHi {x hi : Operand} {v : Value} {xs : List Int} {m : Nat} {kd : IntKind} (hg : gOK L gd) (hd : Nat.blt d nt = true) (hx : ev L x = some v) (hS : Sl M 1 v (ints xs)) (hh : ev L hi = some (.int kd (m : Int))) (hm : m ≤ xs.length)
    (k : ∀ v', Sl M 1 v' (ints (xs.take m)) → WR C nt l ((d, v') :: L) D H K) : WR C nt (⟨i, some d, .slS x 1 none (some hi) none, gd, lo'⟩ :: l) L D H K := by
  refine WR.slS (vl := none) (vh := some (.int kd (m : Int))) (a := 0) (b := m) hg hd hx hS rfl (by simp [bnd, hh]) rfl (fun _ _ => rfl) (Nat.zero_le _) (by simpa using hm) (Nat.le_refl _) fun v' h => k v' ?_
  simpa [List.map_take] using h
end
section
variable {C : CW} {nt : Nat} {L : Env} {D : List Nat} {H : Heap} {K : St → Prop} {M M' : HL} {n i d : Nat} {gd : Option (Tmp × Bool)} {lo : List Nat} {l : List POp}
theorem WR.mkSL {e m : Nat} {z : List Value} {x y : Operand} {kd kd2 : IntKind} (hg : gOK L gd) (hd : Nat.blt d nt = true) (hH : hasH M n H) (hx : ev L x = some (.int kd (m : Int))) (hy : ev L y = some (.int kd2 (m : Int)))
    (hm : m ≤ 100000) (hz : z.all one = true)
    (kk : ∀ H', hasH ((n, .row e 0 0 (List.replicate m z).flatten) :: M) (n + 1) H' → WR C nt l ((d, .slice (some ⟨n, 0, some 0⟩) m (2 * m + 1)) :: L) D H' K) : WR C nt (⟨i, some d, .mkS e z x y, gd, lo⟩ :: l) L D H K := by
  have e1 : natOf (.int kd (m : Int)) = some m := rfl
  have e2 : natOf (.int kd2 (m : Int)) = some m := rfl
  refine WR.op hg hd (H' := H.row e (List.replicate m z).flatten) (v := .slice (some ⟨n, 0, some 0⟩) m (2 * m + 1)) (fun t ht => ?_) (kk _ (hH.row e ?_))
  · simp only [opA, ev_ok ht hx, ev_ok ht hy, oMkS, e1, e2, newAddr, hH.next]
    have b1 : Nat.ble m m = true := Nat.ble_eq_true_of_le (Nat.le_refl _)
    have b2 : Nat.ble m 100000 = true := Nat.ble_eq_true_of_le hm
    rw [b1, b2]; rfl
  · rw [List.all_eq_true]; intro q hq
    obtain ⟨l, hl, hq⟩ := List.mem_flatten.1 hq
    rw [(List.mem_replicate.1 hl).2] at hq
    exact List.all_eq_true.1 hz q hq
end
abbrev numsK (kk : IntKind) (l : List Nat) : List Value := l.map (fun (x : Nat) => Value.int kk (x : Int))

/-! Pairs of numbers, two cells each. -/
def pcells : List (Int × Int) → List Value
  | [] => []
  | p :: l => .int .i64 p.1 :: .int .i64 p.2 :: pcells l
/-- Two cells, one behind another. -/
def PCell (M : HL) (b o u : Nat) (p : Int × Int) : Prop := ∃ ch lo cs, (b, ch) ∈ M ∧ ch.cellsAre u lo cs ∧ lo ≤ o ∧ cs[o - lo]? = some (.int .i64 p.1) ∧ cs[o - lo + 1]? = some (.int .i64 p.2)
theorem PCell.readN {M : HL} {n : Nat} {H : Heap} {b o u : Nat} {p : Int × Int} (h : PCell M b o u p) (hH : hasH M n H) : H.readN ⟨b, o, some u⟩ 2 = some [.int .i64 p.1, .int .i64 p.2] := by
  obtain ⟨ch, lo, cs, h1, h2, h3, h4, h5⟩ := h
  have hlt : o - lo + 1 < cs.length := (List.getElem?_eq_some_iff.1 h5).1
  rw [hH.readN (k := 2) h1 h2 h3 (by omega)]
  congr 1
  refine List.ext_getElem? fun i => ?_
  rcases i with _ | _ | i
  · rw [List.getElem?_take_of_lt (by omega), List.getElem?_drop, Nat.add_zero, h4]; rfl
  · rw [List.getElem?_take_of_lt (by omega), List.getElem?_drop, h5]; rfl
  · rw [List.getElem?_eq_none (by simp; omega), List.getElem?_eq_none (by simp)]
section
variable {C : CW} {nt : Nat} {L : Env} {D : List Nat} {H : Heap} {K : St → Prop} {M M' : HL} {n i d : Nat} {gd : Option (Tmp × Bool)} {lo : List Nat} {l : List POp} {rs : List Rd}
end
end Go.Abs

/- What the functions of package style come to. -/
namespace Go.Proofs.Ytckpocjeikkblaa.St
open Go Go.Abs Go.Mth
set_option linter.unusedVariables false
set_option linter.unusedSimpArgs false
attribute [local irreducible] gOK WS WC WR WD Ends FS YS OpV seqK blockK loopK midK retK rdK asgK rangeEnd sat Cell

def formAt (n : Int) (l : List Int) (i : Nat) : Int := if ¬ (0 ≤ l.getD i 0 ∧ l.getD i 0 < n) then 2 else if 0 < i ∧ l.getD i 0 ≤ l.getD (i - 1) 0 then 7 else 0
def formE (n : Int) (l : List Int) : Int := if l.length = 0 then 4 else firstE (formAt n l) l.length
def findsE (n : Int) (fs : List (List Int)) : Int := if n < 1 ∨ 7 < n then 1 else if 10 < fs.length then 3 else firstE (fun i => formE n (fs.getD i [])) fs.length
def orderAt (n : Int) (o : List Int) (i : Nat) : Int := if ¬ (0 ≤ o.getD i 0 ∧ o.getD i 0 < n) then 2 else if o.getD i 0 ∈ o.take i then 6 else 0
def bothE (n : Int) (fs : List (List Int)) (o : List Int) : Int := if findsE n fs ≠ 0 then findsE n fs else if (o.length : Int) ≠ n then 5 else firstE (orderAt n o) o.length

theorem Index_fs {M : HL} {n : Nat} {H : Heap} (hH : hasH M n H) {v : Value} {xs : List Int} (hS : Sl M 1 v (ints xs)) (hx : xs.length ≤ 100000) (a : Int) :
    FS C 85 [v, .int .i64 a] H (fun e H' => H' = H ∧ ((∃ k, k < xs.length ∧ xs.getD k 0 = a ∧ (∀ j, j < k → xs.getD j 0 ≠ a) ∧ e = .int .i64 (k : Int)) ∨ (a ∉ xs ∧ e = .int .i64 (-1)))) := by
  refine FS.intro (pf := pf85) rfl rfl rfl ?_
  repeat' (first | refine zP ?_ | refine zA ?_ | (refine zM ?_; intro _ _) | refine zX ?_ | (refine zC ?_; intro _ _ _ _) | (refine zS ?_; intro _ _) | (apply Ws <;> intro hg))
  refine WC.loopX [(0, _), (1, _), (6, _), (7, _)] (fun k : Nat => [(8, .int .i64 (k : Int))]) [] (fun k H' => H' = H ∧ k ≤ xs.length ∧ ∀ j, j < k → xs.getD j 0 ≠ a) (fun k => xs.length - k) 0 (by repeat' (first | exact .nil | refine .cons rfl ?_)) rfl ⟨rfl, Nat.zero_le _, fun j h => absurd h (Nat.not_lt_zero _)⟩ ?_
  rintro k H' ⟨rfl, hk, hno⟩
  dsimp only [List.cons_append, List.nil_append]
  repeat' (first | refine zP ?_ | refine zA ?_ | (refine zM ?_; intro _ _) | refine zX ?_ | (refine zC ?_; intro _ _ _ _) | (refine zS ?_; intro _ _) | (apply Ws <;> intro hg))
  refine WC.condP rfl (fun hlt => ?_) (fun hlt => ?_)
  · have hk' : k < xs.length := by omega
    repeat' (first | refine zP ?_ | refine zA ?_ | (refine zM ?_; intro _ _) | refine zX ?_ | (refine zC ?_; intro _ _ _ _) | (refine zS ?_; intro _ _) | (apply Ws <;> intro hg))
    refine WC.condP rfl (fun h => ?_) (fun h => ?_)
    · repeat' (first | refine zP ?_ | refine zA ?_ | (refine zM ?_; intro _ _) | refine zX ?_ | (refine zC ?_; intro _ _ _ _) | (refine zS ?_; intro _ _) | (apply Ws <;> intro hg))
      exact Ends.ret1 rfl ⟨rfl, .inl ⟨k, hk', h.symm, hno, rfl⟩⟩
    · repeat' (first | refine zP ?_ | refine zA ?_ | (refine zM ?_; intro _ _) | refine zX ?_ | (refine zC ?_; intro _ _ _ _) | (refine zS ?_; intro _ _) | (apply Ws <;> intro hg))
      refine Ends.loop (k + 1) (by omega) (by repeat' (first | exact .nil | refine .cons rfl ?_)) rfl ⟨rfl, hk', fun j hj => ?_⟩
      rcases Nat.lt_or_ge j k with h2 | h2
      · exact hno j h2
      · have : j = k := by omega
        subst this
        exact fun q => h q.symm
  · repeat' (first | refine zP ?_ | refine zA ?_ | (refine zM ?_; intro _ _) | refine zX ?_ | (refine zC ?_; intro _ _ _ _) | (refine zS ?_; intro _ _) | (apply Ws <;> intro hg))
    refine Ends.ret1 rfl ⟨rfl, .inr ⟨fun hm => ?_, rfl⟩⟩
    obtain ⟨j, hj, he⟩ := List.mem_iff_getElem.1 hm
    exact hno j (by omega) (by rw [getD_eq hj]; exact he)

theorem Contains_fs {M : HL} {n : Nat} {H : Heap} (hH : hasH M n H) {v : Value} {xs : List Int} (hS : Sl M 1 v (ints xs)) (hx : xs.length ≤ 100000) (a : Int) :
    FS C 52 [v, .int .i64 a] H (fun e H' => H' = H ∧ e = .bool (decide (a ∈ xs))) := by
  refine FS.intro (pf := pf52) rfl rfl rfl ?_
  repeat' (first | refine zP ?_ | refine zA ?_ | (refine zM ?_; intro _ _) | refine zX ?_ | (refine zC ?_; intro _ _ _ _) | (refine zS ?_; intro _ _) | (apply Ws <;> intro hg))
  refine WR.call (by first | exact gN | exact gS rfl) rfl rfl (Index_fs hH hS hx a) ?_
  rintro _ _ ⟨rfl, ⟨k, hk, he, _, rfl⟩ | ⟨hn, rfl⟩⟩
  · repeat' (first | refine zP ?_ | refine zA ?_ | (refine zM ?_; intro _ _) | refine zX ?_ | (refine zC ?_; intro _ _ _ _) | (refine zS ?_; intro _ _) | (apply Ws <;> intro hg))
    refine Ends.ret1 rfl ⟨rfl, ?_⟩
    have hm : a ∈ xs := by rw [← he]; exact getD_mem hk
    rw [decide_eq_true hm, decide_eq_true (by omega)]
  · repeat' (first | refine zP ?_ | refine zA ?_ | (refine zM ?_; intro _ _) | refine zX ?_ | (refine zC ?_; intro _ _ _ _) | (refine zS ?_; intro _ _) | (apply Ws <;> intro hg))
    refine Ends.ret1 rfl ⟨rfl, ?_⟩
    rw [decide_eq_false hn, decide_eq_false (by omega)]

theorem checkForm_fs {M : HL} {n0 : Nat} {H : Heap} (hH : hasH M n0 H) {v : Value} {l : List Int} (hS : Sl M 1 v (ints l)) (hl : l.length ≤ 100000) (n : Int) :
    FS C 69 [v, .int .i64 n] H (fun e H' => H' = H ∧ e = .int .i64 (formE n l)) := by
  refine FS.intro (pf := pf69) rfl rfl rfl ?_
  repeat' (first | refine zP ?_ | refine zA ?_ | (refine zM ?_; intro _ _) | refine zX ?_ | (refine zC ?_; intro _ _ _ _) | (refine zS ?_; intro _ _) | (apply Ws <;> intro hg))
  refine WC.condP rfl (fun h0 => ?_) (fun h0 => ?_)
  · repeat' (first | refine zP ?_ | refine zA ?_ | (refine zM ?_; intro _ _) | refine zX ?_ | (refine zC ?_; intro _ _ _ _) | (refine zS ?_; intro _ _) | (apply Ws <;> intro hg))
    exact Ends.ret1 rfl ⟨rfl, by rw [formE, if_pos (by omega)]⟩
  have hE : formE n l = firstE (formAt n l) l.length := by rw [formE, if_neg (by omega)]
  repeat' (first | refine zP ?_ | refine zA ?_ | (refine zM ?_; intro _ _) | refine zX ?_ | (refine zC ?_; intro _ _ _ _) | (refine zS ?_; intro _ _) | (apply Ws <;> intro hg))
  refine WC.loopX [(0, _), (1, _), (10, _), (11, _)] (fun k : Nat => [(12, .int .i64 (k : Int))]) [] (fun k H' => H' = H ∧ k ≤ l.length ∧ firstE (formAt n l) k = 0) (fun k => l.length - k) 0 (by repeat' (first | exact .nil | refine .cons rfl ?_)) rfl ⟨rfl, Nat.zero_le _, rfl⟩ ?_
  rintro k H' ⟨rfl, hk, hno⟩
  dsimp only [List.cons_append, List.nil_append]
  repeat' (first | refine zP ?_ | refine zA ?_ | (refine zM ?_; intro _ _) | refine zX ?_ | (refine zC ?_; intro _ _ _ _) | (refine zS ?_; intro _ _) | (apply Ws <;> intro hg))
  refine WC.condP rfl (fun hlt => ?_) (fun hlt => ?_)
  · have hk' : k < l.length := by omega
    by_cases h1 : 0 ≤ l.getD k 0 ∧ l.getD k 0 < n
    · by_cases h2 : 0 < k ∧ l.getD k 0 ≤ l.getD (k - 1) 0
      · repeat' (first | refine zP ?_ | refine zA ?_ | (refine zM ?_; intro _ _) | refine zX ?_ | (refine zC ?_; intro _ _ _ _) | (refine zS ?_; intro _ _) | refine zO ?_ | (apply Ws <;> intro hg))
        have : formAt n l k = 7 := by rw [formAt, if_neg (by omega), if_pos h2]
        exact Ends.ret1 rfl ⟨rfl, by rw [hE, firstE_at hno (by rw [this]; decide) hk', this]⟩
      · have : formAt n l k = 0 := by rw [formAt, if_neg (by omega), if_neg h2]
        rcases Nat.eq_zero_or_pos k with h3 | h3
        · repeat' (first | refine zP ?_ | refine zA ?_ | (refine zM ?_; intro _ _) | refine zX ?_ | (refine zC ?_; intro _ _ _ _) | (refine zS ?_; intro _ _) | refine zO ?_ | (apply Ws <;> intro hg))
          exact Ends.loop (k + 1) (by omega) (by repeat' (first | exact .nil | refine .cons rfl ?_)) rfl ⟨rfl, hk', firstE_succ hno this⟩
        · repeat' (first | refine zP ?_ | refine zA ?_ | (refine zM ?_; intro _ _) | refine zX ?_ | (refine zC ?_; intro _ _ _ _) | (refine zS ?_; intro _ _) | refine zO ?_ | (apply Ws <;> intro hg))
          exact Ends.loop (k + 1) (by omega) (by repeat' (first | exact .nil | refine .cons rfl ?_)) rfl ⟨rfl, hk', firstE_succ hno this⟩
    · have : formAt n l k = 2 := by rw [formAt, if_pos (by omega)]
      by_cases h2 : l.getD k 0 < 0
      · repeat' (first | refine zP ?_ | refine zA ?_ | (refine zM ?_; intro _ _) | refine zX ?_ | (refine zC ?_; intro _ _ _ _) | (refine zS ?_; intro _ _) | refine zO ?_ | (apply Ws <;> intro hg))
        exact Ends.ret1 rfl ⟨rfl, by rw [hE, firstE_at hno (by rw [this]; decide) hk', this]⟩
      · repeat' (first | refine zP ?_ | refine zA ?_ | (refine zM ?_; intro _ _) | refine zX ?_ | (refine zC ?_; intro _ _ _ _) | (refine zS ?_; intro _ _) | refine zO ?_ | (apply Ws <;> intro hg))
        exact Ends.ret1 rfl ⟨rfl, by rw [hE, firstE_at hno (by rw [this]; decide) hk', this]⟩
  · have hkl : k = l.length := by omega
    subst hkl
    repeat' (first | refine zP ?_ | refine zA ?_ | (refine zM ?_; intro _ _) | refine zX ?_ | (refine zC ?_; intro _ _ _ _) | (refine zS ?_; intro _ _) | (apply Ws <;> intro hg))
    exact Ends.ret1 rfl ⟨rfl, by rw [hE, hno]⟩

theorem Check_fs {M : HL} {n0 : Nat} {H : Heap} (hH : hasH M n0 H) {v : Value} {fs : List (List Int)} (hR : RowsI M v fs) (hl : fs.length ≤ 1000) (hll : ∀ l ∈ fs, l.length ≤ 1000) (n : Int) :
    FS C 23 [.agg #[.int .i64 n, v]] H (fun e H' => e = .int .i64 (findsE n fs) ∧ ∃ n', n0 ≤ n' ∧ hasH M n' H') := by
  have h1 := hR.one_
  obtain ⟨vs, hSv, hvl, hvs⟩ := hR
  refine FS.intro (pf := pf23) rfl rfl rfl ?_
  repeat' (first | refine zP ?_ | refine zA ?_ | (refine zM ?_; intro _ _) | refine zX ?_ | (refine zC ?_; intro _ _ _ _) | (refine zS ?_; intro _ _))
  rename_i H1 hH1
  by_cases hn : n < 1 ∨ 7 < n
  · by_cases h2 : n < 1
    · repeat' (first | refine zP ?_ | refine zA ?_ | (refine zM ?_; intro _ _) | refine zX ?_ | (refine zC ?_; intro _ _ _ _) | (refine zS ?_; intro _ _) | refine zO ?_ | (apply Ws <;> intro hg))
      exact Ends.ret1 rfl ⟨by rw [findsE, if_pos hn], n0 + 1, by omega, hH1.tail⟩
    · repeat' (first | refine zP ?_ | refine zA ?_ | (refine zM ?_; intro _ _) | refine zX ?_ | (refine zC ?_; intro _ _ _ _) | (refine zS ?_; intro _ _) | refine zO ?_ | (apply Ws <;> intro hg))
      exact Ends.ret1 rfl ⟨by rw [findsE, if_pos hn], n0 + 1, by omega, hH1.tail⟩
  repeat' (first | refine zP ?_ | refine zA ?_ | (refine zM ?_; intro _ _) | refine zX ?_ | (refine zC ?_; intro _ _ _ _) | (refine zS ?_; intro _ _) | refine zO ?_ | (apply Ws <;> intro hg))
  refine WC.condP rfl (fun hm => ?_) (fun hm => ?_)
  · repeat' (first | refine zP ?_ | refine zA ?_ | (refine zM ?_; intro _ _) | refine zX ?_ | (refine zC ?_; intro _ _ _ _) | (refine zS ?_; intro _ _) | refine zO ?_ | (apply Ws <;> intro hg))
    exact Ends.ret1 rfl ⟨by rw [findsE, if_neg hn, if_pos (by omega)], n0 + 1, by omega, hH1.tail⟩
  have hE : findsE n fs = firstE (fun i => formE n (fs.getD i [])) fs.length := by rw [findsE, if_neg hn, if_neg (by omega)]
  repeat' (first | refine zP ?_ | refine zA ?_ | (refine zM ?_; intro _ _) | refine zX ?_ | (refine zC ?_; intro _ _ _ _) | (refine zS ?_; intro _ _) | refine zO ?_ | (apply Ws <;> intro hg))
  refine WC.loopX [(1, _), (19, _), (20, _)] (fun k : Nat => [(21, .int .i64 (k : Int))]) [] (fun k H' => H' = H1 ∧ k ≤ fs.length ∧ firstE (fun i => formE n (fs.getD i [])) k = 0) (fun k => fs.length - k) 0 (by repeat' (first | exact .nil | refine .cons rfl ?_)) rfl ⟨rfl, Nat.zero_le _, rfl⟩ ?_
  rintro k H' ⟨rfl, hk, hno⟩
  dsimp only [List.cons_append, List.nil_append]
  repeat' (first | refine zP ?_ | refine zA ?_ | (refine zM ?_; intro _ _) | refine zX ?_ | (refine zC ?_; intro _ _ _ _) | (refine zS ?_; intro _ _) | (apply Ws <;> intro hg))
  refine WC.condP rfl (fun hlt => ?_) (fun hlt => ?_)
  · have hk' : k < fs.length := by omega
    have hSk : Sl ((n0, .row 24 0 0 [.int .i64 n, v]) :: M) 1 (vs.getD k undef) (ints (fs.getD k [])) := (hvs k hk').cons
    repeat' (first | refine zP ?_ | refine zA ?_ | (refine zM ?_; intro _ _) | refine zX ?_ | (refine zC ?_; intro _ _ _ _) | (refine zS ?_; intro _ _) | (apply Ws <;> intro hg))
    refine WR.call (by first | exact gN | exact gS rfl) rfl rfl (checkForm_fs hH1 hSk (by have := hll _ (getD_mem (a := []) hk'); omega) n) ?_
    rintro _ H2 ⟨rfl, rfl⟩
    by_cases h0 : formE n (fs.getD k []) = 0
    · repeat' (first | refine zP ?_ | refine zA ?_ | (refine zM ?_; intro _ _) | refine zX ?_ | (refine zC ?_; intro _ _ _ _) | (refine zS ?_; intro _ _) | refine zO ?_ | (apply Ws <;> intro hg))
      exact Ends.loop (k + 1) (by omega) (by repeat' (first | exact .nil | refine .cons rfl ?_)) rfl ⟨rfl, hk', firstE_succ hno h0⟩
    · repeat' (first | refine zP ?_ | refine zA ?_ | (refine zM ?_; intro _ _) | refine zX ?_ | (refine zC ?_; intro _ _ _ _) | (refine zS ?_; intro _ _) | refine zO ?_ | (apply Ws <;> intro hg))
      exact Ends.ret1 rfl ⟨by rw [hE, firstE_at hno h0 hk'], n0 + 1, by omega, hH1.tail⟩
  · have hkl : k = fs.length := by omega
    subst hkl
    repeat' (first | refine zP ?_ | refine zA ?_ | (refine zM ?_; intro _ _) | refine zX ?_ | (refine zC ?_; intro _ _ _ _) | (refine zS ?_; intro _ _) | (apply Ws <;> intro hg))
    exact Ends.ret1 rfl ⟨by rw [hE, hno], n0 + 1, by omega, hH1.tail⟩
end Go.Proofs.Ytckpocjeikkblaa.St

namespace Go.Proofs.Ytckpocjeikkblaa.St
open Go Go.Abs Go.Mth
set_option linter.unusedVariables false
set_option linter.unusedSimpArgs false
attribute [local irreducible] gOK WS WC WR WD Ends FS YS OpV seqK blockK loopK midK retK rdK asgK rangeEnd sat Cell

theorem checkBoth_fs {M : HL} {n0 : Nat} {H : Heap} (hH : hasH M n0 H) {v w : Value} {fs : List (List Int)} {o : List Int} (hR : RowsI M v fs) (hl : fs.length ≤ 1000) (hll : ∀ l ∈ fs, l.length ≤ 1000) (hO : Sl M 1 w (ints o)) (hol : o.length ≤ 1000) (n : Int) :
    FS C 60 [.agg #[.int .i64 n, v], w] H (fun e H' => e = .int .i64 (bothE n fs o) ∧ ∃ n', n0 ≤ n' ∧ hasH M n' H') := by
  have h1 := hR.one_
  refine FS.intro (pf := pf60) rfl rfl rfl ?_
  repeat' (first | refine zP ?_ | refine zA ?_ | (refine zM ?_; intro _ _) | refine zX ?_ | (refine zC ?_; intro _ _ _ _) | (refine zS ?_; intro _ _))
  rename_i H1 hH1
  have hR1 : RowsI ((n0, .row 24 0 0 [.int .i64 n, v]) :: M) v fs := hR.cons
  have hO1 : Sl ((n0, .row 24 0 0 [.int .i64 n, v]) :: M) 1 w (ints o) := hO.cons
  have hm1 : (n0, Ch.row 24 0 0 [.int .i64 n, v]) ∈ (n0, Ch.row 24 0 0 [.int .i64 n, v]) :: M := .head _
  have hback : ∀ {n' : Nat} {H' : Heap}, hasH ((n0, Ch.row 24 0 0 [.int .i64 n, v]) :: M) n' H' → hasH M n' H' := fun h => h.tail
  generalize (n0, Ch.row 24 0 0 [.int .i64 n, v]) :: M = T at hH1 hR1 hO1 hm1 hback
  refine WR.call (by first | exact gN | exact gS rfl) rfl rfl (Check_fs hH1 hR1 hl hll n) ?_
  rintro _ H2 ⟨rfl, n2, hn2, hH2⟩
  clear hH1
  repeat' (first | refine zP ?_ | refine zA ?_ | (refine zM ?_; intro _ _) | refine zX ?_ | (refine zC ?_; intro _ _ _ _) | (refine zS ?_; intro _ _) | (apply Ws <;> intro hg))
  refine WC.condP rfl (fun hne => ?_) (fun hne => ?_)
  · repeat' (first | refine zP ?_ | refine zA ?_ | (refine zM ?_; intro _ _) | refine zX ?_ | (refine zC ?_; intro _ _ _ _) | (refine zS ?_; intro _ _) | (apply Ws <;> intro hg))
    exact Ends.ret1 rfl ⟨by rw [bothE, if_pos hne], n2, by omega, hback hH2⟩
  repeat' (first | refine zP ?_ | refine zA ?_ | (refine zM ?_; intro _ _) | refine zX ?_ | (refine zC ?_; intro _ _ _ _) | (refine zS ?_; intro _ _) | (apply Ws <;> intro hg))
  refine WC.condP rfl (fun hlen => ?_) (fun hlen => ?_)
  · repeat' (first | refine zP ?_ | refine zA ?_ | (refine zM ?_; intro _ _) | refine zX ?_ | (refine zC ?_; intro _ _ _ _) | (refine zS ?_; intro _ _) | (apply Ws <;> intro hg))
    exact Ends.ret1 rfl ⟨by rw [bothE, if_neg hne, if_pos hlen], n2, by omega, hback hH2⟩
  have hE : bothE n fs o = firstE (orderAt n o) o.length := by rw [bothE, if_neg hne, if_neg hlen]
  repeat' (first | refine zP ?_ | refine zA ?_ | (refine zM ?_; intro _ _) | refine zX ?_ | (refine zC ?_; intro _ _ _ _) | (refine zS ?_; intro _ _) | (apply Ws <;> intro hg))
  refine WC.loopX [(1, _), (2, _), (18, _), (19, _)] (fun k : Nat => [(20, .int .i64 (k : Int))]) [] (fun k H' => H' = H2 ∧ k ≤ o.length ∧ firstE (orderAt n o) k = 0) (fun k => o.length - k) 0 (by repeat' (first | exact .nil | refine .cons rfl ?_)) rfl ⟨rfl, Nat.zero_le _, rfl⟩ ?_
  rintro k H' ⟨rfl, hk, hno⟩
  dsimp only [List.cons_append, List.nil_append]
  repeat' (first | refine zP ?_ | refine zA ?_ | (refine zM ?_; intro _ _) | refine zX ?_ | (refine zC ?_; intro _ _ _ _) | (refine zS ?_; intro _ _) | (apply Ws <;> intro hg))
  refine WC.condP rfl (fun hlt => ?_) (fun hlt => ?_)
  · have hk' : k < o.length := by omega
    by_cases h1 : 0 ≤ o.getD k 0 ∧ o.getD k 0 < n
    · repeat' (first | refine zP ?_ | refine zA ?_ | (refine zM ?_; intro _ _) | refine zX ?_ | (refine zC ?_; intro _ _ _ _) | (refine zS ?_; intro _ _) | refine zO ?_ | (apply Ws <;> intro hg))
      refine WR.cutHi (by first | exact gN | exact gS rfl) rfl rfl hO1 rfl hk fun v' hS' => ?_
      repeat' (first | refine zP ?_ | refine zA ?_ | (refine zM ?_; intro _ _) | refine zX ?_ | (refine zC ?_; intro _ _ _ _) | (refine zS ?_; intro _ _) | refine zO ?_ | (apply Ws <;> intro hg))
      refine WR.call (by first | exact gN | exact gS rfl) rfl rfl (Contains_fs hH2 hS' (by simp; omega) _) ?_
      rintro _ H3 ⟨rfl, rfl⟩
      by_cases hin : o.getD k 0 ∈ o.take k
      · rw [decide_eq_true hin]
        repeat' (first | refine zP ?_ | refine zA ?_ | (refine zM ?_; intro _ _) | refine zX ?_ | (refine zC ?_; intro _ _ _ _) | (refine zS ?_; intro _ _) | refine zO ?_ | (apply Ws <;> intro hg))
        have : orderAt n o k = 6 := by rw [orderAt, if_neg (by omega), if_pos hin]
        exact Ends.ret1 rfl ⟨by rw [hE, firstE_at hno (by rw [this]; decide) hk', this], n2, by omega, hback hH2⟩
      · rw [decide_eq_false hin]
        repeat' (first | refine zP ?_ | refine zA ?_ | (refine zM ?_; intro _ _) | refine zX ?_ | (refine zC ?_; intro _ _ _ _) | (refine zS ?_; intro _ _) | refine zO ?_ | (apply Ws <;> intro hg))
        have : orderAt n o k = 0 := by rw [orderAt, if_neg (by omega), if_neg hin]
        exact Ends.loop (k + 1) (by omega) (by repeat' (first | exact .nil | refine .cons rfl ?_)) rfl ⟨rfl, hk', firstE_succ hno this⟩
    · have : orderAt n o k = 2 := by rw [orderAt, if_pos h1]
      by_cases h2 : o.getD k 0 < 0
      · repeat' (first | refine zP ?_ | refine zA ?_ | (refine zM ?_; intro _ _) | refine zX ?_ | (refine zC ?_; intro _ _ _ _) | (refine zS ?_; intro _ _) | refine zO ?_ | (apply Ws <;> intro hg))
        exact Ends.ret1 rfl ⟨by rw [hE, firstE_at hno (by rw [this]; decide) hk', this], n2, by omega, hback hH2⟩
      · repeat' (first | refine zP ?_ | refine zA ?_ | (refine zM ?_; intro _ _) | refine zX ?_ | (refine zC ?_; intro _ _ _ _) | (refine zS ?_; intro _ _) | refine zO ?_ | (apply Ws <;> intro hg))
        exact Ends.ret1 rfl ⟨by rw [hE, firstE_at hno (by rw [this]; decide) hk', this], n2, by omega, hback hH2⟩
  · have hkl : k = o.length := by omega
    subst hkl
    repeat' (first | refine zP ?_ | refine zA ?_ | (refine zM ?_; intro _ _) | refine zX ?_ | (refine zC ?_; intro _ _ _ _) | (refine zS ?_; intro _ _) | (apply Ws <;> intro hg))
    exact Ends.ret1 rfl ⟨by rw [hE, hno], n2, by omega, hback hH2⟩

/-! What is sure of finds that were checked. -/
theorem form_ok {n : Int} {l : List Int} (h : formE n l = 0) : 1 ≤ l.length ∧ (∀ x ∈ l, 0 ≤ x ∧ x < n) ∧ l.Pairwise (· < ·) := by
  unfold formE at h
  split at h
  · cases h
  · rename_i hne
    have h1 := firstE_zero.1 h
    refine ⟨by omega, fun x hx => ?_, ?_⟩
    · obtain ⟨i, hi, rfl⟩ := List.mem_iff_getElem.1 hx
      have := h1 i hi
      unfold formAt at this
      split at this
      · cases this
      · rename_i h2
        rw [getD_eq hi] at h2; omega
    · rw [List.pairwise_iff_getElem]
      intro i j hi hj hij
      induction j with
      | zero => omega
      | succ j ih =>
        have h2 := h1 (j + 1) hj
        unfold formAt at h2
        split at h2
        · cases h2
        · split at h2
          · cases h2
          · rename_i h3 h4
            rw [Nat.add_sub_cancel, getD_eq hj, getD_eq (show j < l.length by omega)] at h4
            have h5 : l[j] < l[j + 1] := by omega
            rcases Nat.lt_or_ge i j with h6 | h6
            · have := ih (by omega) h6; omega
            · have : i = j := by omega
              subst this; exact h5
theorem finds_ok {n : Int} {fs : List (List Int)} (h : findsE n fs = 0) : 1 ≤ n ∧ n ≤ 7 ∧ fs.length ≤ 10 ∧ ∀ l ∈ fs, formE n l = 0 := by
  unfold findsE at h
  split at h
  · cases h
  · split at h
    · cases h
    · refine ⟨by omega, by omega, by omega, fun l hl => ?_⟩
      obtain ⟨i, hi, rfl⟩ := List.mem_iff_getElem.1 hl
      have := firstE_zero.1 h i hi
      rwa [getD_eq hi] at this
theorem both_ok {n : Int} {fs : List (List Int)} {o : List Int} (h : bothE n fs o = 0) : findsE n fs = 0 ∧ (o.length : Int) = n ∧ (∀ x ∈ o, 0 ≤ x ∧ x < n) ∧ o.Nodup := by
  unfold bothE at h
  split at h
  · rename_i h1; exact absurd h h1
  · rename_i h1
    split at h
    · cases h
    · rename_i h2
      have h3 := firstE_zero.1 h
      refine ⟨Decidable.not_not.1 h1, Decidable.not_not.1 h2, fun x hx => ?_, ?_⟩
      · obtain ⟨i, hi, rfl⟩ := List.mem_iff_getElem.1 hx
        have := h3 i hi
        unfold orderAt at this
        split at this
        · cases this
        · rename_i h4
          rw [getD_eq hi] at h4; omega
      · rw [List.Nodup, List.pairwise_iff_getElem]
        intro i j hi hj hij he
        have := h3 j hj
        unfold orderAt at this
        split at this
        · cases this
        · split at this
          · cases this
          · rename_i h5
            refine h5 ?_
            rw [getD_eq hj, ← he, List.mem_iff_getElem]
            exact ⟨i, by simp; omega, by simp⟩

/-! Masks. -/
def maskI (l : List Int) : Nat := maskN (l.map Int.toNat)
theorem maskI_lt {n : Int} {l : List Int} (h : ∀ x ∈ l, 0 ≤ x ∧ x < n) (hn : n ≤ 7) : maskI l < 128 := by
  refine mask_lt (k := 7) fun x hx => ?_
  obtain ⟨y, hy, rfl⟩ := List.mem_map.1 hx
  have := h y hy
  omega
theorem maskI_bit {l : List Int} (h : ∀ x ∈ l, 0 ≤ x) {i : Nat} : (maskI l).testBit i = true ↔ (i : Int) ∈ l := by
  rw [maskI, mask_bit, List.mem_map]
  constructor
  · rintro ⟨y, hy, he⟩
    have := h y hy
    have : (i : Int) = y := by omega
    rw [this]; exact hy
  · exact fun hi => ⟨_, hi, by simp⟩

theorem only_fs (x : Nat) (hx : x < 8) (H : Heap) : FS C 88 [.int .i64 (x : Int)] H (fun e H' => e = .int .u8 ((2 ^ x : Nat) : Int) ∧ H' = H) := by
  refine FS.intro (pf := pf88) rfl rfl rfl ?_
  repeat' (first | refine zP ?_ | refine zA ?_ | (refine zM ?_; intro _ _) | refine zX ?_ | (refine zC ?_; intro _ _ _ _) | (refine zS ?_; intro _ _) | (apply Ws <;> intro hg))
  refine WR.op (by first | exact gN | exact gS rfl) rfl (OpV.shl1 rfl rfl (by show x ≤ 8; omega) (by show 2 ^ x < 2 ^ 8; exact Nat.pow_lt_pow_right (by omega) hx)) ?_
  repeat' (first | refine zP ?_ | refine zA ?_ | (refine zM ?_; intro _ _) | refine zX ?_ | (refine zC ?_; intro _ _ _ _) | (refine zS ?_; intro _ _) | (apply Ws <;> intro hg))
  exact Ends.ret1 rfl ⟨rfl, rfl⟩

theorem has_fs (m x : Nat) (hm : m < 256) (hx : x < 8) (H : Heap) : FS C 113 [.int .u8 (m : Int), .int .i64 (x : Int)] H (fun e H' => e = .bool (m.testBit x) ∧ H' = H) := by
  refine FS.intro (pf := pf113) rfl rfl rfl ?_
  repeat' (first | refine zP ?_ | refine zA ?_ | (refine zM ?_; intro _ _) | refine zX ?_ | (refine zC ?_; intro _ _ _ _) | (refine zS ?_; intro _ _) | (apply Ws <;> intro hg))
  refine WR.call (by first | exact gN | exact gS rfl) rfl rfl (only_fs x hx _) ?_
  rintro _ _ ⟨rfl, rfl⟩
  refine WR.op (by first | exact gN | exact gS rfl) rfl (OpV.andN rfl rfl hm (by show 2 ^ x < 2 ^ 8; exact Nat.pow_lt_pow_right (by omega) hx)) ?_
  repeat' (first | refine zP ?_ | refine zA ?_ | (refine zM ?_; intro _ _) | refine zX ?_ | (refine zC ?_; intro _ _ _ _) | (refine zS ?_; intro _ _) | (apply Ws <;> intro hg))
  refine Ends.ret1 rfl ⟨?_, rfl⟩
  cases hb : m.testBit x with
  | true => rw [decide_eq_true (and_pow_ne.2 hb)]
  | false => rw [decide_eq_false (fun h => by have := and_pow_ne.1 h; rw [hb] at this; cases this)]
end Go.Proofs.Ytckpocjeikkblaa.St

namespace Go.Proofs.Ytckpocjeikkblaa.St
open Go Go.Abs Go.Mth
set_option linter.unusedVariables false
set_option linter.unusedSimpArgs false
attribute [local irreducible] gOK WS WC WR WD Ends FS YS OpV seqK blockK loopK midK retK rdK asgK rangeEnd sat Cell

def masksOf (fs : List (List Int)) : List Nat := fs.map maskI
theorem masksOf_get {fs : List (List Int)} {i : Nat} (h : i < fs.length) : (masksOf fs).getD i 0 = maskI (fs.getD i []) := by
  rw [getD_eq (by simpa [masksOf] using h), getD_eq h]; simp [masksOf]

theorem formsOf_fs {M : HL} {n0 : Nat} {H : Heap} (hH : hasH M n0 H) {v : Value} {fs : List (List Int)} (hR : RowsI M v fs) {n : Int} (hc : findsE n fs = 0) :
    FS C 61 [.agg #[.int .i64 n, v]] H (fun e H' => ∃ b n', e = .slice (some ⟨b, 0, some 0⟩) fs.length (2 * fs.length + 1) ∧ n0 ≤ n' ∧ hasH ((b, .row 117 0 0 (numsK .u8 (masksOf fs))) :: M) n' H') := by
  obtain ⟨hn1, hn7, hl10, hfo⟩ := finds_ok hc
  have h1 := hR.one_
  refine FS.intro (pf := pf61) rfl rfl rfl ?_
  obtain ⟨vs, hSv, hvl, hvs⟩ := hR
  repeat' (first | refine zP ?_ | refine zA ?_ | (refine zM ?_; intro _ _) | refine zX ?_ | (refine zC ?_; intro _ _ _ _) | (refine zS ?_; intro _ _))
  rename_i H1 hH1
  rw [hvl]
  refine WR.mkSL (by first | exact gN | exact gS rfl) rfl hH1 rfl rfl (by omega) rfl fun H2 hH2 => ?_
  have hrep : (List.replicate fs.length [Value.int .u8 0]).flatten = numsK .u8 (List.replicate fs.length 0) := by
    generalize fs.length = m
    induction m with
    | zero => rfl
    | succ m ih => simp only [List.replicate_succ, List.flatten_cons, ih, numsK, List.map_cons]; rfl
  rw [hrep] at hH2
  clear hH1 hrep
  repeat' (first | refine zP ?_ | refine zA ?_ | (refine zM ?_; intro _ _) | refine zX ?_ | (refine zC ?_; intro _ _ _ _) | (refine zS ?_; intro _ _) | (apply Ws <;> intro hg))
  rw [hvl]
  refine WC.loopX [(1, _), (3, _), (13, _), (14, _)] (fun s : Nat × List Nat => [(15, .int .i64 (s.1 : Int))]) []
    (fun s H => s.1 ≤ fs.length ∧ s.2.length = fs.length ∧ hasH ((n0 + 1, .row 117 0 0 (numsK .u8 s.2)) :: (n0, .row 24 0 0 [.int .i64 n, v]) :: M) (n0 + 1 + 1) H ∧ ∀ i, i < fs.length → s.2.getD i 0 = if i < s.1 then maskI (fs.getD i []) else 0)
    (fun s => fs.length - s.1) (0, List.replicate fs.length 0) (by repeat' (first | exact .nil | refine .cons rfl ?_)) rfl ⟨Nat.zero_le _, by simp, hH2, fun i hi => by simp [List.getD_eq_getElem?_getD, hi]⟩ ?_
  clear hH2
  rintro ⟨k, ms⟩ H3 ⟨hk, hml, hH3, hms⟩
  simp only at hk hml hH3 hms
  dsimp only [List.cons_append, List.nil_append]
  repeat' (first | refine zP ?_ | refine zA ?_ | (refine zM ?_; intro _ _) | refine zX ?_ | (refine zC ?_; intro _ _ _ _) | (refine zS ?_; intro _ _) | (apply Ws <;> intro hg))
  refine WC.condP rfl (fun hlt => ?_) (fun hlt => ?_)
  · have hk' : k < fs.length := by omega
    have hSk0 := hvs k hk'
    obtain ⟨l, hle⟩ : ∃ l, fs.getD k [] = l := ⟨_, rfl⟩
    have hlf : formE n l = 0 := hle ▸ hfo _ (getD_mem hk')
    rw [hle] at hSk0
    obtain ⟨hl1, hlb, hls⟩ := form_ok hlf
    have hll : l.length ≤ 1000 := by
      have h7 := List.pairwise_iff_getElem.1 hls
      have hb : ∀ i (hi : i < l.length), (i : Int) ≤ l[i] := by
        intro i
        induction i with
        | zero => intro hi; have := hlb _ (List.getElem_mem hi); omega
        | succ i ih => intro hi; have := ih (by omega); have := h7 i (i + 1) (by omega) hi (by omega); omega
      have := hb (l.length - 1) (by omega)
      have := hlb _ (List.getElem_mem (show l.length - 1 < l.length by omega))
      omega
    have hSk : ∀ p q, Sl (p :: q :: M) 1 (vs.getD k undef) (ints l) := fun p q => (hSk0.cons).cons
    have hSk' := hSk (n0 + 1, .row 117 0 0 (numsK .u8 ms)) (n0, .row 24 0 0 [.int .i64 n, v])
    repeat' (first | refine zP ?_ | refine zA ?_ | (refine zM ?_; intro _ _) | refine zX ?_ | (refine zC ?_; intro _ _ _ _) | (refine zS ?_; intro _ _) | (apply Ws <;> intro hg))
    refine WC.loopX [(1, _), (3, _), (4, _), (13, _), (14, _), (15, _), (20, _), (21, _)] (fun s : Nat × List Nat => [(22, .int .i64 (s.1 : Int))]) []
      (fun s H => s.1 ≤ l.length ∧ s.2.length = fs.length ∧ hasH ((n0 + 1, .row 117 0 0 (numsK .u8 s.2)) :: (n0, .row 24 0 0 [.int .i64 n, v]) :: M) (n0 + 1 + 1) H ∧ ∀ i, i < fs.length → s.2.getD i 0 = if i < k then maskI (fs.getD i []) else if i = k then maskI (l.take s.1) else 0)
      (fun s => l.length - s.1) (0, ms) (by repeat' (first | exact .nil | refine .cons rfl ?_)) rfl ⟨Nat.zero_le _, hml, hH3, fun i hi => by rw [hms i hi]; split; rfl; split <;> rfl⟩ ?_
    clear hH3 hms hSk' hml
    rintro ⟨j, ms⟩ H4 ⟨hj, hml, hH4, hms⟩
    simp only at hj hml hH4 hms
    have hSk' := hSk (n0 + 1, .row 117 0 0 (numsK .u8 ms)) (n0, .row 24 0 0 [.int .i64 n, v])
    dsimp only [List.cons_append, List.nil_append]
    repeat' (first | refine zP ?_ | refine zA ?_ | (refine zM ?_; intro _ _) | refine zX ?_ | (refine zC ?_; intro _ _ _ _) | (refine zS ?_; intro _ _) | (apply Ws <;> intro hg))
    refine WC.condP rfl (fun hlt2 => ?_) (fun hlt2 => ?_)
    · have hj' : j < l.length := by omega
      have hx0 := hlb _ (getD_mem (a := 0) hj')
      obtain ⟨x, hx⟩ : ∃ x : Nat, l.getD j 0 = x := ⟨(l.getD j 0).toNat, by omega⟩
      have hmk := hms k hk'
      rw [if_neg (by omega), if_pos rfl] at hmk
      have hm128 : ms.getD k 0 < 128 := by rw [hmk]; exact maskI_lt (fun y hy => hlb y (List.mem_of_mem_take hy)) hn7
      repeat' (first | refine zP ?_ | refine zA ?_ | (refine zM ?_; intro _ _) | refine zX ?_ | (refine zC ?_; intro _ _ _ _) | (refine zS ?_; intro _ _) | (apply Ws <;> intro hg))
      rw [hx]
      refine WC.regionD ?_
      repeat' (first | refine zD ?_ | (refine zE ?_; intro _ _ _ _))
      refine WD.call (by first | exact gN | exact gS rfl) rfl rfl (only_fs x (by omega) _) ?_
      rintro _ H5 ⟨rfl, rfl⟩
      refine ⟨zSt, ?_⟩
      refine WD.op (by first | exact gN | exact gS rfl) rfl (OpV.orN rfl rfl (by show _ < 256; omega) (by show 2 ^ x < 2 ^ 8; exact Nat.pow_lt_pow_right (by omega) (by omega))) rfl (stands_nil _ _) ?_
      refine WD.toWR rfl ?_
      repeat' (first | refine zP ?_ | refine zA ?_ | (refine zM ?_; intro _ _) | refine zX ?_ | (refine zC ?_; intro _ _ _ _) | (refine zS ?_; intro _ _) | (apply Ws <;> intro hg))
      rename_i H6 hH6
      refine Ends.loop (j + 1, ms.set k (ms.getD k 0 ||| 2 ^ x)) (by simp only; omega) (by repeat' (first | exact .nil | refine .cons rfl ?_)) rfl ⟨hj', by simp [hml], hH6, fun i hi => ?_⟩
      simp only
      rw [getD_set' (by omega)]
      by_cases hik : i = k
      · subst hik
        rw [if_pos rfl, if_neg (by omega), if_pos rfl, hmk, maskI, maskI, List.take_add_one, List.getElem?_eq_getElem hj', Option.toList_some, List.map_append, List.map_cons, List.map_nil, mask_snoc]
        rw [getD_eq hj'] at hx
        rw [hx, Int.toNat_natCast]
      · rw [if_neg hik, hms i hi, if_neg hik, if_neg hik]
    · have hjl : j = l.length := by omega
      subst hjl
      repeat' (first | refine zP ?_ | refine zA ?_ | (refine zM ?_; intro _ _) | refine zX ?_ | (refine zC ?_; intro _ _ _ _) | (refine zS ?_; intro _ _) | (apply Ws <;> intro hg))
      refine Ends.loop (k + 1, ms) (by simp only; omega) (by repeat' (first | exact .nil | refine .cons rfl ?_)) rfl ⟨hk', hml, hH4, fun i hi => ?_⟩
      simp only
      rw [hms i hi, List.take_length]
      by_cases h5 : i < k
      · rw [if_pos h5, if_pos (by omega)]
      · by_cases h6 : i = k
        · subst h6; rw [if_neg h5, if_pos rfl, if_pos (by omega), hle]
        · rw [if_neg h5, if_neg h6, if_neg (by omega)]
  · have hkl : k = fs.length := by omega
    subst hkl
    have hme : ms = masksOf fs := by
      refine ext_getD (a := 0) (by simp [masksOf, hml]) fun i hi => ?_
      rw [hms i (by omega), if_pos (by omega), masksOf_get (by omega)]
    subst hme
    repeat' (first | refine zP ?_ | refine zA ?_ | (refine zM ?_; intro _ _) | refine zX ?_ | (refine zC ?_; intro _ _ _ _) | (refine zS ?_; intro _ _) | (apply Ws <;> intro hg))
    exact Ends.ret1 rfl ⟨n0 + 1, n0 + 1 + 1, rfl, by omega, hH3.sub (.cons_cons _ (.cons _ (.refl _)))⟩

/-- At which places of an order a form lies. -/
def bitP (m : Nat) (o : List Int) (i : Nat) : Bool := m.testBit (o.getD i 0).toNat

theorem formGaps_fs {M : HL} {n0 : Nat} {H : Heap} (hH : hasH M n0 H) {m : Nat} {v : Value} {o : List Int} (hm : m < 128) (hS : Sl M 1 v (ints o)) (hol : o.length ≤ 1000) (hob : ∀ x ∈ o, 0 ≤ x ∧ x < 7) :
    FS C 89 [.int .u8 (m : Int), v] H (fun e H' => e = .int .i64 ((RN (bitP m o) o.length : Int) - 1) ∧ H' = H) := by
  refine FS.intro (pf := pf89) rfl rfl rfl ?_
  have hrn : ∀ k, RN (bitP m o) k ≤ k := by
    intro k
    induction k with
    | zero => exact Nat.le_refl _
    | succ k ih => rw [RN]; split <;> omega
  repeat' (first | refine zP ?_ | refine zA ?_ | (refine zM ?_; intro _ _) | refine zX ?_ | (refine zC ?_; intro _ _ _ _) | (refine zS ?_; intro _ _) | (apply Ws <;> intro hg))
  refine WC.loopX [(0, _), (9, _), (10, _)] (fun s : Nat × Bool => [(5, .int .i64 (RN (bitP m o) s.1 : Int)), (6, .bool s.2), (11, .int .i64 (s.1 : Int))]) []
    (fun s H' => H' = H ∧ s.1 ≤ o.length ∧ s.2 = if s.1 = 0 then false else bitP m o (s.1 - 1)) (fun s => o.length - s.1) (0, false) (by repeat' (first | exact .nil | refine .cons rfl ?_)) rfl ⟨rfl, Nat.zero_le _, rfl⟩ ?_
  rintro ⟨k, ins⟩ H1 ⟨rfl, hk, hins⟩
  simp only at hk hins
  dsimp only [List.cons_append, List.nil_append]
  repeat' (first | refine zP ?_ | refine zA ?_ | (refine zM ?_; intro _ _) | refine zX ?_ | (refine zC ?_; intro _ _ _ _) | (refine zS ?_; intro _ _) | (apply Ws <;> intro hg))
  refine WC.condP rfl (fun hlt => ?_) (fun hlt => ?_)
  · have hk' : k < o.length := by omega
    have hx0 := hob _ (getD_mem (a := 0) hk')
    obtain ⟨x, hx⟩ : ∃ x : Nat, o.getD k 0 = x := ⟨(o.getD k 0).toNat, by omega⟩
    have hbit : bitP m o k = m.testBit x := by rw [bitP, hx, Int.toNat_natCast]
    have hrk := hrn k
    have hcond : (k = 0 ∨ bitP m o (k - 1) = false) ↔ ins = false := by
      rw [hins]; split
      · simp; omega
      · constructor
        · rintro (h | h)
          · omega
          · exact h
        · exact fun h => .inr h
    repeat' (first | refine zP ?_ | refine zA ?_ | (refine zM ?_; intro _ _) | refine zX ?_ | (refine zC ?_; intro _ _ _ _) | (refine zS ?_; intro _ _) | (apply Ws <;> intro hg))
    rw [hx]
    refine WR.call (by first | exact gN | exact gS rfl) rfl rfl (has_fs m x (by omega) (by omega) _) ?_
    rintro _ _ ⟨rfl, rfl⟩
    rw [← hbit]
    have hins2 : bitP m o k = if k + 1 = 0 then false else bitP m o (k + 1 - 1) := by rw [if_neg (by omega), Nat.add_sub_cancel]
    cases hb : bitP m o k with
    | false =>
      have hr : RN (bitP m o) (k + 1) = RN (bitP m o) k := by rw [RN, hb]; simp
      repeat' (first | refine zP ?_ | refine zA ?_ | (refine zM ?_; intro _ _) | refine zX ?_ | (refine zC ?_; intro _ _ _ _) | (refine zS ?_; intro _ _) | (apply Ws <;> intro hg))
      refine WR.call (by first | exact gN | exact gS rfl) rfl rfl (has_fs m x (by omega) (by omega) _) ?_
      rintro _ _ ⟨rfl, rfl⟩
      rw [← hbit, hb]
      repeat' (first | refine zP ?_ | refine zA ?_ | (refine zM ?_; intro _ _) | refine zX ?_ | (refine zC ?_; intro _ _ _ _) | (refine zS ?_; intro _ _) | (apply Ws <;> intro hg))
      rw [← hr]
      exact Ends.loop (k + 1, false) (by simp only; omega) (by repeat' (first | exact .nil | refine .cons rfl ?_)) rfl ⟨rfl, hk', by rw [hb] at hins2; exact hins2⟩
    | true =>
      cases ins with
      | true =>
        have hr : RN (bitP m o) (k + 1) = RN (bitP m o) k := by
          rw [RN, if_neg]
          · rfl
          · rintro ⟨_, h⟩; have := hcond.1 h; cases this
        repeat' (first | refine zP ?_ | refine zA ?_ | (refine zM ?_; intro _ _) | refine zX ?_ | (refine zC ?_; intro _ _ _ _) | (refine zS ?_; intro _ _) | (apply Ws <;> intro hg))
        refine WR.call (by first | exact gN | exact gS rfl) rfl rfl (has_fs m x (by omega) (by omega) _) ?_
        rintro _ _ ⟨rfl, rfl⟩
        rw [← hbit, hb]
        repeat' (first | refine zP ?_ | refine zA ?_ | (refine zM ?_; intro _ _) | refine zX ?_ | (refine zC ?_; intro _ _ _ _) | (refine zS ?_; intro _ _) | (apply Ws <;> intro hg))
        rw [← hr]
        exact Ends.loop (k + 1, true) (by simp only; omega) (by repeat' (first | exact .nil | refine .cons rfl ?_)) rfl ⟨rfl, hk', by rw [hb] at hins2; exact hins2⟩
      | false =>
        have hr : RN (bitP m o) (k + 1) = RN (bitP m o) k + 1 := by rw [RN, if_pos ⟨hb, hcond.2 rfl⟩]
        repeat' (first | refine zP ?_ | refine zA ?_ | (refine zM ?_; intro _ _) | refine zX ?_ | (refine zC ?_; intro _ _ _ _) | (refine zS ?_; intro _ _) | (apply Ws <;> intro hg))
        refine WR.call (by first | exact gN | exact gS rfl) rfl rfl (has_fs m x (by omega) (by omega) _) ?_
        rintro _ _ ⟨rfl, rfl⟩
        rw [← hbit, hb]
        repeat' (first | refine zP ?_ | refine zA ?_ | (refine zM ?_; intro _ _) | refine zX ?_ | (refine zC ?_; intro _ _ _ _) | (refine zS ?_; intro _ _) | (apply Ws <;> intro hg))
        have hr' : ((RN (bitP m o) k : Nat) : Int) + 1 = ((RN (bitP m o) (k + 1) : Nat) : Int) := by omega
        rw [hr']
        exact Ends.loop (k + 1, true) (by simp only; omega) (by repeat' (first | exact .nil | refine .cons rfl ?_)) rfl ⟨rfl, hk', by rw [hb] at hins2; exact hins2⟩
  · have hkl : k = o.length := by omega
    subst hkl
    have := hrn o.length
    repeat' (first | refine zP ?_ | refine zA ?_ | (refine zM ?_; intro _ _) | refine zX ?_ | (refine zC ?_; intro _ _ _ _) | (refine zS ?_; intro _ _) | (apply Ws <;> intro hg))
    exact Ends.ret1 rfl ⟨rfl, rfl⟩
end Go.Proofs.Ytckpocjeikkblaa.St

namespace Go.Proofs.Ytckpocjeikkblaa.St
open Go Go.Abs Go.Mth
set_option linter.unusedVariables false
set_option linter.unusedSimpArgs false
attribute [local irreducible] gOK WS WC WR WD Ends FS YS OpV seqK blockK loopK midK retK rdK asgK rangeEnd sat Cell

theorem RN_le (p : Nat → Bool) : ∀ k, RN p k ≤ k
  | 0 => Nat.le_refl _
  | k + 1 => by have := RN_le p k; rw [RN]; split <;> omega

/-- The gaps of the first forms together. -/
def gsum (ms : List Nat) (o : List Int) : Nat → Int
  | 0 => 0
  | k + 1 => gsum ms o k + ((RN (bitP (ms.getD k 0) o) o.length : Int) - 1)
theorem gsum_bd {ms : List Nat} {o : List Int} : ∀ k : Nat, -(k : Int) ≤ gsum ms o k ∧ gsum ms o k ≤ k * o.length
  | 0 => by simp [gsum]
  | k + 1 => by
    have h1 := gsum_bd (ms := ms) (o := o) k
    have h2 := RN_le (bitP (ms.getD k 0) o) o.length
    rw [gsum]
    have : ((k + 1 : Nat) : Int) * o.length = k * o.length + o.length := by rw [Int.natCast_add, Int.add_mul]; simp
    omega

section
variable {M : HL} {n0 : Nat} {H : Heap} {v w : Value} {ms : List Nat} {o : List Int}

theorem gaps_fs (hH : hasH M n0 H) (hV : Sl M 1 v (numsK .u8 ms)) (hml : ms.length ≤ 10) (hmb : ∀ m ∈ ms, m < 128) (hS : Sl M 1 w (ints o)) (hol : o.length ≤ 7) (hob : ∀ x ∈ o, 0 ≤ x ∧ x < 7) :
    FS C 65 [v, w] H (fun e H' => e = .int .i64 (gsum ms o ms.length) ∧ H' = H) := by
  refine FS.intro (pf := pf65) rfl rfl rfl ?_
  repeat' (first | refine zP ?_ | refine zA ?_ | (refine zM ?_; intro _ _) | refine zX ?_ | (refine zC ?_; intro _ _ _ _) | (refine zS ?_; intro _ _) | (apply Ws <;> intro hg))
  refine WC.loopX [(1, _), (8, _), (9, _)] (fun k : Nat => [(5, .int .i64 (gsum ms o k)), (10, .int .i64 (k : Int))]) [] (fun k H' => H' = H ∧ k ≤ ms.length) (fun k => ms.length - k) 0 (by repeat' (first | exact .nil | refine .cons rfl ?_)) rfl ⟨rfl, Nat.zero_le _⟩ ?_
  rintro k _ ⟨rfl, hk⟩
  dsimp only [List.cons_append, List.nil_append]
  have h2 := gsum_bd (ms := ms) (o := o) k
  have h3 : (k : Int) * o.length ≤ 10 * 7 := Int.mul_le_mul (by omega) (by omega) (by omega) (by omega)
  repeat' (first | refine zP ?_ | refine zA ?_ | (refine zM ?_; intro _ _) | refine zX ?_ | (refine zC ?_; intro _ _ _ _) | (refine zS ?_; intro _ _) | (apply Ws <;> intro hg))
  refine WC.condP rfl (fun hlt => ?_) (fun hlt => ?_)
  · have hk' : k < ms.length := by omega
    have hr := RN_le (bitP (ms.getD k 0) o) o.length
    repeat' (first | refine zP ?_ | refine zA ?_ | (refine zM ?_; intro _ _) | refine zX ?_ | (refine zC ?_; intro _ _ _ _) | (refine zS ?_; intro _ _) | (apply Ws <;> intro hg))
    refine WR.call (by first | exact gN | exact gS rfl) rfl rfl (formGaps_fs hH (hmb _ (getD_mem hk')) hS (by omega) hob) ?_
    rintro _ _ ⟨rfl, rfl⟩
    repeat' (first | refine zP ?_ | refine zA ?_ | (refine zM ?_; intro _ _) | refine zX ?_ | (refine zC ?_; intro _ _ _ _) | (refine zS ?_; intro _ _) | (apply Ws <;> intro hg))
    exact Ends.loop (k + 1) (by omega) (by repeat' (first | exact .nil | refine .cons rfl ?_)) rfl ⟨rfl, hk'⟩
  · have hkl : k = ms.length := by omega
    subst hkl
    repeat' (first | refine zP ?_ | refine zA ?_ | (refine zM ?_; intro _ _) | refine zX ?_ | (refine zC ?_; intro _ _ _ _) | (refine zS ?_; intro _ _) | (apply Ws <;> intro hg))
    exact Ends.ret1 rfl ⟨rfl, rfl⟩

theorem fit_fs (hH : hasH M n0 H) (hV : Sl M 1 v (numsK .u8 ms)) (hml : ms.length ≤ 10) (hmb : ∀ m ∈ ms, m < 128) (hS : Sl M 1 w (ints o)) (hol : o.length ≤ 7) (hob : ∀ x ∈ o, 0 ≤ x ∧ x < 7) :
    FS C 62 [v, w] H (fun e H' => e = .bool (decide (gsum ms o ms.length = 0)) ∧ H' = H) := by
  refine FS.intro (pf := pf62) rfl rfl rfl ?_
  repeat' (first | refine zP ?_ | refine zA ?_ | (refine zM ?_; intro _ _) | refine zX ?_ | (refine zC ?_; intro _ _ _ _) | (refine zS ?_; intro _ _) | (apply Ws <;> intro hg))
  refine WR.call (by first | exact gN | exact gS rfl) rfl rfl (gaps_fs hH hV hml hmb hS hol hob) ?_
  rintro _ _ ⟨rfl, rfl⟩
  repeat' (first | refine zP ?_ | refine zA ?_ | (refine zM ?_; intro _ _) | refine zX ?_ | (refine zC ?_; intro _ _ _ _) | (refine zS ?_; intro _ _) | (apply Ws <;> intro hg))
  exact Ends.ret1 rfl ⟨rfl, rfl⟩

/-- The dates of forms. -/
def DatesS (ms : List Nat) (o : List Int) (ps : List (Int × Int)) (k : Nat) : Prop :=
  ∀ i, i < k → ∃ a b : Nat, ps.getD i (0, 0) = ((a : Int), (b : Int)) ∧ ((∀ j, j < o.length → bitP (ms.getD i 0) o j = false) ∨ Ends2 (bitP (ms.getD i 0) o) o.length a b)
end

section
variable {M : HL} {n0 : Nat} {H : Heap} {v w : Value} {fs : List (List Int)} {o : List Int}

theorem masks_ok {n : Int} (h : findsE n fs = 0) : (masksOf fs).length = fs.length ∧ (masksOf fs).length ≤ 10 ∧ ∀ m ∈ masksOf fs, m < 128 := by
  obtain ⟨h1, h2, h3, h4⟩ := finds_ok h
  refine ⟨by simp [masksOf], by simp [masksOf]; omega, fun m hm => ?_⟩
  obtain ⟨l, hl, rfl⟩ := List.mem_map.1 hm
  exact maskI_lt (form_ok (h4 l hl)).2.1 h2
theorem own_masks {b : Nat} {ms : List Nat} {e : TypeId} : Sl ((b, .row e 0 0 (numsK .u8 ms)) :: M) 1 (.slice (some ⟨b, 0, some 0⟩) ms.length (2 * ms.length + 1)) (numsK .u8 ms) :=
  .row (lo := 0) (cs := numsK .u8 ms) (.head _) (.row _ _ _ _) (Nat.zero_le _) (by simp) (by simp [List.take_of_length_le]) (by simp) (.inr ⟨ms.length, rfl, Nat.le_refl _⟩)

theorem Whole_fs (hH : hasH M n0 H) (hR : RowsI M v fs) (hl : fs.length ≤ 1000) (hll : ∀ l ∈ fs, l.length ≤ 1000) (hO : Sl M 1 w (ints o)) (hol : o.length ≤ 1000) (n : Int) :
    FS C 16 [.agg #[.int .i64 n, v], w] H (fun e H' => e = .tuple #[.bool (if bothE n fs o = 0 then decide (gsum (masksOf fs) o fs.length = 0) else false), .int .i64 (bothE n fs o)] ∧ ∃ n', n0 ≤ n' ∧ hasH M n' H') := by
  have h1 := hR.one_
  refine FS.intro (pf := pf16) rfl rfl rfl ?_
  repeat' (first | refine zP ?_ | refine zA ?_ | (refine zM ?_; intro _ _) | refine zX ?_ | (refine zC ?_; intro _ _ _ _) | (refine zS ?_; intro _ _))
  rename_i H1 hH1
  have hR1 : RowsI ((n0, .row 24 0 0 [.int .i64 n, v]) :: M) v fs := hR.cons
  have hO1 : Sl ((n0, .row 24 0 0 [.int .i64 n, v]) :: M) 1 w (ints o) := hO.cons
  have hm1 : (n0, Ch.row 24 0 0 [.int .i64 n, v]) ∈ (n0, Ch.row 24 0 0 [.int .i64 n, v]) :: M := .head _
  have hback : ∀ {n' : Nat} {H' : Heap}, hasH ((n0, Ch.row 24 0 0 [.int .i64 n, v]) :: M) n' H' → hasH M n' H' := fun h => h.tail
  generalize (n0, Ch.row 24 0 0 [.int .i64 n, v]) :: M = T at hH1 hR1 hO1 hm1 hback
  refine WR.call (by first | exact gN | exact gS rfl) rfl rfl (checkBoth_fs hH1 hR1 hl hll hO1 hol n) ?_
  rintro _ H2 ⟨rfl, n2, hn2, hH2⟩
  clear hH1
  repeat' (first | refine zP ?_ | refine zA ?_ | (refine zM ?_; intro _ _) | refine zX ?_ | (refine zC ?_; intro _ _ _ _) | (refine zS ?_; intro _ _) | (apply Ws <;> intro hg))
  refine WC.condP rfl (fun hne => ?_) (fun hne => ?_)
  · repeat' (first | refine zP ?_ | refine zA ?_ | (refine zM ?_; intro _ _) | refine zX ?_ | (refine zC ?_; intro _ _ _ _) | (refine zS ?_; intro _ _) | (apply Ws <;> intro hg))
    exact Ends.ret2 rfl rfl ⟨by rw [if_neg hne], n2, by omega, hback hH2⟩
  have he0 : bothE n fs o = 0 := Decidable.not_not.1 hne
  obtain ⟨hf0, hon, hob, hnd⟩ := both_ok he0
  obtain ⟨hml, hm10, hmb⟩ := masks_ok hf0
  have hn7 := (finds_ok hf0).2.1
  repeat' (first | refine zP ?_ | refine zA ?_ | (refine zM ?_; intro _ _) | refine zX ?_ | (refine zC ?_; intro _ _ _ _) | (refine zS ?_; intro _ _) | (apply Ws <;> intro hg))
  refine WR.call (by first | exact gN | exact gS rfl) rfl rfl (formsOf_fs hH2 hR1 hf0) ?_
  rintro _ H3 ⟨b, n3, rfl, hn3, hH3⟩
  have hV := own_masks (M := T) (b := b) (ms := masksOf fs) (e := 117)
  rw [hml] at hV
  repeat' (first | refine zP ?_ | refine zA ?_ | (refine zM ?_; intro _ _) | refine zX ?_ | (refine zC ?_; intro _ _ _ _) | (refine zS ?_; intro _ _) | (apply Ws <;> intro hg))
  refine WR.call (by first | exact gN | exact gS rfl) rfl rfl (fit_fs hH3 hV hm10 hmb hO1.cons (by omega) (fun x hx => by have := hob x hx; omega)) ?_
  rintro _ _ ⟨rfl, rfl⟩
  repeat' (first | refine zP ?_ | refine zA ?_ | (refine zM ?_; intro _ _) | refine zX ?_ | (refine zC ?_; intro _ _ _ _) | (refine zS ?_; intro _ _) | (apply Ws <;> intro hg))
  exact Ends.ret2 rfl rfl ⟨by rw [if_pos he0, he0, hml], n3, by omega, hback hH3.tail⟩
end
end Go.Proofs.Ytckpocjeikkblaa.St

/- Pairs of numbers that are compared. -/
namespace Go.Abs
set_option linter.unusedSectionVars false
variable [Globs]
open Go
set_option linter.unusedSimpArgs false
structure Arr2 (P : Program) (t e : TypeId) : Prop where
  u : P.underlying e = some (.int .i64)
  a : P.underlying t = some (.array 2 e)
  s : pureRun P (sizeOf e) = some 1
  p : ∀ (x y : Int), pureRun P (part e #[.int .i64 x, .int .i64 y] (0 * 1)) = some (.int .i64 x) ∧ pureRun P (part e #[.int .i64 x, .int .i64 y] (1 * 1)) = some (.int .i64 y)
  g : ∀ (x y : Operand) (a b : Array Value), pureRun P (eqGuard .neq t x y (.agg a) (.agg b)) = some ()
section
variable {C : CW} {L : Env} {H : Heap}
end
section
variable {C : CW} {L : Env} {H : Heap}
end
end Go.Abs

namespace Go.Proofs.Ytckpocjeikkblaa.St
open Go Go.Abs Go.Mth
set_option linter.unusedVariables false
set_option linter.unusedSimpArgs false
attribute [local irreducible] gOK WS WC WR WD Ends FS YS OpV seqK blockK loopK midK retK rdK asgK rangeEnd sat Cell
section
variable {M : HL} {n0 : Nat} {H : Heap} {v w : Value} {fs : List (List Int)} {l o : List Int} {n : Int}
end
end Go.Proofs.Ytckpocjeikkblaa.St

namespace Go.Proofs.Ytckpocjeikkblaa.St
open Go Go.Abs Go.Mth
set_option linter.unusedVariables false
set_option linter.unusedSimpArgs false
attribute [local irreducible] gOK WS WC WR WD Ends FS YS OpV seqK blockK loopK midK retK rdK asgK rangeEnd sat Cell

def bitF (l o : List Int) (i : Nat) : Bool := decide (o.getD i 0 ∈ l)

section
variable {M : HL} {n0 : Nat} {H : Heap} {v w : Value} {fs : List (List Int)} {l o : List Int} {n : Int}
def gsumF (fs : List (List Int)) (o : List Int) : Nat → Int
  | 0 => 0
  | k + 1 => gsumF fs o k + ((RN (bitF (fs.getD k []) o) o.length : Int) - 1)
def DatesF (fs : List (List Int)) (o : List Int) (ps : List (Int × Int)) (k : Nat) : Prop :=
  ∀ i, i < k → ∃ a b : Nat, ps.getD i (0, 0) = ((a : Int), (b : Int)) ∧ ((∀ j, j < o.length → bitF (fs.getD i []) o j = false) ∨ Ends2 (bitF (fs.getD i []) o) o.length a b)
structure DV where
  k : Nat
  v : Value
  Mx : HL
  n : Nat
  ps : List (Int × Int)
end
end Go.Proofs.Ytckpocjeikkblaa.St

namespace Go.Proofs.Ytckpocjeikkblaa.St
open Go Go.Abs Go.Mth
set_option linter.unusedVariables false
set_option linter.unusedSimpArgs false
attribute [local irreducible] gOK WS WC WR WD Ends FS YS OpV seqK blockK loopK midK retK rdK asgK rangeEnd sat Cell

/-! What both sides come to is the same. -/
section
variable {n : Int} {fs : List (List Int)} {o : List Int}
theorem bit_same (h : bothE n fs o = 0) {i : Nat} (hi : i < fs.length) {j : Nat} (hj : j < o.length) : bitP ((masksOf fs).getD i 0) o j = bitF (fs.getD i []) o j := by
  obtain ⟨hf0, hon, hob, hnd⟩ := both_ok h
  have hl := (finds_ok hf0).2.2.2 _ (getD_mem (a := []) hi)
  have hx := hob _ (getD_mem (a := 0) hj)
  rw [masksOf_get hi, bitP, bitF]
  have h1 := maskI_bit (l := fs.getD i []) (fun x hx => ((form_ok hl).2.1 x hx).1) (i := (o.getD j 0).toNat)
  rw [show (((o.getD j 0).toNat : Nat) : Int) = o.getD j 0 by omega] at h1
  by_cases h2 : o.getD j 0 ∈ fs.getD i []
  · rw [decide_eq_true h2, h1.2 h2]
  · rw [decide_eq_false h2]
    cases hb : (maskI (fs.getD i [])).testBit (o.getD j 0).toNat with
    | false => rfl
    | true => exact absurd (h1.1 hb) h2
theorem RN_congr {p q : Nat → Bool} : ∀ {k : Nat}, (∀ j, j < k → p j = q j) → RN p k = RN q k
  | 0, _ => rfl
  | k + 1, h => by
    rw [RN, RN, RN_congr (k := k) fun j hj => h j (by omega), h k (by omega)]
    rcases Nat.eq_zero_or_pos k with h0 | h0
    · subst h0; simp
    · rw [h (k - 1) (by omega)]
theorem gsum_same (h : bothE n fs o = 0) : ∀ k : Nat, k ≤ fs.length → gsum (masksOf fs) o k = gsumF fs o k
  | 0, _ => rfl
  | k + 1, hk => by rw [gsum, gsumF, gsum_same h k (by omega), RN_congr fun j hj => bit_same h (by omega) hj]
/-- Each form lies somewhere in the order. -/
theorem some_bit (h : bothE n fs o = 0) {i : Nat} (hi : i < fs.length) : ∃ j, j < o.length ∧ bitF (fs.getD i []) o j = true := by
  obtain ⟨hf0, hon, hob, hnd⟩ := both_ok h
  obtain ⟨h1, h2, _⟩ := form_ok ((finds_ok hf0).2.2.2 _ (getD_mem (a := []) hi))
  have hx := h2 _ (getD_mem (a := 0) (k := 0) (by omega))
  obtain ⟨j, hj, he⟩ := List.mem_iff_getElem.1 (nodup_allI hnd hob hon hx)
  refine ⟨j, hj, decide_eq_true ?_⟩
  rw [getD_eq hj, he]; exact getD_mem (by omega)
theorem runs_pos (h : bothE n fs o = 0) {i : Nat} (hi : i < fs.length) : 1 ≤ RN (bitF (fs.getD i []) o) o.length := by
  obtain ⟨j, hj, hb⟩ := some_bit h hi
  rcases runs_all (p := bitF (fs.getD i []) o) o.length with h1 | ⟨a, b, _, _, h2, _⟩
  · rw [h1 j hj] at hb; cases hb
  · exact h2
theorem gsumF_zero (h : bothE n fs o = 0) : ∀ k : Nat, k ≤ fs.length → 0 ≤ gsumF fs o k ∧ (gsumF fs o k = 0 ↔ ∀ i, i < k → RN (bitF (fs.getD i []) o) o.length = 1)
  | 0, _ => ⟨Int.le_refl _, ⟨fun _ i hi => absurd hi (Nat.not_lt_zero _), fun _ => rfl⟩⟩
  | k + 1, hk => by
    obtain ⟨h1, h2⟩ := gsumF_zero h k (by omega)
    have h3 := runs_pos h (i := k) (by omega)
    rw [gsumF]
    refine ⟨by omega, fun h4 i hi => ?_, fun h4 => ?_⟩
    · rcases Nat.lt_or_ge i k with h5 | h5
      · exact h2.1 (by omega) i h5
      · have : i = k := by omega
        subst this; omega
    · have := h4 k (by omega)
      have := h2.2 fun i hi => h4 i (by omega)
      omega
end

section
variable {M : HL} {n0 : Nat} {H : Heap} {v w : Value} {fs : List (List Int)} {o : List Int} {n : Int}
end
end Go.Proofs.Ytckpocjeikkblaa.St
