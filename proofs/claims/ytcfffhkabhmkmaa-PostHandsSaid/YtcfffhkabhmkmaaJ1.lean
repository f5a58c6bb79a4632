/- Texts of the law, joined. -/
import Derived.Test.YtcfffhkabhmkmaaSymB
import Derived.Test.YtcfffhkabhmkmaaAbsEv
/- Mathematics of lists and of what is found first: no word of the program. -/
namespace Go.Mth
set_option linter.unusedVariables false

/-! The first error of several tests. -/
def firstE (f : Nat → Int) : Nat → Int
  | 0 => 0
  | k + 1 => if firstE f k = 0 then f k else firstE f k

theorem firstE_at {f : Nat → Int} {i : Nat} (h0 : firstE f i = 0) (hi : f i ≠ 0) : ∀ {m : Nat}, i < m → firstE f m = f i := by
  intro m
  induction m with
  | zero => intro h; omega
  | succ m ih =>
    intro h
    rcases Nat.lt_or_ge i m with h1 | h1
    · have := ih h1
      simp only [firstE]; rw [if_neg (by rw [this]; exact hi)]; exact this
    · have : i = m := by omega
      subst this
      simp only [firstE]; rw [if_pos h0]

theorem firstE_succ {f : Nat → Int} {i : Nat} (h0 : firstE f i = 0) (hi : f i = 0) : firstE f (i + 1) = 0 := by simp only [firstE]; rw [if_pos h0]; exact hi
theorem firstE_zero {f : Nat → Int} : ∀ {m : Nat}, firstE f m = 0 ↔ ∀ i, i < m → f i = 0 := by
  intro m
  induction m with
  | zero => simp [firstE]
  | succ m ih =>
    simp only [firstE]
    constructor
    · intro h i hi
      by_cases h0 : firstE f m = 0
      · rw [if_pos h0] at h
        rcases Nat.lt_or_ge i m with h1 | h1
        · exact ih.1 h0 i h1
        · have : i = m := by omega
          subst this; exact h
      · rw [if_neg h0] at h; exact absurd h h0
    · intro h
      have h0 : firstE f m = 0 := ih.2 fun i hi => h i (by omega)
      rw [if_pos h0]; exact h m (by omega)
/-! Lists without repetition. -/
theorem nodup_le : ∀ (r : Nat) (l : List Nat), l.Nodup → (∀ y ∈ l, y < r) → l.length ≤ r
  | 0, l, _, h => by
    cases l with
    | nil => exact Nat.le_refl _
    | cons x l => have := h x (by simp); omega
  | r + 1, l, hn, h => by
    have h1 := nodup_le r (l.filter (fun y => decide (y ≠ r))) (hn.filter _) (fun y hy => by
      obtain ⟨h2, h3⟩ := List.mem_filter.1 hy
      have := h y h2
      have : y ≠ r := by simpa using h3
      omega)
    have h2 : (l.filter (fun y => decide (y = r))).length ≤ 1 := by
      have h3 : (l.filter (fun y => decide (y = r))).Nodup := hn.filter _
      match hf : l.filter (fun y => decide (y = r)) with
      | [] => simp
      | [a] => simp
      | a :: b :: m =>
        rw [hf] at h3
        have ha : a ∈ l.filter (fun y => decide (y = r)) := by rw [hf]; simp
        have hb : b ∈ l.filter (fun y => decide (y = r)) := by rw [hf]; simp
        have e1 := (List.mem_filter.1 ha).2
        have e2 := (List.mem_filter.1 hb).2
        simp only [decide_eq_true_eq] at e1 e2
        rw [e1, e2] at h3
        simp at h3
    have h4 : ∀ m : List Nat, m.length = (m.filter (fun y => decide (y = r))).length + (m.filter (fun y => decide (y ≠ r))).length := by
      intro m
      induction m with
      | nil => rfl
      | cons x m ih => by_cases h : x = r <;> simp [h] <;> simp at ih <;> omega
    have := h4 l
    omega
/-! Runs: a place at which a run begins. -/
section
variable (p : Nat → Bool)
/-- The first and the last place. -/
structure Ends2 (k a b : Nat) : Prop where
  pa : p a = true
  ak : a < k
  lo : ∀ i, i < a → p i = false
  pb : p b = true
  bk : b < k
  hi : ∀ i, b < i → i < k → p i = false

variable {p}
theorem Ends2.le {k a b : Nat} (h : Ends2 p k a b) : a ≤ b := by
  rcases Nat.lt_or_ge b a with h1 | h1
  · have := h.lo b h1; rw [h.pb] at this; cases this
  · exact h1
theorem Ends2.first {k : Nat} (hk : p k = true) (hn : ∀ i, i < k → p i = false) : Ends2 p (k + 1) k k := ⟨hk, by omega, hn, hk, by omega, fun i h1 h2 => by omega⟩
theorem Ends2.next {k a b : Nat} (h : Ends2 p k a b) (hk : p k = true) : Ends2 p (k + 1) a k := ⟨h.pa, by have := h.ak; omega, h.lo, hk, by omega, fun i h1 h2 => by omega⟩
theorem Ends2.skip {k a b : Nat} (h : Ends2 p k a b) (hk : p k = false) : Ends2 p (k + 1) a b := ⟨h.pa, by have := h.ak; omega, h.lo, h.pb, by have := h.bk; omega, fun i h1 h2 => by
  rcases Nat.lt_or_ge i k with h3 | h3
  · exact h.hi i h1 h3
  · have : i = k := by omega
    subst this; exact hk⟩
end
end Go.Mth

/- What all laws' texts share. -/
namespace Go.Abs
set_option linter.unusedSectionVars false
variable [Globs]
open Go Go.Mth
set_option linter.unusedVariables false
abbrev ints (xs : List Int) : List Value := xs.map (Value.int .i64)
abbrev bools (xs : List Bool) : List Value := xs.map Value.bool
abbrev nodes (l : List Nat) : List Value := l.map (fun (x : Nat) => Value.int .i64 (x : Int))
theorem nodesI (l : List Nat) : nodes l = ints (l.map fun (x : Nat) => (x : Int)) := by simp [nodes, ints]
theorem getD_eq {α : Type} {l : List α} {k : Nat} {a : α} (h : k < l.length) : l.getD k a = l[k] := by rw [List.getD_eq_getElem?_getD, List.getElem?_eq_getElem h]; rfl
theorem getD_mem {α : Type} {l : List α} {k : Nat} {a : α} (h : k < l.length) : l.getD k a ∈ l := by rw [getD_eq h]; exact List.getElem_mem h
theorem getD_set' {α : Type} {l : List α} {y z : Nat} {v a : α} (h : y < l.length) : (l.set y v).getD z a = if z = y then v else l.getD z a := by
  rw [List.getD_eq_getElem?_getD, List.getD_eq_getElem?_getD, List.getElem?_set]
  by_cases e : y = z
  · subst e; rw [if_pos rfl, if_pos h, if_pos rfl]; rfl
  · rw [if_neg e, if_neg (fun q => e q.symm)]
theorem getD_app_l {α : Type} {l m : List α} {k : Nat} {a : α} (h : k < l.length) : (l ++ m).getD k a = l.getD k a := by
  rw [List.getD_eq_getElem?_getD, List.getD_eq_getElem?_getD, List.getElem?_append_left h]
theorem getD_snoc {α : Type} {l : List α} {x a : α} : (l ++ [x]).getD l.length a = x := by
  rw [List.getD_eq_getElem?_getD, List.getElem?_append_right (Nat.le_refl _)]; simp
theorem getD_take {α : Type} {l : List α} {k m : Nat} {a : α} (h : m < k) : (l.take k).getD m a = l.getD m a := by
  rw [List.getD_eq_getElem?_getD, List.getD_eq_getElem?_getD, List.getElem?_take_of_lt h]
theorem ext_getD {α : Type} {l m : List α} {a : α} (h : l.length = m.length) (k : ∀ i, i < l.length → l.getD i a = m.getD i a) : l = m := by
  apply List.ext_getElem h
  intro i h1 h2
  have := k i h1
  rwa [getD_eq h1, getD_eq h2] at this

/-- A slice of slices of numbers. -/
def RowsI (M : HL) (v : Value) (fs : List (List Int)) : Prop := ∃ vs : List Value, Sl M 1 v vs ∧ vs.length = fs.length ∧ ∀ i, i < fs.length → Sl M 1 (vs.getD i undef) (ints (fs.getD i []))
theorem RowsI.mono {M M' : HL} {v : Value} {fs : List (List Int)} (h : RowsI M v fs) (k : ∀ p ∈ M, p ∈ M') : RowsI M' v fs := by
  obtain ⟨vs, h1, h2, h3⟩ := h
  exact ⟨vs, h1.mono k, h2, fun i hi => (h3 i hi).mono k⟩
theorem RowsI.cons {M : HL} {p : Nat × Ch} {v : Value} {fs : List (List Int)} (h : RowsI M v fs) : RowsI (p :: M) v fs := h.mono fun q hq => List.mem_cons_of_mem _ hq
theorem RowsI.one_ {M : HL} {v : Value} {fs : List (List Int)} (h : RowsI M v fs) : one v = true := by obtain ⟨vs, h1, _⟩ := h; exact h1.one_
section
variable {C : CW} {nt : Nat} {L : Env} {D : List Nat} {H : Heap} {K : St → Prop} {M M' : HL} {n i d : Nat} {gd : Option (Tmp × Bool)} {lo' : List Nat} {l : List POp}
end
section
variable {C : CW} {nt : Nat} {L : Env} {D : List Nat} {H : Heap} {K : St → Prop} {M M' : HL} {n i d : Nat} {gd : Option (Tmp × Bool)} {lo : List Nat} {l : List POp}
theorem WR.mkSL {e m : Nat} {z : List Value} {x y : Operand} {kd kd2 : IntKind} (hg : gOK L gd) (hd : Nat.blt d nt = true) (hH : hasH M n H) (hx : ev L x = some (.int kd (m : Int))) (hy : ev L y = some (.int kd2 (m : Int)))
    (hm : m ≤ 100000) (hz : z.all one = true)
    (kk : ∀ H', hasH ((n, .row e 0 0 (List.replicate m z).flatten) :: M) (n + 1) H' → WR C nt l ((d, .slice (some ⟨n, 0, some 0⟩) m (2 * m + 1)) :: L) D H' K) : WR C nt (⟨i, some d, .mkS e z x y, gd, lo⟩ :: l) L D H K := by
  have e1 : natOf (.int kd (m : Int)) = some m := rfl
  have e2 : natOf (.int kd2 (m : Int)) = some m := rfl
  refine WR.op hg hd (H' := H.row e (List.replicate m z).flatten) (v := .slice (some ⟨n, 0, some 0⟩) m (2 * m + 1)) (fun t ht => ?_) (kk _ (hH.row e ?_))
  · simp only [opA, ev_ok ht hx, ev_ok ht hy, oMkS, e1, e2, newAddr, hH.next]
    have b1 : Nat.ble m m = true := Nat.ble_eq_true_of_le (Nat.le_refl _)
    have b2 : Nat.ble m 100000 = true := Nat.ble_eq_true_of_le hm
    rw [b1, b2]; rfl
  · rw [List.all_eq_true]; intro q hq
    obtain ⟨l, hl, hq⟩ := List.mem_flatten.1 hq
    rw [(List.mem_replicate.1 hl).2] at hq
    exact List.all_eq_true.1 hz q hq
end
abbrev numsK (kk : IntKind) (l : List Nat) : List Value := l.map (fun (x : Nat) => Value.int kk (x : Int))
/-- Two cells, one behind another. -/
def PCell (M : HL) (b o u : Nat) (p : Int × Int) : Prop := ∃ ch lo cs, (b, ch) ∈ M ∧ ch.cellsAre u lo cs ∧ lo ≤ o ∧ cs[o - lo]? = some (.int .i64 p.1) ∧ cs[o - lo + 1]? = some (.int .i64 p.2)
theorem PCell.readN {M : HL} {n : Nat} {H : Heap} {b o u : Nat} {p : Int × Int} (h : PCell M b o u p) (hH : hasH M n H) : H.readN ⟨b, o, some u⟩ 2 = some [.int .i64 p.1, .int .i64 p.2] := by
  obtain ⟨ch, lo, cs, h1, h2, h3, h4, h5⟩ := h
  have hlt : o - lo + 1 < cs.length := (List.getElem?_eq_some_iff.1 h5).1
  rw [hH.readN (k := 2) h1 h2 h3 (by omega)]
  congr 1
  refine List.ext_getElem? fun i => ?_
  rcases i with _ | _ | i
  · rw [List.getElem?_take_of_lt (by omega), List.getElem?_drop, Nat.add_zero, h4]; rfl
  · rw [List.getElem?_take_of_lt (by omega), List.getElem?_drop, h5]; rfl
  · rw [List.getElem?_eq_none (by simp; omega), List.getElem?_eq_none (by simp)]
section
variable {C : CW} {nt : Nat} {L : Env} {D : List Nat} {H : Heap} {K : St → Prop} {M M' : HL} {n i d : Nat} {gd : Option (Tmp × Bool)} {lo : List Nat} {l : List POp} {rs : List Rd}
end
end Go.Abs

/- Rows of elements of several cells each. -/
namespace Go.Abs
set_option linter.unusedSectionVars false
variable [Globs]
open Go Go.Mth
set_option linter.unusedVariables false
section
variable {α : Type} {F : α → List Value} {K : Nat}
/-- Several cells, one behind another. -/
def KCell (M : HL) (b o u : Nat) (vs : List Value) : Prop := ∃ ch lo cs, (b, ch) ∈ M ∧ ch.cellsAre u lo cs ∧ lo ≤ o ∧ o - lo + vs.length ≤ cs.length ∧ (cs.drop (o - lo)).take vs.length = vs
theorem KCell.at {M : HL} {b o u j : Nat} {vs : List Value} {v : Value} (h : KCell M b o u vs) (hv : vs[j]? = some v) : Cell M b (o + j) u v := by
  obtain ⟨ch, lo, cs, h1, h2, h3, h4, h5⟩ := h
  have hj : j < vs.length := (List.getElem?_eq_some_iff.1 hv).1
  refine ⟨ch, lo, cs, h1, h2, by omega, ?_⟩
  rw [← h5, List.getElem?_take_of_lt hj, List.getElem?_drop] at hv
  rw [← hv]; congr 1; omega
theorem KCell.mono {M M' : HL} {b o u : Nat} {vs : List Value} (h : KCell M b o u vs) (k : ∀ p ∈ M, p ∈ M') : KCell M' b o u vs := by
  obtain ⟨ch, lo, cs, h1, h2⟩ := h
  exact ⟨ch, lo, cs, k _ h1, h2⟩
end
section
variable {C : CW} {nt : Nat} {L : Env} {D : List Nat} {H : Heap} {K : St → Prop} {M M' : HL} {n i d : Nat} {gd : Option (Tmp × Bool)} {lo : List Nat} {l : List POp} {rs : List Rd}
variable {α : Type} {F : α → List Value} {z : Nat}
end
end Go.Abs

/- No package-level variable is read. -/
namespace Go.Abs
instance noGlobs : Globs := ⟨fun _ => none⟩
end Go.Abs
