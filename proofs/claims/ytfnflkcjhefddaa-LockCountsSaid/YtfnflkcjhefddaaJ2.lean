/- Texts of the law, joined. -/
import Derived.Test.YtfnflkcjhefddaaJ1
import Derived.Test.YtfnflkcjhefddaaLkP
import Derived.Test.YtfnflkcjhefddaaSymS
import Derived.Test.YtfnflkcjhefddaaSymG
import Derived.Test.YtfnflkcjhefddaaSymD
/- Functions of the library; an order's check. -/
namespace Go.Proofs.Ytfnflkcjhefddaa.Lk
open Go Go.Abs Go.Mth
set_option linter.unusedVariables false
set_option linter.unusedSimpArgs false
abbrev IL (l : List Nat) : List Int := l.map fun (x : Nat) => (x : Int)
theorem IL_len (l : List Nat) : (IL l).length = l.length := by simp [IL]
theorem IL_get {l : List Nat} {i : Nat} (h : i < l.length) : (IL l).getD i 0 = ((l.getD i 0 : Nat) : Int) := by
  rw [getD_eq (by rw [IL_len]; exact h), getD_eq h]; simp [IL]
theorem nodes_IL (l : List Nat) : nodes l = ints (IL l) := by simp [nodes, ints, IL]
theorem nodes_one' (l : List Nat) : (nodes l).all one = true := by
  rw [List.all_eq_true]; intro q hq; obtain ⟨z, _, rfl⟩ := List.mem_map.1 hq; rfl
/-- The error of a number of an order. -/
def errA (o : List Int) (k : Nat) : Int := if o.getD k 0 < 0 ∨ (o.length : Int) ≤ o.getD k 0 then 2 else if o.getD k 0 ∈ o.take k then 6 else 0
def errO (o : List Int) : Int := if o.length < 1 ∨ 7 < o.length then 1 else firstE (errA o) o.length
attribute [local irreducible] gOK WS WC WR WD Ends FS YS OpV seqK blockK loopK midK retK rdK asgK rangeEnd sat Cell
section
variable {M : HL} {n0 : Nat} {H : Heap} {v w : Value}
theorem Index_fs (hH : hasH M n0 H) {xs : List Int} (hS : Sl M 1 v (ints xs)) (hx : xs.length ≤ 100000) (a : Int) :
    FS C 52 [v, .int .i64 a] H (fun e H' => H' = H ∧ ((∃ k, k < xs.length ∧ xs.getD k 0 = a ∧ (∀ j, j < k → xs.getD j 0 ≠ a) ∧ e = .int .i64 (k : Int)) ∨ (a ∉ xs ∧ e = .int .i64 (-1)))) := by
  refine FS.intro (pf := pf52) rfl rfl rfl ?_
  repeat' (first | refine zP ?_ | refine zA ?_ | (refine zM ?_; intro _ _) | refine zX ?_ | (refine zC ?_; intro _ _ _ _) | (refine zS ?_; intro _ _) | (apply Ws <;> intro hg))
  refine WC.loopX [(0, _), (1, _), (6, _), (7, _)] (fun k : Nat => [(8, .int .i64 (k : Int))]) [] (fun k H' => H' = H ∧ k ≤ xs.length ∧ ∀ j, j < k → xs.getD j 0 ≠ a) (fun k => xs.length - k) 0 (by repeat' (first | exact .nil | refine .cons rfl ?_)) rfl ⟨rfl, Nat.zero_le _, fun j h => absurd h (Nat.not_lt_zero _)⟩ ?_
  rintro k H' ⟨rfl, hk, hno⟩
  dsimp only [List.cons_append, List.nil_append]
  repeat' (first | refine zP ?_ | refine zA ?_ | (refine zM ?_; intro _ _) | refine zX ?_ | (refine zC ?_; intro _ _ _ _) | (refine zS ?_; intro _ _) | (apply Ws <;> intro hg))
  refine WC.condP rfl (fun hlt => ?_) (fun hlt => ?_)
  · have hk' : k < xs.length := by omega
    repeat' (first | refine zP ?_ | refine zA ?_ | (refine zM ?_; intro _ _) | refine zX ?_ | (refine zC ?_; intro _ _ _ _) | (refine zS ?_; intro _ _) | (apply Ws <;> intro hg))
    refine WC.condP rfl (fun h => ?_) (fun h => ?_)
    · repeat' (first | refine zP ?_ | refine zA ?_ | (refine zM ?_; intro _ _) | refine zX ?_ | (refine zC ?_; intro _ _ _ _) | (refine zS ?_; intro _ _) | (apply Ws <;> intro hg))
      exact Ends.ret1 rfl ⟨rfl, .inl ⟨k, hk', h.symm, hno, rfl⟩⟩
    · repeat' (first | refine zP ?_ | refine zA ?_ | (refine zM ?_; intro _ _) | refine zX ?_ | (refine zC ?_; intro _ _ _ _) | (refine zS ?_; intro _ _) | (apply Ws <;> intro hg))
      refine Ends.loop (k + 1) (by omega) (by repeat' (first | exact .nil | refine .cons rfl ?_)) rfl ⟨rfl, hk', fun j hj => ?_⟩
      rcases Nat.lt_or_ge j k with h2 | h2
      · exact hno j h2
      · have : j = k := by omega
        subst this
        exact fun e => h e.symm
  · repeat' (first | refine zP ?_ | refine zA ?_ | (refine zM ?_; intro _ _) | refine zX ?_ | (refine zC ?_; intro _ _ _ _) | (refine zS ?_; intro _ _) | (apply Ws <;> intro hg))
    refine Ends.ret1 rfl ⟨rfl, .inr ⟨fun hm => ?_, rfl⟩⟩
    obtain ⟨j, hj, he⟩ := List.mem_iff_getElem.1 hm
    exact hno j (by omega) (by rw [getD_eq hj]; exact he)
theorem Contains_fs (hH : hasH M n0 H) {xs : List Int} (hS : Sl M 1 v (ints xs)) (hx : xs.length ≤ 100000) (a : Int) :
    FS C 68 [v, .int .i64 a] H (fun e H' => H' = H ∧ e = .bool (decide (a ∈ xs))) := by
  refine FS.intro (pf := pf68) rfl rfl rfl ?_
  repeat' (first | refine zP ?_ | refine zA ?_ | (refine zM ?_; intro _ _) | refine zX ?_ | (refine zC ?_; intro _ _ _ _) | (refine zS ?_; intro _ _) | (apply Ws <;> intro hg))
  refine WR.call (by first | exact gN | exact gS rfl) rfl rfl (Index_fs hH hS hx a) ?_
  rintro _ _ ⟨rfl, ⟨k, hk, he, _, rfl⟩ | ⟨hn, rfl⟩⟩
  · repeat' (first | refine zP ?_ | refine zA ?_ | (refine zM ?_; intro _ _) | refine zX ?_ | (refine zC ?_; intro _ _ _ _) | (refine zS ?_; intro _ _) | (apply Ws <;> intro hg))
    refine Ends.ret1 rfl ⟨rfl, ?_⟩
    have hm : a ∈ xs := by rw [← he]; exact getD_mem hk
    rw [decide_eq_true hm, decide_eq_true (by omega)]
  · repeat' (first | refine zP ?_ | refine zA ?_ | (refine zM ?_; intro _ _) | refine zX ?_ | (refine zC ?_; intro _ _ _ _) | (refine zS ?_; intro _ _) | (apply Ws <;> intro hg))
    refine Ends.ret1 rfl ⟨rfl, ?_⟩
    rw [decide_eq_false hn, decide_eq_false (by omega)]
theorem isNaN_fs (a : Int) (H : Heap) : FS C 109 [.int .i64 a] H (fun e H' => e = .bool false ∧ H' = H) := by
  refine FS.intro (pf := pf109) rfl rfl rfl ?_
  repeat' (first | refine zP ?_ | refine zA ?_ | (refine zM ?_; intro _ _) | refine zX ?_ | (refine zC ?_; intro _ _ _ _) | (refine zS ?_; intro _ _) | (apply Ws <;> intro hg))
  exact Ends.ret1 rfl ⟨by rw [decide_eq_false (by simp)], rfl⟩
theorem Less_fs (a b : Int) (H : Heap) : FS C 89 [.int .i64 a, .int .i64 b] H (fun e H' => e = .bool (decide (a < b)) ∧ H' = H) := by
  refine FS.intro (pf := pf89) rfl rfl rfl ?_
  repeat' (first | refine zP ?_ | refine zA ?_ | (refine zM ?_; intro _ _) | refine zX ?_ | (refine zC ?_; intro _ _ _ _) | (refine zS ?_; intro _ _) | (apply Ws <;> intro hg))
  refine WR.call (by first | exact gN | exact gS rfl) rfl rfl (isNaN_fs _ _) ?_
  rintro _ _ ⟨rfl, rfl⟩
  repeat' (first | refine zP ?_ | refine zA ?_ | (refine zM ?_; intro _ _) | refine zX ?_ | (refine zC ?_; intro _ _ _ _) | (refine zS ?_; intro _ _) | (apply Ws <;> intro hg))
  exact Ends.ret1 rfl ⟨rfl, rfl⟩
/-- No number is smaller than the one before it. -/
def ascB (l : List Nat) : Bool := (List.range (l.length - 1)).all fun i => decide (l.getD i 0 ≤ l.getD (i + 1) 0)
theorem ascB_iff {l : List Nat} : ascB l = true ↔ ∀ i, i + 1 < l.length → l.getD i 0 ≤ l.getD (i + 1) 0 := by
  simp only [ascB, List.all_eq_true, List.mem_range, decide_eq_true_eq]
  exact ⟨fun h i hi => h i (by omega), fun h i hi => h i (by omega)⟩
theorem IsSorted_fs (hH : hasH M n0 H) {l : List Nat} (hS : Sl M 1 v (nodes l)) (hl : l.length ≤ 100000) :
    FS C 45 [v] H (fun e H' => e = .bool (ascB l) ∧ H' = H) := by
  refine FS.intro (pf := pf45) rfl rfl rfl ?_
  repeat' (first | refine zP ?_ | refine zA ?_ | (refine zM ?_; intro _ _) | refine zX ?_ | (refine zC ?_; intro _ _ _ _) | (refine zS ?_; intro _ _) | (apply Ws <;> intro hg))
  refine WC.loopX [(0, v)] (fun k : Nat => [(3, .int .i64 ((k : Int) - 1))]) [] (fun k H' => H' = H ∧ k ≤ l.length ∧ ∀ i, k ≤ i + 1 → i + 1 < l.length → l.getD i 0 ≤ l.getD (i + 1) 0) (fun k => k) l.length (by repeat' (first | exact .nil | refine .cons rfl ?_)) rfl ⟨rfl, Nat.le_refl _, fun i h1 h2 => by omega⟩ ?_
  rintro k H' ⟨rfl, hk, ha⟩
  dsimp only [List.cons_append, List.nil_append]
  repeat' (first | refine zP ?_ | refine zA ?_ | (refine zM ?_; intro _ _) | refine zX ?_ | (refine zC ?_; intro _ _ _ _) | (refine zS ?_; intro _ _) | (apply Ws <;> intro hg))
  refine WC.condP rfl (fun hg0 => ?_) (fun hg0 => ?_)
  · obtain ⟨j, rfl⟩ : ∃ j, k = j + 2 := ⟨k - 2, by omega⟩
    rw [show ((j + 2 : Nat) : Int) - 1 = ((j + 1 : Nat) : Int) by omega]
    repeat' (first | refine zP ?_ | refine zA ?_ | (refine zM ?_; intro _ _) | refine zX ?_ | (refine zC ?_; intro _ _ _ _) | (refine zS ?_; intro _ _) | (apply Ws <;> intro hg))
    refine WR.call (by first | exact gN | exact gS rfl) rfl rfl (Less_fs _ _ _) ?_
    rintro _ _ ⟨rfl, rfl⟩
    have e1 : j + 1 - 1 = j := by omega
    repeat' (first | refine zP ?_ | refine zA ?_ | (refine zM ?_; intro _ _) | refine zX ?_ | (refine zC ?_; intro _ _ _ _) | (refine zS ?_; intro _ _) | (apply Ws <;> intro hg))
    refine WC.condP rfl (fun hlt => ?_) (fun hlt => ?_)
    · repeat' (first | refine zP ?_ | refine zA ?_ | (refine zM ?_; intro _ _) | refine zX ?_ | (refine zC ?_; intro _ _ _ _) | (refine zS ?_; intro _ _) | (apply Ws <;> intro hg))
      refine Ends.ret1 rfl ⟨?_, rfl⟩
      rw [e1] at hlt
      cases hb : ascB l with
      | false => rfl
      | true => have := ascB_iff.1 hb j (by omega); omega
    · repeat' (first | refine zP ?_ | refine zA ?_ | (refine zM ?_; intro _ _) | refine zX ?_ | (refine zC ?_; intro _ _ _ _) | (refine zS ?_; intro _ _) | (apply Ws <;> intro hg))
      rw [e1] at hlt
      refine Ends.loop (j + 1) (by omega) (by repeat' (first | exact .nil | refine .cons rfl ?_)) rfl ⟨rfl, by omega, fun i h1 h2 => ?_⟩
      by_cases h3 : i = j
      · subst h3; omega
      · exact ha i (by omega) h2
  · repeat' (first | refine zP ?_ | refine zA ?_ | (refine zM ?_; intro _ _) | refine zX ?_ | (refine zC ?_; intro _ _ _ _) | (refine zS ?_; intro _ _) | (apply Ws <;> intro hg))
    refine Ends.ret1 rfl ⟨?_, rfl⟩
    rw [ascB_iff.2 fun i hi => ha i (by omega) hi]
end
end Go.Proofs.Ytfnflkcjhefddaa.Lk

/- A basin's methods. -/
namespace Go.Proofs.Ytfnflkcjhefddaa.Lk
open Go Go.Abs Go.Mth
set_option linter.unusedVariables false
set_option linter.unusedSimpArgs false
abbrev ptrO (b o : Nat) : Value := .pointer (some ⟨b, o, some 0⟩)
theorem cell_row {M : HL} {b o e : Nat} {cs : List Value} {v : Value} (hm : (b, Ch.row e 0 0 cs) ∈ M) (hc : cs[o]? = some v) : Cell M b o 0 v := ⟨_, 0, cs, hm, .row _ _ _ _, Nat.zero_le _, hc⟩
attribute [local irreducible] gOK WS WC WR WD Ends FS YS OpV seqK blockK loopK midK retK rdK asgK rangeEnd sat Cell
section
variable {M : HL} {n0 : Nat} {H : Heap} {v w : Value}
theorem isEmpty_fs (hH : hasH M n0 H) {b o : Nat} {S : List Value} (hc : Cell M b o 0 v) (hS : Sl M 1 v S) :
    FS C 95 [ptrO b o] H (fun e H' => H' = H ∧ e = .bool (decide (S.length = 0))) := by
  refine FS.intro (pf := pf95) rfl rfl rfl ?_
  repeat' (first | refine zP ?_ | refine zA ?_ | (refine zM ?_; intro _ _) | refine zX ?_ | (refine zC ?_; intro _ _ _ _) | (refine zS ?_; intro _ _) | (apply Ws <;> intro hg))
  exact Ends.ret1 rfl ⟨rfl, by congr 1; rw [decide_eq_decide]; omega⟩
theorem last_fs (hH : hasH M n0 H) {b o : Nat} {S : List Value} {y : Value} (hc : Cell M b o 0 v) (hS : Sl M 1 v (S ++ [y])) (hb : S.length ≤ 10000) :
    FS C 96 [ptrO b o] H (fun e H' => H' = H ∧ e = y) := by
  refine FS.intro (pf := pf96) rfl rfl rfl ?_
  have hl : ((S ++ [y]).length : Int) = (S.length : Int) + 1 := by simp
  have h1 : S.length < (S ++ [y]).length := by simp
  have hg : (S ++ [y]).getD S.length undef = y := getD_snoc
  generalize S ++ [y] = Q at hS hl h1 hg
  repeat' (first | refine zP ?_ | refine zA ?_ | (refine zM ?_; intro _ _) | refine zX ?_ | (refine zC ?_; intro _ _ _ _) | (refine zS ?_; intro _ _) | (apply Ws <;> intro hg))
  rw [hl]
  repeat' (first | refine zP ?_ | refine zA ?_ | (refine zM ?_; intro _ _) | refine zX ?_ | (refine zC ?_; intro _ _ _ _) | (refine zS ?_; intro _ _) | (apply Ws <;> intro hg))
  rw [show (S.length : Int) + 1 - 1 = (S.length : Int) by omega]
  repeat' (first | refine zP ?_ | refine zA ?_ | (refine zM ?_; intro _ _) | refine zX ?_ | (refine zC ?_; intro _ _ _ _) | (refine zS ?_; intro _ _) | (apply Ws <;> intro hg))
  exact Ends.ret1 rfl ⟨rfl, hg⟩
theorem StkO.len {e : Nat} {v : Value} {S : List Value} {Mx : HL} (h : StkO e v S Mx) : S.length ≤ 10000 := by
  cases h with
  | nil => simp
  | mk hl hS hc hb => have := hc.le; omega
theorem take_fs {e b o : Nat} {cs : List Value} {Mx : HL} {S : List Value} {y : Value} (hO : StkO 3 v (S ++ [y]) Mx) (hH : hasH ((b, .row e 0 0 cs) :: (Mx ++ M)) n0 H) (hc : cs[o]? = some v) :
    FS C 97 [ptrO b o] H (fun r H' => r = y ∧ ∃ v', StkO 3 v' S Mx ∧ hasH ((b, .row e 0 0 (cs.set o v')) :: (Mx ++ M)) n0 H') := by
  have hS := (hO.sl M).cons (p := (b, Ch.row e 0 0 cs))
  have hC := cell_row (M := (b, Ch.row e 0 0 cs) :: (Mx ++ M)) (.head _) hc
  have ho : o < cs.length := (List.getElem?_eq_some_iff.1 hc).1
  refine FS.intro (pf := pf97) rfl rfl rfl ?_
  repeat' (first | refine zP ?_ | refine zA ?_ | (refine zM ?_; intro _ _) | refine zX ?_ | (refine zC ?_; intro _ _ _ _) | (refine zS ?_; intro _ _) | (apply Ws <;> intro hg))
  have hb := StkO.len hO
  rw [List.length_append, List.length_singleton] at hb
  refine WR.call (by first | exact gN | exact gS rfl) rfl rfl (last_fs hH hC hS (by omega)) ?_
  rintro r _ ⟨rfl, hr⟩
  rw [hr]
  have hl : ((S ++ [y]).length : Int) = (S.length : Int) + 1 := by simp
  repeat' (first | refine zP ?_ | refine zA ?_ | (refine zM ?_; intro _ _) | refine zX ?_ | (refine zC ?_; intro _ _ _ _) | (refine zS ?_; intro _ _) | (apply Ws <;> intro hg))
  rw [hl]
  repeat' (first | refine zP ?_ | refine zA ?_ | (refine zM ?_; intro _ _) | refine zX ?_ | (refine zC ?_; intro _ _ _ _) | (refine zS ?_; intro _ _) | (apply Ws <;> intro hg))
  rw [show (S.length : Int) + 1 - 1 = (S.length : Int) by omega]
  refine WR.popO (by first | exact gN | exact gS rfl) rfl rfl hO rfl fun v' h2 => ?_
  repeat' (first | refine zP ?_ | refine zA ?_ | (refine zM ?_; intro _ _) | refine zX ?_ | (refine zC ?_; intro _ _ _ _) | (refine zS ?_; intro _ _) | (apply Ws <;> intro hg))
  refine WR.store1 (M' := (b, .row e 0 0 (cs.set o v')) :: (Mx ++ M)) (by first | exact gN | exact gS rfl) hH rfl rfl h2.one_ .here (Nat.zero_le _) (by simpa using ho) (by simp) fun H2 hH2 => ?_
  repeat' (first | refine zP ?_ | refine zA ?_ | (refine zM ?_; intro _ _) | refine zX ?_ | (refine zC ?_; intro _ _ _ _) | (refine zS ?_; intro _ _) | (apply Ws <;> intro hg))
  exact Ends.ret1 rfl ⟨rfl, v', h2, hH2⟩
theorem bring_fs {e b o : Nat} {cs : List Value} {Mx : HL} {S : List Value} {a : Nat} (hO : StkO 3 v S Mx) (hH : hasH ((b, .row e 0 0 cs) :: (Mx ++ M)) n0 H) (hc : cs[o]? = some v) (hl : S.length ≤ 9000) :
    FS C 98 [ptrO b o, .int .i64 (a : Int)] H (fun r H' => ∃ v' Mx' n', StkO 3 v' (S ++ [.int .i64 (a : Int)]) Mx' ∧ n0 ≤ n' ∧ hasH ((b, .row e 0 0 (cs.set o v')) :: (Mx' ++ M)) n' H') := by
  have hC := cell_row (M := (b, Ch.row e 0 0 cs) :: (Mx ++ M)) (.head _) hc
  have ho : o < cs.length := (List.getElem?_eq_some_iff.1 hc).1
  refine FS.intro (pf := pf98) rfl rfl rfl ?_
  repeat' (first | refine zP ?_ | refine zA ?_ | (refine zM ?_; intro _ _) | refine zX ?_ | (refine zC ?_; intro _ _ _ _) | (refine zS ?_; intro _ _) | (apply Ws <;> intro hg))
  refine WR.push [(b, Ch.row e 0 0 cs)] Mx M rfl rfl rfl rfl hO hH rfl rfl hl fun v' Mx' n' H1 h1 hH1 hn => ?_
  repeat' (first | refine zP ?_ | refine zA ?_ | (refine zM ?_; intro _ _) | refine zX ?_ | (refine zC ?_; intro _ _ _ _) | (refine zS ?_; intro _ _) | (apply Ws <;> intro hg))
  refine WR.store1 (M' := (b, .row e 0 0 (cs.set o v')) :: (Mx' ++ M)) (by first | exact gN | exact gS rfl) hH1 rfl rfl h1.one_ .here (Nat.zero_le _) (by simpa using ho) (by simp) fun H2 hH2 => ?_
  repeat' (first | refine zP ?_ | refine zA ?_ | (refine zM ?_; intro _ _) | refine zX ?_ | (refine zC ?_; intro _ _ _ _) | (refine zS ?_; intro _ _) | (apply Ws <;> intro hg))
  exact Ends.end0 ⟨v', Mx', n', h1, hn, hH2⟩
end
end Go.Proofs.Ytfnflkcjhefddaa.Lk

/- Barges are brought in and taken out. -/
namespace Go.Proofs.Ytfnflkcjhefddaa.Lk
open Go Go.Abs Go.Mth
set_option linter.unusedVariables false
set_option linter.unusedSimpArgs false
/-- Two basins in memory. -/
def BB (b : Nat) (p q : List Nat) (M : HL) (n : Nat) (H : Heap) : Prop := ∃ v0 v1 M0 M1, StkO 3 v0 (nodes p.reverse) M0 ∧ StkO 3 v1 (nodes q.reverse) M1 ∧ hasH ((b, .row 109 0 0 [v0, v1]) :: (M0 ++ (M1 ++ M))) n H
def tkB (p q : List Nat) (a : Nat) : Bool := decide (p.head? = some a) || decide (q.head? = some a)
def tkP (p : List Nat) (a : Nat) : List Nat := if p.head? = some a then p.tail else p
def tkQ (p q : List Nat) (a : Nat) : List Nat := if p.head? = some a then q else if q.head? = some a then q.tail else q
theorem nodes_snoc (l : List Nat) (x : Nat) : nodes (l ++ [x]) = nodes l ++ [.int .i64 (x : Int)] := by simp [nodes]
theorem nodes_cons_rev (l : List Nat) (x : Nat) : nodes (x :: l).reverse = nodes l.reverse ++ [.int .i64 (x : Int)] := by rw [List.reverse_cons, nodes_snoc]
theorem nodes_len' (l : List Nat) : (nodes l).length = l.length := by simp [nodes]
/-- The first two parts change places. -/
theorem swap2 {p : Nat × Ch} {A B M : HL} {n : Nat} {H : Heap} (h : hasH (p :: (A ++ (B ++ M))) n H) : hasH (p :: (B ++ (A ++ M))) n H :=
  h.perm (.cons _ (List.perm_append_comm_assoc A B M))
attribute [local irreducible] gOK WS WC WR WD Ends FS YS OpV seqK blockK loopK midK retK rdK asgK rangeEnd sat Cell
section
variable {M : HL} {n0 : Nat} {H : Heap} {v w : Value}
end
end Go.Proofs.Ytfnflkcjhefddaa.Lk

/- Barges are brought in, and taken out as soon as they can be. -/
namespace Go.Proofs.Ytfnflkcjhefddaa.Lk
open Go Go.Abs Go.Mth
set_option linter.unusedVariables false
set_option linter.unusedSimpArgs false
/-- What is told of each move. -/
def TellK (fn : Nat) (caps : List Value) (J : List (Nat × Nat) → HL → Prop) (M : HL) : Prop := ∀ (tr : List (Nat × Nat)) (Mj F : HL) (n : Nat) (H : Heap) (a x : Nat), J tr Mj → tr.length ≤ 100 → (a = 105 ∨ a = 111) → hasH (F ++ (Mj ++ M)) n H →
  FS C fn ([] ++ [.int .u8 (a : Int), .int .i64 (x : Int)] ++ caps) H (fun e H' => ∃ Mj' n', J (tr ++ [(a, x)]) Mj' ∧ n ≤ n' ∧ hasH (F ++ (Mj' ++ M)) n' H')
theorem BB.tell {fn : Nat} {caps : List Value} {J : List (Nat × Nat) → HL → Prop} {M Mj : HL} {b n : Nat} {H : Heap} {p q : List Nat} {tr : List (Nat × Nat)} (hT : TellK fn caps J M) (h : BB b p q (Mj ++ M) n H) (hJ : J tr Mj) (hl : tr.length ≤ 100) (a x : Nat) (ha : a = 105 ∨ a = 111) :
    FS C fn ([] ++ [.int .u8 (a : Int), .int .i64 (x : Int)] ++ caps) H (fun e H' => ∃ Mj' n', J (tr ++ [(a, x)]) Mj' ∧ n ≤ n' ∧ BB b p q (Mj' ++ M) n' H') := by
  obtain ⟨v0, v1, M0, M1, hp, hq, hH⟩ := h
  refine (hT tr Mj ((b, .row 109 0 0 [v0, v1]) :: (M0 ++ M1)) n H a x hJ hl ha (by rw [List.cons_append, List.append_assoc]; exact hH)).mono ?_
  rintro e H' ⟨Mj', n', h1, h2, h3⟩
  refine ⟨Mj', n', h1, h2, v0, v1, M0, M1, hp, hq, ?_⟩
  rw [List.cons_append, List.append_assoc] at h3
  exact h3
theorem BB.bring {M : HL} {b n o : Nat} {H : Heap} {p q : List Nat} (h : BB b p q M n H) (x : Nat) (ho : o < 2) (hl : p.length ≤ 1000 ∧ q.length ≤ 1000) :
    FS C 98 [ptrO b o, .int .i64 (x : Int)] H (fun e H' => ∃ n', n ≤ n' ∧ BB b (if o = 0 then x :: p else p) (if o = 0 then q else x :: q) M n' H') := by
  obtain ⟨v0, v1, M0, M1, hp, hq, hH⟩ := h
  rcases (show o = 0 ∨ o = 1 by omega) with rfl | rfl
  · refine (bring_fs hp hH rfl (by simp; omega)).mono ?_
    rintro e H' ⟨v', Mx', n', h1, h2, h3⟩
    refine ⟨n', h2, v', v1, Mx', M1, ?_, hq, h3⟩
    rw [if_pos rfl, nodes_cons_rev]; exact h1
  · refine (bring_fs hq (swap2 hH) rfl (by simp; omega)).mono ?_
    rintro e H' ⟨v', Mx', n', h1, h2, h3⟩
    refine ⟨n', h2, v0, v', M0, Mx', hp, ?_, swap2 h3⟩
    rw [if_neg (by decide), nodes_cons_rev]; exact h1
theorem BB.sl {M : HL} {b n : Nat} {H : Heap} {p q : List Nat} (h : BB b p q M n H) : ∃ U, hasH U n H ∧ ∀ z ∈ M, z ∈ U := by
  obtain ⟨v0, v1, M0, M1, hp, hq, hH⟩ := h
  exact ⟨_, hH, fun z hz => List.mem_cons_of_mem _ (List.mem_append_right _ (List.mem_append_right _ hz))⟩
structure FX where
  k : Nat
  vw : Value
  Mj : HL
  n : Nat
structure FY where
  p : List Nat
  q : List Nat
  ws : List Nat
  tr : List (Nat × Nat)
  vw : Value
  Mj : HL
  n : Nat
attribute [local irreducible] gOK WS WC WR WD Ends FS YS OpV seqK blockK loopK midK retK rdK asgK rangeEnd sat Cell
section
variable {M : HL} {n0 : Nat} {H : Heap} {v w : Value}
end
end Go.Proofs.Ytfnflkcjhefddaa.Lk

/- A pass: what leaves, and in which order. -/
namespace Go.Proofs.Ytfnflkcjhefddaa.Lk
open Go Go.Abs Go.Mth
set_option linter.unusedVariables false
set_option linter.unusedSimpArgs false
/-- The moves of a pass, with what lies in the basin (what is on top first) and what still comes. -/
def runTr : List Nat → List Nat → List (Nat × Nat)
  | st, [] => st.map fun y => (111, y)
  | st, x :: xs => (st.takeWhile fun y => decide (y < x)).map (fun y => (111, y)) ++ (105, x) :: runTr (x :: st.dropWhile fun y => decide (y < x)) xs
/-- What leaves. -/
def runS : List Nat → List Nat → List Nat
  | st, [] => st
  | st, x :: xs => (st.takeWhile fun y => decide (y < x)) ++ runS (x :: st.dropWhile fun y => decide (y < x)) xs
def outsT (tr : List (Nat × Nat)) : List Nat := (tr.filter fun e => decide (e.1 = 111)).map (·.2)
theorem outsT_app (a b : List (Nat × Nat)) : outsT (a ++ b) = outsT a ++ outsT b := by simp [outsT]
theorem outsT_map (l : List Nat) : outsT (l.map fun y => (111, y)) = l := by
  induction l with
  | nil => rfl
  | cons a l ih => simp only [outsT, List.map_cons, List.filter_cons] at ih ⊢; simp [ih]
theorem outs_run : ∀ (xs st : List Nat), outsT (runTr st xs) = runS st xs
  | [], st => outsT_map st
  | x :: xs, st => by
    simp only [runTr, runS]
    rw [outsT_app, outsT_map]
    congr 1
    have : outsT ((105, x) :: runTr (x :: st.dropWhile fun y => decide (y < x)) xs) = outsT (runTr (x :: st.dropWhile fun y => decide (y < x)) xs) := by simp [outsT]
    rw [this, outs_run]
theorem runTr_len : ∀ (xs st : List Nat), (runTr st xs).length = st.length + 2 * xs.length
  | [], st => by simp [runTr]
  | x :: xs, st => by
    have := congrArg List.length (List.takeWhile_append_dropWhile (p := fun y => decide (y < x)) (l := st))
    simp only [List.length_append] at this
    simp only [runTr, List.length_append, List.length_map, List.length_cons, runTr_len]
    omega
theorem run_no {st : List Nat} {x : Nat} (h : ∀ y, st.head? = some y → ¬ y < x) (xs : List Nat) : runTr st (x :: xs) = (105, x) :: runTr (x :: st) xs := by
  cases st with
  | nil => rfl
  | cons y st =>
    have : decide (y < x) = false := decide_eq_false (h y rfl)
    simp only [runTr, List.takeWhile_cons, List.dropWhile_cons, this]
    rfl
theorem run_yes {st : List Nat} {x y : Nat} (h : y < x) (xs : List Nat) : runTr (y :: st) (x :: xs) = (111, y) :: runTr st (x :: xs) := by
  have : decide (y < x) = true := decide_eq_true h
  simp only [runTr, List.takeWhile_cons, List.dropWhile_cons, this]
  rfl
def passF (l : List Nat) : List Nat := runS [] l
theorem runS_perm : ∀ (xs st : List Nat), (runS st xs).Perm (st ++ xs)
  | [], st => by simp [runS]
  | x :: xs, st => by
    simp only [runS]
    refine (List.Perm.append_left _ (runS_perm xs _)).trans ?_
    have e : st = (st.takeWhile fun y => decide (y < x)) ++ (st.dropWhile fun y => decide (y < x)) := List.takeWhile_append_dropWhile.symm
    generalize (st.takeWhile fun y => decide (y < x)) = a at e ⊢
    generalize (st.dropWhile fun y => decide (y < x)) = b at e ⊢
    subst e
    rw [List.append_assoc]
    refine List.Perm.append_left _ ?_
    exact List.perm_middle.symm
theorem passF_perm (l : List Nat) : (passF l).Perm l := by have := runS_perm l []; simpa [passF] using this
theorem passF_len (l : List Nat) : (passF l).length = l.length := (passF_perm l).length_eq
theorem passF_ord {l : List Nat} (h : OrdN l) : OrdN (passF l) := by
  have hp := passF_perm l
  have hl := passF_len l
  exact ⟨by rw [hl]; exact h.one, by rw [hl]; exact h.most, fun x hx => by rw [hl]; exact h.lt x (hp.mem_iff.1 hx), hp.nodup_iff.2 h.nodup⟩
/-- A barge at the bottom that is greater than all that come stays there. -/
theorem runS_bot {m : Nat} {bot : List Nat} : ∀ (xs st : List Nat), (∀ x ∈ xs, x < m) → runS (st ++ m :: bot) xs = runS st xs ++ m :: bot
  | [], st, _ => rfl
  | x :: xs, st, h => by
    have hx := h x (by simp)
    have hm : decide (m < x) = false := decide_eq_false (by omega)
    have h1 : (st ++ m :: bot).takeWhile (fun y => decide (y < x)) = st.takeWhile fun y => decide (y < x) := by
      rw [List.takeWhile_append]
      split
      · rw [List.takeWhile_cons, hm]
        rename_i e
        simp
        exact (List.takeWhile_prefix _).eq_of_length e |>.symm
      · rfl
    have h2 : (st ++ m :: bot).dropWhile (fun y => decide (y < x)) = (st.dropWhile fun y => decide (y < x)) ++ m :: bot := by
      rw [List.dropWhile_append]
      split
      · rename_i e
        rw [List.isEmpty_iff] at e
        rw [e, List.dropWhile_cons, hm]; simp
      · rfl
    simp only [runS, h1, h2]
    rw [← List.cons_append, runS_bot xs _ (fun y hy => h y (by simp [hy])), List.append_assoc]
theorem takeWhile_all {p : Nat → Bool} : ∀ {l : List Nat}, (∀ y ∈ l, p y = true) → l.takeWhile p = l
  | [], _ => rfl
  | a :: l, h => by rw [List.takeWhile_cons, if_pos (h a (by simp)), takeWhile_all fun y hy => h y (by simp [hy])]
theorem runS_split {m : Nat} {R : List Nat} (hR : ∀ x ∈ R, x < m) : ∀ (L st : List Nat), (∀ x ∈ L, x < m) → (∀ x ∈ st, x < m) → runS st (L ++ m :: R) = runS st L ++ (runS [] R ++ [m])
  | [], st, _, hs => by
    have h1 : st.takeWhile (fun y => decide (y < m)) = st := takeWhile_all fun y hy => decide_eq_true (hs y hy)
    have h2 : st.dropWhile (fun y => decide (y < m)) = [] := by
      have := congrArg List.length (List.takeWhile_append_dropWhile (p := fun y => decide (y < m)) (l := st))
      rw [h1, List.length_append] at this
      exact List.length_eq_zero_iff.1 (by omega)
    have h3 := runS_bot (m := m) (bot := []) R [] hR
    simp only [List.nil_append, runS, h1, h2] at h3 ⊢
    rw [h3]
  | x :: L, st, hL, hs => by
    simp only [List.cons_append, runS]
    rw [runS_split hR L _ (fun y hy => hL y (by simp [hy])) (fun y hy => ?_), List.append_assoc]
    rcases List.mem_cons.1 hy with rfl | hy
    · exact hL _ (by simp)
    · exact hs y ((List.dropWhile_sublist _).subset hy)
/-- P11.8. -/
theorem passF_split {m : Nat} {L R : List Nat} (hL : ∀ x ∈ L, x < m) (hR : ∀ x ∈ R, x < m) : passF (L ++ m :: R) = passF L ++ passF R ++ [m] := by
  unfold passF
  rw [runS_split hR L [] hL (fun x h => by simp at h), List.append_assoc]
end Go.Proofs.Ytfnflkcjhefddaa.Lk

/- A pass is made. -/
namespace Go.Proofs.Ytfnflkcjhefddaa.Lk
open Go Go.Abs Go.Mth
set_option linter.unusedVariables false
set_option linter.unusedSimpArgs false
/-- One basin in memory. -/
def BP (b : Nat) (p : List Nat) (M : HL) (n : Nat) (H : Heap) : Prop := ∃ v M0, StkO 3 v (nodes p.reverse) M0 ∧ hasH ((b, .row 103 0 0 [v]) :: (M0 ++ M)) n H
theorem BP.tell {fn : Nat} {caps : List Value} {J : List (Nat × Nat) → HL → Prop} {M Mj : HL} {b n : Nat} {H : Heap} {p : List Nat} {tr : List (Nat × Nat)} (hT : TellK fn caps J M) (h : BP b p (Mj ++ M) n H) (hJ : J tr Mj) (hl : tr.length ≤ 100) (a x : Nat) (ha : a = 105 ∨ a = 111) :
    FS C fn ([] ++ [.int .u8 (a : Int), .int .i64 (x : Int)] ++ caps) H (fun e H' => ∃ Mj' n', J (tr ++ [(a, x)]) Mj' ∧ n ≤ n' ∧ BP b p (Mj' ++ M) n' H') := by
  obtain ⟨v, M0, hp, hH⟩ := h
  refine (hT tr Mj ((b, .row 103 0 0 [v]) :: M0) n H a x hJ hl ha hH).mono ?_
  rintro e H' ⟨Mj', n', h1, h2, h3⟩
  exact ⟨Mj', n', h1, h2, v, M0, hp, h3⟩
theorem BP.bring {M : HL} {b n : Nat} {H : Heap} {p : List Nat} (h : BP b p M n H) (x : Nat) (hl : p.length ≤ 1000) :
    FS C 98 [ptrO b 0, .int .i64 (x : Int)] H (fun e H' => ∃ n', n ≤ n' ∧ BP b (x :: p) M n' H') := by
  obtain ⟨v, M0, hp, hH⟩ := h
  refine (bring_fs hp hH rfl (by simp; omega)).mono ?_
  rintro e H' ⟨v', Mx', n', h1, h2, h3⟩
  refine ⟨n', h2, v', Mx', ?_, h3⟩
  rw [nodes_cons_rev]; exact h1
theorem BP.isEmpty {M : HL} {b n : Nat} {H : Heap} {p : List Nat} (h : BP b p M n H) :
    FS C 95 [ptrO b 0] H (fun e H' => H' = H ∧ e = .bool (decide (p = []))) := by
  obtain ⟨v, M0, hp, hH⟩ := h
  refine (isEmpty_fs hH (cell_row (.head _) rfl) (hp.sl _).cons).mono ?_
  rintro e H' ⟨h1, rfl⟩
  refine ⟨h1, ?_⟩
  congr 1
  rw [decide_eq_decide, nodes_len', List.length_reverse, List.length_eq_zero_iff]
theorem BP.last {M : HL} {b n x : Nat} {H : Heap} {p : List Nat} (h : BP b (x :: p) M n H) :
    FS C 96 [ptrO b 0] H (fun e H' => H' = H ∧ e = .int .i64 (x : Int)) := by
  obtain ⟨v, M0, hp, hH⟩ := h
  rw [nodes_cons_rev] at hp
  have hb := StkO.len hp
  rw [List.length_append, List.length_singleton] at hb
  exact last_fs hH (cell_row (.head _) rfl) (hp.sl _).cons (by omega)
theorem BP.take {M : HL} {b n x : Nat} {H : Heap} {p : List Nat} (h : BP b (x :: p) M n H) :
    FS C 97 [ptrO b 0] H (fun e H' => e = .int .i64 (x : Int) ∧ BP b p M n H') := by
  obtain ⟨v, M0, hp, hH⟩ := h
  rw [nodes_cons_rev] at hp
  refine (take_fs hp hH rfl).mono ?_
  rintro e H' ⟨h1, v', h2, h3⟩
  exact ⟨h1, v', M0, h2, h3⟩
theorem BP.sl {M : HL} {b n : Nat} {H : Heap} {p : List Nat} (h : BP b p M n H) : ∃ U, hasH U n H ∧ ∀ z ∈ M, z ∈ U := by
  obtain ⟨v, M0, hp, hH⟩ := h
  exact ⟨_, hH, fun z hz => List.mem_cons_of_mem _ (List.mem_append_right _ hz)⟩
structure PX where
  k : Nat
  st : List Nat
  tr : List (Nat × Nat)
  Mj : HL
  n : Nat
attribute [local irreducible] gOK WS WC WR WD Ends FS YS OpV seqK blockK loopK midK retK rdK asgK rangeEnd sat Cell
section
variable {M : HL} {n0 : Nat} {H : Heap} {v w : Value}
set_option maxHeartbeats 2000000 in
theorem pass_fs {fn : Nat} {caps : List Value} {J : List (Nat × Nat) → HL → Prop} (hT : TellK fn caps J M) {Mj : HL} (hJ : J [] Mj) {o : List Nat} {vo : Value} (ho : Sl M 1 vo (nodes o)) (hol : o.length ≤ 10) (hH : hasH (Mj ++ M) n0 H) :
    FS C 63 [vo, .func (.func fn) [].toArray caps.toArray] H (fun e H' => ∃ Mj' n', J (runTr [] o) Mj' ∧ n0 ≤ n' ∧ hasH (Mj' ++ M) n' H') := by
  have ho0 := ho.mono fun q hq => List.mem_append_right Mj hq
  refine FS.intro (pf := pf63) rfl rfl rfl ?_
  repeat' (first | refine zP ?_ | refine zA ?_ | (refine zM ?_; intro _ _) | refine zX ?_ | (refine zC ?_; intro _ _ _ _) | (refine zS ?_; intro _ _) | (apply Ws <;> intro hg))
  rename_i H1 hH1
  have ho1 := ho0.cons (p := (n0, Ch.row 103 0 0 [.slice none 0 0]))
  repeat' (first | refine zP ?_ | refine zA ?_ | (refine zM ?_; intro _ _) | refine zX ?_ | (refine zC ?_; intro _ _ _ _) | (refine zS ?_; intro _ _) | (apply Ws <;> intro hg))
  have hB1 : BP n0 [] (Mj ++ M) (n0 + 1) H1 := ⟨_, [], .nil, hH1⟩
  clear ho0 ho1 hH hH1
  refine WC.loopX [(1, .func (.func fn) [].toArray caps.toArray), (4, ptrO n0 0), (7, vo), (8, .int .i64 (o.length : Int))] (fun z : PX => [(9, .int .i64 (z.k : Int))]) []
    (fun z H' => z.k ≤ o.length ∧ z.st.length ≤ z.k ∧ z.tr ++ runTr z.st (o.drop z.k) = runTr [] o ∧ J z.tr z.Mj ∧ n0 ≤ z.n ∧ BP n0 z.st (z.Mj ++ M) z.n H') (fun z => o.length - z.k) ⟨0, [], [], Mj, n0 + 1⟩ (by repeat' (first | exact .nil | refine .cons rfl ?_)) rfl
    ⟨Nat.zero_le _, Nat.zero_le _, rfl, hJ, Nat.le_succ _, hB1⟩ ?_
  clear hB1 hJ
  rintro ⟨k, st, tr, Mj, n1⟩ H2 ⟨hk, hstl, htr, hJ, hn1, hB⟩
  simp only at hk hstl htr hJ hn1 hB
  have hlen := congrArg List.length htr
  rw [List.length_append, runTr_len, runTr_len, List.length_drop, List.length_nil] at hlen
  dsimp only [List.cons_append, List.nil_append]
  obtain ⟨U, hU, hMU⟩ := hB.sl
  have hoU := ho.mono fun q hq => hMU q (List.mem_append_right _ hq)
  repeat' (first | refine zP ?_ | refine zA ?_ | (refine zM ?_; intro _ _) | refine zX ?_ | (refine zC ?_; intro _ _ _ _) | (refine zS ?_; intro _ _) | (apply Ws <;> intro hg))
  refine WC.condP rfl (fun hlt => ?_) (fun hlt => ?_)
  · have hk' : k < o.length := by omega
    repeat' (first | refine zP ?_ | refine zA ?_ | (refine zM ?_; intro _ _) | refine zX ?_ | (refine zC ?_; intro _ _ _ _) | (refine zS ?_; intro _ _) | (apply Ws <;> intro hg))
    clear hU hoU hMU
    rw [List.drop_eq_getElem_cons hk', ← getD_eq (a := 0)] at htr
    have hx : o.getD k 0 = o.getD k 0 := rfl
    generalize o.getD k 0 = x at htr ⊢
    refine WC.loopX [(1, .func (.func fn) [].toArray caps.toArray), (4, ptrO n0 0), (7, vo), (8, .int .i64 (o.length : Int)), (9, .int .i64 (k : Int)), (6, .int .i64 (x : Int))] (fun z : PX => []) []
      (fun z H' => z.st.length ≤ k ∧ z.tr ++ runTr z.st (x :: o.drop (k + 1)) = runTr [] o ∧ J z.tr z.Mj ∧ n0 ≤ z.n ∧ BP n0 z.st (z.Mj ++ M) z.n H') (fun z => z.st.length) ⟨0, st, tr, Mj, n1⟩ (by repeat' (first | exact .nil | refine .cons rfl ?_)) rfl
      ⟨hstl, htr, hJ, hn1, hB⟩ ?_
    clear hB hJ htr hlen
    rintro ⟨_, st, tr, Mj, n1⟩ H3 ⟨hstl, htr, hJ, hn1, hB⟩
    simp only at hstl htr hJ hn1 hB
    have hlen := congrArg List.length htr
    rw [List.length_append, runTr_len, runTr_len, List.length_cons, List.length_drop, List.length_nil] at hlen
    dsimp only [List.cons_append, List.nil_append]
    repeat' (first | refine zP ?_ | refine zA ?_ | (refine zM ?_; intro _ _) | refine zX ?_ | (refine zC ?_; intro _ _ _ _) | (refine zS ?_; intro _ _) | (apply Ws <;> intro hg))
    refine WR.call (by first | exact gN | exact gS rfl) rfl rfl hB.isEmpty ?_
    rintro _ H4 ⟨rfl, rfl⟩
    cases st with
    | nil =>
      have hl0 : ([] : List Nat).length = 0 := rfl
      repeat' (first | refine zP ?_ | refine zA ?_ | (refine zM ?_; intro _ _) | refine zX ?_ | (refine zC ?_; intro _ _ _ _) | (refine zS ?_; intro _ _) | refine zO ?_ | (apply Ws <;> intro hg))
      refine WR.call (by first | exact gN | exact gS rfl) rfl rfl (hB.bring x (by omega)) ?_
      rintro _ H5 ⟨n5, hn5, hB5⟩
      repeat' (first | refine zP ?_ | refine zA ?_ | (refine zM ?_; intro _ _) | refine zX ?_ | (refine zC ?_; intro _ _ _ _) | (refine zS ?_; intro _ _) | (apply Ws <;> intro hg))
      refine WR.callV (by first | exact gN | exact gS rfl) rfl rfl rfl (hB5.tell hT hJ (by omega) 105 x (.inl rfl)) ?_
      rintro _ H6 ⟨Mj6, n6, hJ6, hn6, hB6⟩
      repeat' (first | refine zP ?_ | refine zA ?_ | (refine zM ?_; intro _ _) | refine zX ?_ | (refine zC ?_; intro _ _ _ _) | (refine zS ?_; intro _ _) | (apply Ws <;> intro hg))
      refine Ends.loop ⟨k + 1, x :: [], tr ++ [(105, x)], Mj6, n6⟩ (by simp only; omega) (by repeat' (first | exact .nil | refine .cons rfl ?_)) rfl ⟨hk', by simp only [List.length_cons] at hstl ⊢; omega, ?_, hJ6, by simp only; omega, hB6⟩
      simp only
      rw [← htr, run_no (fun y h => by simp at h)]; simp
    | cons y st =>
      have hl0 : (y :: st).length = st.length + 1 := rfl
      repeat' (first | refine zP ?_ | refine zA ?_ | (refine zM ?_; intro _ _) | refine zX ?_ | (refine zC ?_; intro _ _ _ _) | (refine zS ?_; intro _ _) | refine zO ?_ | (apply Ws <;> intro hg))
      refine WR.call (by first | exact gN | exact gS rfl) rfl rfl hB.last ?_
      rintro _ H7 ⟨rfl, rfl⟩
      by_cases hyx : y < x
      · repeat' (first | refine zP ?_ | refine zA ?_ | (refine zM ?_; intro _ _) | refine zX ?_ | (refine zC ?_; intro _ _ _ _) | (refine zS ?_; intro _ _) | refine zO ?_ | (apply Ws <;> intro hg))
        refine WR.call (by first | exact gN | exact gS rfl) rfl rfl hB.take ?_
        rintro _ H8 ⟨rfl, hB8⟩
        refine WR.callV (by first | exact gN | exact gS rfl) rfl rfl rfl (hB8.tell hT hJ (by omega) 111 y (.inr rfl)) ?_
        rintro _ H9 ⟨Mj9, n9, hJ9, hn9, hB9⟩
        repeat' (first | refine zP ?_ | refine zA ?_ | (refine zM ?_; intro _ _) | refine zX ?_ | (refine zC ?_; intro _ _ _ _) | (refine zS ?_; intro _ _) | (apply Ws <;> intro hg))
        refine Ends.loop ⟨0, st, tr ++ [(111, y)], Mj9, n9⟩ (by simp only [hl0]; omega) (by repeat' (first | exact .nil | refine .cons rfl ?_)) rfl ⟨by simp only; omega, ?_, hJ9, by simp only; omega, hB9⟩
        simp only
        rw [← htr, run_yes hyx]; simp
      · repeat' (first | refine zP ?_ | refine zA ?_ | (refine zM ?_; intro _ _) | refine zX ?_ | (refine zC ?_; intro _ _ _ _) | (refine zS ?_; intro _ _) | refine zO ?_ | (apply Ws <;> intro hg))
        refine WR.call (by first | exact gN | exact gS rfl) rfl rfl (hB.bring x (by omega)) ?_
        rintro _ H5 ⟨n5, hn5, hB5⟩
        repeat' (first | refine zP ?_ | refine zA ?_ | (refine zM ?_; intro _ _) | refine zX ?_ | (refine zC ?_; intro _ _ _ _) | (refine zS ?_; intro _ _) | (apply Ws <;> intro hg))
        refine WR.callV (by first | exact gN | exact gS rfl) rfl rfl rfl (hB5.tell hT hJ (by omega) 105 x (.inl rfl)) ?_
        rintro _ H6 ⟨Mj6, n6, hJ6, hn6, hB6⟩
        repeat' (first | refine zP ?_ | refine zA ?_ | (refine zM ?_; intro _ _) | refine zX ?_ | (refine zC ?_; intro _ _ _ _) | (refine zS ?_; intro _ _) | (apply Ws <;> intro hg))
        refine Ends.loop ⟨k + 1, x :: (y :: st), tr ++ [(105, x)], Mj6, n6⟩ (by simp only; omega) (by repeat' (first | exact .nil | refine .cons rfl ?_)) rfl ⟨hk', by simp only [List.length_cons] at hstl ⊢; omega, ?_, hJ6, by simp only; omega, hB6⟩
        simp only
        rw [← htr, run_no (fun z h => by simp at h; omega)]; simp
  · have hkn : k = o.length := by omega
    subst hkn
    rw [List.drop_length] at htr
    repeat' (first | refine zP ?_ | refine zA ?_ | (refine zM ?_; intro _ _) | refine zX ?_ | (refine zC ?_; intro _ _ _ _) | (refine zS ?_; intro _ _) | (apply Ws <;> intro hg))
    clear hU hoU hMU
    refine WC.loopX [(1, .func (.func fn) [].toArray caps.toArray), (4, ptrO n0 0)] (fun z : PX => []) []
      (fun z H' => z.tr ++ z.st.map (fun y => (111, y)) = runTr [] o ∧ J z.tr z.Mj ∧ n0 ≤ z.n ∧ BP n0 z.st (z.Mj ++ M) z.n H') (fun z => z.st.length) ⟨0, st, tr, Mj, n1⟩ (by repeat' (first | exact .nil | refine .cons rfl ?_)) rfl
      ⟨htr, hJ, hn1, hB⟩ ?_
    clear hB hJ htr hlen hstl hn1
    rintro ⟨_, st, tr, Mj, n1⟩ H3 ⟨htr, hJ, hn1, hB⟩
    simp only at htr hJ hn1 hB
    have hlen := congrArg List.length htr
    rw [List.length_append, runTr_len, List.length_map, List.length_nil] at hlen
    dsimp only [List.cons_append, List.nil_append]
    repeat' (first | refine zP ?_ | refine zA ?_ | (refine zM ?_; intro _ _) | refine zX ?_ | (refine zC ?_; intro _ _ _ _) | (refine zS ?_; intro _ _) | (apply Ws <;> intro hg))
    refine WR.call (by first | exact gN | exact gS rfl) rfl rfl hB.isEmpty ?_
    rintro _ H4 ⟨rfl, rfl⟩
    cases st with
    | nil =>
      repeat' (first | refine zP ?_ | refine zA ?_ | (refine zM ?_; intro _ _) | refine zX ?_ | (refine zC ?_; intro _ _ _ _) | (refine zS ?_; intro _ _) | refine zO ?_ | (apply Ws <;> intro hg))
      obtain ⟨v, M0, hp, hH⟩ := hB
      rw [List.map_nil, List.append_nil] at htr
      exact Ends.end0 ⟨Mj, n1, htr ▸ hJ, hn1, hH.sub ((List.sublist_append_right M0 _).cons _)⟩
    | cons y st =>
      have hl0 : (y :: st).length = st.length + 1 := rfl
      repeat' (first | refine zP ?_ | refine zA ?_ | (refine zM ?_; intro _ _) | refine zX ?_ | (refine zC ?_; intro _ _ _ _) | (refine zS ?_; intro _ _) | refine zO ?_ | (apply Ws <;> intro hg))
      refine WR.call (by first | exact gN | exact gS rfl) rfl rfl hB.take ?_
      rintro _ H8 ⟨rfl, hB8⟩
      refine WR.callV (by first | exact gN | exact gS rfl) rfl rfl rfl (hB8.tell hT hJ (by omega) 111 y (.inr rfl)) ?_
      rintro _ H9 ⟨Mj9, n9, hJ9, hn9, hB9⟩
      repeat' (first | refine zP ?_ | refine zA ?_ | (refine zM ?_; intro _ _) | refine zX ?_ | (refine zC ?_; intro _ _ _ _) | (refine zS ?_; intro _ _) | (apply Ws <;> intro hg))
      refine Ends.loop ⟨0, st, tr ++ [(111, y)], Mj9, n9⟩ (by simp only [hl0]; omega) (by repeat' (first | exact .nil | refine .cons rfl ?_)) rfl ⟨?_, hJ9, by simp only; omega, hB9⟩
      simp only
      rw [← htr]; simp
end
end Go.Proofs.Ytfnflkcjhefddaa.Lk

/- Whether barges can leave in the ascending order. -/
namespace Go.Proofs.Ytfnflkcjhefddaa.Lk
open Go Go.Abs Go.Mth
set_option linter.unusedVariables false
set_option linter.unusedSimpArgs false
def ascT (o t : List Nat) : Bool := decide ((basK o t (List.range o.length) o.length).2.2 = [])
structure UX where
  k : Nat
  v : Value
  Mx : HL
  n : Nat
attribute [local irreducible] gOK WS WC WR WD Ends FS YS OpV seqK blockK loopK midK retK rdK asgK rangeEnd sat Cell
section
variable {M : HL} {n0 : Nat} {H : Heap} {v w : Value}
end
end Go.Proofs.Ytfnflkcjhefddaa.Lk

/- The order in which barges leave; how many passes. -/
namespace Go.Abs
set_option linter.unusedSectionVars false
open Go
section
variable [Globs] {C : CW} {nt : Nat} {L : Env} {D : List Nat} {H H' : Heap} {K : St → Prop} {M M' : HL} {n i d : Nat} {gd : Option (Tmp × Bool)} {lo : List Nat} {l : List POp} {rs : List Rd}
theorem WD.append {e sz : Nat} {s x : Operand} {v y : Value} {cs : List Value} {Mx M0 : HL} {k : Nat} {new : List Value} (hg : gOK L gd) (hd : Nat.blt d nt = true) (hs : ev L s = some v) (hy : ev L x = some y)
    (hO : Own e sz v cs Mx) (hH : hasH M n H) (hM : M'.Sublist M) (hp : M'.Perm (Mx ++ M0)) (hk : srcLen y = some k) (hx : srcCells H sz k y = some new) (hl : new.length = k * sz) (h1 : 1 ≤ k) (hone : new.all one = true) (hs1 : 1 ≤ sz) (hs2 : sz ≤ 1000)
    (hsm : cs.length + new.length ≤ 100000) (kk : ∀ v' Mx' n' H', OwnR e sz v' (cs ++ new) Mx' → hasH (Mx' ++ M0) n' H' → n ≤ n' → stands H' lo rs = true ∧ WD C nt l rs ((d, v') :: L) D H' K) :
    WD C nt (⟨i, some d, .append e sz s x, gd, lo⟩ :: l) rs L D H K := by
  obtain ⟨v', Mx', n', H', q1, q2, q3, q4⟩ := append_ownR (P := C.c.P) hO ((hH.sub hM).perm hp) hk hx hl h1 hone hs1 hs2 hsm
  obtain ⟨k1, k2⟩ := kk v' Mx' n' H' q2 q3 q4
  refine WD.op hg hd (H' := H') (v := v') (fun t ht => ?_) rfl k1 k2
  simp only [opA, ev_ok ht hs, ev_ok ht hy, q1]
/-- One element more, what was read before may be read after. -/
theorem WD.append1F {j d2 : Nat} {e : Nat} {z : List Value} {s x : Operand} {lo2 : List Nat} {v y : Value} {cs : List Value} {new : Value} (F Mx T : HL) (hd : Nat.blt d nt = true) (hd2 : Nat.blt d2 nt = true)
    (hx : ev L x = some y) (hs : ev ((d, .slice (some ⟨n, 0, some 0⟩) 1 (2 * 1 + 1)) :: L) s = some v) (hO : Own e 1 v cs Mx) (hH : hasH (F ++ (Mx ++ T)) n H)
    (hc : Instr.fill (fun j => some (j * 1, 1)) z.toArray [(0, y)] = some [new].toArray) (hone : one new = true) (hsm : cs.length + 1 ≤ 100000)
    (hst : ∀ H', hasH ((n, .row e 0 0 [new]) :: (F ++ (Mx ++ T))) (n + 1) H' → stands H' lo rs = true)
    (kk : ∀ v' Mx' n' H', OwnR e 1 v' (cs ++ [new]) Mx' → hasH (F ++ (Mx' ++ T)) n' H' → n ≤ n' → stands H' lo2 rs = true ∧ WD C nt l rs ((d2, v') :: (d, .slice (some ⟨n, 0, some 0⟩) 1 (2 * 1 + 1)) :: L) D H' K) :
    WD C nt (⟨i, some d, .bldS e 1 z 1 [(0, x)], none, lo⟩ :: ⟨j, some d2, .append e 1 s (.tmp d), none, lo2⟩ :: l) rs L D H K := by
  refine WD.bldS True.intro hd hH (vs := [(0, y)]) (by simp only [evp, hx]) hc (by simp [hone]) hst fun H1 hH1 => ?_
  have hx2 : srcCells H1 1 1 (.slice (some ⟨n, 0, some 0⟩) 1 (2 * 1 + 1)) = some [new] := by
    have := hH1.readN (b := n) (u := 0) (lo := 0) (o := 0) (k := 1 * 1) (ch := .row e 0 0 [new]) (cs := [new]) (by simp) (.row _ _ _ _) (Nat.le_refl _) (by simp)
    simpa [srcCells] using this
  have hy : ev ((d, .slice (some ⟨n, 0, some 0⟩) 1 (2 * 1 + 1)) :: L) (.tmp d) = some (.slice (some ⟨n, 0, some 0⟩) 1 (2 * 1 + 1)) := by simp [ev, Env.get]
  refine WD.append True.intro hd2 hs hy hO hH1 (M' := F ++ (Mx ++ T)) (List.sublist_cons_self _ _) (M0 := F ++ T) (List.perm_append_comm_assoc F Mx T) rfl hx2 (by simp) (Nat.le_refl _) (by simp [hone]) (Nat.le_refl _) (by omega) (by simpa using hsm) fun v' Mx' n' H' q1 q2 q3 => ?_
  exact kk v' Mx' n' H' q1 (q2.perm (List.perm_append_comm_assoc Mx' F T)) (by omega)

end
end Go.Abs
namespace Go.Proofs.Ytfnflkcjhefddaa.Lk
open Go Go.Abs Go.Mth
set_option linter.unusedVariables false
set_option linter.unusedSimpArgs false
def LeftJ (bl : Nat) (tr : List (Nat × Nat)) (Mj : HL) : Prop := ∃ lv Mo, Own 3 1 lv (nodes (outsT tr)) Mo ∧ Mj = (bl, Ch.row 22 0 0 [lv]) :: Mo
theorem outsT_in (tr : List (Nat × Nat)) (x : Nat) : outsT (tr ++ [(105, x)]) = outsT tr := by rw [outsT_app]; simp [outsT]
theorem outsT_out (tr : List (Nat × Nat)) (x : Nat) : outsT (tr ++ [(111, x)]) = outsT tr ++ [x] := by rw [outsT_app]; rfl
theorem outsT_le (tr : List (Nat × Nat)) : (outsT tr).length ≤ tr.length := by
  unfold outsT; rw [List.length_map]; exact List.length_filter_le _ _
attribute [local irreducible] gOK WS WC WR WD Ends FS YS OpV seqK blockK loopK midK retK rdK asgK rangeEnd sat Cell
section
variable {M : HL} {n0 : Nat} {H : Heap} {v w : Value}
set_option maxHeartbeats 1000000 in
theorem tell_left {bl bx : Nat} (hm : (bx, Ch.row 82 0 0 [ptrO bl 0]) ∈ M) : TellK 100 [ptrO bx 0] (LeftJ bl) M := by
  rintro tr Mj F n H a x ⟨lv, Mo, hO, rfl⟩ hl ha hH
  have hol := outsT_le tr
  refine FS.intro (pf := pf100) rfl rfl rfl ?_
  rcases ha with rfl | rfl
  · repeat' (first | refine zP ?_ | refine zA ?_ | (refine zM ?_; intro _ _) | refine zX ?_ | (refine zC ?_; intro _ _ _ _) | (refine zS ?_; intro _ _) | refine zO ?_ | (apply Ws <;> intro hg))
    exact Ends.end0 ⟨_, n, ⟨lv, Mo, by rw [outsT_in]; exact hO, rfl⟩, Nat.le_refl _, hH⟩
  · repeat' (first | refine zP ?_ | refine zA ?_ | (refine zM ?_; intro _ _) | refine zX ?_ | (refine zC ?_; intro _ _ _ _) | (refine zS ?_; intro _ _) | refine zO ?_ | (apply Ws <;> intro hg))
    have hlv := (hO.sl []).one_
    have hls := (hO.sl []).same
    have mX : (bx, Ch.row 82 0 0 [ptrO bl 0]) ∈ F ++ (((bl, Ch.row 22 0 0 [lv]) :: Mo) ++ M) := List.mem_append_right _ (List.mem_append_right _ hm)
    have mL : (bl, Ch.row 22 0 0 [lv]) ∈ F ++ (((bl, Ch.row 22 0 0 [lv]) :: Mo) ++ M) := List.mem_append_right _ (List.mem_append_left _ (.head _))
    have hsp : same1 (ptrO bl 0) (ptrO bl 0) = true := same_ptr _
    refine WC.regionD ?_
    refine WD.load1 (by first | exact gN | exact gS rfl) rfl rfl (hH.read mX (.row _ _ _ _) (Nat.zero_le _) rfl) ?_
    refine WD.load1 (by first | exact gN | exact gS rfl) rfl rfl (hH.read mX (.row _ _ _ _) (Nat.zero_le _) rfl) ?_
    repeat' (first | refine zD ?_ | (refine zE ?_; intro _ _ _ _))
    have hst : ∀ {Y : HL} {n' : Nat} {H' : Heap}, hasH Y n' H' → (bx, Ch.row 82 0 0 [ptrO bl 0]) ∈ Y → (bl, Ch.row 22 0 0 [lv]) ∈ Y → stands H' [0, 1, 3] [⟨3, ⟨bl, 0, some 0⟩, none, lv⟩, ⟨1, ⟨bx, 0, some 0⟩, none, ptrO bl 0⟩, ⟨0, ⟨bx, 0, some 0⟩, none, ptrO bl 0⟩] = true := fun h h1 h2 =>
      stands_cons (.inr (holds_at (h.read h2 (.row _ _ _ _) (Nat.zero_le _) rfl) hls)) (stands_cons (.inr (holds_at (h.read h1 (.row _ _ _ _) (Nat.zero_le _) rfl) hsp)) (stands_cons (.inr (holds_at (h.read h1 (.row _ _ _ _) (Nat.zero_le _) rfl) hsp)) stands_nil'))
    refine WD.append1F (new := .int .i64 (x : Int)) (F ++ [(bl, Ch.row 22 0 0 [lv])]) Mo M rfl rfl rfl rfl hO (by simpa using hH) rfl rfl (by simp; omega) (fun H' h' => hst h' (by simp [hm]) (by simp)) fun v' Mx' n' H2 hO2 hH2 hn2 => ⟨?_, ?_⟩
    · exact stands_cons (.inl rfl) (stands_cons (.inl rfl) (stands_cons (.inr (holds_at (hH2.read (b := bx) (ch := .row 82 0 0 [ptrO bl 0]) (by simp [hm]) (.row _ _ _ _) (Nat.zero_le _) rfl) hsp)) stands_nil'))
    refine WD.toWR rfl ?_
    repeat' (first | refine zP ?_ | refine zA ?_ | (refine zM ?_; intro _ _) | refine zX ?_ | (refine zC ?_; intro _ _ _ _) | (refine zS ?_; intro _ _) | (apply Ws <;> intro hg))
    have hH3 : hasH ((bl, .row 22 0 0 [lv]) :: (F ++ (Mx' ++ M))) n' H2 := hH2.perm (by classical exact List.perm_iff_count.2 (fun a => by simp only [defds, List.map_cons, List.map_nil, List.count_append, List.count_cons, List.count_nil, List.cons_append, List.nil_append, List.append_nil]; omega))
    refine WR.storeBox (by first | exact gN | exact gS rfl) hH3 rfl rfl (hO2.own.sl []).one_ .here fun H4 hH4 => ?_
    repeat' (first | refine zP ?_ | refine zA ?_ | (refine zM ?_; intro _ _) | refine zX ?_ | (refine zC ?_; intro _ _ _ _) | (refine zS ?_; intro _ _) | (apply Ws <;> intro hg))
    refine Ends.end0 ⟨(bl, Ch.row 22 0 0 [v']) :: Mx', n', ⟨v', Mx', ?_, rfl⟩, hn2, hH4.perm (by classical exact List.perm_iff_count.2 (fun a => by simp only [defds, List.map_cons, List.map_nil, List.count_append, List.count_cons, List.count_nil, List.cons_append, List.nil_append, List.append_nil]; omega))⟩
    rw [outsT_out, nodes_snoc]; exact hO2.own
theorem leavers_fs (hH : hasH M n0 H) (b : Nat) :
    FS C 66 [ptrO b 0] H (fun e H' => e = .func (.func 100) [].toArray [ptrO n0 0].toArray ∧ hasH ((n0, .row 82 0 0 [ptrO b 0]) :: M) (n0 + 1) H') := by
  refine FS.intro (pf := pf66) rfl rfl rfl ?_
  repeat' (first | refine zP ?_ | refine zA ?_ | (refine zM ?_; intro _ _) | refine zX ?_ | (refine zC ?_; intro _ _ _ _) | (refine zS ?_; intro _ _) | (apply Ws <;> intro hg))
  rename_i H1 hH1
  exact Ends.ret1 rfl ⟨rfl, hH1⟩
theorem passed_fs (hH : hasH M n0 H) {o : List Nat} (ho : Sl M 1 v (nodes o)) (hol : o.length ≤ 10) :
    FS C 61 [v] H (fun e H' => ∃ Mx n', Own 3 1 e (nodes (passF o)) Mx ∧ n0 ≤ n' ∧ hasH (Mx ++ M) n' H') := by
  have hv := ho.one_
  refine FS.intro (pf := pf61) rfl rfl rfl ?_
  repeat' (first | refine zP ?_ | refine zA ?_ | (refine zM ?_; intro _ _) | refine zX ?_ | (refine zC ?_; intro _ _ _ _) | (refine zS ?_; intro _ _) | (apply Ws <;> intro hg))
  rename_i H1 hH1
  refine WR.call (by first | exact gN | exact gS rfl) rfl rfl (leavers_fs hH1 n0) ?_
  rintro _ H2 ⟨rfl, hH2⟩
  clear hH1
  have hH3 : hasH ([(n0, Ch.row 22 0 0 [.slice none 0 0])] ++ ((n0 + 1, Ch.row 82 0 0 [ptrO n0 0]) :: M)) (n0 + 1 + 1) H2 := hH2.perm (.swap _ _ _)
  clear hH2
  refine WR.call (by first | exact gN | exact gS rfl) rfl rfl (pass_fs (tell_left (bl := n0) (bx := n0 + 1) (.head _)) ⟨.slice none 0 0, [], .nil, rfl⟩ ho.cons hol hH3) ?_
  rintro _ H4 ⟨_, n4, ⟨lv, Mo, hO, rfl⟩, hn4, hH4⟩
  rw [outs_run] at hO
  replace hH4 : hasH ((n0, Ch.row 22 0 0 [lv]) :: (Mo ++ ((n0 + 1, Ch.row 82 0 0 [ptrO n0 0]) :: M))) n4 H4 := hH4
  repeat' (first | refine zP ?_ | refine zA ?_ | (refine zM ?_; intro _ _) | refine zX ?_ | (refine zC ?_; intro _ _ _ _) | (refine zS ?_; intro _ _) | (apply Ws <;> intro hg))
  exact Ends.ret1 rfl ⟨Mo, n4, hO, by omega, (hH4.tail).sub (List.Sublist.append_left (List.sublist_cons_self _ _) _)⟩
end
end Go.Proofs.Ytfnflkcjhefddaa.Lk

/- The law's own pass; lists compared. -/
namespace Go.Abs
set_option linter.unusedSectionVars false
open Go
section
variable [Globs] {C : CW} {nt : Nat} {L : Env} {D : List Nat} {H H' : Heap} {K : St → Prop} {M M' : HL} {n i d : Nat} {gd : Option (Tmp × Bool)} {lo : List Nat} {l : List POp} {rs : List Rd}
/-- Numbers in a row of one's own, or none. -/
def OwnN (e : Nat) (v : Value) (xs : List Nat) (Mx : HL) : Prop := (xs = [] ∧ v = .slice none 0 0 ∧ Mx = []) ∨ (xs ≠ [] ∧ OwnR e 1 v (nodes xs) Mx)
theorem OwnN.own {e : Nat} {v : Value} {xs : List Nat} {Mx : HL} (h : OwnN e v xs Mx) : Own e 1 v (nodes xs) Mx := by
  rcases h with ⟨rfl, rfl, rfl⟩ | ⟨_, h⟩
  · exact .nil
  · exact h.own
theorem OwnN.sl {e : Nat} {v : Value} {xs : List Nat} {Mx T : HL} (h : OwnN e v xs Mx) (k : ∀ q ∈ Mx, q ∈ T) : Sl T 1 v (nodes xs) := (h.own.sl []).mono fun q hq => k q (by simpa using hq)
end
end Go.Abs
namespace Go.Proofs.Ytfnflkcjhefddaa.Lk
open Go Go.Abs Go.Mth
set_option linter.unusedVariables false
set_option linter.unusedSimpArgs false
attribute [local irreducible] gOK WS WC WR WD Ends FS YS OpV seqK blockK loopK midK retK rdK asgK rangeEnd sat Cell
section
variable {M : HL} {n0 : Nat} {H : Heap} {v w : Value}
end
end Go.Proofs.Ytfnflkcjhefddaa.Lk

/- Pass after pass. -/
namespace Go.Proofs.Ytfnflkcjhefddaa.Lk
open Go Go.Abs Go.Mth
set_option linter.unusedVariables false
set_option linter.unusedSimpArgs false
def pit (o : List Nat) : Nat → List Nat
  | 0 => o
  | k + 1 => passF (pit o k)
theorem pit_ord {o : List Nat} (ho : OrdN o) : ∀ k, OrdN (pit o k) ∧ (pit o k).length = o.length
  | 0 => ⟨ho, rfl⟩
  | k + 1 => by
    obtain ⟨h1, h2⟩ := pit_ord ho k
    exact ⟨passF_ord h1, by show (passF (pit o k)).length = _; rw [passF_len, h2]⟩
theorem upN_snoc {w n : Nat} (h : w ≤ n) : upN w (n + 1) = upN w n ++ [n] := by
  unfold upN
  rw [show n + 1 - w = (n - w) + 1 by omega, List.range'_concat]
  congr 2; omega
theorem mem_upN {w n x : Nat} : x ∈ upN w n ↔ w ≤ x ∧ x < n := by
  unfold upN; rw [List.mem_range'_1]; omega
theorem passF_tail {w : Nat} {A : List Nat} (hA : ∀ x ∈ A, x < w) : ∀ d, passF (A ++ upN w (w + d)) = passF A ++ upN w (w + d)
  | 0 => by rw [upN_nil (by omega), List.append_nil, List.append_nil]
  | d + 1 => by
    have ih := passF_tail hA d
    rw [← Nat.add_assoc, upN_snoc (by omega), ← List.append_assoc]
    have := passF_split (m := w + d) (L := A ++ upN w (w + d)) (R := []) (fun x hx => by
      rcases List.mem_append.1 hx with h | h
      · have := hA x h; omega
      · exact (mem_upN.1 h).2) (fun x h => by simp at h)
    rw [this, ih, ← List.append_assoc]
    show passF A ++ upN w (w + d) ++ [] ++ [w + d] = _
    rw [List.append_nil]
theorem passF_range (n : Nat) : passF (List.range n) = List.range n := by
  have := passF_tail (w := 0) (A := []) (fun x h => by simp at h) n
  rw [Nat.zero_add, upN_range] at this
  exact this
def Tops (k : Nat) (l : List Nat) : Prop := ∃ A, l = A ++ upN (l.length - k) l.length ∧ ∀ x ∈ A, x < l.length - k
theorem tops_zero (l : List Nat) (h : OrdN l) : Tops 0 l := ⟨l, by rw [upN_nil (by omega), List.append_nil], fun x hx => h.lt x hx⟩
theorem tops_step {l : List Nat} {k : Nat} (h : OrdN l) (hk : k < l.length) (ht : Tops k l) : Tops (k + 1) (passF l) := by
  obtain ⟨A, h1, h2⟩ := ht
  have hpl := passF_len l
  obtain ⟨m, hm⟩ : ∃ m, l.length - k = m + 1 := ⟨l.length - k - 1, by omega⟩
  rw [hm] at h1 h2
  have hmA : m ∈ A := by
    have := h.mem (show m < l.length by omega)
    rw [h1] at this
    rcases List.mem_append.1 this with h3 | h3
    · exact h3
    · have := (mem_upN.1 h3).1; omega
  obtain ⟨L, R, rfl⟩ := List.append_of_mem hmA
  have hn : (L ++ m :: R).Nodup := by
    have := h.nodup
    rw [h1] at this
    exact (List.nodup_append.1 this).1
  have hne : ∀ x, (x ∈ L ∨ x ∈ R) → x < m := by
    intro x hx
    have h3 := h2 x (by rcases hx with hx | hx <;> simp [hx])
    have : x ≠ m := by
      rintro rfl
      rw [List.nodup_append] at hn
      rcases hx with hx | hx
      · exact hn.2.2 _ hx _ (by simp) rfl
      · exact (List.nodup_cons.1 hn.2.1).1 hx
    omega
  have hp := passF_split (fun x hx => hne x (.inl hx)) (fun x hx => hne x (.inr hx)) (m := m) (L := L) (R := R)
  have hlen : l.length = (m + 1) + (l.length - (m + 1)) := by omega
  have ht := passF_tail h2 (l.length - (m + 1))
  rw [← hlen, ← h1, hp] at ht
  refine ⟨passF L ++ passF R, ?_, fun x hx => ?_⟩
  · rw [hpl, show l.length - (k + 1) = m by omega, ht, upN_cons (show m < l.length by omega)]
    simp
  · rw [hpl, show l.length - (k + 1) = m by omega]
    rcases List.mem_append.1 hx with h3 | h3
    · exact hne x (.inl ((passF_perm L).mem_iff.1 h3))
    · exact hne x (.inr ((passF_perm R).mem_iff.1 h3))
theorem tops_all {o : List Nat} (ho : OrdN o) : ∀ k, k ≤ o.length → Tops k (pit o k)
  | 0, _ => tops_zero o ho
  | k + 1, hk => by
    obtain ⟨h1, h2⟩ := pit_ord ho k
    exact tops_step h1 (by omega) (tops_all ho k (by omega))
theorem asc_range {l : List Nat} (h : OrdN l) : ascB l = true ↔ l = List.range l.length := by
  constructor
  · intro ha
    rw [ascB_iff] at ha
    have hlt : ∀ i, i + 1 < l.length → l.getD i 0 < l.getD (i + 1) 0 := fun i hi => by
      have h1 := ha i hi
      have h2 : l.getD i 0 ≠ l.getD (i + 1) 0 := fun e => by have := nodup_get h.nodup (show i < l.length by omega) hi e; omega
      omega
    have hlo : ∀ i, i < l.length → i ≤ l.getD i 0 := by
      intro i
      induction i with
      | zero => intro _; exact Nat.zero_le _
      | succ i ih => intro hi; have := ih (by omega); have := hlt i hi; omega
    have hhi : ∀ d i, i + d + 1 = l.length → l.getD i 0 ≤ i := by
      intro d
      induction d with
      | zero => intro i hi; have := h.lt _ (getD_mem (a := 0) (show i < l.length by omega)); omega
      | succ d ih => intro i hi; have := ih (i + 1) (by omega); have := hlt i (by omega); omega
    refine ext_getD (a := 0) (by simp) fun i hi => ?_
    have h1 := hlo i hi
    have h2 := hhi (l.length - 1 - i) i (by omega)
    rw [getD_eq (l := List.range l.length) (by simpa using hi), List.getElem_range]; omega
  · intro e
    rw [ascB_iff]
    intro i hi
    rw [e, getD_eq (by simp; omega), getD_eq (by simp; omega), List.getElem_range, List.getElem_range]; omega
theorem asc_last {o : List Nat} (ho : OrdN o) : ascB (pit o (o.length - 1)) = true := by
  have h1 := ho.one
  obtain ⟨h2, h3⟩ := pit_ord ho (o.length - 1)
  obtain ⟨A, h4, h5⟩ := tops_all ho (o.length - 1) (by omega)
  rw [asc_range h2, h3]
  rw [h3, show o.length - (o.length - 1) = 1 by omega] at h4 h5
  have hl := congrArg List.length h4
  rw [List.length_append, upN, List.length_range', h3] at hl
  have hA : A = [0] := by
    cases A with
    | nil => simp at hl; omega
    | cons a A =>
      have h6 := h5 a (by simp)
      have h7 : A = [] := List.length_eq_zero_iff.1 (by simp at hl; omega)
      rw [h7, show a = 0 by omega]
  rw [h4, hA, ← upN_range, upN_cons (show 0 < o.length by omega)]; rfl
theorem asc_stays {o : List Nat} (ho : OrdN o) {k : Nat} (h : ascB (pit o k) = true) : ascB (pit o (k + 1)) = true := by
  obtain ⟨h2, h3⟩ := pit_ord ho k
  have e := (asc_range h2).1 h
  show ascB (passF (pit o k)) = true
  have : passF (pit o k) = pit o k := by rw [e, passF_range]
  rw [this]; exact h
/-- So many passes, and no fewer. -/
def PassN (o : List Nat) (k : Nat) : Prop := k ≤ o.length - 1 ∧ ascB (pit o k) = true ∧ ∀ j, j < k → ascB (pit o j) = false
theorem PassN.iff {o : List Nat} (ho : OrdN o) {k : Nat} (h : PassN o k) (i : Nat) : ascB (pit o i) = true ↔ k ≤ i := by
  constructor
  · intro ha
    refine Nat.le_of_not_lt fun hlt => ?_
    rw [h.2.2 i hlt] at ha; cases ha
  · intro hk
    obtain ⟨d, rfl⟩ := Nat.le.dest hk
    clear hk
    induction d with
    | zero => exact h.2.1
    | succ d ih => exact asc_stays ho ih
end Go.Proofs.Ytfnflkcjhefddaa.Lk

/- How many passes. -/
namespace Go.Proofs.Ytfnflkcjhefddaa.Lk
open Go Go.Abs Go.Mth
set_option linter.unusedVariables false
set_option linter.unusedSimpArgs false
structure QX where
  k : Nat
  v : Value
  Mx : HL
  n : Nat
attribute [local irreducible] gOK WS WC WR WD Ends FS YS OpV seqK blockK loopK midK retK rdK asgK rangeEnd sat Cell
section
variable {M : HL} {n0 : Nat} {H : Heap} {v w : Value}
set_option maxHeartbeats 1000000 in
theorem passesOf_fs (hH : hasH M n0 H) {o : List Nat} (ho : Sl M 1 v (nodes o)) (hO : OrdN o) :
    FS C 74 [v] H (fun e H' => ∃ (k : Nat) (n' : Nat), e = .int .i64 (k : Int) ∧ PassN o k ∧ n0 ≤ n' ∧ hasH M n' H') := by
  have h7 := hO.most
  have h1 := hO.one
  refine FS.intro (pf := pf74) rfl rfl rfl ?_
  repeat' (first | refine zP ?_ | refine zA ?_ | (refine zM ?_; intro _ _) | refine zX ?_ | (refine zC ?_; intro _ _ _ _) | (refine zS ?_; intro _ _) | (apply Ws <;> intro hg))
  refine WC.loopX [] (fun z : QX => [(0, z.v), (3, .int .i64 (z.k : Int))]) [] (fun z H' => z.k ≤ o.length - 1 ∧ (∀ j, j < z.k → ascB (pit o j) = false) ∧ Sl (z.Mx ++ M) 1 z.v (nodes (pit o z.k)) ∧ n0 ≤ z.n ∧ hasH (z.Mx ++ M) z.n H') (fun z => o.length - z.k) ⟨0, v, [], n0⟩ (by repeat' (first | exact .nil | refine .cons rfl ?_)) rfl
    ⟨Nat.zero_le _, fun j h => absurd h (Nat.not_lt_zero _), ho, Nat.le_refl _, hH⟩ ?_
  clear hH ho
  rintro ⟨k, v, Mx, n1⟩ H1 ⟨hk, hno, hS, hn1, hH⟩
  simp only at hk hno hS hn1 hH
  obtain ⟨hp1, hp2⟩ := pit_ord hO k
  dsimp only [List.cons_append, List.nil_append]
  repeat' (first | refine zP ?_ | refine zA ?_ | (refine zM ?_; intro _ _) | refine zX ?_ | (refine zC ?_; intro _ _ _ _) | (refine zS ?_; intro _ _) | (apply Ws <;> intro hg))
  refine WR.call (by first | exact gN | exact gS rfl) rfl rfl (IsSorted_fs hH hS (by omega)) ?_
  rintro _ H2 ⟨rfl, rfl⟩
  cases ha : ascB (pit o k) with
  | true =>
    repeat' (first | refine zP ?_ | refine zA ?_ | (refine zM ?_; intro _ _) | refine zX ?_ | (refine zC ?_; intro _ _ _ _) | (refine zS ?_; intro _ _) | (apply Ws <;> intro hg))
    exact Ends.ret1 rfl ⟨k, n1, rfl, ⟨hk, ha, hno⟩, hn1, hH.sub (List.sublist_append_right _ _)⟩
  | false =>
    have hk2 : k ≠ o.length - 1 := by
      rintro rfl
      rw [asc_last hO] at ha; cases ha
    repeat' (first | refine zP ?_ | refine zA ?_ | (refine zM ?_; intro _ _) | refine zX ?_ | (refine zC ?_; intro _ _ _ _) | (refine zS ?_; intro _ _) | (apply Ws <;> intro hg))
    refine WR.call (by first | exact gN | exact gS rfl) rfl rfl (passed_fs hH hS (by omega)) ?_
    rintro u H3 ⟨My, n3, hOw, hn3, hH3⟩
    repeat' (first | refine zP ?_ | refine zA ?_ | (refine zM ?_; intro _ _) | refine zX ?_ | (refine zC ?_; intro _ _ _ _) | (refine zS ?_; intro _ _) | (apply Ws <;> intro hg))
    refine Ends.loop ⟨k + 1, u, My, n3⟩ (by simp only; omega) (by repeat' (first | exact .nil | refine .cons rfl ?_)) rfl ⟨by simp only; omega, fun j hj => ?_, hOw.sl M, by simp only; omega, hH3.sub (List.Sublist.append_left (List.sublist_append_right _ _) _)⟩
    simp only at hj
    by_cases e : j = k
    · rw [e]; exact ha
    · exact hno j (by omega)
end
end Go.Proofs.Ytfnflkcjhefddaa.Lk

/- A basin of lists: its methods. -/
namespace Go.Proofs.Ytfnflkcjhefddaa.Lk
open Go Go.Abs Go.Mth
set_option linter.unusedVariables false
set_option linter.unusedSimpArgs false
theorem fill1 {v : Value} (h : one v = true) : Instr.fill (fun j => some (j * 1, 1)) [Value.slice none 0 0].toArray [(0, v)] = some [v].toArray := by
  cases v <;> first | rfl | cases h
attribute [local irreducible] gOK WS WC WR WD Ends FS YS OpV seqK blockK loopK midK retK rdK asgK rangeEnd sat Cell
section
variable {M : HL} {n0 : Nat} {H : Heap} {v w : Value}
theorem isEmptyL_fs (hH : hasH M n0 H) {b o : Nat} {S : List Value} (hc : Cell M b o 0 v) (hS : Sl M 1 v S) :
    FS C 105 [ptrO b o] H (fun e H' => H' = H ∧ e = .bool (decide (S.length = 0))) := by
  refine FS.intro (pf := pf105) rfl rfl rfl ?_
  repeat' (first | refine zP ?_ | refine zA ?_ | (refine zM ?_; intro _ _) | refine zX ?_ | (refine zC ?_; intro _ _ _ _) | (refine zS ?_; intro _ _) | (apply Ws <;> intro hg))
  exact Ends.ret1 rfl ⟨rfl, by congr 1; rw [decide_eq_decide]; omega⟩
theorem lastL_fs (hH : hasH M n0 H) {b o : Nat} {S : List Value} {y : Value} (hc : Cell M b o 0 v) (hS : Sl M 1 v (S ++ [y])) (hb : S.length ≤ 10000) :
    FS C 120 [ptrO b o] H (fun e H' => H' = H ∧ e = y) := by
  refine FS.intro (pf := pf120) rfl rfl rfl ?_
  have hl : ((S ++ [y]).length : Int) = (S.length : Int) + 1 := by simp
  have h1 : S.length < (S ++ [y]).length := by simp
  have hg : (S ++ [y]).getD S.length undef = y := getD_snoc
  generalize S ++ [y] = Q at hS hl h1 hg
  repeat' (first | refine zP ?_ | refine zA ?_ | (refine zM ?_; intro _ _) | refine zX ?_ | (refine zC ?_; intro _ _ _ _) | (refine zS ?_; intro _ _) | (apply Ws <;> intro hg))
  rw [hl]
  repeat' (first | refine zP ?_ | refine zA ?_ | (refine zM ?_; intro _ _) | refine zX ?_ | (refine zC ?_; intro _ _ _ _) | (refine zS ?_; intro _ _) | (apply Ws <;> intro hg))
  rw [show (S.length : Int) + 1 - 1 = (S.length : Int) by omega]
  repeat' (first | refine zP ?_ | refine zA ?_ | (refine zM ?_; intro _ _) | refine zX ?_ | (refine zC ?_; intro _ _ _ _) | (refine zS ?_; intro _ _) | (apply Ws <;> intro hg))
  exact Ends.ret1 rfl ⟨rfl, hg⟩
theorem takeL_fs {e b o : Nat} {cs : List Value} {Mx : HL} {S : List Value} {y : Value} (hO : StkO 22 v (S ++ [y]) Mx) (hH : hasH ((b, .row e 0 0 cs) :: (Mx ++ M)) n0 H) (hc : cs[o]? = some v) :
    FS C 106 [ptrO b o] H (fun r H' => r = y ∧ ∃ v', StkO 22 v' S Mx ∧ hasH ((b, .row e 0 0 (cs.set o v')) :: (Mx ++ M)) n0 H') := by
  have hS := (hO.sl M).cons (p := (b, Ch.row e 0 0 cs))
  have hC := cell_row (M := (b, Ch.row e 0 0 cs) :: (Mx ++ M)) (.head _) hc
  have ho : o < cs.length := (List.getElem?_eq_some_iff.1 hc).1
  refine FS.intro (pf := pf106) rfl rfl rfl ?_
  repeat' (first | refine zP ?_ | refine zA ?_ | (refine zM ?_; intro _ _) | refine zX ?_ | (refine zC ?_; intro _ _ _ _) | (refine zS ?_; intro _ _) | (apply Ws <;> intro hg))
  have hb := StkO.len hO
  rw [List.length_append, List.length_singleton] at hb
  refine WR.call (by first | exact gN | exact gS rfl) rfl rfl (lastL_fs hH hC hS (by omega)) ?_
  rintro r _ ⟨rfl, hr⟩
  rw [hr]
  have hl : ((S ++ [y]).length : Int) = (S.length : Int) + 1 := by simp
  repeat' (first | refine zP ?_ | refine zA ?_ | (refine zM ?_; intro _ _) | refine zX ?_ | (refine zC ?_; intro _ _ _ _) | (refine zS ?_; intro _ _) | (apply Ws <;> intro hg))
  rw [hl]
  repeat' (first | refine zP ?_ | refine zA ?_ | (refine zM ?_; intro _ _) | refine zX ?_ | (refine zC ?_; intro _ _ _ _) | (refine zS ?_; intro _ _) | (apply Ws <;> intro hg))
  rw [show (S.length : Int) + 1 - 1 = (S.length : Int) by omega]
  refine WR.popO (by first | exact gN | exact gS rfl) rfl rfl hO rfl fun v' h2 => ?_
  repeat' (first | refine zP ?_ | refine zA ?_ | (refine zM ?_; intro _ _) | refine zX ?_ | (refine zC ?_; intro _ _ _ _) | (refine zS ?_; intro _ _) | (apply Ws <;> intro hg))
  refine WR.store1 (M' := (b, .row e 0 0 (cs.set o v')) :: (Mx ++ M)) (by first | exact gN | exact gS rfl) hH rfl rfl h2.one_ .here (Nat.zero_le _) (by simpa using ho) (by simp) fun H2 hH2 => ?_
  repeat' (first | refine zP ?_ | refine zA ?_ | (refine zM ?_; intro _ _) | refine zX ?_ | (refine zC ?_; intro _ _ _ _) | (refine zS ?_; intro _ _) | (apply Ws <;> intro hg))
  exact Ends.ret1 rfl ⟨rfl, v', h2, hH2⟩
theorem bringL_fs {e b o : Nat} {cs : List Value} {Mx : HL} {S : List Value} {a : Value} (ha : one a = true) (hO : StkO 22 v S Mx) (hH : hasH ((b, .row e 0 0 cs) :: (Mx ++ M)) n0 H) (hc : cs[o]? = some v) (hl : S.length ≤ 9000) :
    FS C 104 [ptrO b o, a] H (fun r H' => ∃ v' Mx' n', StkO 22 v' (S ++ [a]) Mx' ∧ n0 ≤ n' ∧ hasH ((b, .row e 0 0 (cs.set o v')) :: (Mx' ++ M)) n' H') := by
  have hC := cell_row (M := (b, Ch.row e 0 0 cs) :: (Mx ++ M)) (.head _) hc
  have ho : o < cs.length := (List.getElem?_eq_some_iff.1 hc).1
  refine FS.intro (pf := pf104) rfl rfl rfl ?_
  repeat' (first | refine zP ?_ | refine zA ?_ | (refine zM ?_; intro _ _) | refine zX ?_ | (refine zC ?_; intro _ _ _ _) | (refine zS ?_; intro _ _) | (apply Ws <;> intro hg))
  refine WR.push [(b, Ch.row e 0 0 cs)] Mx M rfl rfl rfl rfl hO hH (fill1 ha) ha hl fun v' Mx' n' H1 h1 hH1 hn => ?_
  repeat' (first | refine zP ?_ | refine zA ?_ | (refine zM ?_; intro _ _) | refine zX ?_ | (refine zC ?_; intro _ _ _ _) | (refine zS ?_; intro _ _) | (apply Ws <;> intro hg))
  refine WR.store1 (M' := (b, .row e 0 0 (cs.set o v')) :: (Mx' ++ M)) (by first | exact gN | exact gS rfl) hH1 rfl rfl h1.one_ .here (Nat.zero_le _) (by simpa using ho) (by simp) fun H2 hH2 => ?_
  repeat' (first | refine zP ?_ | refine zA ?_ | (refine zM ?_; intro _ _) | refine zX ?_ | (refine zC ?_; intro _ _ _ _) | (refine zS ?_; intro _ _) | (apply Ws <;> intro hg))
  exact Ends.end0 ⟨v', Mx', n', h1, hn, hH2⟩
end
end Go.Proofs.Ytfnflkcjhefddaa.Lk

/- All lists of numbers below a bound, one after the other. -/
namespace Go.Proofs.Ytfnflkcjhefddaa.Lk
open Go Go.Abs Go.Mth
set_option linter.unusedVariables false
set_option linter.unusedSimpArgs false
/-- All that a list begins, with so many numbers more, in ascending order. -/
def extL (bound : Nat) (fits : List Nat → Nat → Bool) : Nat → List Nat → List (List Nat)
  | 0, b => [b]
  | m + 1, b => ((List.range bound).filter (fits b)).flatMap fun x => extL bound fits m (b ++ [x])
/-- The same, for numbers from k on. -/
def extK (bound : Nat) (fits : List Nat → Nat → Bool) (m : Nat) (b : List Nat) (k : Nat) : List (List Nat) := (((List.range bound).drop k).filter (fits b)).flatMap fun x => extL bound fits m (b ++ [x])
theorem extK_zero (bound : Nat) (fits : List Nat → Nat → Bool) (m : Nat) (b : List Nat) : extK bound fits m b 0 = extL bound fits (m + 1) b := rfl
theorem extK_all (bound : Nat) (fits : List Nat → Nat → Bool) (m : Nat) (b : List Nat) : extK bound fits m b bound = [] := by
  unfold extK; rw [List.drop_of_length_le (by simp)]; rfl
theorem extK_step {bound k : Nat} (fits : List Nat → Nat → Bool) (m : Nat) (b : List Nat) (h : k < bound) : extK bound fits m b k = (if fits b k = true then extL bound fits m (b ++ [k]) else []) ++ extK bound fits m b (k + 1) := by
  unfold extK
  rw [List.drop_eq_getElem_cons (by simpa using h), List.getElem_range]
  by_cases hf : fits b k = true
  · rw [List.filter_cons_of_pos hf, List.flatMap_cons, if_pos hf]
  · rw [List.filter_cons_of_neg hf, if_neg hf, List.nil_append]
def rst (len bound : Nat) (fits : List Nat → Nat → Bool) (W : List (List Nat)) : List (List Nat) := W.reverse.flatMap fun b => extL bound fits (len - b.length) b
theorem rst_snoc (len bound : Nat) (fits : List Nat → Nat → Bool) (W : List (List Nat)) (b : List Nat) : rst len bound fits (W ++ [b]) = extL bound fits (len - b.length) b ++ rst len bound fits W := by
  simp [rst]
def wgt (len bound : Nat) (W : List (List Nat)) : Nat := (W.map fun b => (bound + 1) ^ (len - b.length)).sum
theorem wgt_snoc (len bound : Nat) (W : List (List Nat)) (b : List Nat) : wgt len bound (W ++ [b]) = wgt len bound W + (bound + 1) ^ (len - b.length) := by
  simp [wgt]
/-- A stack of lists, as they wait: not too many. -/
structure WaitS (len bound : Nat) (W : List (List Nat)) : Prop where
  idx : ∀ i, i < W.length → i ≤ bound * (W.getD i []).length
  len : ∀ i, i < W.length → (W.getD i []).length ≤ len
theorem WaitS.few {len bound : Nat} {W : List (List Nat)} (h : WaitS len bound W) (hl : len ≤ 7) (hb : bound ≤ 7) : W.length ≤ 50 := by
  refine Classical.byContradiction fun hn => ?_
  have h1 := h.idx 50 (by omega)
  have h2 := h.len 50 (by omega)
  have h3 : bound * (W.getD 50 []).length ≤ 7 * 7 := Nat.mul_le_mul hb (by omega)
  omega
theorem WaitS.init {len bound : Nat} {W : List (List Nat)} {b : List Nat} (h : WaitS len bound (W ++ [b])) : WaitS len bound W where
  idx i hi := by have := h.idx i (by simp; omega); rwa [getD_app_l hi] at this
  len i hi := by have := h.len i (by simp; omega); rwa [getD_app_l hi] at this
theorem WaitS.snoc {len bound : Nat} {W : List (List Nat)} {b : List Nat} (h : WaitS len bound W) (h1 : W.length ≤ bound * b.length) (h2 : b.length ≤ len) : WaitS len bound (W ++ [b]) where
  idx i hi := by
    rw [List.length_append, List.length_singleton] at hi
    by_cases e : i < W.length
    · rw [getD_app_l e]; exact h.idx i e
    · rw [show i = W.length by omega, getD_snoc]; exact h1
  len i hi := by
    rw [List.length_append, List.length_singleton] at hi
    by_cases e : i < W.length
    · rw [getD_app_l e]; exact h.len i e
    · rw [show i = W.length by omega, getD_snoc]; exact h2
/-- Lists in memory; none is nil. -/
def RowsZ (M : HL) (ws : List Value) (vs : List (List Nat)) : Prop := ws.length = vs.length ∧ ∀ i, i < vs.length → Sl M 1 (ws.getD i undef) (nodes (vs.getD i [])) ∧ (vs.getD i [] = [] → ws.getD i undef = .slice none 0 0)
theorem RowsZ.mono {M M' : HL} {ws : List Value} {vs : List (List Nat)} (h : RowsZ M ws vs) (k : ∀ p ∈ M, p ∈ M') : RowsZ M' ws vs := ⟨h.1, fun i hi => ⟨(h.2 i hi).1.mono k, (h.2 i hi).2⟩⟩
theorem RowsZ.nil (M : HL) : RowsZ M [] [] := ⟨rfl, fun i h => absurd h (Nat.not_lt_zero _)⟩
theorem RowsZ.snoc {M : HL} {ws : List Value} {w : Value} {vs : List (List Nat)} {r : List Nat} (h : RowsZ M ws vs) (hw : Sl M 1 w (nodes r)) (h0 : r = [] → w = .slice none 0 0) : RowsZ M (ws ++ [w]) (vs ++ [r]) := by
  refine ⟨by simp [h.1], fun i hi => ?_⟩
  rw [List.length_append, List.length_singleton] at hi
  by_cases e : i < vs.length
  · rw [getD_app_l (by rw [h.1]; exact e), getD_app_l e]; exact h.2 i e
  · have : i = vs.length := by omega
    subst this
    rw [getD_snoc, show vs.length = ws.length from h.1.symm, getD_snoc]; exact ⟨hw, h0⟩
theorem RowsZ.init {M : HL} {ws : List Value} {w : Value} {vs : List (List Nat)} {r : List Nat} (h : RowsZ M (ws ++ [w]) (vs ++ [r])) : RowsZ M ws vs ∧ Sl M 1 w (nodes r) ∧ (r = [] → w = .slice none 0 0) := by
  have hl : ws.length = vs.length := by have := h.1; simp at this; exact this
  refine ⟨⟨hl, fun i hi => ?_⟩, ?_⟩
  · have := h.2 i (by simp; omega)
    rwa [getD_app_l (by rw [hl]; exact hi), getD_app_l hi] at this
  · have := h.2 vs.length (by simp)
    rw [getD_snoc] at this
    rw [← hl, getD_snoc] at this
    exact this
structure LX where
  v : Value
  ws : List Value
  W : List (List Nat)
  Mo : HL
  Mi : HL
  Mc : HL
  n : Nat
structure LY where
  k : Nat
  v : Value
  ws : List Value
  W : List (List Nat)
  Mo : HL
  Mi : HL
  n : Nat
attribute [local irreducible] gOK WS WC WR WD Ends FS YS OpV seqK blockK loopK midK retK rdK asgK rangeEnd sat Cell
section
variable {M : HL} {n0 : Nat} {H : Heap} {v w : Value}
theorem Clone_fs (hH : hasH M n0 H) {l : List Nat} (hS : Sl M 1 v (nodes l)) (h0 : l = [] → v = .slice none 0 0) (hl : l.length ≤ 1000) :
    FS C 107 [v] H (fun e H' => ∃ Mx n', Own 3 1 e (nodes l) Mx ∧ n0 ≤ n' ∧ hasH (Mx ++ M) n' H') := by
  by_cases hl0 : l = []
  · have hv := h0 hl0
    subst hv
    subst hl0
    refine FS.intro (pf := pf107) rfl rfl rfl ?_
    repeat' (first | refine zP ?_ | refine zA ?_ | (refine zM ?_; intro _ _) | refine zX ?_ | (refine zC ?_; intro _ _ _ _) | (refine zS ?_; intro _ _) | (apply Ws <;> intro hg))
    exact Ends.ret1 rfl ⟨[], n0, .nil, Nat.le_refl _, hH⟩
  · have hne : nodes l ≠ [] := fun h => hl0 (List.map_eq_nil_iff.1 h)
    have hl1 : 0 < l.length := List.length_pos_iff.2 hl0
    have hsm : ∃ a len cap, v = .slice (some a) len cap := by
      generalize nodes l = cs at hS hne
      cases hS with
      | nil c => exact absurd rfl hne
      | emp a => exact ⟨_, _, _, rfl⟩
      | row => exact ⟨_, _, _, rfl⟩
    obtain ⟨a, len, cap, rfl⟩ := hsm
    refine FS.intro (pf := pf107) rfl rfl rfl ?_
    repeat' (first | refine zP ?_ | refine zA ?_ | (refine zM ?_; intro _ _) | refine zX ?_ | (refine zC ?_; intro _ _ _ _) | (refine zS ?_; intro _ _) | (apply Ws <;> intro hg))
    refine WR.bldS (by first | exact gN | exact gS rfl) rfl hH (vs := []) rfl (cs := []) (by rfl) rfl fun H3 hH3 => ?_
    repeat' (first | refine zP ?_ | refine zA ?_ | (refine zM ?_; intro _ _) | refine zX ?_ | (refine zC ?_; intro _ _ _ _) | (refine zS ?_; intro _ _) | (apply Ws <;> intro hg))
    obtain ⟨hk, hsr⟩ := (hS.cons (p := (n0, .row 3 0 0 []))).src hH3 hne
    refine WR.appendNew (by first | exact gN | exact gS rfl) rfl rfl rfl hH3 (.head _) (.row _ _ _ _) (Nat.zero_le _) (Nat.zero_le _) hk (by have := hsr _ (Nat.le_refl _); rw [List.take_length] at this; exact this) (by simp) (by simp; omega) (nodes_one' _) (by omega) (by omega) (by simp; omega) fun H' hH' => ?_
    repeat' (first | refine zP ?_ | refine zA ?_ | (refine zM ?_; intro _ _) | refine zX ?_ | (refine zC ?_; intro _ _ _ _) | (refine zS ?_; intro _ _) | (apply Ws <;> intro hg))
    exact Ends.ret1 rfl ⟨[(n0 + 1, .row 3 0 0 (nodes l))], n0 + 2, .row (by simp), by omega, hH'.sub (.cons_cons _ (List.sublist_cons_self _ _))⟩
set_option maxHeartbeats 4000000 in
theorem listsIt_fs {l ff bl bb bf len bound : Nat} {fits : List Nat → Nat → Bool} {B : HL} {J : List (List Nat) → HL → Prop} {Stop : List Nat → Value → HL → Prop} (hlen : len ≤ 7) (hbound : bound ≤ 7)
    (hfit : ∀ {T : HL} {n : Nat} {H : Heap} {u : Value} {b : List Nat} {x : Nat}, hasH T n H → Sl T 1 u (nodes b) → b.length ≤ 10 → FS C ff ([] ++ [u, .int .i64 (x : Int)] ++ []) H (fun e H' => H' = H ∧ e = .bool (fits b x)))
    (hH : hasH M n0 H) (hml : (bl, Ch.row 3 0 0 [.int .i64 (len : Int)]) ∈ B) (hmb : (bb, Ch.row 3 0 0 [.int .i64 (bound : Int)]) ∈ B) (hmf : (bf, Ch.row 83 0 0 [.func (.func ff) [].toArray [].toArray]) ∈ B)
    (hB : ∀ zs Mc, J zs Mc → ∀ p ∈ B, p ∈ Mc) (hJ : J (extL bound fits len []) M)
    (hy : ∀ z zs Mc T u n' H', n0 ≤ n' → J (z :: zs) Mc → Sl T 1 u (nodes z) → hasH (Mc ++ T) n' H' → YS C l [u] H'
      (fun r H2 => ∃ M2 n2, n' ≤ n2 ∧ hasH (M2 ++ T) n2 H2 ∧ ((r = .bool true ∧ J zs M2) ∨ (r = .bool false ∧ Stop z u M2)))) :
    FS C 103 [.func (.yield l) #[] #[], ptrO bl 0, ptrO bb 0, ptrO bf 0] H (fun _ H' => ∃ M2 T n2, n0 ≤ n2 ∧ hasH (M2 ++ T) n2 H' ∧ (J [] M2 ∨ ∃ z u, Sl T 1 u (nodes z) ∧ Stop z u M2)) := by
  refine FS.intro (pf := pf103) rfl rfl rfl ?_
  repeat' (first | refine zP ?_ | refine zA ?_ | (refine zM ?_; intro _ _) | refine zX ?_ | (refine zC ?_; intro _ _ _ _) | (refine zS ?_; intro _ _) | (apply Ws <;> intro hg))
  rename_i H1 hH1
  refine WR.call (by first | exact gN | exact gS rfl) rfl rfl (bringL_fs (a := .slice none 0 0) rfl (S := []) .nil (cs := [.slice none 0 0]) hH1 rfl (Nat.zero_le _)) ?_
  rintro _ H2 ⟨v1, Mo1, n1, hO1, hn1, hH2⟩
  replace hH2 : hasH ((n0, .row 108 0 0 [v1]) :: (Mo1 ++ M)) n1 H2 := hH2
  clear hH hH1
  repeat' (first | refine zP ?_ | refine zA ?_ | (refine zM ?_; intro _ _) | refine zX ?_ | (refine zC ?_; intro _ _ _ _) | (refine zS ?_; intro _ _) | (apply Ws <;> intro hg))
  refine WC.loopX [(0, _), (1, _), (2, _), (3, _), (5, ptrO n0 0)] (fun z : LX => []) []
    (fun z H' => n0 ≤ z.n ∧ WaitS len bound z.W ∧ J (rst len bound fits z.W) z.Mc ∧ StkO 22 z.v z.ws z.Mo ∧ RowsZ z.Mi z.ws z.W ∧ hasH ((n0, .row 108 0 0 [z.v]) :: (z.Mo ++ (z.Mi ++ z.Mc))) z.n H') (fun z => wgt len bound z.W) ⟨v1, [.slice none 0 0], [[]], Mo1, [], M, n1⟩ (by repeat' (first | exact .nil | refine .cons rfl ?_)) rfl
    ⟨by simp only; omega, ⟨fun i hi => by simp at hi; subst hi; exact Nat.zero_le _, fun i hi => by simp at hi; subst hi; exact Nat.zero_le _⟩, by simpa [rst] using hJ, hO1, RowsZ.snoc (RowsZ.nil _) (.nil 0) (fun _ => rfl), hH2⟩ ?_
  clear hH2 hO1 hJ
  rintro ⟨v, ws, W, Mo, Mi, Mc, n2⟩ H3 ⟨hn2, hW, hJ, hO, hR, hH⟩
  simp only at hn2 hW hJ hO hR hH
  dsimp only [List.cons_append, List.nil_append]
  have hC := cell_row (M := (n0, Ch.row 108 0 0 [v]) :: (Mo ++ (Mi ++ Mc))) (.head _) (o := 0) (v := v) rfl
  repeat' (first | refine zP ?_ | refine zA ?_ | (refine zM ?_; intro _ _) | refine zX ?_ | (refine zC ?_; intro _ _ _ _) | (refine zS ?_; intro _ _) | (apply Ws <;> intro hg))
  refine WR.call (by first | exact gN | exact gS rfl) rfl rfl (isEmptyL_fs hH hC (hO.sl _).cons) ?_
  rintro _ H4 ⟨rfl, rfl⟩
  have hwl := hR.1
  rcases List.eq_nil_or_concat W with rfl | ⟨W0, b, rfl⟩
  · rw [decide_eq_true (by rw [hwl]; rfl)]
    repeat' (first | refine zP ?_ | refine zA ?_ | (refine zM ?_; intro _ _) | refine zX ?_ | (refine zC ?_; intro _ _ _ _) | (refine zS ?_; intro _ _) | refine zO ?_ | (apply Ws <;> intro hg))
    exact Ends.end0 ⟨Mc, (n0, Ch.row 108 0 0 [v]) :: (Mo ++ Mi), n2, hn2, hH.perm (by classical exact List.perm_iff_count.2 (fun a => by simp only [defds, List.map_cons, List.map_nil, List.count_append, List.count_cons, List.count_nil, List.cons_append, List.nil_append, List.append_nil]; omega)), .inl hJ⟩
  · obtain ⟨ws0, u, rfl⟩ : ∃ ws0 u, ws = ws0 ++ [u] := by
      rcases List.eq_nil_or_concat ws with rfl | ⟨ws0, u, h⟩
      · simp at hwl
      · exact ⟨ws0, u, by rw [h, List.concat_eq_append]⟩
    rw [List.concat_eq_append] at hW hJ hR hwl
    rw [List.concat_eq_append]
    rw [decide_eq_false (by simp)]
    have hfew := hW.few hlen hbound
    have hbl := hW.len W0.length (by simp)
    have hbi := hW.idx W0.length (by simp)
    rw [getD_snoc] at hbl hbi
    obtain ⟨hR0, hSu, hu0⟩ := hR.init
    have hW0 := hW.init
    clear hR hW
    rw [rst_snoc] at hJ
    have hu1 := hSu.one_
    repeat' (first | refine zP ?_ | refine zA ?_ | (refine zM ?_; intro _ _) | refine zX ?_ | (refine zC ?_; intro _ _ _ _) | (refine zS ?_; intro _ _) | refine zO ?_ | (apply Ws <;> intro hg))
    refine WR.call (by first | exact gN | exact gS rfl) rfl rfl (takeL_fs hO hH rfl) ?_
    rintro r H5 ⟨hr, v', hO', hH5⟩
    rw [hr]
    clear hr hH hC hO
    replace hH5 : hasH ((n0, .row 108 0 0 [v']) :: (Mo ++ (Mi ++ Mc))) n2 H5 := hH5
    have hBM : ∀ p ∈ B, p ∈ (n0, Ch.row 108 0 0 [v']) :: (Mo ++ (Mi ++ Mc)) := fun p hp => List.mem_cons_of_mem _ (List.mem_append_right _ (List.mem_append_right _ (hB _ _ hJ p hp)))
    have mL := hBM _ hml
    have mB := hBM _ hmb
    have hSu5 := (hSu.mono fun q hq => List.mem_append_right Mo (List.mem_append_left Mc hq)).cons (p := (n0, Ch.row 108 0 0 [v']))
    repeat' (first | refine zP ?_ | refine zA ?_ | (refine zM ?_; intro _ _) | refine zX ?_ | (refine zC ?_; intro _ _ _ _) | (refine zS ?_; intro _ _) | (apply Ws <;> intro hg))
    refine WC.condP rfl (fun hfull => ?_) (fun hfull => ?_)
    · have hfl : len - b.length = 0 := by omega
      rw [hfl] at hJ
      replace hJ : J (b :: rst len bound fits W0) Mc := hJ
      repeat' (first | refine zP ?_ | refine zA ?_ | (refine zM ?_; intro _ _) | refine zX ?_ | (refine zC ?_; intro _ _ _ _) | (refine zS ?_; intro _ _) | (apply Ws <;> intro hg))
      refine WR.yield (by first | exact gN | exact gS rfl) rfl rfl rfl (hy b _ Mc ((n0, Ch.row 108 0 0 [v']) :: (Mo ++ Mi)) u n2 H5 hn2 hJ ((hSu.mono fun q hq => List.mem_append_right Mo hq).cons) (hH5.perm (by classical exact List.perm_iff_count.2 (fun a => by simp only [defds, List.map_cons, List.map_nil, List.count_append, List.count_cons, List.count_nil, List.cons_append, List.nil_append, List.append_nil]; omega)))) ?_
      rintro r H6 ⟨Mc2, n6, hn6, hH6, ⟨rfl, hJ2⟩ | ⟨rfl, hSt⟩⟩
      · repeat' (first | refine zP ?_ | refine zA ?_ | (refine zM ?_; intro _ _) | refine zX ?_ | (refine zC ?_; intro _ _ _ _) | (refine zS ?_; intro _ _) | (apply Ws <;> intro hg))
        refine Ends.loop ⟨v', ws0, W0, Mo, Mi, Mc2, n6⟩ ?_ (by repeat' (first | exact .nil | refine .cons rfl ?_)) rfl ⟨Nat.le_trans hn2 hn6, hW0, hJ2, hO', hR0, hH6.perm (by classical exact List.perm_iff_count.2 (fun a => by simp only [defds, List.map_cons, List.map_nil, List.count_append, List.count_cons, List.count_nil, List.cons_append, List.nil_append, List.append_nil]; omega))⟩
        simp only [wgt_snoc, hfl, Nat.pow_zero]; omega
      · repeat' (first | refine zP ?_ | refine zA ?_ | (refine zM ?_; intro _ _) | refine zX ?_ | (refine zC ?_; intro _ _ _ _) | (refine zS ?_; intro _ _) | (apply Ws <;> intro hg))
        exact Ends.ret0 ⟨Mc2, _, n6, by omega, hH6, .inr ⟨b, u, (hSu.mono fun q hq => List.mem_append_right Mo hq).cons, hSt⟩⟩
    · obtain ⟨m, hm⟩ : ∃ m, len - b.length = m + 1 := ⟨len - b.length - 1, by omega⟩
      rw [hm, ← extK_zero] at hJ
      repeat' (first | refine zP ?_ | refine zA ?_ | (refine zM ?_; intro _ _) | refine zX ?_ | (refine zC ?_; intro _ _ _ _) | (refine zS ?_; intro _ _) | (apply Ws <;> intro hg))
      clear mL mB hSu5
      refine WC.loopX [(0, _), (1, _), (2, _), (3, _), (5, ptrO n0 0), (6, u)] (fun z : LY => [(7, .int .i64 ((z.k : Int) - 1))]) []
        (fun z H' => z.k ≤ bound ∧ n0 ≤ z.n ∧ WaitS len bound z.W ∧ rst len bound fits z.W = extK bound fits m b z.k ++ rst len bound fits W0 ∧ wgt len bound z.W + z.k * (bound + 1) ^ m ≤ wgt len bound W0 + bound * (bound + 1) ^ m ∧ z.W.length + z.k ≤ W0.length + bound ∧
          StkO 22 z.v z.ws z.Mo ∧ RowsZ z.Mi z.ws z.W ∧ Sl z.Mi 1 u (nodes b) ∧ hasH ((n0, .row 108 0 0 [z.v]) :: (z.Mo ++ (z.Mi ++ Mc))) z.n H') (fun z => z.k) ⟨bound, v', ws0, W0, Mo, Mi, n2⟩ (by repeat' (first | exact .nil | refine .cons rfl ?_)) rfl
        ⟨Nat.le_refl _, hn2, hW0, by simp only [extK_all]; rfl, Nat.le_refl _, Nat.le_refl _, hO', hR0, hSu, hH5⟩ ?_
      clear hH5 hO' hR0 hSu hW0 hBM
      rintro ⟨k, v, ws, W, Mo, Mi, n7⟩ H7 ⟨hk, hn7, hW, hrst, hwg, hwc, hO, hR, hSu, hH⟩
      simp only at hk hn7 hW hrst hwg hwc hO hR hSu hH
      dsimp only [List.cons_append, List.nil_append]
      repeat' (first | refine zP ?_ | refine zA ?_ | (refine zM ?_; intro _ _) | refine zX ?_ | (refine zC ?_; intro _ _ _ _) | (refine zS ?_; intro _ _) | (apply Ws <;> intro hg))
      refine WC.condP rfl (fun hk0 => ?_) (fun hk0 => ?_)
      · obtain ⟨k, rfl⟩ : ∃ j, k = j + 1 := ⟨k - 1, by omega⟩
        rw [show ((k + 1 : Nat) : Int) - 1 = (k : Int) by omega]
        have hBM : ∀ p ∈ B, p ∈ (n0, Ch.row 108 0 0 [v]) :: (Mo ++ (Mi ++ Mc)) := fun p hp => List.mem_cons_of_mem _ (List.mem_append_right _ (List.mem_append_right _ (hB _ _ hJ p hp)))
        have mF := hBM _ hmf
        have hSu7 := (hSu.mono fun q hq => List.mem_append_right Mo (List.mem_append_left Mc hq)).cons (p := (n0, Ch.row 108 0 0 [v]))
        have hes := extK_step fits m b (show k < bound by omega)
        repeat' (first | refine zP ?_ | refine zA ?_ | (refine zM ?_; intro _ _) | refine zX ?_ | (refine zC ?_; intro _ _ _ _) | (refine zS ?_; intro _ _) | (apply Ws <;> intro hg))
        refine WR.callV (by first | exact gN | exact gS rfl) rfl rfl rfl (hfit hH hSu7 (by omega)) ?_
        rintro _ H8 ⟨rfl, rfl⟩
        have hmul : (k + 1) * (bound + 1) ^ m = k * (bound + 1) ^ m + (bound + 1) ^ m := Nat.succ_mul _ _
        cases hf : fits b k with
        | false =>
          rw [hf, if_neg (by decide), List.nil_append] at hes
          repeat' (first | refine zP ?_ | refine zA ?_ | (refine zM ?_; intro _ _) | refine zX ?_ | (refine zC ?_; intro _ _ _ _) | (refine zS ?_; intro _ _) | (apply Ws <;> intro hg))
          refine Ends.loop ⟨k, v, ws, W, Mo, Mi, n7⟩ (by simp only; omega) (by repeat' (first | exact .nil | refine .cons rfl ?_)) rfl ⟨by simp only; omega, hn7, hW, by simp only; rw [hrst, hes], by simp only; omega, by simp only; omega, hO, hR, hSu, hH⟩
        | true =>
          rw [hf, if_pos rfl] at hes
          repeat' (first | refine zP ?_ | refine zA ?_ | (refine zM ?_; intro _ _) | refine zX ?_ | (refine zC ?_; intro _ _ _ _) | (refine zS ?_; intro _ _) | (apply Ws <;> intro hg))
          refine WR.call (by first | exact gN | exact gS rfl) rfl rfl (Clone_fs hH hSu7 hu0 (by omega)) ?_
          rintro e9 H9 ⟨Mx, n9, hOx, hn9, hH9⟩
          repeat' (first | refine zP ?_ | refine zA ?_ | (refine zM ?_; intro _ _) | refine zX ?_ | (refine zC ?_; intro _ _ _ _) | (refine zS ?_; intro _ _) | (apply Ws <;> intro hg))
          refine WR.append1RF [] Mx _ rfl rfl rfl rfl hOx hH9 (new := [.int .i64 (k : Int)]) (by rfl) rfl rfl (Nat.le_refl _) (by omega) (by simp; omega) fun v4 M4 n4 H10 hO4 hH10 hn4 => ?_
          have hv41 := (hO4.own.sl []).one_
          have hwl2 := hR.1
          have hfew2 := hW.few hlen hbound
          repeat' (first | refine zP ?_ | refine zA ?_ | (refine zM ?_; intro _ _) | refine zX ?_ | (refine zC ?_; intro _ _ _ _) | (refine zS ?_; intro _ _) | (apply Ws <;> intro hg))
          refine WR.call (by first | exact gN | exact gS rfl) rfl rfl (bringL_fs (e := 108) (b := n0) (o := 0) (M := M4 ++ (Mi ++ Mc)) hv41 hO (cs := [v]) (hH10.perm (by classical exact List.perm_iff_count.2 (fun a => by simp only [defds, List.map_cons, List.map_nil, List.count_append, List.count_cons, List.count_nil, List.cons_append, List.nil_append, List.append_nil]; omega))) rfl (by omega)) ?_
          rintro _ H11 ⟨v5, Mo5, n5, hO5, hn5, hH11⟩
          replace hH11 : hasH ((n0, .row 108 0 0 [v5]) :: (Mo5 ++ (M4 ++ (Mi ++ Mc)))) n5 H11 := hH11
          repeat' (first | refine zP ?_ | refine zA ?_ | (refine zM ?_; intro _ _) | refine zX ?_ | (refine zC ?_; intro _ _ _ _) | (refine zS ?_; intro _ _) | (apply Ws <;> intro hg))
          refine Ends.loop ⟨k, v5, ws ++ [v4], W ++ [b ++ [k]], Mo5, M4 ++ Mi, n5⟩ (by simp only; omega) (by repeat' (first | exact .nil | refine .cons rfl ?_)) rfl ⟨by simp only; omega, by simp only; omega, ?_, ?_, ?_, ?_, hO5, ?_, hSu.mono fun q hq => List.mem_append_right _ hq, hH11.perm (by classical exact List.perm_iff_count.2 (fun a => by simp only [defds, List.map_cons, List.map_nil, List.count_append, List.count_cons, List.count_nil, List.cons_append, List.nil_append, List.append_nil]; omega))⟩
          · refine hW.snoc ?_ (by simp; omega)
            rw [List.length_append, List.length_singleton, Nat.mul_add, Nat.mul_one]; omega
          · simp only [rst_snoc, hrst, hes, ← List.append_assoc]
            rw [show len - (b ++ [k]).length = m by simp; omega]
          · simp only [wgt_snoc]
            rw [show len - (b ++ [k]).length = m by simp; omega]; omega
          · simp only [List.length_append, List.length_singleton]; omega
          · refine RowsZ.snoc (hR.mono fun q hq => List.mem_append_right _ hq) ?_ (fun h => by simp at h)
            have := hO4.own.sl Mi
            rw [nodes_snoc]; exact this
      · have hk00 : k = 0 := by omega
        subst hk00
        repeat' (first | refine zP ?_ | refine zA ?_ | (refine zM ?_; intro _ _) | refine zX ?_ | (refine zC ?_; intro _ _ _ _) | (refine zS ?_; intro _ _) | (apply Ws <;> intro hg))
        refine Ends.loop ⟨v, ws, W, Mo, Mi, Mc, n7⟩ ?_ (by repeat' (first | exact .nil | refine .cons rfl ?_)) rfl ⟨hn7, hW, by simp only; rw [hrst]; exact hJ, hO, hR, hH⟩
        have hp : 0 < (bound + 1) ^ m := Nat.pow_pos (by omega)
        have hps : (bound + 1) ^ (m + 1) = bound * (bound + 1) ^ m + (bound + 1) ^ m := by rw [Nat.pow_succ, Nat.mul_comm, Nat.succ_mul]
        simp only [wgt_snoc, hm, hps]; omega
end
end Go.Proofs.Ytfnflkcjhefddaa.Lk

/- Barges leave in the ascending order just if no two of a basin clash. -/
namespace Go.Proofs.Ytfnflkcjhefddaa.Lk
open Go Go.Abs Go.Mth
set_option linter.unusedVariables false
set_option linter.unusedSimpArgs false
def clashP (o : List Nat) (i j : Nat) : Prop := o.getD i 0 < o.getD j 0 ∧ ∃ k, j < k ∧ k < o.length ∧ o.getD k 0 < o.getD i 0
def WK (o t : List Nat) (k : Nat) : Nat := o.length - (basK o t (List.range o.length) k).2.2.length
structure StB (o t : List Nat) (k w : Nat) : Prop where
  bas : ∃ p q, basK o t (List.range o.length) k = (p, q, upN w o.length) ∧ InvB o t k w p q ∧ (w < o.length → p.head? ≠ some w ∧ q.head? ≠ some w)
  le : w ≤ o.length
end Go.Proofs.Ytfnflkcjhefddaa.Lk

/- The first of the lists with which two basins are enough. -/
namespace Go.Proofs.Ytfnflkcjhefddaa.Lk
open Go Go.Abs Go.Mth
set_option linter.unusedVariables false
set_option linter.unusedSimpArgs false
theorem ext_props {bound : Nat} {fits : List Nat → Nat → Bool} : ∀ {m : Nat} {b z : List Nat}, z ∈ extL bound fits m b → z.length = b.length + m ∧ b <+: z ∧ ∀ i, b.length ≤ i → i < z.length → z.getD i 0 < bound
  | 0, b, z, h => by
    rw [extL, List.mem_singleton] at h
    subst h
    exact ⟨rfl, List.prefix_refl _, fun i h1 h2 => by omega⟩
  | m + 1, b, z, h => by
    simp only [extL, List.mem_flatMap, List.mem_filter, List.mem_range] at h
    obtain ⟨x, ⟨hx, hf⟩, hz⟩ := h
    obtain ⟨h1, h2, h3⟩ := ext_props hz
    rw [List.length_append, List.length_singleton] at h1 h3
    refine ⟨by omega, (List.prefix_append b [x]).trans h2, fun i hi hl => ?_⟩
    by_cases e : i = b.length
    · obtain ⟨r, rfl⟩ := h2
      rw [e, getD_app_l (by simp), getD_snoc]; exact hx
    · exact h3 i (by omega) hl
/-- Lists of zeros and ones. -/
def allT (n : Nat) : List (List Nat) := extL 2 (fun _ _ => true) n []
def twoL (o : List Nat) : Option (List Nat) := (allT o.length).find? (ascT o)
attribute [local irreducible] gOK WS WC WR WD Ends FS YS OpV seqK blockK loopK midK retK rdK asgK rangeEnd sat Cell
section
variable {M : HL} {n0 : Nat} {H : Heap} {v w : Value}
theorem lists_fs (hH : hasH M n0 H) (len bound ff : Nat) :
    FS C 77 [.int .i64 (len : Int), .int .i64 (bound : Int), .func (.func ff) [].toArray [].toArray] H (fun e H' => e = .func (.func 103) [].toArray [ptrO n0 0, ptrO (n0 + 1) 0, ptrO (n0 + 2) 0].toArray ∧
      hasH ((n0 + 2, .row 83 0 0 [.func (.func ff) [].toArray [].toArray]) :: (n0 + 1, .row 3 0 0 [.int .i64 (bound : Int)]) :: (n0, .row 3 0 0 [.int .i64 (len : Int)]) :: M) (n0 + 3) H') := by
  refine FS.intro (pf := pf77) rfl rfl rfl ?_
  repeat' (first | refine zP ?_ | refine zA ?_ | (refine zM ?_; intro _ _) | refine zX ?_ | (refine zC ?_; intro _ _ _ _) | (refine zS ?_; intro _ _) | (apply Ws <;> intro hg))
  rename_i H1 hH1 H2 hH2 H3 hH3
  exact Ends.ret1 rfl ⟨rfl, hH3⟩
end
end Go.Proofs.Ytfnflkcjhefddaa.Lk

/- For how many orders some passes are enough. -/
namespace Go.Proofs.Ytfnflkcjhefddaa.Lk
open Go Go.Abs Go.Mth
set_option linter.unusedVariables false
set_option linter.unusedSimpArgs false
def newF (b : List Nat) (x : Nat) : Bool := !decide (x ∈ b)
def allO (n : Nat) : List (List Nat) := extL n newF n []
theorem ext_new {n : Nat} : ∀ {m : Nat} {b z : List Nat}, z ∈ extL n newF m b → b.Nodup → (∀ x ∈ b, x < n) → z.Nodup ∧ ∀ x ∈ z, x < n
  | 0, b, z, h, hn, hb => by
    rw [extL, List.mem_singleton] at h
    subst h; exact ⟨hn, hb⟩
  | m + 1, b, z, h, hn, hb => by
    simp only [extL, List.mem_flatMap, List.mem_filter, List.mem_range] at h
    obtain ⟨x, ⟨hx, hf⟩, hz⟩ := h
    have hxb : x ∉ b := by simpa [newF] using hf
    refine ext_new hz ?_ fun y hy => ?_
    · rw [List.nodup_append]
      refine ⟨hn, by simp, fun a ha c hc => ?_⟩
      rw [List.mem_singleton.1 hc]
      rintro rfl; exact hxb ha
    · rcases List.mem_append.1 hy with h | h
      · exact hb y h
      · rw [List.mem_singleton.1 h]; exact hx
theorem allO_ord {n : Nat} (h1 : 1 ≤ n) (h7 : n ≤ 7) {z : List Nat} (h : z ∈ allO n) : OrdN z ∧ z.length = n := by
  have hl : z.length = n := by have := (ext_props h).1; simpa using this
  obtain ⟨h2, h3⟩ := ext_new h List.nodup_nil (fun x hx => by cases hx)
  exact ⟨⟨by omega, by omega, fun x hx => by rw [hl]; exact h3 x hx, h2⟩, hl⟩
theorem ext_len (bound : Nat) (fits : List Nat → Nat → Bool) : ∀ (m : Nat) (b : List Nat), (extL bound fits m b).length ≤ bound ^ m
  | 0, b => by simp [extL]
  | m + 1, b => by
    simp only [extL]
    have key : ∀ (W : List Nat), (W.flatMap fun x => extL bound fits m (b ++ [x])).length ≤ W.length * bound ^ m := by
      intro W
      induction W with
      | nil => simp
      | cons x W ih =>
        have := ext_len bound fits m (b ++ [x])
        rw [List.flatMap_cons, List.length_append, List.length_cons, Nat.succ_mul]; omega
    refine Nat.le_trans (key _) ?_
    rw [Nat.pow_succ, Nat.mul_comm]
    exact Nat.mul_le_mul_left _ (Nat.le_trans (List.length_filter_le _ _) (by simp))
theorem allO_len {n : Nat} (h7 : n ≤ 7) : (allO n).length ≤ 823543 := by
  refine Nat.le_trans (ext_len n newF n []) ?_
  have h1 : n ^ n ≤ 7 ^ n := Nat.pow_le_pow_left h7 n
  have h2 : 7 ^ n ≤ 7 ^ 7 := Nat.pow_le_pow_right (by decide) h7
  exact Nat.le_trans h1 (Nat.le_trans h2 (by decide))
def enoughB (p : Int) (z : List Nat) : Bool := ascB (pit z p.toNat)
def cntO (n : Nat) (p : Int) : Nat := ((allO n).filter (enoughB p)).length
theorem PassN.enough {z : List Nat} (hz : OrdN z) {k : Nat} {p : Int} (h : PassN z k) (hp : 0 ≤ p) : enoughB p z = decide ((k : Int) ≤ p) := by
  have := h.iff hz p.toNat
  unfold enoughB
  cases hb : ascB (pit z p.toNat) with
  | true => rw [decide_eq_true]; have := this.1 hb; omega
  | false => rw [decide_eq_false]; intro hk; rw [this.2 (by omega)] at hb; cases hb
def badC (n p : Int) : Prop := n < 1 ∨ 7 < n ∨ p < 0
instance (n p : Int) : Decidable (badC n p) := by unfold badC; infer_instance
def cntR (n p : Int) (e : Value) : Prop := (badC n p ∧ e = .tuple #[.int .i64 0, .int .i64 1]) ∨ (¬ badC n p ∧ e = .tuple #[.int .i64 (cntO n.toNat p : Int), .int .i64 0])
attribute [local irreducible] gOK WS WC WR WD Ends FS YS OpV seqK blockK loopK midK retK rdK asgK rangeEnd sat Cell
section
variable {M : HL} {n0 : Nat} {H : Heap} {v w : Value}
theorem isNew_fs {T : HL} {n : Nat} {H : Heap} {u : Value} {b : List Nat} {x : Nat} (hH : hasH T n H) (hS : Sl T 1 u (nodes b)) (hl : b.length ≤ 10) : FS C 78 ([] ++ [u, .int .i64 (x : Int)] ++ []) H (fun e H' => H' = H ∧ e = .bool (newF b x)) := by
  have hS2 : Sl T 1 u (ints (IL b)) := by rw [← nodes_IL]; exact hS
  refine FS.intro (pf := pf78) rfl rfl rfl ?_
  clear hS2
  repeat' (first | refine zP ?_ | refine zA ?_ | (refine zM ?_; intro _ _) | refine zX ?_ | (refine zC ?_; intro _ _ _ _) | (refine zS ?_; intro _ _) | (apply Ws <;> intro hg))
  refine WR.call (by first | exact gN | exact gS rfl) rfl rfl (Contains_fs hH (xs := IL b) (by rw [← nodes_IL]; exact hS) (by rw [IL_len]; omega) _) ?_
  rintro _ _ ⟨rfl, rfl⟩
  repeat' (first | refine zP ?_ | refine zA ?_ | (refine zM ?_; intro _ _) | refine zX ?_ | (refine zC ?_; intro _ _ _ _) | (refine zS ?_; intro _ _) | (apply Ws <;> intro hg))
  refine Ends.ret1 rfl ⟨rfl, ?_⟩
  unfold newF
  have : ((x : Int) ∈ IL b) ↔ x ∈ b := mem_cast
  by_cases h : x ∈ b
  · rw [decide_eq_true h]; congr 1; exact decide_eq_false (not_not_intro (this.2 h))
  · rw [decide_eq_false h]; congr 1; exact decide_eq_true (fun k => h (this.1 k))
set_option maxHeartbeats 4000000 in
theorem Count_fs (hH : hasH M n0 H) (n p : Int) :
    FS C 33 [.int .i64 n, .int .i64 p] H (fun e H' => ∃ M2 n', cntR n p e ∧ n0 ≤ n' ∧ hasH (M2 ++ M) n' H') := by
  by_cases hb : badC n p
  · refine FS.intro (pf := pf33) rfl rfl rfl ?_
    refine WC.seq ?_
    refine WC.region ?_
    refine WR.box1 (by first | exact gN | exact gS rfl) rfl hH rfl rfl fun H1 hH1 => ?_
    by_cases h1 : n < 1
    · repeat' (first | refine zP ?_ | refine zA ?_ | (refine zM ?_; intro _ _) | refine zX ?_ | (refine zC ?_; intro _ _ _ _) | (refine zS ?_; intro _ _) | refine zO ?_ | (apply Ws <;> intro hg))
      exact Ends.ret2 rfl rfl ⟨[(n0, Ch.row 3 0 0 [.int .i64 p])], n0 + 1, .inl ⟨hb, rfl⟩, by omega, hH1⟩
    · by_cases h2 : 7 < n
      · repeat' (first | refine zP ?_ | refine zA ?_ | (refine zM ?_; intro _ _) | refine zX ?_ | (refine zC ?_; intro _ _ _ _) | (refine zS ?_; intro _ _) | refine zO ?_ | (apply Ws <;> intro hg))
        exact Ends.ret2 rfl rfl ⟨[(n0, Ch.row 3 0 0 [.int .i64 p])], n0 + 1, .inl ⟨hb, rfl⟩, by omega, hH1⟩
      · have h3 : p < 0 := by unfold badC at hb; omega
        repeat' (first | refine zP ?_ | refine zA ?_ | (refine zM ?_; intro _ _) | refine zX ?_ | (refine zC ?_; intro _ _ _ _) | (refine zS ?_; intro _ _) | refine zO ?_ | (apply Ws <;> intro hg))
        exact Ends.ret2 rfl rfl ⟨[(n0, Ch.row 3 0 0 [.int .i64 p])], n0 + 1, .inl ⟨hb, rfl⟩, by omega, hH1⟩
  · have hb2 : 1 ≤ n ∧ n ≤ 7 ∧ 0 ≤ p := by unfold badC at hb; omega
    obtain ⟨n, rfl⟩ : ∃ m : Nat, n = m := ⟨n.toNat, by omega⟩
    have hn1 : 1 ≤ n := by omega
    have hn7 : n ≤ 7 := by omega
    have hp0 := hb2.2.2
    have hal := allO_len hn7
    refine FS.intro (pf := pf33) rfl rfl rfl ?_
    refine WC.seq ?_
    refine WC.region ?_
    refine WR.box1 (by first | exact gN | exact gS rfl) rfl hH rfl rfl fun H1 hH1 => ?_
    repeat' (first | refine zP ?_ | refine zA ?_ | (refine zM ?_; intro _ _) | refine zX ?_ | (refine zC ?_; intro _ _ _ _) | (refine zS ?_; intro _ _) | refine zO ?_ | (apply Ws <;> intro hg))
    rename_i H2 hH2
    refine WR.call (by first | exact gN | exact gS rfl) rfl rfl (lists_fs hH2 n n 78) ?_
    rintro _ H5 ⟨rfl, hH5⟩
    clear hH hH1 hH2
    repeat' (first | refine zP ?_ | refine zA ?_ | (refine zM ?_; intro _ _) | refine zX ?_ | (refine zC ?_; intro _ _ _ _) | (refine zS ?_; intro _ _) | (apply Ws <;> intro hg))
    refine WC.range0 (va := []) (vb := [ptrO (n0 + 1 + 1) 0, ptrO (n0 + 1 + 1 + 1) 0, ptrO (n0 + 1 + 1 + 2) 0]) rfl hH5 fun t ht H6 hH6 => ?_
    generalize hRR : ({ state := .ready, pending := none, fn := 33, tmps := t, params := [21], assign := _, body := _, nt := _ } : LoopE) = R at hH6
    obtain ⟨nn, hnn, hnn0⟩ : ∃ nn, n0 + 1 + 1 + 3 + 2 = nn ∧ n0 ≤ nn := ⟨_, rfl, by omega⟩
    rw [hnn] at hH6
    generalize n0 + 1 + 1 + 3 + 1 = lp at hH6 ⊢
    generalize n0 + 1 + 1 + 3 = df at hH6 ⊢
    generalize n0 + 1 + 1 + 2 = l3 at hH6 ⊢
    generalize n0 + 1 + 1 + 1 = l2 at hH6 ⊢
    generalize n0 + 1 + 1 = l1 at hH6 ⊢
    generalize n0 + 1 = b6 at hH6 hRR ht ⊢
    clear hH5 hnn
    replace hH6 : hasH ((lp, .loop R) :: (df, .defd false) :: (l3, .row 83 0 0 [.func (.func 78) [].toArray [].toArray]) :: (l2, .row 3 0 0 [.int .i64 (n : Int)]) :: (l1, .row 3 0 0 [.int .i64 (n : Int)]) :: (b6, .row 3 0 0 [.int .i64 (0 : Nat)]) :: (n0, .row 3 0 0 [.int .i64 p]) :: M) nn H6 := hH6
    refine FS.mono (listsIt_fs (l := lp) (ff := 78) (bl := l1) (bb := l2) (bf := l3) (len := n) (bound := n) (fits := newF)
      (B := (l3, .row 83 0 0 [.func (.func 78) [].toArray [].toArray]) :: (l2, .row 3 0 0 [.int .i64 (n : Int)]) :: (l1, .row 3 0 0 [.int .i64 (n : Int)]) :: [])
      (J := fun zs Mc => ∃ ds, ds ++ zs = allO n ∧ Mc = (lp, .loop R) :: (df, .defd false) :: (l3, .row 83 0 0 [.func (.func 78) [].toArray [].toArray]) :: (l2, .row 3 0 0 [.int .i64 (n : Int)]) :: (l1, .row 3 0 0 [.int .i64 (n : Int)]) :: (b6, .row 3 0 0 [.int .i64 ((ds.filter (enoughB p)).length : Nat)]) :: (n0, .row 3 0 0 [.int .i64 p]) :: M)
      (Stop := fun z u Mc => False)
      hn7 hn7 (fun h1 h2 h3 => isNew_fs h1 h2 h3) hH6 (by simp) (by simp) (by simp) ?_ ⟨[], rfl, rfl⟩ ?_) ?_
    · rintro zs Mc ⟨ds, _, rfl⟩ q hq
      simp only [List.mem_cons, List.not_mem_nil, or_false] at hq
      rcases hq with rfl | rfl | rfl <;> simp
    · rintro z zs Mc T0 u n' H7 hn' ⟨ds, hds, rfl⟩ hSz hH7
      simp only [List.cons_append] at hH7
      have hz : z ∈ allO n := by rw [← hds]; simp
      obtain ⟨hzo, hzl⟩ := allO_ord hn1 hn7 hz
      have hu1 := hSz.one_
      have hcl : (ds.filter (enoughB p)).length ≤ 823543 := by
        have h1 := List.length_filter_le (enoughB p) ds
        have h2 := congrArg List.length hds
        rw [List.length_append] at h2
        omega
      refine YS.intro hH7 (.head _) (by rw [← hRR]) (by rw [← hRR]) (by rw [← hRR]; rfl) (by rw [← hRR]; exact ht) ?_
      subst hRR
      dsimp only
      repeat' (first | refine zA ?_ | (refine zM ?_; intro _ _) | (apply Ws <;> intro hg))
      refine Ends.asg hH7 .here fun H8 hH8 => ?_
      dsimp only
      clear hH7
      have hds2 : (ds ++ [z]) ++ zs = allO n := by rw [← hds]; simp
      have hfl : ((ds ++ [z]).filter (enoughB p)).length = (ds.filter (enoughB p)).length + if enoughB p z = true then 1 else 0 := by
        rw [List.filter_append, List.length_append]
        congr 1
        by_cases h : enoughB p z = true
        · rw [if_pos h, List.filter_cons_of_pos h]; rfl
        · rw [if_neg h, List.filter_cons_of_neg h]; rfl
      generalize (ds.filter (enoughB p)).length = cnt at hcl hfl hH8
      generalize hRb : ({ state := .busy, pending := none, fn := 33, tmps := t, params := [21], assign := _, body := _, nt := _ } : LoopE) = Rb at hH8
      have mP : (n0, Ch.row 3 0 0 [.int .i64 p]) ∈ (lp, Ch.loop Rb) :: (df, .defd false) :: (l3, .row 83 0 0 [.func (.func 78) [].toArray [].toArray]) :: (l2, .row 3 0 0 [.int .i64 (n : Int)]) :: (l1, .row 3 0 0 [.int .i64 (n : Int)]) :: (b6, .row 3 0 0 [.int .i64 (cnt : Nat)]) :: (n0, .row 3 0 0 [.int .i64 p]) :: (M ++ T0) := by simp
      have m6 : (b6, Ch.row 3 0 0 [.int .i64 (cnt : Nat)]) ∈ (lp, Ch.loop Rb) :: (df, .defd false) :: (l3, .row 83 0 0 [.func (.func 78) [].toArray [].toArray]) :: (l2, .row 3 0 0 [.int .i64 (n : Int)]) :: (l1, .row 3 0 0 [.int .i64 (n : Int)]) :: (b6, .row 3 0 0 [.int .i64 (cnt : Nat)]) :: (n0, .row 3 0 0 [.int .i64 p]) :: (M ++ T0) := by simp
      refine WC.block ?_
      refine WC.seq ?_
      refine WC.regionD ?_
      repeat' (first | refine zD ?_ | (refine zE ?_; intro _ _ _ _))
      refine WD.call (by first | exact gN | exact gS rfl) rfl rfl (passesOf_fs hH8 (hSz.mono fun q hq => by simp [hq]) hzo) ?_
      rintro _ H9 ⟨k, n9, rfl, hP, hn9, hH9⟩
      refine ⟨stands_cons (.inr (holds_at (hH9.read mP (.row _ _ _ _) (Nat.zero_le _) rfl) (same_int _ _))) stands_nil', ?_⟩
      refine WD.toWR rfl ?_
      clear hH8
      rw [hP.enough hzo hp0] at hfl
      by_cases hkp : (k : Int) ≤ p
      · rw [if_pos (decide_eq_true hkp)] at hfl
        repeat' (first | refine zP ?_ | refine zA ?_ | (refine zM ?_; intro _ _) | refine zX ?_ | (refine zC ?_; intro _ _ _ _) | (refine zS ?_; intro _ _) | refine zO ?_ | (apply Ws <;> intro hg))
        rw [show (cnt : Int) + 1 = ((cnt + 1 : Nat) : Int) by omega]
        refine WR.storeBox (by first | exact gN | exact gS rfl) hH9 rfl rfl rfl (.there (.there (.there (.there (.there .here))))) fun H10 hH10 => ?_
        subst hRb
        repeat' (first | refine zP ?_ | refine zA ?_ | (refine zM ?_; intro _ _) | refine zX ?_ | (refine zC ?_; intro _ _ _ _) | (refine zS ?_; intro _ _) | (apply Ws <;> intro hg))
        refine Ends.rd rfl rfl rfl hH10 .here fun H' h' => ⟨_ :: _ :: _ :: _ :: _ :: _ :: _ :: M, n9, hn9, h', .inl ⟨rfl, ds ++ [z], hds2, ?_⟩⟩
        rw [hfl]; rfl
      · rw [if_neg (by rw [decide_eq_false hkp]; decide)] at hfl
        subst hRb
        repeat' (first | refine zP ?_ | refine zA ?_ | (refine zM ?_; intro _ _) | refine zX ?_ | (refine zC ?_; intro _ _ _ _) | (refine zS ?_; intro _ _) | refine zO ?_ | (apply Ws <;> intro hg))
        refine Ends.rd rfl rfl rfl hH9 .here fun H' h' => ⟨_ :: _ :: _ :: _ :: _ :: _ :: _ :: M, n9, hn9, h', .inl ⟨rfl, ds ++ [z], hds2, ?_⟩⟩
        rw [hfl]; rfl
    · rintro _ H7 ⟨M7, T0, n7, hn7, hH7, ⟨ds, hds, rfl⟩ | ⟨z, u, hSz, hcb⟩⟩
      · rw [List.append_nil] at hds
        simp only [List.cons_append] at hH7
        refine rangeEnd_of hH7 .here (by rw [← hRR]; simp) (by rw [← hRR]; rfl) fun H8 hH8 => ?_
        rw [hds] at hH8
        have hcnt : ((allO n).filter (enoughB p)).length = cntO n p := rfl
        rw [hcnt] at hH8
        have hcl : cntO n p ≤ 823543 := Nat.le_trans (List.length_filter_le _ _) hal
        generalize ({ R with state := .exhausted } : LoopE) = R2 at hH8
        have m6 : (b6, Ch.row 3 0 0 [.int .i64 (cntO n p : Int)]) ∈ (lp, Ch.loop R2) :: (df, .defd false) :: (l3, .row 83 0 0 [.func (.func 78) [].toArray [].toArray]) :: (l2, .row 3 0 0 [.int .i64 (n : Int)]) :: (l1, .row 3 0 0 [.int .i64 (n : Int)]) :: (b6, .row 3 0 0 [.int .i64 (cntO n p : Nat)]) :: (n0, .row 3 0 0 [.int .i64 p]) :: (M ++ T0) := by simp
        repeat' (first | refine zP ?_ | refine zA ?_ | (refine zM ?_; intro _ _) | refine zX ?_ | (refine zC ?_; intro _ _ _ _) | (refine zS ?_; intro _ _) | (apply Ws <;> intro hg))
        refine Ends.ret2D rfl rfl hH8 (M' := (df, .defd false) :: (n0, .row 3 0 0 [.int .i64 p]) :: (M ++ T0)) (.cons _ (.cons_cons _ (.cons _ (.cons _ (.cons _ (.cons _ (List.Sublist.refl _))))))) (M0 := (n0, .row 3 0 0 [.int .i64 p]) :: (M ++ T0)) (List.Perm.refl _) fun H' h' =>
          ⟨(n0, Ch.row 3 0 0 [.int .i64 p]) :: T0, n7, .inr ⟨hb, rfl⟩, by omega, h'.perm (by classical exact List.perm_iff_count.2 (fun a => by simp only [defds, List.map_cons, List.map_nil, List.count_append, List.count_cons, List.count_nil, List.cons_append, List.nil_append, List.append_nil]; omega))⟩
      · exact absurd hcb id
end
end Go.Proofs.Ytfnflkcjhefddaa.Lk
