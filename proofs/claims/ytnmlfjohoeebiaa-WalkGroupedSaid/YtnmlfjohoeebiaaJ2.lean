/- Texts of the law, joined. -/
import Derived.Test.YtnmlfjohoeebiaaWkP
import Derived.Test.YtnmlfjohoeebiaaJ1
import Derived.Test.YtnmlfjohoeebiaaSymM
import Derived.Test.YtnmlfjohoeebiaaSymK
import Derived.Test.YtnmlfjohoeebiaaSymG
import Derived.Test.YtnmlfjohoeebiaaSymR
/- The mathematics of walks: what is left, and for how long a walk can go on. -/
namespace Go.Proofs.Ytnmlfjohoeebiaa.Wk
open Go Go.Abs Go.Mth
set_option linter.unusedVariables false
set_option linter.unusedSimpArgs false
/-- What is left when a stretch is met. -/
def decS (n : Nat) (s : List Int) : List Int := (s.take n).map (· - 1) ++ s.drop n
def metS (T s : List Int) (j : Nat) : List Int := (decS T.length s).set j (T.getD j 0)
abbrev goodS (n : Nat) (s : List Int) : Prop := (0 : Int) ∉ s.take n
def startS (T : List Int) : List Int := T ++ List.replicate (4 - T.length) 0
/-- A walk can go on for so many tides. -/
def canS (T : List Int) : Nat → List Int → Prop
  | 0, _ => True
  | k + 1, s => ∃ j, j < T.length ∧ goodS T.length (metS T s j) ∧ canS T k (metS T s j)
def everS (T s : List Int) : Prop := ∀ k, canS T k s
/-- For how many tides: -1 if there is no end. -/
def MoreR (T s : List Int) (r : Int) : Prop := (r = -1 ∧ everS T s) ∨ ∃ m : Nat, r = m ∧ canS T m s ∧ ¬ canS T (m + 1) s
/-- One tide. -/
def StepS (T s t : List Int) : Prop := ∃ j, j < T.length ∧ t = metS T s j ∧ goodS T.length t
/-- At least one tide. -/
inductive ReachS (T : List Int) : List Int → List Int → Prop where
  | one {s t : List Int} (h : StepS T s t) : ReachS T s t
  | more {s t u : List Int} (h : ReachS T s t) (k : StepS T t u) : ReachS T s u
theorem canS_less {T : List Int} : ∀ {k : Nat} {s : List Int}, canS T (k + 1) s → canS T k s
  | 0, s, _ => trivial
  | k + 1, s, ⟨j, h1, h2, h3⟩ => ⟨j, h1, h2, canS_less h3⟩
theorem canS_le {T : List Int} {k m : Nat} {s : List Int} (h : canS T m s) (hk : k ≤ m) : canS T k s := by
  obtain ⟨d, rfl⟩ := Nat.le.dest hk
  clear hk
  induction d with
  | zero => exact h
  | succ d ih => exact ih (canS_less h)
theorem canS_step {T s t : List Int} (h : StepS T s t) {k : Nat} (hk : canS T k t) : canS T (k + 1) s := by
  obtain ⟨j, h1, rfl, h2⟩ := h
  exact ⟨j, h1, h2, hk⟩
theorem canS_reach {T s t : List Int} (h : ReachS T s t) : ∀ {k : Nat}, canS T k t → canS T (k + 1) s := by
  induction h with
  | one h => exact canS_step h
  | more _ k ih => exact fun hk => canS_less (ih (canS_step k hk))
theorem ever_ring {T s : List Int} (h : ReachS T s s) : everS T s := by
  intro k
  induction k with
  | zero => trivial
  | succ k ih => exact canS_reach h ih
theorem ever_step {T s t : List Int} (h : StepS T s t) (k : everS T t) : everS T s := fun n => canS_less (canS_step h (k n))
theorem MoreR.one {T s : List Int} {r q : Int} (h : MoreR T s r) (k : MoreR T s q) : r = q := by
  rcases h with ⟨h1, h2⟩ | ⟨m, h1, h2, h3⟩ <;> rcases k with ⟨k1, k2⟩ | ⟨m', k1, k2, k3⟩
  · rw [h1, k1]
  · exact absurd (h2 _) k3
  · exact absurd (k2 _) h3
  · rw [h1, k1]
    rcases Nat.lt_trichotomy m m' with h | h | h
    · exact absurd (canS_le k2 h) h3
    · rw [h]
    · exact absurd (canS_le h2 h) k3
theorem MoreR.low {T s : List Int} {r : Int} (h : MoreR T s r) : -1 ≤ r := by
  rcases h with ⟨h1, _⟩ | ⟨m, h1, _⟩ <;> omega
theorem MoreR.ever {T s : List Int} {r : Int} (h : MoreR T s r) : r = -1 ↔ everS T s := by
  rcases h with ⟨h1, h2⟩ | ⟨m, h1, h2, h3⟩
  · exact ⟨fun _ => h2, fun _ => h1⟩
  · exact ⟨fun e => by omega, fun e => absurd (e _) h3⟩
/-- After so many stretches have been tried: the longest of them. -/
def MostR (T s : List Int) (k : Nat) (r : Nat) : Prop :=
  canS T r s ∧ ∀ j, j < k → goodS T.length (metS T s j) → ¬ canS T r (metS T s j)
theorem most_zero (T s : List Int) : MostR T s 0 0 := ⟨trivial, fun j h => absurd h (Nat.not_lt_zero _)⟩
theorem most_bad {T s : List Int} {k r : Nat} (h : MostR T s k r) (hb : ¬ goodS T.length (metS T s k)) : MostR T s (k + 1) r :=
  ⟨h.1, fun j hj hg => by
    rcases Nat.lt_or_ge j k with h1 | h1
    · exact h.2 j h1 hg
    · rw [show j = k by omega] at hg; exact absurd hg hb⟩
theorem most_good {T s : List Int} {k r q : Nat} (h : MostR T s k r) (hk : k < T.length) (hb : goodS T.length (metS T s k)) (h1 : canS T q (metS T s k)) (h2 : ¬ canS T (q + 1) (metS T s k)) : MostR T s (k + 1) (max r (q + 1)) := by
  refine ⟨?_, fun j hj hg hc => ?_⟩
  · rcases Nat.le_total r (q + 1) with h3 | h3
    · rw [Nat.max_eq_right h3]; exact ⟨k, hk, hb, h1⟩
    · rw [Nat.max_eq_left h3]; exact h.1
  · rcases Nat.lt_or_ge j k with h3 | h3
    · exact h.2 j h3 hg (canS_le hc (Nat.le_max_left _ _))
    · rw [show j = k by omega] at hc
      exact h2 (canS_le hc (Nat.le_max_right _ _))
theorem most_all {T s : List Int} {r : Nat} (h : MostR T s T.length r) : MoreR T s r :=
  .inr ⟨r, rfl, h.1, fun ⟨j, h1, h2, h3⟩ => h.2 j h1 h2 h3⟩
theorem decS_len (n : Nat) (s : List Int) : (decS n s).length = s.length := by simp [decS]; omega
theorem metS_len (T s : List Int) (j : Nat) : (metS T s j).length = s.length := by simp [metS, decS_len]
theorem startS_len {T : List Int} (h : T.length ≤ 4) : (startS T).length = 4 := by simp [startS]; omega
theorem decS_get {n : Nat} {s : List Int} (hn : n ≤ s.length) (i : Nat) : (decS n s).getD i 0 = if i < n then s.getD i 0 - 1 else s.getD i 0 := by
  unfold decS
  by_cases h : i < n
  · rw [if_pos h, getD_app_l (by simp; omega), getD_eq (by simp; omega), getD_eq (by omega)]; simp
  · rw [if_neg h, List.getD_eq_getElem?_getD, List.getElem?_append_right (by simp; omega), List.getElem?_drop, List.getD_eq_getElem?_getD]
    congr 2; simp; omega
theorem metS_get {T s : List Int} {j : Nat} (hn : T.length ≤ s.length) (hj : j < T.length) (i : Nat) : (metS T s j).getD i 0 = if i = j then T.getD j 0 else if i < T.length then s.getD i 0 - 1 else s.getD i 0 := by
  unfold metS
  rw [getD_set' (by rw [decS_len]; omega), decS_get hn]
theorem decS_next {k : Nat} {s : List Int} (h : k < s.length) : (decS k s).set k ((decS k s).getD k 0 - 1) = decS (k + 1) s := by
  refine ext_getD (a := 0) (by simp [decS_len]) fun i hi => ?_
  rw [getD_set' (by rw [decS_len]; exact h), decS_get (by omega), decS_get (by omega), decS_get (by omega)]
  by_cases h1 : i = k
  · subst h1; rw [if_pos rfl, if_neg (by omega), if_pos (by omega)]
  · rw [if_neg h1]
    by_cases h2 : i < k
    · rw [if_pos h2, if_pos (by omega)]
    · rw [if_neg h2, if_neg (by omega)]
/-- All that can be left. -/
structure SOK (T s : List Int) : Prop where
  len : s.length = 4
  lo : ∀ i, i < T.length → 1 ≤ s.getD i 0
  hi : ∀ i, i < T.length → s.getD i 0 ≤ T.getD i 0
  out : ∀ i, T.length ≤ i → s.getD i 0 = 0
structure TOK (T : List Int) : Prop where
  len : T.length ≤ 4
  lo : ∀ i, i < T.length → 1 ≤ T.getD i 0
  hi : ∀ i, i < T.length → T.getD i 0 ≤ 8
theorem start_get {T : List Int} (h : T.length ≤ 4) (i : Nat) : (startS T).getD i 0 = if i < T.length then T.getD i 0 else 0 := by
  unfold startS
  by_cases h1 : i < T.length
  · rw [if_pos h1, getD_app_l h1]
  · rw [if_neg h1, List.getD_eq_getElem?_getD, List.getElem?_append_right (by omega), List.getElem?_replicate]
    split <;> rfl
theorem start_ok {T : List Int} (h : TOK T) : SOK T (startS T) where
  len := startS_len h.len
  lo i hi := by rw [start_get h.len, if_pos hi]; exact h.lo i hi
  hi i hi := by rw [start_get h.len, if_pos hi]; exact Int.le_refl _
  out i hi := by rw [start_get h.len, if_neg (by omega)]
theorem not_good {T s : List Int} (hl : s.length = 4) (hT : T.length ≤ 4) : goodS T.length s ↔ ∀ i, i < T.length → s.getD i 0 ≠ 0 := by
  unfold goodS
  constructor
  · intro h i hi e
    exact h (by rw [← e, ← getD_take hi]; exact getD_mem (by simp; omega))
  · intro h hm
    obtain ⟨i, hi, he⟩ := List.mem_iff_getElem.1 hm
    have hi' : i < T.length ∧ i < s.length := by simp at hi; omega
    exact h i hi'.1 (by rw [getD_eq hi'.2, ← he]; simp)
theorem met_ok {T s : List Int} {j : Nat} (hT : TOK T) (h : SOK T s) (hj : j < T.length) (hg : goodS T.length (metS T s j)) : SOK T (metS T s j) := by
  have hl : (metS T s j).length = 4 := by rw [metS_len, h.len]
  have hn : T.length ≤ s.length := by rw [h.len]; exact hT.len
  have hg' := (not_good hl hT.len).1 hg
  have get := metS_get hn hj
  refine ⟨hl, fun i hi => ?_, fun i hi => ?_, fun i hi => ?_⟩
  · have g := hg' i hi
    rw [get] at g ⊢
    by_cases h1 : i = j
    · subst h1; rw [if_pos rfl]; exact hT.lo i hi
    · rw [if_neg h1, if_pos hi] at g ⊢
      have := h.lo i hi
      omega
  · rw [get]
    by_cases h1 : i = j
    · subst h1; rw [if_pos rfl]; exact Int.le_refl _
    · rw [if_neg h1, if_pos hi]
      have := h.hi i hi
      omega
  · rw [get, if_neg (by omega), if_neg (by omega)]
    exact h.out i hi
/-- A number for each of what can be left. -/
def allS : Nat → List (List Int)
  | 0 => [[]]
  | n + 1 => ((List.range 9).map fun x => (allS n).map fun l => ((x : Nat) : Int) :: l).flatten
theorem mem_allS : ∀ {n : Nat} {s : List Int}, s.length = n → (∀ x ∈ s, 0 ≤ x ∧ x ≤ 8) → s ∈ allS n
  | 0, s, h, _ => by rw [List.length_eq_zero_iff.1 h]; simp [allS]
  | n + 1, [], h, _ => by simp at h
  | n + 1, x :: s, h, hx => by
    have h0 := hx x (List.mem_cons_self ..)
    have ih := mem_allS (n := n) (s := s) (by simpa using h) (fun y hy => hx y (List.mem_cons_of_mem _ hy))
    unfold allS
    refine List.mem_flatten.2 ⟨_, List.mem_map.2 ⟨x.toNat, List.mem_range.2 (by omega), rfl⟩, List.mem_map.2 ⟨s, ih, ?_⟩⟩
    congr 1; omega
theorem SOK.mem {T s : List Int} (hT : TOK T) (h : SOK T s) : s ∈ allS 4 := by
  refine mem_allS h.len fun x hx => ?_
  obtain ⟨i, hi, rfl⟩ := List.mem_iff_getElem.1 hx
  rw [← getD_eq (a := 0) hi]
  rcases Nat.lt_or_ge i T.length with h1 | h1
  · have := h.lo i h1; have := h.hi i h1; have := hT.hi i h1; omega
  · rw [h.out i h1]; omega
/-- How much isn't known yet. -/
def restM (m : MapI) : Nat := ((allS 4).filter fun s => (findI m s).isNone).length
theorem rest_le {m m' : MapI} (h : ∀ s, findI m s ≠ none → findI m' s ≠ none) : restM m' ≤ restM m := by
  unfold restM
  generalize allS 4 = l
  induction l with
  | nil => simp
  | cons s l ih =>
    rw [List.filter_cons, List.filter_cons]
    cases h1 : findI m s with
    | none => split <;> simp only [Option.isNone_none, if_true, List.length_cons] <;> omega
    | some v =>
      have := h s (by rw [h1]; simp)
      cases h2 : findI m' s with
      | none => exact absurd h2 this
      | some w => simpa using ih
theorem rest_put {m : MapI} {s : List Int} (hs : s ∈ allS 4) (hn : findI m s = none) (v : Int) : restM (putI m s v) < restM m := by
  unfold restM
  generalize allS 4 = l at hs
  have key : ∀ l : List (List Int), (l.filter fun t => (findI (putI m s v) t).isNone).length ≤ (l.filter fun t => (findI m t).isNone).length := by
    intro l
    induction l with
    | nil => simp
    | cons t l ih =>
      rw [List.filter_cons, List.filter_cons, findI_put]
      by_cases h : t = s
      · subst h; rw [hn]; simp; omega
      · rw [if_neg h]; split <;> (try simp only [List.length_cons]) <;> omega
  induction l with
  | nil => cases hs
  | cons t l ih =>
    rw [List.filter_cons, List.filter_cons, findI_put]
    by_cases h : t = s
    · subst h; rw [hn]; simp; have := key l; omega
    · rw [if_neg h]
      have := ih (by rcases List.mem_cons.1 hs with h1 | h1; exact absurd h1.symm h; exact h1)
      split <;> (try simp only [List.length_cons]) <;> omega
end Go.Proofs.Ytnmlfjohoeebiaa.Wk

/- Functions of the library; what is left before the first tide, and after one more. -/
namespace Go.Abs
set_option linter.unusedSectionVars false
variable [Globs]
open Go
section
variable {C : CW} {nt : Nat} {L : Env} {D : List Nat} {H : Heap} {K : St → Prop} {M M' : HL} {n : Nat} {gd : Option (Tmp × Bool)} {lo : List Nat} {l : List POp}
/-- Nothing is copied from nil. -/
theorem WR.copyNil {i d dl cap c : Nat} {x y : Operand} {a : Option Addr} (hg : gOK L gd) (hd : Nat.blt d nt = true) (hx : ev L x = some (.slice a dl cap)) (hy : ev L y = some (.slice none 0 c))
    (k : WR C nt l ((d, .int .i64 0) :: L) D H K) : WR C nt (⟨i, some d, .copy 1 x y, gd, lo⟩ :: l) L D H K := by
  refine WR.op hg hd (v := .int .i64 0) (H' := H) (fun t ht => ?_) k
  have h1 : srcLen (.slice none 0 c) = some 0 := rfl
  have h2 : Nat.min 0 dl = 0 := Nat.zero_min _
  have h3 : srcCells H 1 0 (.slice none 0 c) = some [] := rfl
  simp only [opA, ev_ok ht hx, ev_ok ht hy, copyA, h1, h2, h3]
  cases a <;> rfl
/-- Two cells. -/
theorem WR.store2 {i : Nat} {x y : Operand} {v w : Value} {a c : Value} {b e u : Nat} (hg : gOK L gd) (hH : hasH M n H) (hx : ev L x = some (.pointer (some ⟨b, 0, some u⟩))) (hy : ev L y = some (.agg [v, w].toArray)) (h1 : one v = true) (h2 : one w = true)
    (hu : Upd M b (.row e u 0 [a, c]) (.row e u 0 [v, w]) M') (k : ∀ H', hasH M' n H' → WR C nt l L D H' K) : WR C nt (⟨i, none, .store x y 2, gd, lo⟩ :: l) L D H K :=
  WR.storeAll hg hH hx hy (ls := [v, w]) rfl rfl hu (by simp [h1, h2]) rfl k
theorem Ends.retCN1 {a b k : Nat} {p : Addr} {l : List Value} {v : Value} {R : Value → Heap → Prop} (hx : ev L (.tmp a) = some (.pointer (some p))) (hr : H.readN p k = some l) (hy : ev L (.tmp b) = some v) (h : R (.tuple #[.agg l.toArray, v]) H) : Ends (retK [.cell a (some k), .tmp b] R) .ret L [] H := by
  refine Ends.ret_of trivial fun t ht => ⟨_, H, ?_, h⟩
  simp only [takeAll, leaveC, resultOf, ev_ok ht hx, hr, ev_ok ht hy, retVal]
theorem ints_all (xs : List Int) : (xs.map (Value.int .i64)).all one = true := by
  rw [List.all_eq_true]; intro q hq; obtain ⟨z, _, rfl⟩ := List.mem_map.1 hq; rfl
/-- An array of numbers is stored whole. -/
theorem WR.storeA {i : Nat} {x y : Operand} {b e u sz : Nat} {cs : List Value} {s : List Int} (hg : gOK L gd) (hH : hasH M n H) (hx : ev L x = some (.pointer (some ⟨b, 0, some u⟩))) (hy : ev L y = some (keyI s))
    (hs : s.length = sz) (hu : Upd M b (.row e u 0 cs) (.row e u 0 (s.map (Value.int .i64))) M') (hk : cs.length = sz) (k : ∀ H', hasH M' n H' → WR C nt l L D H' K) : WR C nt (⟨i, none, .store x y sz, gd, lo⟩ :: l) L D H K :=
  WR.storeAll hg hH hx hy (ls := s.map (Value.int .i64)) (by simp [keyI, Value.cells, ints]) (by simp [hs]) hu (ints_all s) (by simp [hs, hk]) k
theorem sameL_ints (xs : List Int) : sameL (xs.map (Value.int .i64)) (xs.map (Value.int .i64)) = true := by
  induction xs with
  | nil => rfl
  | cons x xs ih => simp only [List.map_cons, sameL, ih, Bool.and_true]; exact same_int _ _
theorem readA {b e u k : Nat} {s : List Int} (hH : hasH M n H) (hm : (b, Ch.row e u 0 (s.map (Value.int .i64))) ∈ M) (hs : s.length = k) : H.readN ⟨b, 0, some u⟩ k = some (s.map (Value.int .i64)) := by
  have := hH.readN (b := b) (u := u) (lo := 0) (o := 0) (k := k) hm (.row _ _ _ _) (Nat.le_refl _) (by simp [hs])
  rw [this, Nat.sub_zero, List.drop_zero, List.take_of_length_le (by simp [hs])]
end
end Go.Abs
namespace Go.Proofs.Ytnmlfjohoeebiaa.Wk
open Go Go.Abs Go.Mth
set_option linter.unusedVariables false
set_option linter.unusedSimpArgs false
theorem splice_get {cs l : List Int} {i : Nat} (h : i + l.length ≤ cs.length) (j : Nat) : (cs.take i ++ l ++ cs.drop (i + l.length)).getD j 0 = if j < i then cs.getD j 0 else if j < i + l.length then l.getD (j - i) 0 else cs.getD j 0 := by
  simp only [List.getD_eq_getElem?_getD]
  by_cases h1 : j < i
  · rw [if_pos h1, List.append_assoc, List.getElem?_append_left (by simp; omega), List.getElem?_take_of_lt h1]
  · rw [if_neg h1]
    by_cases h2 : j < i + l.length
    · rw [if_pos h2, List.getElem?_append_left (by simp; omega), List.getElem?_append_right (by simp; omega)]
      congr 2; simp; omega
    · rw [if_neg h2, List.getElem?_append_right (by simp; omega), List.getElem?_drop]
      congr 2; simp; omega
theorem ints_one (xs : List Int) : (ints xs).all one = true := by
  rw [List.all_eq_true]; intro q hq; obtain ⟨z, _, rfl⟩ := List.mem_map.1 hq; rfl
attribute [local irreducible] gOK WS WC WR WD Ends FS YS OpV seqK blockK loopK midK retK rdK asgK rangeEnd sat Cell
section
variable {M : HL} {n0 : Nat} {H : Heap} {v w : Value}
theorem Index_fs (hH : hasH M n0 H) {xs : List Int} (hS : Sl M 1 v (ints xs)) (hx : xs.length ≤ 100000) (a : Int) :
    FS C 85 [v, .int .i64 a] H (fun e H' => H' = H ∧ ((∃ k, k < xs.length ∧ xs.getD k 0 = a ∧ (∀ j, j < k → xs.getD j 0 ≠ a) ∧ e = .int .i64 (k : Int)) ∨ (a ∉ xs ∧ e = .int .i64 (-1)))) := by
  refine FS.intro (pf := pf85) rfl rfl rfl ?_
  repeat' (first | refine zP ?_ | refine zA ?_ | (refine zM ?_; intro _ _) | refine zX ?_ | (refine zC ?_; intro _ _ _ _) | (refine zS ?_; intro _ _) | (apply Ws <;> intro hg))
  refine WC.loopX [(0, _), (1, _), (6, _), (7, _)] (fun k : Nat => [(8, .int .i64 (k : Int))]) [] (fun k H' => H' = H ∧ k ≤ xs.length ∧ ∀ j, j < k → xs.getD j 0 ≠ a) (fun k => xs.length - k) 0 (by repeat' (first | exact .nil | refine .cons rfl ?_)) rfl ⟨rfl, Nat.zero_le _, fun j h => absurd h (Nat.not_lt_zero _)⟩ ?_
  rintro k H' ⟨rfl, hk, hno⟩
  dsimp only [List.cons_append, List.nil_append]
  repeat' (first | refine zP ?_ | refine zA ?_ | (refine zM ?_; intro _ _) | refine zX ?_ | (refine zC ?_; intro _ _ _ _) | (refine zS ?_; intro _ _) | (apply Ws <;> intro hg))
  refine WC.condP rfl (fun hlt => ?_) (fun hlt => ?_)
  · have hk' : k < xs.length := by omega
    repeat' (first | refine zP ?_ | refine zA ?_ | (refine zM ?_; intro _ _) | refine zX ?_ | (refine zC ?_; intro _ _ _ _) | (refine zS ?_; intro _ _) | (apply Ws <;> intro hg))
    refine WC.condP rfl (fun h => ?_) (fun h => ?_)
    · repeat' (first | refine zP ?_ | refine zA ?_ | (refine zM ?_; intro _ _) | refine zX ?_ | (refine zC ?_; intro _ _ _ _) | (refine zS ?_; intro _ _) | (apply Ws <;> intro hg))
      exact Ends.ret1 rfl ⟨rfl, .inl ⟨k, hk', h.symm, hno, rfl⟩⟩
    · repeat' (first | refine zP ?_ | refine zA ?_ | (refine zM ?_; intro _ _) | refine zX ?_ | (refine zC ?_; intro _ _ _ _) | (refine zS ?_; intro _ _) | (apply Ws <;> intro hg))
      refine Ends.loop (k + 1) (by omega) (by repeat' (first | exact .nil | refine .cons rfl ?_)) rfl ⟨rfl, hk', fun j hj => ?_⟩
      rcases Nat.lt_or_ge j k with h2 | h2
      · exact hno j h2
      · have : j = k := by omega
        subst this
        exact fun q => h q.symm
  · repeat' (first | refine zP ?_ | refine zA ?_ | (refine zM ?_; intro _ _) | refine zX ?_ | (refine zC ?_; intro _ _ _ _) | (refine zS ?_; intro _ _) | (apply Ws <;> intro hg))
    refine Ends.ret1 rfl ⟨rfl, .inr ⟨fun hm => ?_, rfl⟩⟩
    obtain ⟨j, hj, he⟩ := List.mem_iff_getElem.1 hm
    exact hno j (by omega) (by rw [getD_eq hj]; exact he)
theorem Contains_fs (hH : hasH M n0 H) {xs : List Int} (hS : Sl M 1 v (ints xs)) (hx : xs.length ≤ 100000) (a : Int) :
    FS C 73 [v, .int .i64 a] H (fun e H' => H' = H ∧ e = .bool (decide (a ∈ xs))) := by
  refine FS.intro (pf := pf73) rfl rfl rfl ?_
  repeat' (first | refine zP ?_ | refine zA ?_ | (refine zM ?_; intro _ _) | refine zX ?_ | (refine zC ?_; intro _ _ _ _) | (refine zS ?_; intro _ _) | (apply Ws <;> intro hg))
  refine WR.call (by first | exact gN | exact gS rfl) rfl rfl (Index_fs hH hS hx a) ?_
  rintro _ _ ⟨rfl, ⟨k, hk, he, _, rfl⟩ | ⟨hn, rfl⟩⟩
  · repeat' (first | refine zP ?_ | refine zA ?_ | (refine zM ?_; intro _ _) | refine zX ?_ | (refine zC ?_; intro _ _ _ _) | (refine zS ?_; intro _ _) | (apply Ws <;> intro hg))
    refine Ends.ret1 rfl ⟨rfl, ?_⟩
    have hm : a ∈ xs := by rw [← he]; exact getD_mem hk
    rw [decide_eq_true hm, decide_eq_true (by omega)]
  · repeat' (first | refine zP ?_ | refine zA ?_ | (refine zM ?_; intro _ _) | refine zX ?_ | (refine zC ?_; intro _ _ _ _) | (refine zS ?_; intro _ _) | (apply Ws <;> intro hg))
    refine Ends.ret1 rfl ⟨rfl, ?_⟩
    rw [decide_eq_false hn, decide_eq_false (by omega)]

theorem start_splice {T : List Int} (h : T.length ≤ 4) : splice [Value.int .i64 0, .int .i64 0, .int .i64 0, .int .i64 0] (0 - 0) ((ints T).take T.length) = ints (startS T) := by
  have : (ints T).take T.length = ints T := List.take_of_length_le (by simp)
  rw [this, startS]
  match T, h with
  | [], _ => rfl
  | [_], _ => rfl
  | [_, _], _ => rfl
  | [_, _, _], _ => rfl
  | [_, _, _, _], _ => rfl
  | _ :: _ :: _ :: _ :: _ :: _, h => simp at h
theorem start_fs (hH : hasH M n0 H) {T : List Int} (hS : Sl M 1 v (ints T)) (hT : T.length ≤ 4) (h0 : 1 ≤ T.length) :
    FS C 58 [v] H (fun e H' => ∃ n', n0 ≤ n' ∧ e = keyI (startS T) ∧ hasH M n' H') := by
  have hl := startS_len hT
  have hli : (ints (startS T)).length = 4 := by simp [hl]
  refine FS.intro (pf := pf58) rfl rfl rfl ?_
  repeat' (first | refine zP ?_ | refine zA ?_ | (refine zM ?_; intro _ _) | refine zX ?_ | (refine zC ?_; intro _ _ _ _) | (refine zS ?_; intro _ _) | (apply Ws <;> intro hg))
  rename_i H1 hH1 H2 hH2
  refine WR.op (by first | exact gN | exact gS rfl) rfl (OpV.slA rfl (by omega)) ?_
  repeat' (first | refine zP ?_ | refine zA ?_ | (refine zM ?_; intro _ _) | refine zX ?_ | (refine zC ?_; intro _ _ _ _) | (refine zS ?_; intro _ _) | (apply Ws <;> intro hg))
  refine WR.copyMin (by first | exact gN | exact gS rfl) rfl rfl rfl (hS.cons.cons) hH2 .here (ints_one _) (Nat.le_refl _) (m := T.length) (by rw [List.length_map]; exact Nat.min_eq_left hT) h0 (by simp only [List.length_cons, List.length_nil]; omega) rfl fun H3 hH3 => ?_
  rw [start_splice hT] at hH3
  repeat' (first | refine zP ?_ | refine zA ?_ | (refine zM ?_; intro _ _) | refine zX ?_ | (refine zC ?_; intro _ _ _ _) | (refine zS ?_; intro _ _) | (apply Ws <;> intro hg))
  refine WR.storeA (by first | exact gN | exact gS rfl) hH3 rfl rfl hl (.there .here) rfl fun H4 hH4 => ?_
  repeat' (first | refine zP ?_ | refine zA ?_ | (refine zM ?_; intro _ _) | refine zX ?_ | (refine zC ?_; intro _ _ _ _) | (refine zS ?_; intro _ _) | (apply Ws <;> intro hg))
  exact Ends.retCN rfl (readA hH4 (.tail _ (.head _)) hl) ⟨n0 + 2, by omega, rfl, hH4.tail.tail⟩
theorem meet_fs (hH : hasH M n0 H) {T s : List Int} (hS : Sl M 1 v (ints T)) (hT : T.length ≤ 4) (hs : s.length = 4) (hb : ∀ i, i < 4 → 0 ≤ s.getD i 0 ∧ s.getD i 0 ≤ 8) {j : Nat} (hj : j < T.length) :
    FS C 79 [keyI s, v, .int .i64 (j : Int)] H (fun e H' => ∃ n', n0 ≤ n' ∧ e = .tuple #[keyI (metS T s j), .bool (decide (goodS T.length (metS T s j)))] ∧ hasH M n' H') := by
  have h1 := ints_one s
  refine FS.intro (pf := pf79) rfl rfl rfl ?_
  refine WC.seq ?_
  refine WC.region ?_
  refine WR.boxA (cs := ints s) (by first | exact gN | exact gS rfl) rfl hH rfl h1 fun H1 hH1 => ?_
  replace hH1 : hasH ((n0, .row 72 0 0 (ints (decS 0 s))) :: M) (n0 + 1) H1 := by simpa [decS] using hH1
  repeat' (first | refine zP ?_ | refine zA ?_ | (refine zM ?_; intro _ _) | refine zX ?_ | (refine zC ?_; intro _ _ _ _) | (refine zS ?_; intro _ _) | (apply Ws <;> intro hg))
  rename_i H2 hH2
  refine WC.loopX [(1, v), (2, .int .i64 (j : Int)), (3, .pointer (some ⟨n0, 0, some 0⟩)), (6, .pointer (some ⟨n0 + 1, 0, some 0⟩)), (7, .bool false), (9, v), (10, .int .i64 (T.length : Int))] (fun k : Nat => [(11, .int .i64 (k : Int))]) []
    (fun k H' => k ≤ T.length ∧ hasH ((n0 + 1, .row 72 0 0 (ints [0, 0, 0, 0])) :: (n0, .row 72 0 0 (ints (decS k s))) :: M) (n0 + 1 + 1) H') (fun k => T.length - k) 0 (by repeat' (first | exact .nil | refine .cons rfl ?_)) rfl ⟨Nat.zero_le _, hH2⟩ ?_
  clear hH1 hH2
  rintro k H3 ⟨hk, hH3⟩
  dsimp only [List.cons_append, List.nil_append]
  repeat' (first | refine zP ?_ | refine zA ?_ | (refine zM ?_; intro _ _) | refine zX ?_ | (refine zC ?_; intro _ _ _ _) | (refine zS ?_; intro _ _) | (apply Ws <;> intro hg))
  refine WC.condP rfl (fun hlt => ?_) (fun hlt => ?_)
  · have hk' : k < T.length := by omega
    have hdl : (decS k s).length = 4 := by rw [decS_len, hs]
    have hg := decS_get (n := k) (s := s) (by omega) k
    rw [if_neg (Nat.lt_irrefl k)] at hg
    have := hb k (by omega)
    repeat' (first | refine zP ?_ | refine zA ?_ | (refine zM ?_; intro _ _) | refine zX ?_ | (refine zC ?_; intro _ _ _ _) | (refine zS ?_; intro _ _) | (apply Ws <;> intro hg))
    rename_i H4 hH4
    refine Ends.loop (k + 1) (by omega) (by repeat' (first | exact .nil | refine .cons rfl ?_)) rfl ⟨hk', ?_⟩
    rwa [← decS_next (by omega)]
  · have hkn : k = T.length := by omega
    subst hkn
    have hdl : (decS T.length s).length = 4 := by rw [decS_len, hs]
    repeat' (first | refine zP ?_ | refine zA ?_ | (refine zM ?_; intro _ _) | refine zX ?_ | (refine zC ?_; intro _ _ _ _) | (refine zS ?_; intro _ _) | (apply Ws <;> intro hg))
    rename_i H4 hH4
    have hml : (metS T s j).length = 4 := by rw [metS_len, hs]
    have hmi : (ints (metS T s j)).length = 4 := by simp [hml]
    replace hH4 : hasH ((n0 + 1, .row 72 0 0 (ints [0, 0, 0, 0])) :: (n0, .row 72 0 0 (ints (metS T s j))) :: M) (n0 + 1 + 1) H4 := hH4
    have hSp : Sl ((n0 + 1, Ch.row 72 0 0 (ints [0, 0, 0, 0])) :: (n0, .row 72 0 0 (ints (metS T s j))) :: M) 1 (.slice (some ⟨n0, 0, some 0⟩) T.length (2 * 4 + 1)) (ints ((metS T s j).take T.length)) :=
      .row (lo := 0) (cs := ints (metS T s j)) (.tail _ (.head _)) (.row _ _ _ _) (Nat.zero_le _) (by simp; omega) (by simp [ints, List.map_take]) (by simp; omega) (.inr ⟨4, rfl, hT⟩)
    refine WC.regionD ?_
    repeat' (first | refine zD ?_ | (refine zE ?_; intro _ _ _ _))
    refine WD.op (by first | exact gN | exact gS rfl) rfl (OpV.slAh rfl rfl hT (by omega)) rfl (stands_nil _ _) ?_
    refine WD.call (by first | exact gN | exact gS rfl) rfl rfl (Contains_fs hH4 hSp (by simp; omega) 0) ?_
    rintro _ _ ⟨rfl, rfl⟩
    refine ⟨stands_cons (.inr (holdsN' (readA hH4 (.tail _ (.head _)) hml) (sameL_ints _))) stands_nil', ?_⟩
    refine WD.toWR rfl ?_
    repeat' (first | refine zP ?_ | refine zA ?_ | (refine zM ?_; intro _ _) | refine zX ?_ | (refine zC ?_; intro _ _ _ _) | (refine zS ?_; intro _ _) | (apply Ws <;> intro hg))
    refine WR.storeA (by first | exact gN | exact gS rfl) hH4 rfl rfl hml .here rfl fun H5 hH5 => ?_
    repeat' (first | refine zP ?_ | refine zA ?_ | (refine zM ?_; intro _ _) | refine zX ?_ | (refine zC ?_; intro _ _ _ _) | (refine zS ?_; intro _ _) | (apply Ws <;> intro hg))
    refine Ends.retCN1 rfl (readA hH5 (.head _) hml) rfl ⟨n0 + 1 + 1, by omega, ?_, hH5.tail.tail⟩
    simp only [keyI, ints, goodS, decide_not]
end
end Go.Proofs.Ytnmlfjohoeebiaa.Wk

/- A walk that can go on for long enough can go on for ever. -/
namespace Go.Proofs.Ytnmlfjohoeebiaa.Wk
open Go Go.Abs Go.Mth
set_option linter.unusedVariables false
theorem filter_eq {α : Type} {p q : α → Bool} : ∀ {l : List α}, (∀ a ∈ l, q a = true → p a = true) → (l.filter p).length ≤ (l.filter q).length → ∀ a ∈ l, p a = true → q a = true
  | [], _, _ => fun a ha => by cases ha
  | b :: l, h, hl => by
    have hle : ∀ {l : List α}, (∀ a ∈ l, q a = true → p a = true) → (l.filter q).length ≤ (l.filter p).length := by
      intro l
      induction l with
      | nil => intro _; simp
      | cons c l ih =>
        intro h
        have ih := ih fun a ha => h a (List.mem_cons_of_mem _ ha)
        have hc := h c (List.mem_cons_self ..)
        rw [List.filter_cons, List.filter_cons]
        cases hq : q c with
        | true => rw [hc hq]; simp only [if_true, List.length_cons]; omega
        | false =>
          rw [if_neg (by simp)]
          cases p c with
          | true => rw [if_pos rfl, List.length_cons]; omega
          | false => rw [if_neg (by simp)]; exact ih
    have h' : ∀ a ∈ l, q a = true → p a = true := fun a ha => h a (List.mem_cons_of_mem _ ha)
    have h2 := hle h'
    have hb := h b (List.mem_cons_self ..)
    rw [List.filter_cons, List.filter_cons] at hl
    intro a ha hp
    cases hq : q b with
    | true =>
      rw [hb hq, hq] at hl
      simp only [if_true, List.length_cons] at hl
      rcases List.mem_cons.1 ha with rfl | ha
      · exact hq
      · exact filter_eq h' (by omega) a ha hp
    | false =>
      cases hpb : p b with
      | true => rw [hpb, hq] at hl; simp at hl; omega
      | false =>
        rw [hpb, hq] at hl
        rcases List.mem_cons.1 ha with rfl | ha
        · rw [hpb] at hp; cases hp
        · exact filter_eq h' (by simpa using hl) a ha hp
theorem all_count : (allS 4).length = 6561 := by decide +kernel
open Classical in
theorem stab {T : List Int} (hT : TOK T) : ∃ k, k ≤ 6561 ∧ ∀ s, SOK T s → canS T k s → canS T (k + 1) s := by
  let cnt : Nat → Nat := fun k => ((allS 4).filter fun s => decide (SOK T s ∧ canS T k s)).length
  by_cases hex : ∃ k, k ≤ 6561 ∧ cnt k ≤ cnt (k + 1)
  · obtain ⟨k, hk, hc⟩ := hex
    refine ⟨k, hk, fun s hs h => ?_⟩
    have := filter_eq (p := fun s => decide (SOK T s ∧ canS T k s)) (q := fun s => decide (SOK T s ∧ canS T (k + 1) s)) (l := allS 4) (fun a _ ha => by
      rw [decide_eq_true_eq] at ha ⊢; exact ⟨ha.1, canS_less ha.2⟩) hc s (hs.mem hT) (by rw [decide_eq_true_eq]; exact ⟨hs, h⟩)
    rw [decide_eq_true_eq] at this
    exact this.2
  · exfalso
    have key : ∀ k, k ≤ 6562 → cnt k + k ≤ 6561 := by
      intro k
      induction k with
      | zero => intro _; have : cnt 0 ≤ (allS 4).length := List.length_filter_le _ _; rw [all_count] at this; omega
      | succ k ih =>
        intro hk
        have := ih (by omega)
        have h2 : ¬ cnt k ≤ cnt (k + 1) := fun h => hex ⟨k, by omega, h⟩
        omega
    have := key 6562 (Nat.le_refl _)
    omega
theorem stab_go {T : List Int} (hT : TOK T) {k : Nat} (h : ∀ s, SOK T s → canS T k s → canS T (k + 1) s) : ∀ d s, SOK T s → canS T k s → canS T (k + d) s := by
  have step : ∀ d s, SOK T s → canS T (k + d) s → canS T (k + d + 1) s := by
    intro d
    induction d with
    | zero => exact h
    | succ d ih =>
      rintro s hs ⟨j, h1, h2, h3⟩
      exact ⟨j, h1, h2, ih _ (met_ok hT hs h1 h2) h3⟩
  intro d
  induction d with
  | zero => exact fun s _ h => h
  | succ d ih => exact fun s hs h => step d s hs (ih s hs h)
theorem ever_of {T : List Int} (hT : TOK T) {s : List Int} (hs : SOK T s) (h : canS T 6561 s) : everS T s := by
  obtain ⟨k, hk, hst⟩ := stab hT
  intro n
  have := stab_go hT hst n s hs (canS_le h hk)
  exact canS_le this (by omega)
theorem more_lt {T : List Int} (hT : TOK T) {s : List Int} (hs : SOK T s) {m : Nat} (h1 : canS T m s) (h2 : ¬ canS T (m + 1) s) : m < 6561 := by
  rcases Nat.lt_or_ge m 6561 with h | h
  · exact h
  · exact absurd (ever_of hT hs (canS_le h1 h) _) h2
end Go.Proofs.Ytnmlfjohoeebiaa.Wk

/- For how many tides a walk can go on: the search. -/
namespace Go.Proofs.Ytnmlfjohoeebiaa.Wk
open Go Go.Abs Go.Mth
set_option linter.unusedVariables false
set_option linter.unusedSimpArgs false
/-- What is known: right, or under way. -/
def MInv (T : List Int) (S : List (List Int)) (m : MapI) : Prop := ∀ t r, findI m t = some r → MoreR T t r ∨ (t ∈ S ∧ r = -1)
theorem MInv.put {T : List Int} {S : List (List Int)} {m : MapI} (h : MInv T S m) (s : List Int) : MInv T (s :: S) (putI m s (-1)) := by
  intro t r hr
  rw [findI_put] at hr
  by_cases ht : t = s
  · rw [if_pos ht] at hr; cases hr; exact .inr ⟨by rw [ht]; exact List.mem_cons_self .., rfl⟩
  · rw [if_neg ht] at hr
    rcases h t r hr with h1 | ⟨h1, h2⟩
    · exact .inl h1
    · exact .inr ⟨List.mem_cons_of_mem _ h1, h2⟩
theorem MInv.ever {T s : List Int} {S : List (List Int)} {m : MapI} (h : MInv T (s :: S) m) (he : everS T s) : MInv T S m := by
  intro t r hr
  rcases h t r hr with h1 | ⟨h1, h2⟩
  · exact .inl h1
  · rcases List.mem_cons.1 h1 with rfl | h1
    · exact .inl (.inl ⟨h2, he⟩)
    · exact .inr ⟨h1, h2⟩
theorem MInv.done {T s : List Int} {S : List (List Int)} {m : MapI} (h : MInv T (s :: S) m) {q : Int} (he : MoreR T s q) : MInv T S (putI m s q) := by
  intro t r hr
  rw [findI_put] at hr
  by_cases ht : t = s
  · rw [if_pos ht] at hr; cases hr; exact .inl (ht ▸ he)
  · rw [if_neg ht] at hr
    rcases h t r hr with h1 | ⟨h1, h2⟩
    · exact .inl h1
    · rcases List.mem_cons.1 h1 with h1 | h1
      · exact absurd h1 ht
      · exact .inr ⟨h1, h2⟩
theorem SOK.bnd {T s : List Int} (hT : TOK T) (h : SOK T s) (i : Nat) (hi : i < 4) : 0 ≤ s.getD i 0 ∧ s.getD i 0 ≤ 8 := by
  rcases Nat.lt_or_ge i T.length with h1 | h1
  · have := h.lo i h1; have := h.hi i h1; have := hT.hi i h1; omega
  · rw [h.out i h1]; omega
structure MK where
  k : Nat
  q : Nat
  m : MapI
  n : Nat
attribute [local irreducible] gOK WS WC WR WD Ends FS YS OpV seqK blockK loopK midK retK rdK asgK rangeEnd sat Cell
theorem mgetS {C : CW} {L : Env} {H : Heap} {M : HL} {n b : Nat} {x y : Operand} {m : MapI} {s : List Int} {r : Int} (hx : ev L x = some (.map (some b))) (hy : ev L y = some (keyI s)) (hH : hasH M n H) (hm : (b, .map (ents m)) ∈ M) (hk : KeysN 4 m) (hs : s.length = 4) (hf : findI m s = some r) :
    OpV C (.mget 7 (.int .i64 0) x y true) L H (.tuple #[.int .i64 r, .bool true]) H := by
  have := OpV.mget (C := C) hx hy hH hm hk hs
  rwa [hf] at this
theorem mgetN {C : CW} {L : Env} {H : Heap} {M : HL} {n b : Nat} {x y : Operand} {m : MapI} {s : List Int} (hx : ev L x = some (.map (some b))) (hy : ev L y = some (keyI s)) (hH : hasH M n H) (hm : (b, .map (ents m)) ∈ M) (hk : KeysN 4 m) (hs : s.length = 4) (hf : findI m s = none) :
    OpV C (.mget 7 (.int .i64 0) x y true) L H (.tuple #[.int .i64 0, .bool false]) H := by
  have := OpV.mget (C := C) hx hy hH hm hk hs
  rwa [hf] at this
theorem more_fs {T : List Int} (hT : TOK T) : ∀ (w : Nat) {M : HL} {n0 b : Nat} {H : Heap} {v : Value} {m : MapI} {S : List (List Int)} {s : List Int}, restM m < w → hasH ((b, .map (ents m)) :: M) n0 H → Sl M 1 v (ints T) → SOK T s → KeysN 4 m → MInv T S m → (∀ t ∈ S, ReachS T t s) →
    FS C 57 [.agg [v, .map (some b)].toArray, keyI s] H (fun e H' => ∃ r m' n', e = .int .i64 r ∧ MoreR T s r ∧ n0 ≤ n' ∧ hasH ((b, .map (ents m')) :: M) n' H' ∧ KeysN 4 m' ∧ MInv T S m' ∧ (∀ t, findI m t ≠ none → findI m' t ≠ none)) := by
  intro w
  induction w with
  | zero => intro M n0 b H v m S s hw; omega
  | succ w ih =>
    intro M n0 b H v m S s hw hH hS hs hk hI hR
    have h1 := ints_one s
    have hli : (ints s).length = 4 := by simp [hs.len]
    have hv := hS.one_
    have hb1 : one (.map (some b)) = true := rfl
    refine FS.intro (pf := pf57) rfl rfl rfl ?_
    refine WC.seq ?_
    refine WC.region ?_
    refine WR.boxA (cs := [v, .map (some b)]) (by first | exact gN | exact gS rfl) rfl hH rfl (by (repeat' (first | exact all_nil | refine all_cons (by first | rfl | assumption) ?_))) fun H1 hH1 => ?_
    refine WR.boxA (cs := ints s) (by first | exact gN | exact gS rfl) rfl hH1 rfl h1 fun H2 hH2 => ?_
    repeat' (first | refine zP ?_ | refine zA ?_ | (refine zM ?_; intro _ _) | refine zX ?_ | (refine zC ?_; intro _ _ _ _) | (refine zS ?_; intro _ _) | (apply Ws <;> intro hg))
    cases hf : findI m s with
    | some r =>
      refine WR.op (by first | exact gN | exact gS rfl) rfl (mgetS rfl rfl hH2 (by first | assumption | exact .head _ | exact .tail _ (.head _) | exact .tail _ (.tail _ (.head _)) | exact .tail _ (.tail _ (.tail _ (.head _))) | exact .tail _ (.tail _ (.tail _ (.tail _ (.head _)))) | exact .tail _ (.tail _ (.tail _ (.tail _ (.tail _ (.head _))))) | exact .tail _ (.tail _ (.tail _ (.tail _ (.tail _ (.tail _ (.head _)))))) | (repeat' (first | assumption | apply List.mem_cons_of_mem))) hk hs.len hf) ?_
      repeat' (first | refine zP ?_ | refine zA ?_ | (refine zM ?_; intro _ _) | refine zX ?_ | (refine zC ?_; intro _ _ _ _) | (refine zS ?_; intro _ _) | (apply Ws <;> intro hg))
      refine Ends.ret1 rfl ⟨r, m, n0 + 1 + 1, rfl, ?_, by omega, hH2.tail.tail, hk, hI, fun _ h => h⟩
      rcases hI s r hf with h2 | ⟨h2, h3⟩
      · exact h2
      · exact .inl ⟨h3, ever_ring (hR s h2)⟩
    | none =>
      refine WR.op (by first | exact gN | exact gS rfl) rfl (mgetN rfl rfl hH2 (by first | assumption | exact .head _ | exact .tail _ (.head _) | exact .tail _ (.tail _ (.head _)) | exact .tail _ (.tail _ (.tail _ (.head _))) | exact .tail _ (.tail _ (.tail _ (.tail _ (.head _)))) | exact .tail _ (.tail _ (.tail _ (.tail _ (.tail _ (.head _))))) | exact .tail _ (.tail _ (.tail _ (.tail _ (.tail _ (.tail _ (.head _)))))) | (repeat' (first | assumption | apply List.mem_cons_of_mem))) hk hs.len hf) ?_
      repeat' (first | refine zP ?_ | refine zA ?_ | (refine zM ?_; intro _ _) | refine zX ?_ | (refine zC ?_; intro _ _ _ _) | (refine zS ?_; intro _ _) | (apply Ws <;> intro hg))
      refine WR.mput (by first | exact gN | exact gS rfl) rfl rfl rfl hH2 (.there (.there .here)) hk hs.len fun H3 hH3 => ?_
      have hw2 := rest_put (hs.mem hT) hf (-1)
      have hk2 := hk.put hs.len (-1)
      have hI2 := hI.put s
      have hm2 : ∀ t, findI m t ≠ none → findI (putI m s (-1)) t ≠ none := fun t ht => by rw [findI_put]; split; simp; exact ht
      have hin2 : findI (putI m s (-1)) s ≠ none := by rw [findI_put, if_pos rfl]; simp
      generalize putI m s (-1) = m2 at hw2 hk2 hI2 hm2 hH3 hin2
      have hS3 := ((hS.cons (p := (b, .map (ents m2)))).cons (p := (n0, .row 69 0 0 [v, .map (some b)]))).cons (p := (n0 + 1, .row 72 0 0 (ints s)))
      repeat' (first | refine zP ?_ | refine zA ?_ | (refine zM ?_; intro _ _) | refine zX ?_ | (refine zC ?_; intro _ _ _ _) | (refine zS ?_; intro _ _) | (apply Ws <;> intro hg))
      clear hS3
      refine WC.loopX [(0, .agg [v, .map (some b)].toArray), (1, keyI s), (2, .pointer (some ⟨n0, 0, some 0⟩)), (3, .pointer (some ⟨n0 + 1, 0, some 0⟩)), (4, .int .i64 0), (26, .int .i64 (T.length : Int))] (fun z : MK => [(27, .int .i64 (z.k : Int)), (7, .int .i64 (z.q : Int))]) []
        (fun z H' => z.k ≤ T.length ∧ n0 + 1 + 1 ≤ z.n ∧ hasH ((n0 + 1, .row 72 0 0 (ints s)) :: (n0, .row 69 0 0 [v, .map (some b)]) :: (b, .map (ents z.m)) :: M) z.n H' ∧ KeysN 4 z.m ∧ MInv T (s :: S) z.m ∧ (∀ t, findI m2 t ≠ none → findI z.m t ≠ none) ∧ MostR T s z.k z.q)
        (fun z => T.length - z.k) ⟨0, 0, m2, n0 + 1 + 1⟩ (by repeat' (first | exact .nil | refine .cons rfl ?_)) rfl ⟨Nat.zero_le _, Nat.le_refl _, hH3, hk2, hI2, fun _ h => h, most_zero T s⟩ ?_
      clear hH3 hk2 hI2 hH2 hH1
      rintro ⟨k, q, m3, n3⟩ H4 ⟨hk3, hn3, hH4, hk4, hI4, hm4, hq⟩
      simp only at hk3 hn3 hH4 hk4 hI4 hm4 hq
      dsimp only [List.cons_append, List.nil_append]
      have hS4 := ((hS.cons (p := (b, .map (ents m3)))).cons (p := (n0, .row 69 0 0 [v, .map (some b)]))).cons (p := (n0 + 1, .row 72 0 0 (ints s)))
      repeat' (first | refine zP ?_ | refine zA ?_ | (refine zM ?_; intro _ _) | refine zX ?_ | (refine zC ?_; intro _ _ _ _) | (refine zS ?_; intro _ _) | (apply Ws <;> intro hg))
      refine WC.condP rfl (fun hlt => ?_) (fun hlt => ?_)
      · have hk' : k < T.length := by omega
        repeat' (first | refine zP ?_ | refine zA ?_ | (refine zM ?_; intro _ _) | refine zX ?_ | (refine zC ?_; intro _ _ _ _) | (refine zS ?_; intro _ _) | (apply Ws <;> intro hg))
        have hml : (metS T s k).length = 4 := by rw [metS_len, hs.len]
        have hmi : (ints (metS T s k)).length = 4 := by simp [hml]
        refine WR.call (by first | exact gN | exact gS rfl) rfl rfl (meet_fs hH4 hS4 hT.len hs.len (hs.bnd hT) hk') ?_
        rintro _ H5 ⟨n5, hn5, rfl, hH5⟩
        clear hH4 hS4
        repeat' (first | refine zP ?_ | refine zA ?_ | (refine zM ?_; intro _ _) | refine zX ?_ | (refine zC ?_; intro _ _ _ _) | (refine zS ?_; intro _ _) | (apply Ws <;> intro hg))
        rename_i H6 hH6
        refine WR.storeA (by first | exact gN | exact gS rfl) hH6 rfl rfl hml .here rfl fun H7 hH7 => ?_
        clear hH5 hH6
        by_cases hg : goodS T.length (metS T s k)
        · rw [decide_eq_true hg]
          repeat' (first | refine zP ?_ | refine zA ?_ | (refine zM ?_; intro _ _) | refine zX ?_ | (refine zC ?_; intro _ _ _ _) | (refine zS ?_; intro _ _) | (apply Ws <;> intro hg))
          have hH8 := hH7.perm (M' := (b, .map (ents m3)) :: (n5, .row 72 0 0 (ints (metS T s k))) :: (n0 + 1, .row 72 0 0 (ints s)) :: (n0, .row 69 0 0 [v, .map (some b)]) :: M) (List.perm_middle (l₁ := [_, _, _]))
          have hst : StepS T s (metS T s k) := ⟨k, hk', rfl, hg⟩
          refine WR.call (by first | exact gN | exact gS rfl) rfl rfl (ih (S := s :: S) (s := metS T s k) (Nat.lt_of_le_of_lt (rest_le hm4) (by omega)) hH8 ((hS.cons).cons).cons (met_ok hT hs hk' hg) hk4 hI4 (fun t ht => ?_)) ?_
          · rcases List.mem_cons.1 ht with rfl | ht
            · exact .one hst
            · exact .more (hR t ht) hst
          rintro _ H9 ⟨r, m4, n9, rfl, hr, hn9, hH9, hk9, hI9, hm9⟩
          have hlow := hr.low
          have hH10 := hH9.perm (M' := (n5, .row 72 0 0 (ints (metS T s k))) :: (n0 + 1, .row 72 0 0 (ints s)) :: (n0, .row 69 0 0 [v, .map (some b)]) :: (b, .map (ents m4)) :: M) (List.perm_middle (l₁ := [_, _, _])).symm
          clear hH9 hH8 hH7
          rcases hr with ⟨rfl, he⟩ | ⟨p, rfl, hp1, hp2⟩
          · repeat' (first | refine zP ?_ | refine zA ?_ | (refine zM ?_; intro _ _) | refine zX ?_ | (refine zC ?_; intro _ _ _ _) | (refine zS ?_; intro _ _) | refine zO ?_ | (apply Ws <;> intro hg))
            exact Ends.ret1 rfl ⟨-1, m4, n9, rfl, .inl ⟨rfl, ever_step hst he⟩, by omega, hH10.tail.tail.tail, hk9, hI9.ever (ever_step hst he), fun t ht => hm9 t (hm4 t (hm2 t ht))⟩
          · have hp3 := more_lt hT (met_ok hT hs hk' hg) hp1 hp2
            have hTl := hT.len
            repeat' (first | refine zP ?_ | refine zA ?_ | (refine zM ?_; intro _ _) | refine zX ?_ | (refine zC ?_; intro _ _ _ _) | (refine zS ?_; intro _ _) | refine zO ?_ | (apply Ws <;> intro hg))
            rw [show max (q : Int) (1 + (p : Int)) = ((max q (p + 1) : Nat) : Int) by omega]
            exact Ends.loop ⟨k + 1, max q (p + 1), m4, n9⟩ (by simp only; omega) (by repeat' (first | exact .nil | refine .cons rfl ?_)) rfl ⟨hk', by simp only; omega, hH10.tail, hk9, hI9, fun t ht => hm9 t (hm4 t ht), most_good hq hk' hg hp1 hp2⟩
        · rw [decide_eq_false hg]
          have hTl := hT.len
          repeat' (first | refine zP ?_ | refine zA ?_ | (refine zM ?_; intro _ _) | refine zX ?_ | (refine zC ?_; intro _ _ _ _) | (refine zS ?_; intro _ _) | (apply Ws <;> intro hg))
          refine Ends.loop ⟨k + 1, q, m3, n5 + 1⟩ (by simp only; omega) (by repeat' (first | exact .nil | refine .cons rfl ?_)) rfl ⟨hk', by simp only; omega, hH7.tail, hk4, hI4, hm4, most_bad hq hg⟩
      · have hkn : k = T.length := by omega
        subst hkn
        have hd := most_all hq
        repeat' (first | refine zP ?_ | refine zA ?_ | (refine zM ?_; intro _ _) | refine zX ?_ | (refine zC ?_; intro _ _ _ _) | (refine zS ?_; intro _ _) | (apply Ws <;> intro hg))
        refine WR.mput (by first | exact gN | exact gS rfl) rfl rfl rfl hH4 (.there (.there .here)) hk4 hs.len fun H5 hH5 => ?_
        repeat' (first | refine zP ?_ | refine zA ?_ | (refine zM ?_; intro _ _) | refine zX ?_ | (refine zC ?_; intro _ _ _ _) | (refine zS ?_; intro _ _) | (apply Ws <;> intro hg))
        refine Ends.ret1 rfl ⟨q, putI m3 s q, n3, rfl, hd, by omega, hH5.tail.tail, hk4.put hs.len _, hI4.done hd, fun t ht => ?_⟩
        rw [findI_put]
        split
        · simp
        · exact hm4 t (hm2 t ht)
end Go.Proofs.Ytnmlfjohoeebiaa.Wk

/- Numbers are checked; what is looked for; whether a walk can go on for ever. -/
namespace Go.Proofs.Ytnmlfjohoeebiaa.Wk
open Go Go.Abs Go.Mth
set_option linter.unusedVariables false
set_option linter.unusedSimpArgs false
def numE (x : Int) : Int := if x < 1 ∨ 8 < x then 1 else 0
def errT (T : List Int) : Int := if T.length = 0 then 4 else if 4 < T.length then 3 else firstE (fun i => numE (T.getD i 0)) T.length
theorem errT_ok {T : List Int} (h : errT T = 0) : TOK T ∧ 1 ≤ T.length := by
  unfold errT at h
  split at h
  · omega
  · split at h
    · omega
    · have key : ∀ i, i < T.length → 1 ≤ T.getD i 0 ∧ T.getD i 0 ≤ 8 := by
        intro i hi
        have := firstE_zero.1 h i hi
        unfold numE at this
        split at this <;> omega
      exact ⟨⟨by omega, fun i hi => (key i hi).1, fun i hi => (key i hi).2⟩, by omega⟩
theorem errT_of {T : List Int} (h : TOK T) (h1 : 1 ≤ T.length) : errT T = 0 := by
  unfold errT
  rw [if_neg (by omega), if_neg (by have := h.len; omega)]
  refine firstE_zero.2 fun i hi => ?_
  unfold numE
  rw [if_neg]
  have := h.lo i hi; have := h.hi i hi
  omega
open Classical in
noncomputable def everB (T s : List Int) : Bool := decide (everS T s)
open Classical in
theorem everB_true {T s : List Int} : everB T s = true ↔ everS T s := by unfold everB; exact decide_eq_true_iff
theorem MoreR.everB {T s : List Int} {r : Int} (h : MoreR T s r) : decide (r = -1) = everB T s := by
  cases hb : Wk.everB T s with
  | true => exact decide_eq_true (h.ever.2 (everB_true.1 hb))
  | false => exact decide_eq_false fun e => by rw [everB_true.2 (h.ever.1 e)] at hb; cases hb
attribute [local irreducible] gOK WS WC WR WD Ends FS YS OpV seqK blockK loopK midK retK rdK asgK rangeEnd sat Cell
section
variable {M : HL} {n0 : Nat} {H : Heap} {v w : Value}
theorem Check_fs (hH : hasH M n0 H) {T : List Int} (hS : Sl M 1 v (ints T)) (hl : T.length ≤ 1000) :
    FS C 23 [v] H (fun e H' => e = .int .i64 (errT T) ∧ H' = H) := by
  refine FS.intro (pf := pf23) rfl rfl rfl ?_
  by_cases h0 : T.length = 0
  · have : errT T = 4 := by unfold errT; rw [if_pos h0]
    rw [this]
    repeat' (first | refine zP ?_ | refine zA ?_ | (refine zM ?_; intro _ _) | refine zX ?_ | (refine zC ?_; intro _ _ _ _) | (refine zS ?_; intro _ _) | refine zO ?_ | (apply Ws <;> intro hg))
    exact Ends.ret1 rfl ⟨rfl, rfl⟩
  by_cases h1 : 4 < T.length
  · have : errT T = 3 := by unfold errT; rw [if_neg h0, if_pos h1]
    rw [this]
    repeat' (first | refine zP ?_ | refine zA ?_ | (refine zM ?_; intro _ _) | refine zX ?_ | (refine zC ?_; intro _ _ _ _) | (refine zS ?_; intro _ _) | refine zO ?_ | (apply Ws <;> intro hg))
    exact Ends.ret1 rfl ⟨rfl, rfl⟩
  have hE : errT T = firstE (fun i => numE (T.getD i 0)) T.length := by unfold errT; rw [if_neg h0, if_neg h1]
  repeat' (first | refine zP ?_ | refine zA ?_ | (refine zM ?_; intro _ _) | refine zX ?_ | (refine zC ?_; intro _ _ _ _) | (refine zS ?_; intro _ _) | refine zO ?_ | (apply Ws <;> intro hg))
  refine WC.loopX [(0, _), (11, _), (12, _)] (fun k : Nat => [(13, .int .i64 (k : Int))]) [] (fun k H' => H' = H ∧ k ≤ T.length ∧ firstE (fun i => numE (T.getD i 0)) k = 0) (fun k => T.length - k) 0 (by repeat' (first | exact .nil | refine .cons rfl ?_)) rfl ⟨rfl, Nat.zero_le _, rfl⟩ ?_
  rintro k H' ⟨rfl, hk, hno⟩
  dsimp only [List.cons_append, List.nil_append]
  repeat' (first | refine zP ?_ | refine zA ?_ | (refine zM ?_; intro _ _) | refine zX ?_ | (refine zC ?_; intro _ _ _ _) | (refine zS ?_; intro _ _) | (apply Ws <;> intro hg))
  refine WC.condP rfl (fun hlt => ?_) (fun hlt => ?_)
  · have hk' : k < T.length := by omega
    by_cases h3 : T.getD k 0 < 1
    · have h4 : numE (T.getD k 0) = 1 := by unfold numE; rw [if_pos (.inl h3)]
      repeat' (first | refine zP ?_ | refine zA ?_ | (refine zM ?_; intro _ _) | refine zX ?_ | (refine zC ?_; intro _ _ _ _) | (refine zS ?_; intro _ _) | refine zO ?_ | (apply Ws <;> intro hg))
      refine Ends.ret1 rfl ⟨?_, rfl⟩
      rw [hE, firstE_at hno (by show numE _ ≠ 0; rw [h4]; decide) hk', h4]
    · by_cases h5 : 8 < T.getD k 0
      · have h4 : numE (T.getD k 0) = 1 := by unfold numE; rw [if_pos (.inr h5)]
        repeat' (first | refine zP ?_ | refine zA ?_ | (refine zM ?_; intro _ _) | refine zX ?_ | (refine zC ?_; intro _ _ _ _) | (refine zS ?_; intro _ _) | refine zO ?_ | (apply Ws <;> intro hg))
        refine Ends.ret1 rfl ⟨?_, rfl⟩
        rw [hE, firstE_at hno (by show numE _ ≠ 0; rw [h4]; decide) hk', h4]
      · have h4 : numE (T.getD k 0) = 0 := by unfold numE; rw [if_neg (by omega)]
        repeat' (first | refine zP ?_ | refine zA ?_ | (refine zM ?_; intro _ _) | refine zX ?_ | (refine zC ?_; intro _ _ _ _) | (refine zS ?_; intro _ _) | refine zO ?_ | (apply Ws <;> intro hg))
        exact Ends.loop (k + 1) (by omega) (by repeat' (first | exact .nil | refine .cons rfl ?_)) rfl ⟨rfl, hk', firstE_succ hno h4⟩
  · have hkn : k = T.length := by omega
    repeat' (first | refine zP ?_ | refine zA ?_ | (refine zM ?_; intro _ _) | refine zX ?_ | (refine zC ?_; intro _ _ _ _) | (refine zS ?_; intro _ _) | (apply Ws <;> intro hg))
    refine Ends.ret1 rfl ⟨?_, rfl⟩
    rw [hE, ← hkn, hno]
theorem look_fs (hH : hasH M n0 H) (hv : one v = true) :
    FS C 54 [v] H (fun e H' => ∃ b n', e = .agg [v, .map (some b)].toArray ∧ n0 ≤ b ∧ b < n' ∧ hasH ((b, .map (ents [])) :: M) n' H') := by
  refine FS.intro (pf := pf54) rfl rfl rfl ?_
  repeat' (first | refine zP ?_ | refine zA ?_ | (refine zM ?_; intro _ _) | refine zX ?_ | (refine zC ?_; intro _ _ _ _) | (refine zS ?_; intro _ _) | (apply Ws <;> intro hg))
  rename_i H1 hH1
  refine WR.mkM (by first | exact gN | exact gS rfl) rfl hH1 fun H2 hH2 => ?_
  repeat' (first | refine zP ?_ | refine zA ?_ | (refine zM ?_; intro _ _) | refine zX ?_ | (refine zC ?_; intro _ _ _ _) | (refine zS ?_; intro _ _) | (apply Ws <;> intro hg))
  refine WR.op (by first | exact gN | exact gS rfl) rfl (OpV.bldT (cs := [v, .map (some (n0 + 1))].toArray) rfl (by cases v <;> first | rfl | cases hv)) ?_
  refine WR.store2 (by first | exact gN | exact gS rfl) hH2 rfl rfl hv rfl (.there .here) fun H3 hH3 => ?_
  repeat' (first | refine zP ?_ | refine zA ?_ | (refine zM ?_; intro _ _) | refine zX ?_ | (refine zC ?_; intro _ _ _ _) | (refine zS ?_; intro _ _) | (apply Ws <;> intro hg))
  refine Ends.retCN (l := [v, .map (some (n0 + 1))]) rfl ?_ ⟨n0 + 1, n0 + 1 + 1, rfl, by omega, by omega, hH3.sub (.cons_cons _ (List.sublist_cons_self _ _))⟩
  have := hH3.readN (b := n0) (u := 0) (lo := 0) (o := 0) (k := 2) (.tail _ (.head _)) (.row _ _ _ _) (Nat.le_refl _) (by simp)
  simpa using this
theorem inv_nil (T : List Int) : MInv T [] [] := fun t r h => by cases h
end
end Go.Proofs.Ytnmlfjohoeebiaa.Wk

/- What is left after a walk, and the functions that ask for it. -/
namespace Go.Proofs.Ytnmlfjohoeebiaa.Wk
open Go Go.Abs Go.Mth
set_option linter.unusedVariables false
set_option linter.unusedSimpArgs false
/-- What is left after a walk, if it is good. -/
def goS (T : List Int) : List Int → List Int → Option (List Int)
  | s, [] => some s
  | s, x :: w => if goodS T.length (metS T s x.toNat) then goS T (metS T s x.toNat) w else none
theorem goS_snoc {T : List Int} {x : Int} : ∀ {w s : List Int}, goS T s (w ++ [x]) = (goS T s w).bind fun t => if goodS T.length (metS T t x.toNat) then some (metS T t x.toNat) else none
  | [], s => rfl
  | y :: w, s => by
    simp only [List.cons_append, goS]
    split
    · exact goS_snoc
    · rfl
/-- Numbers of stretches. -/
def WOK (n : Nat) (w : List Int) : Prop := ∀ x ∈ w, 0 ≤ x ∧ x < (n : Int)
theorem goS_ok {T : List Int} (hT : TOK T) : ∀ {w s t : List Int}, SOK T s → WOK T.length w → goS T s w = some t → SOK T t
  | [], s, t, h, _, e => by cases e; exact h
  | x :: w, s, t, h, hw, e => by
    simp only [goS] at e
    split at e
    · rename_i hg
      have hx := hw x (List.mem_cons_self ..)
      exact goS_ok hT (met_ok hT h (by omega) hg) (fun y hy => hw y (List.mem_cons_of_mem _ hy)) e
    · cases e
def strE (n : Nat) (x : Int) : Int := if x < 0 ∨ (n : Int) ≤ x then 2 else 0
def walkE (n : Nat) (w : List Int) : Int := if 60 < w.length then 19 else firstE (fun i => strE n (w.getD i 0)) w.length
def leftE (T w : List Int) : Int := if errT T ≠ 0 then errT T else if walkE T.length w ≠ 0 then walkE T.length w else if goS T (startS T) w = none then 12 else 0
structure FK where
  k : Nat
  s : List Int
  n : Nat
attribute [local irreducible] gOK WS WC WR WD Ends FS YS OpV seqK blockK loopK midK retK rdK asgK rangeEnd sat Cell
section
variable {M : HL} {n0 : Nat} {H : Heap} {v w : Value}
end
end Go.Proofs.Ytnmlfjohoeebiaa.Wk

/- Can, Longest; numbers of tides by bytes; a weight. -/
namespace Go.Proofs.Ytnmlfjohoeebiaa.Wk
open Go Go.Abs Go.Mth
set_option linter.unusedVariables false
set_option linter.unusedSimpArgs false
theorem u8k : C.c.P.underlying 5 = some (.int .u8) := by kernel_rfl
theorem i64k : C.c.P.underlying 3 = some (.int .i64) := by kernel_rfl
/-- A beach's cells. -/
def trayV (a b c : Int) (hs : List Int) : List Value := (a :: b :: c :: hs).map (Value.int .u8)
def beachC (x : Nat) (ys : List Nat) : List Value := numsK .u8 (x :: ys)
theorem tray_beach {a b c : Int} {hs : List Int} (ha : 0 ≤ a ∧ a ≤ 255) (hb : 0 ≤ b ∧ b ≤ 255) (hc : 0 ≤ c ∧ c ≤ 255) (hl : hs.length = 2) (hu : ∀ x ∈ hs, 0 ≤ x ∧ x ≤ 255) :
    ∃ (x : Nat) (ys : List Nat), trayV a b c hs = beachC x ys ∧ x ≤ 255 ∧ ys.length = 4 ∧ ∀ y ∈ ys, y ≤ 255 := by
  match hs, hl, hu with
  | [d, e], _, hu =>
    have hd := hu d (by simp)
    have he := hu e (by simp)
    refine ⟨a.toNat, [b.toNat, c.toNat, d.toNat, e.toNat], ?_, by omega, rfl, ?_⟩
    · simp only [trayV, beachC, numsK, List.map_cons, List.map_nil]
      rw [Int.toNat_of_nonneg ha.1, Int.toNat_of_nonneg hb.1, Int.toNat_of_nonneg hc.1, Int.toNat_of_nonneg hd.1, Int.toNat_of_nonneg he.1]
    · intro y hy
      simp only [List.mem_cons, List.not_mem_nil, or_false] at hy
      omega
theorem beach_one (x : Nat) (ys : List Nat) : (beachC x ys).all one = true := by
  rw [List.all_eq_true]; intro q hq; obtain ⟨z, _, rfl⟩ := List.mem_map.1 hq; rfl
/-- The first so many of them, each as told. -/
def firstT (f : Nat → Nat) (ys : List Nat) (n : Nat) : List Int := (List.range n).map fun i => ((f (ys.getD i 0) : Nat) : Int)
theorem firstT_succ (f : Nat → Nat) (ys : List Nat) (n : Nat) : firstT f ys (n + 1) = firstT f ys n ++ [((f (ys.getD n 0) : Nat) : Int)] := by
  simp [firstT, List.range_succ]
theorem firstT_len (f : Nat → Nat) (ys : List Nat) (n : Nat) : (firstT f ys n).length = n := by simp [firstT]
theorem firstT_get {f : Nat → Nat} {ys : List Nat} {n i : Nat} (h : i < n) : (firstT f ys n).getD i 0 = ((f (ys.getD i 0) : Nat) : Int) := by
  rw [getD_eq (by rw [firstT_len]; exact h)]; simp [firstT]
theorem firstT_ok {f : Nat → Nat} {ys : List Nat} {n : Nat} (hn : n ≤ 4) (h : ∀ y, 1 ≤ f y ∧ f y ≤ 8) : TOK (firstT f ys n) := by
  refine ⟨by rw [firstT_len]; exact hn, fun i hi => ?_, fun i hi => ?_⟩ <;> rw [firstT_len] at hi <;> rw [firstT_get hi] <;> have := h (ys.getD i 0) <;> omega
def madeF (most y : Nat) : Nat := 1 + y % most
structure AV where
  k : Nat
  v : Value
  Mx : HL
  n : Nat
/-- A sum of one by each number, in parts of 840. -/
def sumW (T : List Int) : Int := (T.map fun t => 840 / t).sum
def weighI (T : List Int) (a b : Int) : Int := min 1 (max (-1) (sumW T * b - 840 * a))
attribute [local irreducible] gOK WS WC WR WD Ends FS YS OpV seqK blockK loopK midK retK rdK asgK rangeEnd sat Cell
section
variable {M : HL} {n0 : Nat} {H : Heap} {v w : Value}
/-- How long the longest walk is, or the error. -/
def LongR (T : List Int) (r e : Int) : Prop := (errT T ≠ 0 ∧ r = 0 ∧ e = errT T) ∨ (errT T = 0 ∧ everS T (startS T) ∧ r = 0 ∧ e = 13) ∨ (errT T = 0 ∧ e = 0 ∧ ∃ m : Nat, r = m ∧ m < 6561 ∧ canS T m (startS T) ∧ ¬ canS T (m + 1) (startS T))
theorem made_fs (hH : hasH M n0 H) {x : Nat} {ys : List Nat} (hx : x ≤ 255) (hl : ys.length = 4) (hy : ∀ y ∈ ys, y ≤ 255) {many most : Nat} (hm : 1 ≤ many ∧ many ≤ 4) (ho : 1 ≤ most ∧ most ≤ 8) :
    FS C 38 [.agg (beachC x ys).toArray, .int .i64 (many : Int), .int .i64 (most : Int)] H (fun e H' => ∃ Mx n', Own 3 1 e (ints (firstT (madeF most) ys (1 + x % many))) Mx ∧ n0 ≤ n' ∧ hasH (Mx ++ M) n' H') := by
  have hone := beach_one x ys
  have hbl : (beachC x ys).length = 5 := by simp [beachC, hl]
  refine FS.intro (pf := pf38) rfl rfl rfl ?_
  repeat' (first | refine zP ?_ | refine zA ?_ | (refine zM ?_; intro _ _) | refine zX ?_ | (refine zC ?_; intro _ _ _ _) | (refine zS ?_; intro _ _))
  rename_i H1 hH1
  refine WR.op (by first | exact gN | exact gS rfl) rfl (OpV.conv u8k i64k rfl (c := (x : Int)) (IntWalk.i64_in _ (by omega))) ?_
  have hmod := Nat.mod_lt x (show 0 < many by omega)
  repeat' (first | refine zP ?_ | refine zA ?_ | (refine zM ?_; intro _ _) | refine zX ?_ | (refine zC ?_; intro _ _ _ _) | (refine zS ?_; intro _ _) | (apply Ws <;> intro hg))
  rw [show (x : Int) % (many : Int) = ((x % many : Nat) : Int) by simp]
  obtain ⟨r, hr⟩ : ∃ r, x % many = r := ⟨_, rfl⟩
  rw [hr] at hmod ⊢
  repeat' (first | refine zP ?_ | refine zA ?_ | (refine zM ?_; intro _ _) | refine zX ?_ | (refine zC ?_; intro _ _ _ _) | (refine zS ?_; intro _ _) | (apply Ws <;> intro hg))
  rw [show (1 : Int) + (r : Int) = ((1 + r : Nat) : Int) by omega]
  obtain ⟨N, hN⟩ : ∃ N, 1 + r = N := ⟨_, rfl⟩
  have hN4 : 1 ≤ N ∧ N ≤ 4 := by omega
  rw [hN]
  refine WR.op (by first | exact gN | exact gS rfl) rfl (OpV.slAh rfl rfl (by omega) (by decide)) ?_
  repeat' (first | refine zP ?_ | refine zA ?_ | (refine zM ?_; intro _ _) | refine zX ?_ | (refine zC ?_; intro _ _ _ _) | (refine zS ?_; intro _ _) | (apply Ws <;> intro hg))
  refine WC.loopX [(1, _), (2, _), (3, _), (6, _), (17, _), (18, _)] (fun s : AV => [(7, s.v), (19, .int .i64 (s.k : Int))]) []
    (fun s H' => s.k ≤ N ∧ n0 + 1 ≤ s.n ∧ Own 3 1 s.v (ints (firstT (madeF most) ys s.k)) s.Mx ∧ hasH ((n0, .row 45 0 0 (beachC x ys)) :: (s.Mx ++ M)) s.n H') (fun s => N - s.k) ⟨0, .slice none 0 0, [], n0 + 1⟩ (by repeat' (first | exact .nil | refine .cons rfl ?_)) rfl
    ⟨Nat.zero_le _, Nat.le_refl _, .nil, hH1⟩ ?_
  clear hH1
  rintro ⟨k, v, Mx, n1⟩ H2 ⟨hk, hn1, hO, hH2⟩
  simp only at hk hn1 hO hH2
  dsimp only [List.cons_append, List.nil_append]
  repeat' (first | refine zP ?_ | refine zA ?_ | (refine zM ?_; intro _ _) | refine zX ?_ | (refine zC ?_; intro _ _ _ _) | (refine zS ?_; intro _ _) | (apply Ws <;> intro hg))
  refine WC.condP rfl (fun hlt => ?_) (fun hlt => ?_)
  · have hk' : k < N := by omega
    have hyk : ys.getD k 0 ≤ 255 := hy _ (getD_mem (by omega))
    have hcell : (beachC x ys)[1 + k]? = some (.int .u8 ((ys.getD k 0 : Nat) : Int)) := by
      rw [Nat.add_comm]
      simp only [beachC, numsK, List.map_cons, List.getElem?_cons_succ]
      exact nodes_get (by omega)
    repeat' (first | refine zP ?_ | refine zA ?_ | (refine zM ?_; intro _ _) | refine zX ?_ | (refine zC ?_; intro _ _ _ _) | (refine zS ?_; intro _ _) | (apply Ws <;> intro hg))
    refine WR.op (by first | exact gN | exact gS rfl) rfl (OpV.load1 rfl hH2 (.head _) (.row _ _ _ _) (Nat.zero_le _) hcell) ?_
    repeat' (first | refine zP ?_ | refine zA ?_ | (refine zM ?_; intro _ _) | refine zX ?_ | (refine zC ?_; intro _ _ _ _) | (refine zS ?_; intro _ _) | (apply Ws <;> intro hg))
    refine WR.op (by first | exact gN | exact gS rfl) rfl (OpV.conv u8k i64k rfl (c := ((ys.getD k 0 : Nat) : Int)) (IntWalk.i64_in _ (by omega))) ?_
    repeat' (first | refine zP ?_ | refine zA ?_ | (refine zM ?_; intro _ _) | refine zX ?_ | (refine zC ?_; intro _ _ _ _) | (refine zS ?_; intro _ _) | (apply Ws <;> intro hg))
    rw [show ((ys.getD k 0 : Nat) : Int) % (most : Int) = ((ys.getD k 0 % most : Nat) : Int) by simp]
    have hmm := Nat.mod_lt (ys.getD k 0) (show 0 < most by omega)
    generalize hz : ys.getD k 0 % most = z at hmm
    repeat' (first | refine zP ?_ | refine zA ?_ | (refine zM ?_; intro _ _) | refine zX ?_ | (refine zC ?_; intro _ _ _ _) | (refine zS ?_; intro _ _) | (apply Ws <;> intro hg))
    rw [show (1 : Int) + (z : Int) = ((1 + z : Nat) : Int) by omega]
    refine WR.append1F [(n0, .row 45 0 0 (beachC x ys))] Mx M rfl rfl rfl rfl hO hH2 (new := [.int .i64 ((1 + z : Nat) : Int)]) (by rfl) rfl rfl (Nat.le_refl _) (by omega) (by simp [firstT_len]; omega) fun v3 M3 n3 H6 hO3 hH6 hn3 => ?_
    repeat' (first | refine zP ?_ | refine zA ?_ | (refine zM ?_; intro _ _) | refine zX ?_ | (refine zC ?_; intro _ _ _ _) | (refine zS ?_; intro _ _) | (apply Ws <;> intro hg))
    refine Ends.loop ⟨k + 1, v3, M3, n3⟩ (by simp only; omega) (by repeat' (first | exact .nil | refine .cons rfl ?_)) rfl ⟨hk', by simp only; omega, ?_, hH6⟩
    show Own _ 1 v3 (List.map (Value.int .i64) (firstT (madeF most) ys (k + 1))) M3
    rw [firstT_succ, List.map_append, show madeF most (ys.getD k 0) = 1 + z by rw [madeF, hz]]
    exact hO3
  · have hkN : k = N := by omega
    subst hkN
    repeat' (first | refine zP ?_ | refine zA ?_ | (refine zM ?_; intro _ _) | refine zX ?_ | (refine zC ?_; intro _ _ _ _) | (refine zS ?_; intro _ _) | (apply Ws <;> intro hg))
    exact Ends.ret1 rfl ⟨Mx, n1, hO, by omega, hH2.tail⟩
end
end Go.Proofs.Ytnmlfjohoeebiaa.Wk

/- Which numbers can be walked for ever: a weight of more than 1 is too much, and for a weight of at most five sixths a plan is known. -/
namespace Go.Proofs.Ytnmlfjohoeebiaa.Wk
open Go Go.Abs Go.Mth
set_option linter.unusedVariables false
set_option linter.unusedSimpArgs false
/-! Too much. -/
def needF (T s : List Int) (N : Int) (i : Nat) : Int := (N + T.getD i 0 - s.getD i 0) / T.getD i 0
def sumF (f : Nat → Int) : Nat → Int
  | 0 => 0
  | n + 1 => sumF f n + f n
/-! Plans. -/
def consO (x : Nat) : Option (List Nat) → Option (List Nat)
  | none => none
  | some l => some (x :: l)
def metN : List Nat → List Nat → Nat → Option (List Nat)
  | t :: T, x :: s, j => bif Nat.beq j 0 then consO t (metN T s 99) else bif Nat.ble x 1 then none else consO (x - 1) (metN T s (j - 1))
  | _, _, _ => some []
def goN (T : List Nat) : List Nat → List Nat → Option (List Nat)
  | s, [] => some s
  | s, j :: p => match metN T s j with | some t => goN T t p | none => none
def sameN : List Nat → List Nat → Bool
  | [], [] => true
  | a :: l, b :: r => Nat.beq a b && sameN l r
  | _, _ => false
def ringN (T p : List Nat) : Bool := match goN T T p with
  | some s => (match goN T s p with | some r => sameN r s | none => false)
  | none => false
def sumN : List Nat → Nat
  | [] => 0
  | t :: T => 840 / t + sumN T
def inN (t : Nat) : List Nat → Bool
  | [] => false
  | a :: l => Nat.beq t a || inN t l
def famN (l : List Nat) : List Nat → Bool
  | [] => true
  | t :: T => inN t l && famN l T
def listsN : Nat → List (List Nat)
  | 0 => [[]]
  | n + 1 => ([1, 2, 3, 4, 5, 6, 7, 8].map fun t => (listsN n).map fun l => t :: l).flatten
def needN (T : List Nat) : Bool := Nat.ble (sumN T) 700 || (Nat.ble (sumN T) 840 && (famN [1, 2, 4, 8] T || famN [1, 2, 6] T || famN [1, 3, 6] T))
def plansN : Nat → List (List Nat)
  | 1 => [[0]]
  | 2 => [[0, 1]]
  | 3 => [[0, 1, 0, 2], [0, 1, 2], [0, 1, 2, 1], [0, 2, 1, 2]]
  | 4 => [[0, 1, 0, 2, 0, 1, 0, 3], [0, 1, 0, 2, 0, 3], [0, 1, 0, 2, 0, 3, 0, 2], [0, 1, 0, 3, 0, 2, 0, 3], [0, 1, 2, 0, 1, 3], [0, 1, 2, 0, 3, 2], [0, 1, 3, 0, 2, 3], [0, 1, 2, 1, 0, 1, 3, 1], [0, 1, 2, 3], [0, 2, 1, 2, 0, 2, 3, 2], [0, 3, 1, 3, 0, 3, 2, 3], [0, 1, 2, 1, 3, 1], [0, 1, 2, 3, 1, 2], [0, 1, 3, 2, 1, 3], [0, 2, 1, 2, 3, 2], [0, 2, 3, 1, 2, 3], [0, 3, 1, 3, 2, 3], [0, 1, 2, 1, 3, 1, 2, 1], [0, 1, 3, 1, 2, 1, 3, 1], [0, 2, 1, 2, 3, 2, 1, 2], [0, 3, 1, 3, 2, 3, 1, 3], [0, 2, 3, 2, 1, 2, 3, 2], [0, 3, 2, 3, 1, 3, 2, 3]]
  | _ => []
def checkN (n : Nat) : Bool := (listsN n).all fun T => !(needN T) || (plansN n).any fun p => p.all (fun j => Nat.blt j n) && ringN T p
def castN (l : List Nat) : List Int := l.map fun (x : Nat) => (x : Int)
def padN (s : List Nat) : List Int := startS (castN s)
end Go.Proofs.Ytnmlfjohoeebiaa.Wk

/- How long a stretch was not met. -/
namespace Go.Proofs.Ytnmlfjohoeebiaa.Wk
open Go Go.Abs Go.Mth
set_option linter.unusedVariables false
set_option linter.unusedSimpArgs false
/-- Tides since a stretch was met, or since the beginning. -/
def sinceK (W : List Int) (i : Nat) : Nat → Nat
  | 0 => 0
  | k + 1 => if W.getD k 0 = (i : Int) then 0 else sinceK W i k + 1
theorem since_ge {W : List Int} {i : Nat} : ∀ {k d : Nat}, d ≤ sinceK W i k ↔ d ≤ k ∧ ∀ j, k ≤ j + d → j < k → W.getD j 0 ≠ (i : Int)
  | 0, d => by simp [sinceK]
  | k + 1, d => by
    simp only [sinceK]
    cases d with
    | zero => simp; intro j h1 h2; omega
    | succ d =>
      by_cases h : W.getD k 0 = (i : Int)
      · rw [if_pos h]
        exact ⟨fun h => by omega, fun hk => absurd h (hk.2 k (by omega) (by omega))⟩
      · rw [if_neg h, Nat.add_le_add_iff_right, since_ge]
        constructor
        · rintro ⟨h1, h2⟩
          refine ⟨by omega, fun j h3 h4 => ?_⟩
          by_cases h5 : j = k
          · subst h5; exact h
          · exact h2 j (by omega) (by omega)
        · rintro ⟨h1, h2⟩
          exact ⟨by omega, fun j h3 h4 => h2 j (by omega) (by omega)⟩
/-- No stretch is missed in the first so many tides. -/
def keptK (T W : List Int) (k : Nat) : Prop := ∀ m, m ≤ k → ∀ i, i < T.length → (sinceK W i m : Int) < T.getD i 0
theorem kept_zero {T W : List Int} (hT : TOK T) : keptK T W 0 := fun m hm i hi => by
  have : m = 0 := by omega
  subst this
  have := hT.lo i hi
  simp only [sinceK]; omega
theorem kept_less {T W : List Int} {k : Nat} (h : keptK T W (k + 1)) : keptK T W k := fun m hm i hi => h m (by omega) i hi
/-- What is left, by what was not met. -/
def SinceS (T W s : List Int) (k : Nat) : Prop := ∀ i, i < T.length → s.getD i 0 = T.getD i 0 - (sinceK W i k : Int)
theorem go_kept {T W : List Int} (hT : TOK T) (hW : WOK T.length W) : ∀ {k : Nat}, k ≤ W.length → keptK T W k → ∃ s, goS T (startS T) (W.take k) = some s ∧ SinceS T W s k
  | 0, _, _ => ⟨startS T, by simp [goS], fun i hi => by rw [start_get hT.len, if_pos hi]; simp [sinceK]⟩
  | k + 1, hk, h => by
    obtain ⟨s, h1, h2⟩ := go_kept hT hW (k := k) (by omega) (kept_less h)
    have hk' : k < W.length := by omega
    have hs := goS_ok hT (start_ok hT) (fun x hx => hW x (List.mem_of_mem_take hx)) h1
    have hx := hW _ (getD_mem (a := 0) hk')
    have htk : W.take (k + 1) = W.take k ++ [W.getD k 0] := by rw [List.take_succ_eq_append_getElem hk', getD_eq hk']
    have get := metS_get (T := T) (s := s) (j := (W.getD k 0).toNat) (by rw [hs.len]; exact hT.len) (by omega)
    have hS : SinceS T W (metS T s (W.getD k 0).toNat) (k + 1) := fun i hi => by
      rw [get]
      simp only [sinceK]
      by_cases h3 : W.getD k 0 = (i : Int)
      · rw [if_pos (by omega), if_pos h3, show (W.getD k 0).toNat = i by omega]; simp
      · rw [if_neg (by omega), if_pos hi, if_neg h3, h2 i hi]; omega
    refine ⟨metS T s (W.getD k 0).toNat, ?_, hS⟩
    rw [htk, goS_snoc, h1, Option.bind_some, if_pos]
    refine (not_good (by rw [metS_len, hs.len]) hT.len).2 fun i hi => ?_
    rw [hS i hi]
    have := h (k + 1) (Nat.le_refl _) i hi
    omega
theorem kept_go {T W : List Int} (hT : TOK T) (hW : WOK T.length W) : ∀ {k : Nat} {s : List Int}, k ≤ W.length → goS T (startS T) (W.take k) = some s → keptK T W k
  | 0, _, _, _ => kept_zero hT
  | k + 1, s, hk, h => by
    have hk' : k < W.length := by omega
    have htk : W.take (k + 1) = W.take k ++ [W.getD k 0] := by rw [List.take_succ_eq_append_getElem hk', getD_eq hk']
    rw [htk, goS_snoc] at h
    cases h1 : goS T (startS T) (W.take k) with
    | none => rw [h1] at h; cases h
    | some t =>
      rw [h1, Option.bind_some] at h
      have ih := kept_go hT hW (by omega) h1
      obtain ⟨t', h2, h3⟩ := go_kept hT hW (by omega) ih
      rw [h1] at h2; cases h2
      have hs := goS_ok hT (start_ok hT) (fun x hx => hW x (List.mem_of_mem_take hx)) h1
      have hx := hW _ (getD_mem (a := 0) hk')
      have get := metS_get (T := T) (s := t) (j := (W.getD k 0).toNat) (by rw [hs.len]; exact hT.len) (by omega)
      split at h
      · rename_i hg
        intro m hm i hi
        rcases Nat.lt_or_ge k m with h4 | h4
        · have : m = k + 1 := by omega
          subst this
          have hg' := (not_good (by rw [metS_len, hs.len]) hT.len).1 hg i hi
          have h5 := ih k (Nat.le_refl _) i hi
          have h6 := hT.lo i hi
          rw [get] at hg'
          simp only [sinceK]
          by_cases h7 : W.getD k 0 = (i : Int)
          · rw [if_pos h7]; omega
          · rw [if_neg h7]
            rw [if_neg (by omega), if_pos hi, h3 i hi] at hg'
            omega
        · exact ih m h4 i hi
      · cases h
/-- A walk misses nothing. -/
def GoodW (T W : List Int) : Prop := ∀ i, i < T.length → ∀ f, f + (T.getD i 0).toNat ≤ W.length → (i : Int) ∈ (W.drop f).take (T.getD i 0).toNat
theorem mem_cut {W : List Int} {f d : Nat} {x : Int} (h : f + d ≤ W.length) : x ∈ (W.drop f).take d ↔ ∃ j, f ≤ j ∧ j < f + d ∧ W.getD j 0 = x := by
  constructor
  · intro hm
    obtain ⟨j, hj, rfl⟩ := List.mem_iff_getElem.1 hm
    simp only [List.length_take, List.length_drop] at hj
    refine ⟨f + j, by omega, by omega, ?_⟩
    rw [getD_eq (by omega)]; simp
  · rintro ⟨j, h1, h2, rfl⟩
    refine List.mem_iff_getElem.2 ⟨j - f, by simp; omega, ?_⟩
    rw [getD_eq (by omega)]
    simp only [List.getElem_take, List.getElem_drop]
    congr 1; omega
theorem good_kept {T W : List Int} (hT : TOK T) : GoodW T W ↔ keptK T W W.length := by
  constructor
  · intro h m hm i hi
    have h1 := hT.lo i hi
    rcases Int.lt_or_le (sinceK W i m : Int) (T.getD i 0) with h2 | h2
    · exact h2
    · have h3 := (since_ge (W := W) (i := i) (k := m) (d := (T.getD i 0).toNat)).1 (by omega)
      obtain ⟨j, h4, h5, h6⟩ := (mem_cut (by omega)).1 (h i hi (m - (T.getD i 0).toNat) (by omega))
      exact absurd h6 (h3.2 j (by omega) (by omega))
  · intro h i hi f hf
    rw [mem_cut hf]
    have h1 := hT.lo i hi
    have h2 := h (f + (T.getD i 0).toNat) hf i hi
    rcases Classical.em (∃ j, f ≤ j ∧ j < f + (T.getD i 0).toNat ∧ W.getD j 0 = (i : Int)) with h3 | h3
    · exact h3
    · have := (since_ge (W := W) (i := i) (k := f + (T.getD i 0).toNat) (d := (T.getD i 0).toNat)).2 ⟨by omega, fun j h4 h5 h6 => h3 ⟨j, by omega, h5, h6⟩⟩
      omega
theorem go_good {T W : List Int} (hT : TOK T) (hW : WOK T.length W) : (goS T (startS T) W = none ∧ ¬ GoodW T W) ∨ (GoodW T W ∧ ∃ s, goS T (startS T) W = some s ∧ SinceS T W s W.length) := by
  by_cases h : GoodW T W
  · obtain ⟨s, h1, h2⟩ := go_kept hT hW (Nat.le_refl _) ((good_kept hT).1 h)
    rw [List.take_length] at h1
    exact .inr ⟨h, s, h1, h2⟩
  · refine .inl ⟨?_, h⟩
    cases h1 : goS T (startS T) W with
    | none => rfl
    | some s => exact absurd ((good_kept hT).2 (kept_go hT hW (Nat.le_refl _) (by rw [List.take_length]; exact h1))) h
end Go.Proofs.Ytnmlfjohoeebiaa.Wk

/- Left, Goes, and what the laws say of walks. -/
namespace Go.Abs
set_option linter.unusedSectionVars false
variable [Globs]
open Go
section
variable {C : CW} {nt : Nat} {L : Env} {D : List Nat} {H : Heap} {K : St → Prop} {M M' : HL} {n i d : Nat} {gd : Option (Tmp × Bool)} {lo' : List Nat} {l : List POp}
end
end Go.Abs
namespace Go.Proofs.Ytnmlfjohoeebiaa.Wk
open Go Go.Abs Go.Mth
set_option linter.unusedVariables false
set_option linter.unusedSimpArgs false
open Classical in
noncomputable def goodB (T W : List Int) : Bool := decide (GoodW T W)
/-- What the law says is left. -/
def lawLeft (T W : List Int) (k : Nat) : List Int := (List.range 4).map fun i => if i < k then T.getD i 0 - (sinceK W i W.length : Int) else 0
attribute [local irreducible] gOK WS WC WR WD Ends FS YS OpV seqK blockK loopK midK retK rdK asgK rangeEnd sat Cell
section
variable {M : HL} {n0 : Nat} {H : Heap} {v w : Value}
theorem same_fs (hH : hasH M n0 H) {xs ys : List Int} (hS : Sl M 1 v (ints xs)) (hU : Sl M 1 w (ints ys)) (hx : xs.length ≤ 1000) (hy : ys.length ≤ 1000) :
    FS C 29 [v, w] H (fun e H' => e = .bool (decide (xs = ys)) ∧ H' = H) := by
  refine FS.intro (pf := pf29) rfl rfl rfl ?_
  repeat' (first | refine zP ?_ | refine zA ?_ | (refine zM ?_; intro _ _) | refine zX ?_ | (refine zC ?_; intro _ _ _ _) | (refine zS ?_; intro _ _) | (apply Ws <;> intro hg))
  refine WC.condP rfl (fun hne => ?_) (fun hne => ?_)
  · repeat' (first | refine zP ?_ | refine zA ?_ | (refine zM ?_; intro _ _) | refine zX ?_ | (refine zC ?_; intro _ _ _ _) | (refine zS ?_; intro _ _) | (apply Ws <;> intro hg))
    exact Ends.ret1 rfl ⟨by rw [decide_eq_false (fun h => hne (by rw [h]))], rfl⟩
  have hle : xs.length = ys.length := by omega
  repeat' (first | refine zP ?_ | refine zA ?_ | (refine zM ?_; intro _ _) | refine zX ?_ | (refine zC ?_; intro _ _ _ _) | (refine zS ?_; intro _ _) | (apply Ws <;> intro hg))
  refine WC.loopX [(0, _), (1, _)] (fun k : Nat => [(5, .int .i64 (k : Int))]) [] (fun k H' => H' = H ∧ k ≤ xs.length ∧ ∀ j, j < k → xs.getD j 0 = ys.getD j 0) (fun k => xs.length - k) 0 (by repeat' (first | exact .nil | refine .cons rfl ?_)) rfl ⟨rfl, Nat.zero_le _, fun j h => absurd h (Nat.not_lt_zero _)⟩ ?_
  rintro k H' ⟨rfl, hk, hno⟩
  dsimp only [List.cons_append, List.nil_append]
  repeat' (first | refine zP ?_ | refine zA ?_ | (refine zM ?_; intro _ _) | refine zX ?_ | (refine zC ?_; intro _ _ _ _) | (refine zS ?_; intro _ _) | (apply Ws <;> intro hg))
  refine WC.condP rfl (fun hlt => ?_) (fun hlt => ?_)
  · have hk' : k < xs.length := by omega
    have hk2 : k < ys.length := by omega
    repeat' (first | refine zP ?_ | refine zA ?_ | (refine zM ?_; intro _ _) | refine zX ?_ | (refine zC ?_; intro _ _ _ _) | (refine zS ?_; intro _ _) | (apply Ws <;> intro hg))
    refine WC.condP rfl (fun hd => ?_) (fun hd => ?_)
    · repeat' (first | refine zP ?_ | refine zA ?_ | (refine zM ?_; intro _ _) | refine zX ?_ | (refine zC ?_; intro _ _ _ _) | (refine zS ?_; intro _ _) | (apply Ws <;> intro hg))
      exact Ends.ret1 rfl ⟨by rw [decide_eq_false (fun h => hd (by rw [h]))], rfl⟩
    · repeat' (first | refine zP ?_ | refine zA ?_ | (refine zM ?_; intro _ _) | refine zX ?_ | (refine zC ?_; intro _ _ _ _) | (refine zS ?_; intro _ _) | (apply Ws <;> intro hg))
      refine Ends.loop (k + 1) (by omega) (by repeat' (first | exact .nil | refine .cons rfl ?_)) rfl ⟨rfl, hk', fun j hj => ?_⟩
      rcases Nat.lt_or_ge j k with h | h
      · exact hno j h
      · have : j = k := by omega
        subst this; omega
  · repeat' (first | refine zP ?_ | refine zA ?_ | (refine zM ?_; intro _ _) | refine zX ?_ | (refine zC ?_; intro _ _ _ _) | (refine zS ?_; intro _ _) | (apply Ws <;> intro hg))
    exact Ends.ret1 rfl ⟨by rw [decide_eq_true (ext_getD (a := 0) hle fun i hi => hno i (by omega))], rfl⟩
end
end Go.Proofs.Ytnmlfjohoeebiaa.Wk

/- The first walk that goes on for ever, tide by tide. -/
namespace Go.Proofs.Ytnmlfjohoeebiaa.Wk
open Go Go.Abs Go.Mth
set_option linter.unusedVariables false
set_option linter.unusedSimpArgs false
def okJ (T s : List Int) (j : Nat) : Prop := goodS T.length (metS T s j) ∧ everS T (metS T s j)
/-- The first stretch after which a walk can go on for ever. -/
structure NextR (T s : List Int) (j : Nat) : Prop where
  lt : j < T.length
  ok : okJ T s j
  no : ∀ i, i < j → ¬ okJ T s i
theorem NextR.one {T s : List Int} {i j : Nat} (h : NextR T s i) (k : NextR T s j) : i = j := by
  rcases Nat.lt_trichotomy i j with h1 | h1 | h1
  · exact absurd h.ok (k.no i h1)
  · exact h1
  · exact absurd k.ok (h.no j h1)
/-- A walk of first stretches. -/
inductive WalkR (T : List Int) (s : List Int) : List Int → List Int → Prop where
  | nil : WalkR T s [] s
  | snoc {W : List Int} {t : List Int} {j : Nat} (h : WalkR T s W t) (k : NextR T t j) : WalkR T s (W ++ [(j : Int)]) (metS T t j)
theorem WalkR.one {T s : List Int} : ∀ {W U t u : List Int}, W.length = U.length → WalkR T s W t → WalkR T s U u → W = U ∧ t = u := by
  intro W U t u hl h
  induction h generalizing U u with
  | nil =>
    intro k
    cases k with
    | nil => exact ⟨rfl, rfl⟩
    | snoc => simp at hl
  | @snoc W t j h hj ih =>
    intro k
    cases k with
    | nil => simp at hl
    | @snoc U u i k hi =>
      obtain ⟨rfl, rfl⟩ := ih (by simpa using hl) k
      have := hj.one hi
      subst this
      exact ⟨rfl, rfl⟩
theorem WalkR.go {T s W t : List Int} (h : WalkR T s W t) : goS T s W = some t ∧ WOK T.length W := by
  induction h with
  | nil => exact ⟨rfl, fun x hx => by cases hx⟩
  | @snoc W t j h hj ih =>
    refine ⟨?_, fun x hx => ?_⟩
    · rw [goS_snoc, ih.1, Option.bind_some, Int.toNat_natCast, if_pos hj.ok.1]
    · rcases List.mem_append.1 hx with hx | hx
      · exact ih.2 x hx
      · have := hj.lt
        rw [List.mem_singleton] at hx
        omega
theorem WalkR.ever {T s W t : List Int} (h : WalkR T s W t) (he : everS T s) : everS T t := by
  cases h with
  | nil => exact he
  | snoc h hj => exact hj.ok.2
structure NK where
  k : Nat
  m : MapI
  n : Nat
attribute [local irreducible] gOK WS WC WR WD Ends FS YS OpV seqK blockK loopK midK retK rdK asgK rangeEnd sat Cell
section
variable {M : HL} {n0 : Nat} {H : Heap} {v w : Value}
structure WV where
  k : Nat
  v : Value
  W : List Int
  t : List Int
  Mx : HL
  m : MapI
  n : Nat
noncomputable def wlkE (T : List Int) (many : Int) : Int := if errT T ≠ 0 then errT T else if many < 0 ∨ 60 < many then 1 else if everB T (startS T) = false then 12 else 0
end
end Go.Proofs.Ytnmlfjohoeebiaa.Wk

/- How inspectors divide the stretches: all lists, by their numbers. -/
namespace Go.Proofs.Ytnmlfjohoeebiaa.Wk
open Go Go.Abs Go.Mth
set_option linter.unusedVariables false
set_option linter.unusedSimpArgs false
/-- The division of a number: the thing that comes last changes first. -/
def divK (n : Nat) : Nat → Nat → List Nat
  | 0, _ => []
  | m + 1, k => divK n m (k / n) ++ [k % n]
theorem divK_len (n : Nat) : ∀ m k, (divK n m k).length = m
  | 0, _ => rfl
  | m + 1, k => by simp [divK, divK_len n m]
theorem divK_lt {n : Nat} (hn : 1 ≤ n) : ∀ m k, ∀ x ∈ divK n m k, x < n
  | 0, _, x, h => by cases h
  | m + 1, k, x, h => by
    rcases List.mem_append.1 h with h | h
    · exact divK_lt hn m _ x h
    · rw [List.mem_singleton.1 h]; exact Nat.mod_lt _ (by omega)
theorem divK_zero {n : Nat} : ∀ m, divK n m 0 = List.replicate m 0
  | 0 => rfl
  | m + 1 => by
    unfold divK
    rw [Nat.zero_div, Nat.zero_mod, divK_zero m, List.replicate_succ']
theorem div_up {n K : Nat} (h : K % n + 1 < n) : (K + 1) / n = K / n ∧ (K + 1) % n = K % n + 1 := by
  have h1 := Nat.div_add_mod K n
  have h2 : K + 1 = n * (K / n) + (K % n + 1) := by omega
  constructor
  · rw [h2, Nat.mul_add_div (by omega), Nat.div_eq_of_lt h]; omega
  · rw [h2, Nat.mul_add_mod, Nat.mod_eq_of_lt h]
theorem div_carry {n K : Nat} (hn : 1 ≤ n) (h : ¬ K % n + 1 < n) : (K + 1) / n = K / n + 1 ∧ (K + 1) % n = 0 ∧ K + 1 = (K / n + 1) * n := by
  have h1 := Nat.div_add_mod K n
  have h3 := Nat.mod_lt K (show 0 < n by omega)
  have h2 : K + 1 = n * (K / n + 1) := by rw [Nat.mul_add, Nat.mul_one]; omega
  refine ⟨?_, ?_, by rw [Nat.mul_comm]; exact h2⟩
  · rw [h2, Nat.mul_div_cancel_left _ (by omega)]
  · rw [h2, Nat.mul_mod_right]
/-- What stands while the next one is made: so many things, the last ones, have been set back. -/
structure Carry (n m k t K : Nat) : Prop where
  tm : t ≤ m
  nxt : divK n m (k + 1) = divK n (m - t) (K + 1) ++ List.replicate t 0
  num : k + 1 = (K + 1) * n ^ t
theorem Carry.start (n m k : Nat) : Carry n m k 0 k := ⟨Nat.zero_le _, by simp, by simp⟩
theorem Carry.step {n m k t K : Nat} (hn : 1 ≤ n) (h : Carry n m k t K) (ht : t < m) (hc : ¬ K % n + 1 < n) : Carry n m k (t + 1) (K / n) := by
  obtain ⟨d, hd⟩ : ∃ d, m - t = d + 1 := ⟨m - t - 1, by omega⟩
  obtain ⟨c1, c2, c3⟩ := div_carry hn hc
  refine ⟨by omega, ?_, ?_⟩
  · rw [h.nxt, hd, show m - (t + 1) = d by omega, divK, c1, c2, List.append_assoc]
    congr 1
  · rw [h.num, c3, Nat.pow_succ, Nat.mul_assoc, Nat.mul_comm n]
theorem Carry.done {n m k t K : Nat} (h : Carry n m k t K) (ht : t < m) (hc : K % n + 1 < n) : divK n m (k + 1) = divK n (m - t - 1) (K / n) ++ (K % n + 1) :: List.replicate t 0 := by
  obtain ⟨d, hd⟩ : ∃ d, m - t = d + 1 := ⟨m - t - 1, by omega⟩
  obtain ⟨c1, c2⟩ := div_up hc
  rw [h.nxt, hd, show d + 1 - 1 = d by omega, divK, c1, c2, List.append_assoc]
  rfl
theorem Carry.more {n m k t K : Nat} (h : Carry n m k t K) (ht : t < m) (hc : K % n + 1 < n) (hk : k < n ^ m) : k + 1 < n ^ m := by
  refine Nat.lt_of_le_of_ne hk fun e => ?_
  rw [h.num, show n ^ m = n ^ (m - t) * n ^ t by rw [← Nat.pow_add]; congr 1; omega] at e
  have hp : 0 < n ^ t := Nat.pow_pos (by omega)
  have e2 := Nat.eq_of_mul_eq_mul_right hp e
  obtain ⟨d, hd⟩ : ∃ d, m - t = d + 1 := ⟨m - t - 1, by omega⟩
  obtain ⟨_, c2⟩ := div_up hc
  rw [e2, hd, Nat.pow_succ, Nat.mul_mod_left] at c2
  omega
theorem Carry.end_ {n m k K : Nat} (h : Carry n m k m K) (hk : k < n ^ m) (hn : 1 ≤ n) : k + 1 = n ^ m := by
  have h1 := h.num
  have : 1 * n ^ m ≤ (K + 1) * n ^ m := Nat.mul_le_mul_right _ (by omega)
  rw [Nat.one_mul] at this
  omega
/-- What stands in the row then. -/
def carryL (n m t K : Nat) : List Nat := divK n (m - t) K ++ List.replicate t 0
theorem carryL_len {n m t K : Nat} (ht : t ≤ m) : (carryL n m t K).length = m := by simp [carryL, divK_len]; omega
theorem carryL_get {n m t K : Nat} (ht : t < m) : (carryL n m t K).getD (m - 1 - t) 0 = K % n := by
  obtain ⟨d, hd⟩ : ∃ d, m - t = d + 1 := ⟨m - t - 1, by omega⟩
  have hl := divK_len n d (K / n)
  unfold carryL
  rw [hd, divK, show m - 1 - t = (divK n d (K / n)).length by omega, List.append_assoc]
  rw [List.getD_eq_getElem?_getD, List.getElem?_append_right (Nat.le_refl _), Nat.sub_self]; rfl
theorem carryL_set {n m t K x : Nat} (ht : t < m) : (carryL n m t K).set (m - 1 - t) x = divK n (m - t - 1) (K / n) ++ x :: List.replicate t 0 := by
  obtain ⟨d, hd⟩ : ∃ d, m - t = d + 1 := ⟨m - t - 1, by omega⟩
  have hl := divK_len n d (K / n)
  unfold carryL
  rw [hd, show d + 1 - 1 = d by omega, divK, show m - 1 - t = (divK n d (K / n)).length by omega, List.append_assoc, List.set_append_right _ _ (Nat.le_refl _), Nat.sub_self]
  rfl
theorem carryL_next {n m t K : Nat} (ht : t < m) : (carryL n m t K).set (m - 1 - t) 0 = carryL n m (t + 1) (K / n) := by
  rw [carryL_set ht]
  unfold carryL
  rw [show m - (t + 1) = m - t - 1 by omega, List.replicate_succ]
/-- Each division has a number. -/
theorem divK_all {n : Nat} (hn : 1 ≤ n) : ∀ m {o : List Nat}, o.length = m → (∀ x ∈ o, x < n) → ∃ k, k < n ^ m ∧ divK n m k = o
  | 0, o, h, _ => ⟨0, by simp, by rw [List.length_eq_zero_iff.1 h]; rfl⟩
  | m + 1, o, h, hb => by
    rcases List.eq_nil_or_concat o with rfl | ⟨q, x, rfl⟩
    · simp at h
    · rw [List.concat_eq_append] at h hb ⊢
      obtain ⟨k, hk, rfl⟩ := divK_all hn m (o := q) (by simpa using h) fun y hy => hb y (by simp [hy])
      have hx := hb x (by simp)
      refine ⟨k * n + x, ?_, ?_⟩
      · rw [Nat.pow_succ]
        have := Nat.mul_le_mul_right n (show k + 1 ≤ n ^ m from hk)
        rw [Nat.add_mul, Nat.one_mul] at this
        omega
      · rw [show divK n (m + 1) (k * n + x) = divK n m ((k * n + x) / n) ++ [(k * n + x) % n] from rfl, Nat.mul_comm, Nat.mul_add_div (by omega), Nat.div_eq_of_lt hx, Nat.add_zero, Nat.mul_add_mod, Nat.mod_eq_of_lt hx]

/-- An inspector's numbers. -/
def ownK (T : List Int) (l : List Nat) (j : Nat) : Nat → List Int
  | 0 => []
  | k + 1 => if l.getD k 0 = j then ownK T l j k ++ [T.getD k 0] else ownK T l j k
theorem ownK_len (T : List Int) (l : List Nat) (j : Nat) : ∀ k, (ownK T l j k).length ≤ k
  | 0 => Nat.le_refl _
  | k + 1 => by
    have := ownK_len T l j k
    simp only [ownK]; split <;> simp <;> omega
theorem ownK_mem {T : List Int} {l : List Nat} {j : Nat} : ∀ {k : Nat} {x : Int}, k ≤ T.length → x ∈ ownK T l j k → ∃ i, i < T.length ∧ x = T.getD i 0
  | k + 1, x, hk, h => by
    simp only [ownK] at h
    split at h
    · rcases List.mem_append.1 h with h | h
      · exact ownK_mem (by omega) h
      · rw [List.mem_singleton] at h; exact ⟨k, by omega, h⟩
    · exact ownK_mem (by omega) h
theorem tok_of {T : List Int} (hl : T.length ≤ 4) (h : ∀ x ∈ T, 1 ≤ x ∧ x ≤ 8) : TOK T := ⟨hl, fun i hi => (h _ (getD_mem hi)).1, fun i hi => (h _ (getD_mem hi)).2⟩
theorem TOK.mem {T : List Int} (h : TOK T) {i : Nat} (hi : i < T.length) : 1 ≤ T.getD i 0 ∧ T.getD i 0 ≤ 8 := ⟨h.lo i hi, h.hi i hi⟩
theorem own_ok {T : List Int} (hT : TOK T) (l : List Nat) (j : Nat) {k : Nat} (hk : k ≤ T.length) : TOK (ownK T l j k) := by
  have := ownK_len T l j k
  have := hT.len
  refine tok_of (by omega) fun x hx => ?_
  obtain ⟨i, hi, rfl⟩ := ownK_mem hk hx
  exact hT.mem hi
noncomputable def goJ (T : List Int) (l : List Nat) (j : Nat) : Bool := everB (ownK T l j T.length) (startS (ownK T l j T.length))
noncomputable def validB (T : List Int) (g : Nat) (l : List Nat) : Bool := (List.range g).all (goJ T l)
theorem valid_iff {T : List Int} {g : Nat} {l : List Nat} : validB T g l = true ↔ ∀ j, j < g → goJ T l j = true := by
  unfold validB
  rw [List.all_eq_true]
  exact ⟨fun h j hj => h j (List.mem_range.2 hj), fun h j hj => h j (List.mem_range.1 hj)⟩
/-- One stretch alone can be met for ever. -/
theorem ever_one {t : Int} (h : 1 ≤ t ∧ t ≤ 8) : everS [t] (startS [t]) := by
  have key : ∀ k, canS [t] k (startS [t]) := by
    intro k
    have hm : metS [t] (startS [t]) 0 = startS [t] := rfl
    have hg : goodS 1 (startS [t]) := by
      unfold goodS startS
      simp; omega
    induction k with
    | zero => trivial
    | succ k ih => exact ⟨0, by simp, by rw [hm]; exact hg, by rw [hm]; exact ih⟩
  exact key
theorem own_id {T : List Int} (l : List Nat) (hl : ∀ i, i < T.length → l.getD i 0 = i) {j : Nat} : ∀ k, k ≤ T.length → ownK T l j k = if j < k then [T.getD j 0] else []
  | 0, _ => rfl
  | k + 1, hk => by
    simp only [ownK]
    rw [hl k (by omega), own_id l hl k (by omega)]
    by_cases h : k = j
    · subst h; rw [if_pos rfl, if_neg (by omega), if_pos (by omega)]; rfl
    · rw [if_neg h]
      by_cases h2 : j < k
      · rw [if_pos h2, if_pos (by omega)]
      · rw [if_neg h2, if_neg (by omega)]
theorem valid_id {T : List Int} (hT : TOK T) {l : List Nat} (hl : ∀ i, i < T.length → l.getD i 0 = i) : validB T T.length l = true := by
  rw [valid_iff]
  intro j hj
  unfold goJ
  rw [own_id l hl _ (Nat.le_refl _), if_pos hj, everB_true]
  exact ever_one (hT.mem hj)
/-- The list that is returned: the first of those with the fewest inspectors. -/
structure FirstG (T : List Int) (g k : Nat) : Prop where
  g1 : 1 ≤ g
  gn : g ≤ T.length
  kn : k < g ^ T.length
  ok : validB T g (divK g T.length k) = true
  no : ∀ i, i < k → validB T g (divK g T.length i) = false
  few : ∀ f, 1 ≤ f → f < g → ∀ i, i < f ^ T.length → validB T f (divK f T.length i) = false
structure GK where
  k : Nat
  n : Nat
structure GS where
  g : Nat
  k : Nat
  n : Nat
structure TK where
  t : Nat
  K : Nat
attribute [local irreducible] gOK WS WC WR WD Ends FS YS OpV seqK blockK loopK midK retK rdK asgK rangeEnd sat Cell
section
variable {M : HL} {n0 : Nat} {H : Heap} {v w : Value}
theorem start0_fs (hH : hasH M n0 H) : FS C 58 [.slice none 0 0] H (fun e H' => ∃ n', n0 ≤ n' ∧ e = keyI (startS []) ∧ hasH M n' H') := by
  refine FS.intro (pf := pf58) rfl rfl rfl ?_
  repeat' (first | refine zP ?_ | refine zA ?_ | (refine zM ?_; intro _ _) | refine zX ?_ | (refine zC ?_; intro _ _ _ _) | (refine zS ?_; intro _ _) | (apply Ws <;> intro hg))
  rename_i H1 hH1 H2 hH2
  refine WR.op (by first | exact gN | exact gS rfl) rfl (OpV.slA rfl (by omega)) ?_
  repeat' (first | refine zP ?_ | refine zA ?_ | (refine zM ?_; intro _ _) | refine zX ?_ | (refine zC ?_; intro _ _ _ _) | (refine zS ?_; intro _ _) | (apply Ws <;> intro hg))
  refine WR.copyNil (by first | exact gN | exact gS rfl) rfl rfl rfl ?_
  repeat' (first | refine zP ?_ | refine zA ?_ | (refine zM ?_; intro _ _) | refine zX ?_ | (refine zC ?_; intro _ _ _ _) | (refine zS ?_; intro _ _) | (apply Ws <;> intro hg))
  refine WR.storeA (s := [0, 0, 0, 0]) (by first | exact gN | exact gS rfl) hH2 rfl rfl rfl (.there .here) rfl fun H4 hH4 => ?_
  repeat' (first | refine zP ?_ | refine zA ?_ | (refine zM ?_; intro _ _) | refine zX ?_ | (refine zC ?_; intro _ _ _ _) | (refine zS ?_; intro _ _) | (apply Ws <;> intro hg))
  exact Ends.retCN rfl (readA hH4 (.tail _ (.head _)) rfl) ⟨n0 + 2, by omega, rfl, hH4.tail.tail⟩
theorem startG_fs (hH : hasH M n0 H) {T : List Int} (hS : Sl M 1 v (ints T)) (hT : T.length ≤ 4) (h0 : T = [] → v = .slice none 0 0) :
    FS C 58 [v] H (fun e H' => ∃ n', n0 ≤ n' ∧ e = keyI (startS T) ∧ hasH M n' H') := by
  by_cases h : T = []
  · subst h; rw [h0 rfl]; exact start0_fs hH
  · exact start_fs hH hS hT (List.length_pos_iff.2 h)
theorem canG_fs {b : Nat} {m : MapI} (hH : hasH ((b, .map (ents m)) :: M) n0 H) {T : List Int} (hS : Sl M 1 v (ints T)) (hT : TOK T) (h0 : T = [] → v = .slice none 0 0) (hk : KeysN 4 m) (hI : MInv T [] m) :
    FS C 55 [.agg [v, .map (some b)].toArray] H (fun e H' => ∃ m' n', e = .bool (everB T (startS T)) ∧ n0 ≤ n' ∧ hasH ((b, .map (ents m')) :: M) n' H' ∧ KeysN 4 m' ∧ MInv T [] m') := by
  have hv := hS.one_
  have hb1 : one (.map (some b)) = true := rfl
  refine FS.intro (pf := pf55) rfl rfl rfl ?_
  repeat' (first | refine zP ?_ | refine zA ?_ | (refine zM ?_; intro _ _) | refine zX ?_ | (refine zC ?_; intro _ _ _ _) | (refine zS ?_; intro _ _) | (apply Ws <;> intro hg))
  rename_i H1 hH1
  refine WC.regionD ?_
  repeat' (first | refine zD ?_ | (refine zE ?_; intro _ _ _ _))
  refine WD.call (by first | exact gN | exact gS rfl) rfl rfl (startG_fs hH1 (hS.cons.cons) hT.len h0) ?_
  rintro _ H2 ⟨n2, hn2, rfl, hH2⟩
  have hrd := hH2.readN (b := n0) (u := 0) (lo := 0) (o := 0) (k := 2) (.head _) (.row _ _ _ _) (Nat.le_refl _) (by simp)
  simp only [Nat.sub_zero, List.drop_zero] at hrd
  refine ⟨stands_cons (.inl rfl) (stands_cons (.inr (holdsN' (l := [v, .map (some b)]) hrd ?_)) stands_nil'), ?_⟩
  · simp only [sameL, hS.same, same_map, Bool.and_true]
  refine WD.toWR rfl ?_
  refine WR.call (by first | exact gN | exact gS rfl) rfl rfl (more_fs hT _ (Nat.lt_succ_self _) hH2.swap hS.cons (start_ok hT) hk hI (fun t ht => by cases ht)) ?_
  rintro _ H3 ⟨r, m', n3, rfl, hr, hn3, hH3, hk3, hI3, _⟩
  repeat' (first | refine zP ?_ | refine zA ?_ | (refine zM ?_; intro _ _) | refine zX ?_ | (refine zC ?_; intro _ _ _ _) | (refine zS ?_; intro _ _) | (apply Ws <;> intro hg))
  exact Ends.ret1 rfl ⟨m', n3, by rw [hr.everB], by omega, hH3.swap.tail, hk3, hI3⟩
theorem own_fs (hH : hasH M n0 H) {T : List Int} (hS : Sl M 1 v (ints T)) (hT : T.length ≤ 4) {l : List Nat} (hL : Sl M 1 w (nodes l)) (hl : l.length = T.length) (j : Nat) (hj : j ≤ 4) :
    FS C 89 [v, w, .int .i64 (j : Int)] H (fun e H' => ∃ Mx n', Own 3 1 e (ints (ownK T l j T.length)) Mx ∧ n0 ≤ n' ∧ hasH (Mx ++ M) n' H' ∧ (ownK T l j T.length = [] → e = .slice none 0 0)) := by
  refine FS.intro (pf := pf89) rfl rfl rfl ?_
  repeat' (first | refine zP ?_ | refine zA ?_ | (refine zM ?_; intro _ _) | refine zX ?_ | (refine zC ?_; intro _ _ _ _) | (refine zS ?_; intro _ _) | (apply Ws <;> intro hg))
  refine WC.loopX [(0, v), (1, w), (2, .int .i64 (j : Int)), (10, v), (11, .int .i64 (T.length : Int))] (fun s : AV => [(7, s.v), (12, .int .i64 (s.k : Int))]) []
    (fun s H' => s.k ≤ T.length ∧ n0 ≤ s.n ∧ Own 3 1 s.v (ints (ownK T l j s.k)) s.Mx ∧ hasH (s.Mx ++ M) s.n H' ∧ (ownK T l j s.k = [] → s.v = .slice none 0 0)) (fun s => T.length - s.k) ⟨0, .slice none 0 0, [], n0⟩ (by repeat' (first | exact .nil | refine .cons rfl ?_)) rfl
    ⟨Nat.zero_le _, Nat.le_refl _, .nil, hH, fun _ => rfl⟩ ?_
  clear hH
  rintro ⟨k, ov, Mx, n1⟩ H2 ⟨hk, hn1, hO, hH2, he⟩
  simp only at hk hn1 hO hH2 he
  have hS2 : Sl (Mx ++ M) 1 v (ints T) := hS.mono fun q hq => List.mem_append_right _ hq
  have hL2 : Sl (Mx ++ M) 1 w (nodes l) := hL.mono fun q hq => List.mem_append_right _ hq
  have hol := ownK_len T l j k
  dsimp only [List.cons_append, List.nil_append]
  repeat' (first | refine zP ?_ | refine zA ?_ | (refine zM ?_; intro _ _) | refine zX ?_ | (refine zC ?_; intro _ _ _ _) | (refine zS ?_; intro _ _) | (apply Ws <;> intro hg))
  refine WC.condP rfl (fun hlt => ?_) (fun hlt => ?_)
  · have hk' : k < T.length := by omega
    repeat' (first | refine zP ?_ | refine zA ?_ | (refine zM ?_; intro _ _) | refine zX ?_ | (refine zC ?_; intro _ _ _ _) | (refine zS ?_; intro _ _) | (apply Ws <;> intro hg))
    by_cases hc : l.getD k 0 = j
    · have hcI : ((l.getD k 0 : Nat) : Int) = (j : Int) := by omega
      repeat' (first | refine zP ?_ | refine zA ?_ | (refine zM ?_; intro _ _) | refine zX ?_ | (refine zC ?_; intro _ _ _ _) | (refine zS ?_; intro _ _) | refine zO ?_ | (apply Ws <;> intro hg))
      refine WR.append1F [] Mx M rfl rfl rfl rfl hO hH2 (new := [.int .i64 (T.getD k 0)]) (by rfl) rfl rfl (Nat.le_refl _) (by omega) (by simp; omega) fun v3 M3 n3 H6 hO3 hH6 hn3 => ?_
      replace hH6 : hasH (M3 ++ M) n3 H6 := hH6
      repeat' (first | refine zP ?_ | refine zA ?_ | (refine zM ?_; intro _ _) | refine zX ?_ | (refine zC ?_; intro _ _ _ _) | (refine zS ?_; intro _ _) | (apply Ws <;> intro hg))
      refine Ends.loop ⟨k + 1, v3, M3, n3⟩ (by simp only; omega) (by repeat' (first | exact .nil | refine .cons rfl ?_)) rfl ⟨hk', by simp only; omega, ?_, hH6, fun h => ?_⟩
      · show Own _ 1 v3 (List.map (Value.int .i64) (ownK T l j (k + 1))) M3
        simp only [ownK]; rw [if_pos hc, List.map_append]; exact hO3
      · exfalso
        simp only [ownK] at h; rw [if_pos hc] at h; simp at h
    · have hcI : ((l.getD k 0 : Nat) : Int) ≠ (j : Int) := by omega
      repeat' (first | refine zP ?_ | refine zA ?_ | (refine zM ?_; intro _ _) | refine zX ?_ | (refine zC ?_; intro _ _ _ _) | (refine zS ?_; intro _ _) | refine zO ?_ | (apply Ws <;> intro hg))
      refine Ends.loop ⟨k + 1, ov, Mx, n1⟩ (by simp only; omega) (by repeat' (first | exact .nil | refine .cons rfl ?_)) rfl ⟨hk', hn1, ?_, hH2, fun h => ?_⟩
      · show Own _ 1 ov (List.map (Value.int .i64) (ownK T l j (k + 1))) Mx
        simp only [ownK]; rw [if_neg hc]; exact hO
      · simp only [ownK] at h; rw [if_neg hc] at h; exact he h
  · have hkn : k = T.length := by omega
    subst hkn
    repeat' (first | refine zP ?_ | refine zA ?_ | (refine zM ?_; intro _ _) | refine zX ?_ | (refine zC ?_; intro _ _ _ _) | (refine zS ?_; intro _ _) | (apply Ws <;> intro hg))
    exact Ends.ret1 rfl ⟨Mx, n1, hO, hn1, hH2, he⟩
theorem each_fs (hH : hasH M n0 H) {T : List Int} (hS : Sl M 1 v (ints T)) (hT : TOK T) {l : List Nat} (hL : Sl M 1 w (nodes l)) (hl : l.length = T.length) {g : Nat} (hg : g ≤ 4) :
    FS C 84 [v, w, .int .i64 (g : Int)] H (fun e H' => ∃ n', n0 ≤ n' ∧ hasH M n' H' ∧ e = .bool (validB T g l)) := by
  refine FS.intro (pf := pf84) rfl rfl rfl ?_
  repeat' (first | refine zP ?_ | refine zA ?_ | (refine zM ?_; intro _ _) | refine zX ?_ | (refine zC ?_; intro _ _ _ _) | (refine zS ?_; intro _ _) | (apply Ws <;> intro hg))
  refine WC.loopX [(0, v), (1, w), (8, .int .i64 (g : Int))] (fun s : GK => [(9, .int .i64 (s.k : Int))]) []
    (fun s H' => s.k ≤ g ∧ n0 ≤ s.n ∧ hasH M s.n H' ∧ ∀ j, j < s.k → goJ T l j = true) (fun s => g - s.k) ⟨0, n0⟩ (by repeat' (first | exact .nil | refine .cons rfl ?_)) rfl ⟨Nat.zero_le _, Nat.le_refl _, hH, fun j h => absurd h (Nat.not_lt_zero _)⟩ ?_
  clear hH
  rintro ⟨k, n1⟩ H1 ⟨hk, hn1, hH1, hok⟩
  simp only at hk hn1 hH1 hok
  dsimp only [List.cons_append, List.nil_append]
  repeat' (first | refine zP ?_ | refine zA ?_ | (refine zM ?_; intro _ _) | refine zX ?_ | (refine zC ?_; intro _ _ _ _) | (refine zS ?_; intro _ _) | (apply Ws <;> intro hg))
  refine WC.condP rfl (fun hlt => ?_) (fun hlt => ?_)
  · have hk' : k < g := by omega
    repeat' (first | refine zP ?_ | refine zA ?_ | (refine zM ?_; intro _ _) | refine zX ?_ | (refine zC ?_; intro _ _ _ _) | (refine zS ?_; intro _ _) | (apply Ws <;> intro hg))
    refine WR.call (by first | exact gN | exact gS rfl) rfl rfl (own_fs hH1 hS hT.len hL hl k (by omega)) ?_
    rintro ov H2 ⟨Mx, n2, hO, hn2, hH2, he⟩
    have hSo := hO.sl M
    have hov := hSo.one_
    have hTo := own_ok hT l k (Nat.le_refl T.length)
    refine WR.call (by first | exact gN | exact gS rfl) rfl rfl (look_fs hH2 hov) ?_
    rintro _ H3 ⟨b, n3, rfl, hb, hbn, hH3⟩
    refine WR.call (by first | exact gN | exact gS rfl) rfl rfl (canG_fs hH3 hSo hTo he (KeysN.nil 4) (inv_nil _)) ?_
    rintro _ H4 ⟨m', n4, rfl, hn4, hH4, _, _⟩
    have hM : hasH M n4 H4 := hH4.tail.sub (List.sublist_append_right _ _)
    have hgo : goJ T l k = everB (ownK T l k T.length) (startS (ownK T l k T.length)) := rfl
    rw [← hgo]
    cases hc : goJ T l k with
    | true =>
      repeat' (first | refine zP ?_ | refine zA ?_ | (refine zM ?_; intro _ _) | refine zX ?_ | (refine zC ?_; intro _ _ _ _) | (refine zS ?_; intro _ _) | (apply Ws <;> intro hg))
      refine Ends.loop ⟨k + 1, n4⟩ (by simp only; omega) (by repeat' (first | exact .nil | refine .cons rfl ?_)) rfl ⟨hk', by simp only; omega, hM, fun j hj => ?_⟩
      rcases Nat.lt_or_ge j k with h | h
      · exact hok j h
      · rw [show j = k by simp only at hj; omega]; exact hc
    | false =>
      repeat' (first | refine zP ?_ | refine zA ?_ | (refine zM ?_; intro _ _) | refine zX ?_ | (refine zC ?_; intro _ _ _ _) | (refine zS ?_; intro _ _) | (apply Ws <;> intro hg))
      refine Ends.ret1 rfl ⟨n4, by omega, hM, ?_⟩
      congr 1
      cases hv : validB T g l with
      | false => rfl
      | true => rw [valid_iff.1 hv k hk'] at hc; cases hc
  · have hkg : k = g := by omega
    subst hkg
    repeat' (first | refine zP ?_ | refine zA ?_ | (refine zM ?_; intro _ _) | refine zX ?_ | (refine zC ?_; intro _ _ _ _) | (refine zS ?_; intro _ _) | (apply Ws <;> intro hg))
    exact Ends.ret1 rfl ⟨n1, hn1, hH1, by rw [valid_iff.2 hok]⟩
end
end Go.Proofs.Ytnmlfjohoeebiaa.Wk

/- How inspectors divide the stretches: the first list of the fewest. -/
namespace Go.Abs
set_option linter.unusedSectionVars false
variable [Globs]
open Go
section
variable {C : CW} {ro : Option Nat} {fn : FuncId} {nt : Nat} {L : Env} {D : List Nat} {H : Heap} {K : Ex → St → Prop}
/-- A body with labels to which nothing goes. -/
def scopeK (K : Ex → St → Prop) : Ex → St → Prop
  | .goto _, _ => False
  | e, s => K e s
theorem WC.scope {b : PC} (h : WC C ro fn nt b L D H (scopeK K)) : WC C ro fn nt (.scope b) L D H K := by
  intro t ht
  obtain ⟨n, e, s1, h1, h2⟩ := h t ht
  cases e with
  | goto l => exact h2.elim
  | normal => exact ⟨n, _, s1, by simp only [stepC, h1, scopeC], h2⟩
  | ret => exact ⟨n, _, s1, by simp only [stepC, h1, scopeC], h2⟩
  | exit j => exact ⟨n, _, s1, by simp only [stepC, h1, scopeC], h2⟩
theorem Ends.scope_ret (h : Ends K .ret L D H) : Ends (scopeK K) .ret L D H := h
theorem Ends.scope (h : Ends K .normal L D H) : Ends (scopeK K) .normal L D H := h
end
end Go.Abs
namespace Go.Proofs.Ytnmlfjohoeebiaa.Wk
open Go Go.Abs Go.Mth
set_option linter.unusedVariables false
set_option linter.unusedSimpArgs false
theorem pow_bd {g m : Nat} (hg : g ≤ 4) (hm : m ≤ 4) : g ^ m ≤ 256 :=
  Nat.le_trans (Nat.pow_le_pow_left hg m) (Nat.le_trans (Nat.pow_le_pow_right (by omega) hm) (by decide))
theorem not_full {T : List Int} (hT : TOK T) (h1 : 1 ≤ T.length) (h : ∀ i, i < T.length ^ T.length → validB T T.length (divK T.length T.length i) = false) : False := by
  obtain ⟨k, hk, he⟩ := divK_all (n := T.length) h1 T.length (o := List.range T.length) (by simp) (fun x hx => List.mem_range.1 hx)
  have := h k hk
  rw [he, valid_id hT (fun i hi => by rw [getD_eq (by simpa using hi)]; simp)] at this
  cases this
def grpE (T : List Int) : Int := errT T
attribute [local irreducible] gOK WS WC WR WD Ends FS YS OpV seqK blockK loopK midK retK rdK asgK rangeEnd sat Cell
section
variable {M : HL} {n0 : Nat} {H : Heap} {v w : Value}
set_option maxHeartbeats 1000000 in
theorem divide_fs (hH : hasH M n0 H) {T : List Int} (hS : Sl M 1 v (ints T)) (hT : TOK T) (h1 : 1 ≤ T.length) :
    FS C 71 [v] H (fun e H' => ∃ r g k n', e = .slice (some ⟨r, 0, some 0⟩) T.length (2 * T.length + 1) ∧ FirstG T g k ∧ n0 ≤ n' ∧ hasH ((r, .row 3 0 0 (nodes (divK g T.length k))) :: M) n' H') := by
  have hTl := hT.len
  refine FS.intro (pf := pf71) rfl rfl rfl ?_
  repeat' (first | refine zP ?_ | refine zA ?_ | (refine zM ?_; intro _ _) | refine zX ?_ | (refine zC ?_; intro _ _ _ _) | (refine zS ?_; intro _ _) | (apply Ws <;> intro hg))
  refine WC.scope ?_
  repeat' (first | refine zP ?_ | refine zA ?_ | (refine zM ?_; intro _ _) | refine zX ?_ | (refine zC ?_; intro _ _ _ _) | (refine zS ?_; intro _ _) | (apply Ws <;> intro hg))
  refine WR.mkS (m := T.length) (by first | exact gN | exact gS rfl) rfl hH rfl rfl (by omega) rfl fun H2 hH2 => ?_
  obtain ⟨m, hm⟩ : ∃ m, T.length = m := ⟨_, rfl⟩
  rw [hm] at h1 hTl
  have hz : divK 1 m 0 = List.replicate m 0 := divK_zero m
  replace hH2 : hasH ((n0, .row 3 0 0 (nodes (divK 1 m 0))) :: M) (n0 + 1) H2 := by rw [hz, nodes, List.map_replicate, ← hm]; exact hH2
  repeat' (first | refine zP ?_ | refine zA ?_ | (refine zM ?_; intro _ _) | refine zX ?_ | (refine zC ?_; intro _ _ _ _) | (refine zS ?_; intro _ _) | (apply Ws <;> intro hg))
  rw [hm]
  refine WC.loopX [(0, v), (3, .slice (some ⟨n0, 0, some 0⟩) m (2 * m + 1))] (fun s : GS => [(4, .int .i64 (s.g : Int))]) []
    (fun s H' => 1 ≤ s.g ∧ s.g ≤ m ∧ s.k < s.g ^ m ∧ (∀ i, i < s.k → validB T s.g (divK s.g m i) = false) ∧ (∀ f, 1 ≤ f → f < s.g → ∀ i, i < f ^ m → validB T f (divK f m i) = false) ∧ n0 + 1 ≤ s.n ∧ hasH ((n0, .row 3 0 0 (nodes (divK s.g m s.k))) :: M) s.n H')
    (fun s => (5 - s.g) * 300 + (300 - s.k)) ⟨1, 0, n0 + 1⟩ (by repeat' (first | exact .nil | refine .cons rfl ?_)) rfl ⟨Nat.le_refl _, h1, by simp, fun i h => absurd h (Nat.not_lt_zero _), fun f h1 h2 => absurd h2 (by simp only; omega), Nat.le_refl _, hH2⟩ ?_
  clear hH hH2 hz
  rintro ⟨g, k, n1⟩ H3 ⟨hg1, hgm, hk, hno, hfew, hn1, hH3⟩
  simp only at hg1 hgm hk hno hfew hn1 hH3
  have hpb := pow_bd (g := g) (m := m) (by omega) hTl
  have hdl := divK_len g m k
  have hSL : Sl ((n0, Ch.row 3 0 0 (nodes (divK g m k))) :: M) 1 (.slice (some ⟨n0, 0, some 0⟩) m (2 * m + 1)) (nodes (divK g m k)) :=
    .row (lo := 0) (cs := nodes (divK g m k)) (.head _) (.row _ _ _ _) (Nat.zero_le _) (by simp [hdl]) (by rw [Nat.sub_zero, List.drop_zero, List.take_length]) (by simp) (.inr ⟨m, rfl, Nat.le_refl _⟩)
  dsimp only [List.cons_append, List.nil_append]
  repeat' (first | refine zP ?_ | refine zA ?_ | (refine zM ?_; intro _ _) | refine zX ?_ | (refine zC ?_; intro _ _ _ _) | (refine zS ?_; intro _ _) | (apply Ws <;> intro hg))
  refine WR.call (by first | exact gN | exact gS rfl) rfl rfl (each_fs hH3 hS.cons hT hSL (by omega) (g := g) (by omega)) ?_
  rintro _ H4 ⟨n4, hn4, hH4, rfl⟩
  clear hH3
  cases hv : validB T g (divK g m k) with
  | true =>
    repeat' (first | refine zP ?_ | refine zA ?_ | (refine zM ?_; intro _ _) | refine zX ?_ | (refine zC ?_; intro _ _ _ _) | (refine zS ?_; intro _ _) | (apply Ws <;> intro hg))
    refine Ends.scope_ret (Ends.ret1 rfl ⟨n0, g, k, n4, rfl, ?_, by omega, hH4⟩)
    subst hm
    exact ⟨hg1, hgm, hk, hv, hno, hfew⟩
  | false =>
    have hno2 : ∀ i, i < k + 1 → validB T g (divK g m i) = false := fun i hi => by
      rcases Nat.lt_or_ge i k with h | h
      · exact hno i h
      · rw [show i = k by omega]; exact hv
    repeat' (first | refine zP ?_ | refine zA ?_ | (refine zM ?_; intro _ _) | refine zX ?_ | (refine zC ?_; intro _ _ _ _) | (refine zS ?_; intro _ _) | (apply Ws <;> intro hg))
    refine WC.loopX [(0, v), (3, .slice (some ⟨n0, 0, some 0⟩) m (2 * m + 1)), (4, .int .i64 (g : Int))] (fun s : TK => [(5, .int .i64 ((m : Int) - 1 - (s.t : Int)))]) []
      (fun s H' => Carry g m k s.t s.K ∧ hasH ((n0, .row 3 0 0 (nodes (carryL g m s.t s.K))) :: M) n4 H') (fun s => m - s.t) ⟨0, k⟩ (by refine .cons ?_ (by repeat' (first | exact .nil | refine .cons rfl ?_)); simp; rfl) rfl ⟨Carry.start g m k, by simpa [carryL] using hH4⟩ ?_
    clear hH4 hSL
    rintro ⟨t, K⟩ H5 ⟨hC, hH5⟩
    simp only at hC hH5
    have htm := hC.tm
    have hcl := carryL_len (n := g) (K := K) htm
    dsimp only [List.cons_append, List.nil_append]
    repeat' (first | refine zP ?_ | refine zA ?_ | (refine zM ?_; intro _ _) | refine zX ?_ | (refine zC ?_; intro _ _ _ _) | (refine zS ?_; intro _ _) | (apply Ws <;> intro hg))
    refine WC.condP rfl (fun hge => ?_) (fun hge => ?_)
    · have ht : t < m := by omega
      have hgd := carryL_get (n := g) (K := K) ht
      have hKm := Nat.mod_lt K (show 0 < g by omega)
      rw [show (m : Int) - 1 - (t : Int) = ((m - 1 - t : Nat) : Int) by omega]
      by_cases hc : K % g + 1 < g
      · have hset := carryL_set (n := g) (m := m) (t := t) (K := K) (x := K % g + 1) ht
        rw [← hC.done ht hc] at hset
        have hmore := hC.more ht hc hk
        generalize K % g = x at hc hgd hset hKm ⊢
        have hlI : (nodes (carryL g m t K)).length = m := by simp [hcl]
        repeat' (first | refine zP ?_ | refine zA ?_ | (refine zM ?_; intro _ _) | refine zX ?_ | (refine zC ?_; intro _ _ _ _) | (refine zS ?_; intro _ _) | refine zO ?_ | (apply Ws <;> intro hg))
        rename_i H8 hH8
        rw [hgd, hset] at hH8
        exact Ends.loop ⟨g, k + 1, n4⟩ (by simp only; omega) (by repeat' (first | exact .nil | refine .cons rfl ?_)) rfl ⟨hg1, hgm, hmore, hno2, hfew, by simp only; omega, hH8⟩
      · have hnext := carryL_next (n := g) (m := m) (t := t) (K := K) ht
        have hC2 := hC.step hg1 ht hc
        generalize K % g = x at hc hgd hKm ⊢
        have hlI : (nodes (carryL g m t K)).length = m := by simp [hcl]
        repeat' (first | refine zP ?_ | refine zA ?_ | (refine zM ?_; intro _ _) | refine zX ?_ | (refine zC ?_; intro _ _ _ _) | (refine zS ?_; intro _ _) | refine zO ?_ | (apply Ws <;> intro hg))
        rename_i H8 hH8
        rw [hnext] at hH8
        rw [show ((m - 1 - t : Nat) : Int) - 1 = (m : Int) - 1 - ((t + 1 : Nat) : Int) by omega]
        exact Ends.loop ⟨t + 1, K / g⟩ (by simp only; omega) (by repeat' (first | exact .nil | refine .cons rfl ?_)) rfl ⟨hC2, hH8⟩
    · have ht : t = m := by omega
      subst ht
      have hend := hC.end_ hk hg1
      have hgt : g ≠ t := fun e => by
        subst e
        rw [← hm] at hno2 hend
        exact not_full hT (by omega) fun i hi => hno2 i (by omega)
      have hp0 : 0 < (g + 1) ^ t := Nat.pow_pos (by omega)
      repeat' (first | refine zP ?_ | refine zA ?_ | (refine zM ?_; intro _ _) | refine zX ?_ | (refine zC ?_; intro _ _ _ _) | (refine zS ?_; intro _ _) | (apply Ws <;> intro hg))
      refine Ends.loop ⟨g + 1, 0, n4⟩ (by simp only; omega) (by repeat' (first | exact .nil | refine .cons rfl ?_)) rfl ⟨by simp only; omega, by simp only; omega, hp0, fun i h => absurd h (Nat.not_lt_zero _), fun f hf1 hf2 i hi => ?_, by simp only; omega, ?_⟩
      · simp only at hf2
        rcases Nat.lt_or_ge f g with h | h
        · exact hfew f hf1 h i hi
        · have : f = g := by omega
          subst this
          exact hno2 i (by omega)
      · show hasH ((n0, .row 3 0 0 (nodes (divK (g + 1) t 0))) :: M) n4 H5
        rw [divK_zero]
        have : carryL g t t K = List.replicate t 0 := by simp [carryL, divK]
        rw [this] at hH5
        exact hH5
theorem Groups_fs (hH : hasH M n0 H) {T : List Int} (hS : Sl M 1 v (ints T)) (hTl : T.length ≤ 1000) :
    FS C 36 [v] H (fun e H' => ∃ u l Mx n', e = .tuple #[u, .int .i64 (errT T)] ∧ Own 3 1 u (nodes l) Mx ∧ n0 ≤ n' ∧ hasH (Mx ++ M) n' H' ∧ ((errT T ≠ 0 ∧ l = []) ∨ (errT T = 0 ∧ ∃ g k, FirstG T g k ∧ l = divK g T.length k))) := by
  have hv := hS.one_
  refine FS.intro (pf := pf36) rfl rfl rfl ?_
  repeat' (first | refine zP ?_ | refine zA ?_ | (refine zM ?_; intro _ _) | refine zX ?_ | (refine zC ?_; intro _ _ _ _) | (refine zS ?_; intro _ _) | (apply Ws <;> intro hg))
  refine WR.call (by first | exact gN | exact gS rfl) rfl rfl (Check_fs hH hS hTl) ?_
  rintro _ _ ⟨rfl, rfl⟩
  by_cases h0 : errT T = 0
  · obtain ⟨hT, h1⟩ := errT_ok h0
    repeat' (first | refine zP ?_ | refine zA ?_ | (refine zM ?_; intro _ _) | refine zX ?_ | (refine zC ?_; intro _ _ _ _) | (refine zS ?_; intro _ _) | refine zO ?_ | (apply Ws <;> intro hg))
    refine WR.call (by first | exact gN | exact gS rfl) rfl rfl (divide_fs hH hS hT h1) ?_
    rintro _ H1 ⟨r, g, k, n1, rfl, hF, hn1, hH1⟩
    repeat' (first | refine zP ?_ | refine zA ?_ | (refine zM ?_; intro _ _) | refine zX ?_ | (refine zC ?_; intro _ _ _ _) | (refine zS ?_; intro _ _) | (apply Ws <;> intro hg))
    have hdl := divK_len g T.length k
    exact Ends.ret2 rfl rfl ⟨_, divK g T.length k, [(r, .inp 3 0 0 (nodes (divK g T.length k)))], n1, by rw [h0], .full (by simp [hdl]) (by rw [List.all_eq_true]; intro q hq; obtain ⟨z, _, rfl⟩ := List.mem_map.1 hq; rfl), hn1, hH1.asInp .here, .inr ⟨h0, g, k, hF, rfl⟩⟩
  · repeat' (first | refine zP ?_ | refine zA ?_ | (refine zM ?_; intro _ _) | refine zX ?_ | (refine zC ?_; intro _ _ _ _) | (refine zS ?_; intro _ _) | refine zO ?_ | (apply Ws <;> intro hg))
    exact Ends.ret2 rfl rfl ⟨_, [], [], n0, rfl, .nil, Nat.le_refl _, hH, .inl ⟨h0, rfl⟩⟩
end
end Go.Proofs.Ytnmlfjohoeebiaa.Wk
