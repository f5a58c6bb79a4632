/- Texts of the law, joined. -/
import Derived.Test.YtnmlfjohoeebiaaWkP
import Derived.Test.YtnmlfjohoeebiaaJ1
import Derived.Test.YtnmlfjohoeebiaaSymM
import Derived.Test.YtnmlfjohoeebiaaSymK
import Derived.Test.YtnmlfjohoeebiaaSymG
import Derived.Test.YtnmlfjohoeebiaaSymR
/- The mathematics of walks: what is left, and for how long a walk can go on. -/
namespace Go.Proofs.Ytnmlfjohoeebiaa.Wk
open Go Go.Abs Go.Mth
set_option linter.unusedVariables false
set_option linter.unusedSimpArgs false
/-- What is left when a stretch is met. -/
def decS (n : Nat) (s : List Int) : List Int := (s.take n).map (· - 1) ++ s.drop n
def metS (T s : List Int) (j : Nat) : List Int := (decS T.length s).set j (T.getD j 0)
abbrev goodS (n : Nat) (s : List Int) : Prop := (0 : Int) ∉ s.take n
def startS (T : List Int) : List Int := T ++ List.replicate (4 - T.length) 0
/-- A walk can go on for so many tides. -/
def canS (T : List Int) : Nat → List Int → Prop
  | 0, _ => True
  | k + 1, s => ∃ j, j < T.length ∧ goodS T.length (metS T s j) ∧ canS T k (metS T s j)
def everS (T s : List Int) : Prop := ∀ k, canS T k s
/-- For how many tides: -1 if there is no end. -/
def MoreR (T s : List Int) (r : Int) : Prop := (r = -1 ∧ everS T s) ∨ ∃ m : Nat, r = m ∧ canS T m s ∧ ¬ canS T (m + 1) s
/-- One tide. -/
def StepS (T s t : List Int) : Prop := ∃ j, j < T.length ∧ t = metS T s j ∧ goodS T.length t
/-- At least one tide. -/
inductive ReachS (T : List Int) : List Int → List Int → Prop where
  | one {s t : List Int} (h : StepS T s t) : ReachS T s t
  | more {s t u : List Int} (h : ReachS T s t) (k : StepS T t u) : ReachS T s u
theorem canS_less {T : List Int} : ∀ {k : Nat} {s : List Int}, canS T (k + 1) s → canS T k s
  | 0, s, _ => trivial
  | k + 1, s, ⟨j, h1, h2, h3⟩ => ⟨j, h1, h2, canS_less h3⟩
theorem canS_le {T : List Int} {k m : Nat} {s : List Int} (h : canS T m s) (hk : k ≤ m) : canS T k s := by
  obtain ⟨d, rfl⟩ := Nat.le.dest hk
  clear hk
  induction d with
  | zero => exact h
  | succ d ih => exact ih (canS_less h)
theorem canS_step {T s t : List Int} (h : StepS T s t) {k : Nat} (hk : canS T k t) : canS T (k + 1) s := by
  obtain ⟨j, h1, rfl, h2⟩ := h
  exact ⟨j, h1, h2, hk⟩
theorem canS_reach {T s t : List Int} (h : ReachS T s t) : ∀ {k : Nat}, canS T k t → canS T (k + 1) s := by
  induction h with
  | one h => exact canS_step h
  | more _ k ih => exact fun hk => canS_less (ih (canS_step k hk))
theorem ever_ring {T s : List Int} (h : ReachS T s s) : everS T s := by
  intro k
  induction k with
  | zero => trivial
  | succ k ih => exact canS_reach h ih
theorem ever_step {T s t : List Int} (h : StepS T s t) (k : everS T t) : everS T s := fun n => canS_less (canS_step h (k n))
theorem MoreR.one {T s : List Int} {r q : Int} (h : MoreR T s r) (k : MoreR T s q) : r = q := by
  rcases h with ⟨h1, h2⟩ | ⟨m, h1, h2, h3⟩ <;> rcases k with ⟨k1, k2⟩ | ⟨m', k1, k2, k3⟩
  · rw [h1, k1]
  · exact absurd (h2 _) k3
  · exact absurd (k2 _) h3
  · rw [h1, k1]
    rcases Nat.lt_trichotomy m m' with h | h | h
    · exact absurd (canS_le k2 h) h3
    · rw [h]
    · exact absurd (canS_le h2 h) k3
theorem MoreR.low {T s : List Int} {r : Int} (h : MoreR T s r) : -1 ≤ r := by
  rcases h with ⟨h1, _⟩ | ⟨m, h1, _⟩ <;> omega
theorem MoreR.ever {T s : List Int} {r : Int} (h : MoreR T s r) : r = -1 ↔ everS T s := by
  rcases h with ⟨h1, h2⟩ | ⟨m, h1, h2, h3⟩
  · exact ⟨fun _ => h2, fun _ => h1⟩
  · exact ⟨fun e => by omega, fun e => absurd (e _) h3⟩
/-- After so many stretches have been tried: the longest of them. -/
def MostR (T s : List Int) (k : Nat) (r : Nat) : Prop :=
  canS T r s ∧ ∀ j, j < k → goodS T.length (metS T s j) → ¬ canS T r (metS T s j)
theorem most_zero (T s : List Int) : MostR T s 0 0 := ⟨trivial, fun j h => absurd h (Nat.not_lt_zero _)⟩
theorem most_bad {T s : List Int} {k r : Nat} (h : MostR T s k r) (hb : ¬ goodS T.length (metS T s k)) : MostR T s (k + 1) r :=
  ⟨h.1, fun j hj hg => by
    rcases Nat.lt_or_ge j k with h1 | h1
    · exact h.2 j h1 hg
    · rw [show j = k by omega] at hg; exact absurd hg hb⟩
theorem most_good {T s : List Int} {k r q : Nat} (h : MostR T s k r) (hk : k < T.length) (hb : goodS T.length (metS T s k)) (h1 : canS T q (metS T s k)) (h2 : ¬ canS T (q + 1) (metS T s k)) : MostR T s (k + 1) (max r (q + 1)) := by
  refine ⟨?_, fun j hj hg hc => ?_⟩
  · rcases Nat.le_total r (q + 1) with h3 | h3
    · rw [Nat.max_eq_right h3]; exact ⟨k, hk, hb, h1⟩
    · rw [Nat.max_eq_left h3]; exact h.1
  · rcases Nat.lt_or_ge j k with h3 | h3
    · exact h.2 j h3 hg (canS_le hc (Nat.le_max_left _ _))
    · rw [show j = k by omega] at hc
      exact h2 (canS_le hc (Nat.le_max_right _ _))
theorem most_all {T s : List Int} {r : Nat} (h : MostR T s T.length r) : MoreR T s r :=
  .inr ⟨r, rfl, h.1, fun ⟨j, h1, h2, h3⟩ => h.2 j h1 h2 h3⟩
theorem decS_len (n : Nat) (s : List Int) : (decS n s).length = s.length := by simp [decS]; omega
theorem metS_len (T s : List Int) (j : Nat) : (metS T s j).length = s.length := by simp [metS, decS_len]
theorem startS_len {T : List Int} (h : T.length ≤ 4) : (startS T).length = 4 := by simp [startS]; omega
theorem decS_get {n : Nat} {s : List Int} (hn : n ≤ s.length) (i : Nat) : (decS n s).getD i 0 = if i < n then s.getD i 0 - 1 else s.getD i 0 := by
  unfold decS
  by_cases h : i < n
  · rw [if_pos h, getD_app_l (by simp; omega), getD_eq (by simp; omega), getD_eq (by omega)]; simp
  · rw [if_neg h, List.getD_eq_getElem?_getD, List.getElem?_append_right (by simp; omega), List.getElem?_drop, List.getD_eq_getElem?_getD]
    congr 2; simp; omega
theorem metS_get {T s : List Int} {j : Nat} (hn : T.length ≤ s.length) (hj : j < T.length) (i : Nat) : (metS T s j).getD i 0 = if i = j then T.getD j 0 else if i < T.length then s.getD i 0 - 1 else s.getD i 0 := by
  unfold metS
  rw [getD_set' (by rw [decS_len]; omega), decS_get hn]
theorem decS_next {k : Nat} {s : List Int} (h : k < s.length) : (decS k s).set k ((decS k s).getD k 0 - 1) = decS (k + 1) s := by
  refine ext_getD (a := 0) (by simp [decS_len]) fun i hi => ?_
  rw [getD_set' (by rw [decS_len]; exact h), decS_get (by omega), decS_get (by omega), decS_get (by omega)]
  by_cases h1 : i = k
  · subst h1; rw [if_pos rfl, if_neg (by omega), if_pos (by omega)]
  · rw [if_neg h1]
    by_cases h2 : i < k
    · rw [if_pos h2, if_pos (by omega)]
    · rw [if_neg h2, if_neg (by omega)]
/-- All that can be left. -/
structure SOK (T s : List Int) : Prop where
  len : s.length = 4
  lo : ∀ i, i < T.length → 1 ≤ s.getD i 0
  hi : ∀ i, i < T.length → s.getD i 0 ≤ T.getD i 0
  out : ∀ i, T.length ≤ i → s.getD i 0 = 0
structure TOK (T : List Int) : Prop where
  len : T.length ≤ 4
  lo : ∀ i, i < T.length → 1 ≤ T.getD i 0
  hi : ∀ i, i < T.length → T.getD i 0 ≤ 8
theorem start_get {T : List Int} (h : T.length ≤ 4) (i : Nat) : (startS T).getD i 0 = if i < T.length then T.getD i 0 else 0 := by
  unfold startS
  by_cases h1 : i < T.length
  · rw [if_pos h1, getD_app_l h1]
  · rw [if_neg h1, List.getD_eq_getElem?_getD, List.getElem?_append_right (by omega), List.getElem?_replicate]
    split <;> rfl
theorem start_ok {T : List Int} (h : TOK T) : SOK T (startS T) where
  len := startS_len h.len
  lo i hi := by rw [start_get h.len, if_pos hi]; exact h.lo i hi
  hi i hi := by rw [start_get h.len, if_pos hi]; exact Int.le_refl _
  out i hi := by rw [start_get h.len, if_neg (by omega)]
theorem not_good {T s : List Int} (hl : s.length = 4) (hT : T.length ≤ 4) : goodS T.length s ↔ ∀ i, i < T.length → s.getD i 0 ≠ 0 := by
  unfold goodS
  constructor
  · intro h i hi e
    exact h (by rw [← e, ← getD_take hi]; exact getD_mem (by simp; omega))
  · intro h hm
    obtain ⟨i, hi, he⟩ := List.mem_iff_getElem.1 hm
    have hi' : i < T.length ∧ i < s.length := by simp at hi; omega
    exact h i hi'.1 (by rw [getD_eq hi'.2, ← he]; simp)
theorem met_ok {T s : List Int} {j : Nat} (hT : TOK T) (h : SOK T s) (hj : j < T.length) (hg : goodS T.length (metS T s j)) : SOK T (metS T s j) := by
  have hl : (metS T s j).length = 4 := by rw [metS_len, h.len]
  have hn : T.length ≤ s.length := by rw [h.len]; exact hT.len
  have hg' := (not_good hl hT.len).1 hg
  have get := metS_get hn hj
  refine ⟨hl, fun i hi => ?_, fun i hi => ?_, fun i hi => ?_⟩
  · have g := hg' i hi
    rw [get] at g ⊢
    by_cases h1 : i = j
    · subst h1; rw [if_pos rfl]; exact hT.lo i hi
    · rw [if_neg h1, if_pos hi] at g ⊢
      have := h.lo i hi
      omega
  · rw [get]
    by_cases h1 : i = j
    · subst h1; rw [if_pos rfl]; exact Int.le_refl _
    · rw [if_neg h1, if_pos hi]
      have := h.hi i hi
      omega
  · rw [get, if_neg (by omega), if_neg (by omega)]
    exact h.out i hi
/-- A number for each of what can be left. -/
def allS : Nat → List (List Int)
  | 0 => [[]]
  | n + 1 => ((List.range 9).map fun x => (allS n).map fun l => ((x : Nat) : Int) :: l).flatten
theorem mem_allS : ∀ {n : Nat} {s : List Int}, s.length = n → (∀ x ∈ s, 0 ≤ x ∧ x ≤ 8) → s ∈ allS n
  | 0, s, h, _ => by rw [List.length_eq_zero_iff.1 h]; simp [allS]
  | n + 1, [], h, _ => by simp at h
  | n + 1, x :: s, h, hx => by
    have h0 := hx x (List.mem_cons_self ..)
    have ih := mem_allS (n := n) (s := s) (by simpa using h) (fun y hy => hx y (List.mem_cons_of_mem _ hy))
    unfold allS
    refine List.mem_flatten.2 ⟨_, List.mem_map.2 ⟨x.toNat, List.mem_range.2 (by omega), rfl⟩, List.mem_map.2 ⟨s, ih, ?_⟩⟩
    congr 1; omega
theorem SOK.mem {T s : List Int} (hT : TOK T) (h : SOK T s) : s ∈ allS 4 := by
  refine mem_allS h.len fun x hx => ?_
  obtain ⟨i, hi, rfl⟩ := List.mem_iff_getElem.1 hx
  rw [← getD_eq (a := 0) hi]
  rcases Nat.lt_or_ge i T.length with h1 | h1
  · have := h.lo i h1; have := h.hi i h1; have := hT.hi i h1; omega
  · rw [h.out i h1]; omega
/-- How much isn't known yet. -/
def restM (m : MapI) : Nat := ((allS 4).filter fun s => (findI m s).isNone).length
theorem rest_le {m m' : MapI} (h : ∀ s, findI m s ≠ none → findI m' s ≠ none) : restM m' ≤ restM m := by
  unfold restM
  generalize allS 4 = l
  induction l with
  | nil => simp
  | cons s l ih =>
    rw [List.filter_cons, List.filter_cons]
    cases h1 : findI m s with
    | none => split <;> simp only [Option.isNone_none, if_true, List.length_cons] <;> omega
    | some v =>
      have := h s (by rw [h1]; simp)
      cases h2 : findI m' s with
      | none => exact absurd h2 this
      | some w => simpa using ih
theorem rest_put {m : MapI} {s : List Int} (hs : s ∈ allS 4) (hn : findI m s = none) (v : Int) : restM (putI m s v) < restM m := by
  unfold restM
  generalize allS 4 = l at hs
  have key : ∀ l : List (List Int), (l.filter fun t => (findI (putI m s v) t).isNone).length ≤ (l.filter fun t => (findI m t).isNone).length := by
    intro l
    induction l with
    | nil => simp
    | cons t l ih =>
      rw [List.filter_cons, List.filter_cons, findI_put]
      by_cases h : t = s
      · subst h; rw [hn]; simp; omega
      · rw [if_neg h]; split <;> (try simp only [List.length_cons]) <;> omega
  induction l with
  | nil => cases hs
  | cons t l ih =>
    rw [List.filter_cons, List.filter_cons, findI_put]
    by_cases h : t = s
    · subst h; rw [hn]; simp; have := key l; omega
    · rw [if_neg h]
      have := ih (by rcases List.mem_cons.1 hs with h1 | h1; exact absurd h1.symm h; exact h1)
      split <;> (try simp only [List.length_cons]) <;> omega
end Go.Proofs.Ytnmlfjohoeebiaa.Wk

/- Functions of the library; what is left before the first tide, and after one more. -/
namespace Go.Abs
set_option linter.unusedSectionVars false
variable [Globs]
open Go
section
variable {C : CW} {nt : Nat} {L : Env} {D : List Nat} {H : Heap} {K : St → Prop} {M M' : HL} {n : Nat} {gd : Option (Tmp × Bool)} {lo : List Nat} {l : List POp}
/-- Two cells. -/
theorem WR.store2 {i : Nat} {x y : Operand} {v w : Value} {a c : Value} {b e u : Nat} (hg : gOK L gd) (hH : hasH M n H) (hx : ev L x = some (.pointer (some ⟨b, 0, some u⟩))) (hy : ev L y = some (.agg [v, w].toArray)) (h1 : one v = true) (h2 : one w = true)
    (hu : Upd M b (.row e u 0 [a, c]) (.row e u 0 [v, w]) M') (k : ∀ H', hasH M' n H' → WR C nt l L D H' K) : WR C nt (⟨i, none, .store x y 2, gd, lo⟩ :: l) L D H K :=
  WR.storeAll hg hH hx hy (ls := [v, w]) rfl rfl hu (by simp [h1, h2]) rfl k
theorem Ends.retCN1 {a b k : Nat} {p : Addr} {l : List Value} {v : Value} {R : Value → Heap → Prop} (hx : ev L (.tmp a) = some (.pointer (some p))) (hr : H.readN p k = some l) (hy : ev L (.tmp b) = some v) (h : R (.tuple #[.agg l.toArray, v]) H) : Ends (retK [.cell a (some k), .tmp b] R) .ret L [] H := by
  refine Ends.ret_of trivial fun t ht => ⟨_, H, ?_, h⟩
  simp only [takeAll, leaveC, resultOf, ev_ok ht hx, hr, ev_ok ht hy, retVal]
theorem ints_all (xs : List Int) : (xs.map (Value.int .i64)).all one = true := by
  rw [List.all_eq_true]; intro q hq; obtain ⟨z, _, rfl⟩ := List.mem_map.1 hq; rfl
/-- An array of numbers is stored whole. -/
theorem WR.storeA {i : Nat} {x y : Operand} {b e u sz : Nat} {cs : List Value} {s : List Int} (hg : gOK L gd) (hH : hasH M n H) (hx : ev L x = some (.pointer (some ⟨b, 0, some u⟩))) (hy : ev L y = some (keyI s))
    (hs : s.length = sz) (hu : Upd M b (.row e u 0 cs) (.row e u 0 (s.map (Value.int .i64))) M') (hk : cs.length = sz) (k : ∀ H', hasH M' n H' → WR C nt l L D H' K) : WR C nt (⟨i, none, .store x y sz, gd, lo⟩ :: l) L D H K :=
  WR.storeAll hg hH hx hy (ls := s.map (Value.int .i64)) (by simp [keyI, Value.cells, ints]) (by simp [hs]) hu (ints_all s) (by simp [hs, hk]) k
theorem sameL_ints (xs : List Int) : sameL (xs.map (Value.int .i64)) (xs.map (Value.int .i64)) = true := by
  induction xs with
  | nil => rfl
  | cons x xs ih => simp only [List.map_cons, sameL, ih, Bool.and_true]; exact same_int _ _
theorem readA {b e u k : Nat} {s : List Int} (hH : hasH M n H) (hm : (b, Ch.row e u 0 (s.map (Value.int .i64))) ∈ M) (hs : s.length = k) : H.readN ⟨b, 0, some u⟩ k = some (s.map (Value.int .i64)) := by
  have := hH.readN (b := b) (u := u) (lo := 0) (o := 0) (k := k) hm (.row _ _ _ _) (Nat.le_refl _) (by simp [hs])
  rw [this, Nat.sub_zero, List.drop_zero, List.take_of_length_le (by simp [hs])]
end
end Go.Abs
namespace Go.Proofs.Ytnmlfjohoeebiaa.Wk
open Go Go.Abs Go.Mth
set_option linter.unusedVariables false
set_option linter.unusedSimpArgs false
theorem splice_get {cs l : List Int} {i : Nat} (h : i + l.length ≤ cs.length) (j : Nat) : (cs.take i ++ l ++ cs.drop (i + l.length)).getD j 0 = if j < i then cs.getD j 0 else if j < i + l.length then l.getD (j - i) 0 else cs.getD j 0 := by
  simp only [List.getD_eq_getElem?_getD]
  by_cases h1 : j < i
  · rw [if_pos h1, List.append_assoc, List.getElem?_append_left (by simp; omega), List.getElem?_take_of_lt h1]
  · rw [if_neg h1]
    by_cases h2 : j < i + l.length
    · rw [if_pos h2, List.getElem?_append_left (by simp; omega), List.getElem?_append_right (by simp; omega)]
      congr 2; simp; omega
    · rw [if_neg h2, List.getElem?_append_right (by simp; omega), List.getElem?_drop]
      congr 2; simp; omega
theorem splice_ints {cs l : List Int} {i : Nat} : splice (ints cs) i (ints l) = ints (cs.take i ++ l ++ cs.drop (i + l.length)) := by
  simp [splice, ints, List.map_take, List.map_drop]
theorem ints_one (xs : List Int) : (ints xs).all one = true := by
  rw [List.all_eq_true]; intro q hq; obtain ⟨z, _, rfl⟩ := List.mem_map.1 hq; rfl
attribute [local irreducible] gOK WS WC WR WD Ends FS YS OpV seqK blockK loopK midK retK rdK asgK rangeEnd sat Cell
section
variable {M : HL} {n0 : Nat} {H : Heap} {v w : Value}
theorem Index_fs (hH : hasH M n0 H) {xs : List Int} (hS : Sl M 1 v (ints xs)) (hx : xs.length ≤ 100000) (a : Int) :
    FS C 85 [v, .int .i64 a] H (fun e H' => H' = H ∧ ((∃ k, k < xs.length ∧ xs.getD k 0 = a ∧ (∀ j, j < k → xs.getD j 0 ≠ a) ∧ e = .int .i64 (k : Int)) ∨ (a ∉ xs ∧ e = .int .i64 (-1)))) := by
  refine FS.intro (pf := pf85) rfl rfl rfl ?_
  repeat' (first | refine zP ?_ | refine zA ?_ | (refine zM ?_; intro _ _) | refine zX ?_ | (refine zC ?_; intro _ _ _ _) | (refine zS ?_; intro _ _) | (apply Ws <;> intro hg))
  refine WC.loopX [(0, _), (1, _), (6, _), (7, _)] (fun k : Nat => [(8, .int .i64 (k : Int))]) [] (fun k H' => H' = H ∧ k ≤ xs.length ∧ ∀ j, j < k → xs.getD j 0 ≠ a) (fun k => xs.length - k) 0 (by repeat' (first | exact .nil | refine .cons rfl ?_)) rfl ⟨rfl, Nat.zero_le _, fun j h => absurd h (Nat.not_lt_zero _)⟩ ?_
  rintro k H' ⟨rfl, hk, hno⟩
  dsimp only [List.cons_append, List.nil_append]
  repeat' (first | refine zP ?_ | refine zA ?_ | (refine zM ?_; intro _ _) | refine zX ?_ | (refine zC ?_; intro _ _ _ _) | (refine zS ?_; intro _ _) | (apply Ws <;> intro hg))
  refine WC.condP rfl (fun hlt => ?_) (fun hlt => ?_)
  · have hk' : k < xs.length := by omega
    repeat' (first | refine zP ?_ | refine zA ?_ | (refine zM ?_; intro _ _) | refine zX ?_ | (refine zC ?_; intro _ _ _ _) | (refine zS ?_; intro _ _) | (apply Ws <;> intro hg))
    refine WC.condP rfl (fun h => ?_) (fun h => ?_)
    · repeat' (first | refine zP ?_ | refine zA ?_ | (refine zM ?_; intro _ _) | refine zX ?_ | (refine zC ?_; intro _ _ _ _) | (refine zS ?_; intro _ _) | (apply Ws <;> intro hg))
      exact Ends.ret1 rfl ⟨rfl, .inl ⟨k, hk', h.symm, hno, rfl⟩⟩
    · repeat' (first | refine zP ?_ | refine zA ?_ | (refine zM ?_; intro _ _) | refine zX ?_ | (refine zC ?_; intro _ _ _ _) | (refine zS ?_; intro _ _) | (apply Ws <;> intro hg))
      refine Ends.loop (k + 1) (by omega) (by repeat' (first | exact .nil | refine .cons rfl ?_)) rfl ⟨rfl, hk', fun j hj => ?_⟩
      rcases Nat.lt_or_ge j k with h2 | h2
      · exact hno j h2
      · have : j = k := by omega
        subst this
        exact fun q => h q.symm
  · repeat' (first | refine zP ?_ | refine zA ?_ | (refine zM ?_; intro _ _) | refine zX ?_ | (refine zC ?_; intro _ _ _ _) | (refine zS ?_; intro _ _) | (apply Ws <;> intro hg))
    refine Ends.ret1 rfl ⟨rfl, .inr ⟨fun hm => ?_, rfl⟩⟩
    obtain ⟨j, hj, he⟩ := List.mem_iff_getElem.1 hm
    exact hno j (by omega) (by rw [getD_eq hj]; exact he)
theorem Contains_fs (hH : hasH M n0 H) {xs : List Int} (hS : Sl M 1 v (ints xs)) (hx : xs.length ≤ 100000) (a : Int) :
    FS C 73 [v, .int .i64 a] H (fun e H' => H' = H ∧ e = .bool (decide (a ∈ xs))) := by
  refine FS.intro (pf := pf73) rfl rfl rfl ?_
  repeat' (first | refine zP ?_ | refine zA ?_ | (refine zM ?_; intro _ _) | refine zX ?_ | (refine zC ?_; intro _ _ _ _) | (refine zS ?_; intro _ _) | (apply Ws <;> intro hg))
  refine WR.call (by first | exact gN | exact gS rfl) rfl rfl (Index_fs hH hS hx a) ?_
  rintro _ _ ⟨rfl, ⟨k, hk, he, _, rfl⟩ | ⟨hn, rfl⟩⟩
  · repeat' (first | refine zP ?_ | refine zA ?_ | (refine zM ?_; intro _ _) | refine zX ?_ | (refine zC ?_; intro _ _ _ _) | (refine zS ?_; intro _ _) | (apply Ws <;> intro hg))
    refine Ends.ret1 rfl ⟨rfl, ?_⟩
    have hm : a ∈ xs := by rw [← he]; exact getD_mem hk
    rw [decide_eq_true hm, decide_eq_true (by omega)]
  · repeat' (first | refine zP ?_ | refine zA ?_ | (refine zM ?_; intro _ _) | refine zX ?_ | (refine zC ?_; intro _ _ _ _) | (refine zS ?_; intro _ _) | (apply Ws <;> intro hg))
    refine Ends.ret1 rfl ⟨rfl, ?_⟩
    rw [decide_eq_false hn, decide_eq_false (by omega)]

theorem start_splice {T : List Int} (h : T.length ≤ 4) : splice [Value.int .i64 0, .int .i64 0, .int .i64 0, .int .i64 0] (0 - 0) ((ints T).take T.length) = ints (startS T) := by
  have : (ints T).take T.length = ints T := List.take_of_length_le (by simp)
  rw [this, startS]
  match T, h with
  | [], _ => rfl
  | [_], _ => rfl
  | [_, _], _ => rfl
  | [_, _, _], _ => rfl
  | [_, _, _, _], _ => rfl
  | _ :: _ :: _ :: _ :: _ :: _, h => simp at h
theorem start_fs (hH : hasH M n0 H) {T : List Int} (hS : Sl M 1 v (ints T)) (hT : T.length ≤ 4) (h0 : 1 ≤ T.length) :
    FS C 58 [v] H (fun e H' => ∃ n', n0 ≤ n' ∧ e = keyI (startS T) ∧ hasH M n' H') := by
  have hl := startS_len hT
  have hli : (ints (startS T)).length = 4 := by simp [hl]
  refine FS.intro (pf := pf58) rfl rfl rfl ?_
  repeat' (first | refine zP ?_ | refine zA ?_ | (refine zM ?_; intro _ _) | refine zX ?_ | (refine zC ?_; intro _ _ _ _) | (refine zS ?_; intro _ _) | (apply Ws <;> intro hg))
  rename_i H1 hH1 H2 hH2
  refine WR.op (by first | exact gN | exact gS rfl) rfl (OpV.slA rfl (by omega)) ?_
  repeat' (first | refine zP ?_ | refine zA ?_ | (refine zM ?_; intro _ _) | refine zX ?_ | (refine zC ?_; intro _ _ _ _) | (refine zS ?_; intro _ _) | (apply Ws <;> intro hg))
  refine WR.copyMin (by first | exact gN | exact gS rfl) rfl rfl rfl (hS.cons.cons) hH2 .here (ints_one _) (Nat.le_refl _) (m := T.length) (by rw [List.length_map]; exact Nat.min_eq_left hT) h0 (by simp only [List.length_cons, List.length_nil]; omega) rfl fun H3 hH3 => ?_
  rw [start_splice hT] at hH3
  repeat' (first | refine zP ?_ | refine zA ?_ | (refine zM ?_; intro _ _) | refine zX ?_ | (refine zC ?_; intro _ _ _ _) | (refine zS ?_; intro _ _) | (apply Ws <;> intro hg))
  refine WR.storeA (by first | exact gN | exact gS rfl) hH3 rfl rfl hl (.there .here) rfl fun H4 hH4 => ?_
  repeat' (first | refine zP ?_ | refine zA ?_ | (refine zM ?_; intro _ _) | refine zX ?_ | (refine zC ?_; intro _ _ _ _) | (refine zS ?_; intro _ _) | (apply Ws <;> intro hg))
  exact Ends.retCN rfl (readA hH4 (.tail _ (.head _)) hl) ⟨n0 + 2, by omega, rfl, hH4.tail.tail⟩
theorem meet_fs (hH : hasH M n0 H) {T s : List Int} (hS : Sl M 1 v (ints T)) (hT : T.length ≤ 4) (hs : s.length = 4) (hb : ∀ i, i < 4 → 0 ≤ s.getD i 0 ∧ s.getD i 0 ≤ 8) {j : Nat} (hj : j < T.length) :
    FS C 79 [keyI s, v, .int .i64 (j : Int)] H (fun e H' => ∃ n', n0 ≤ n' ∧ e = .tuple #[keyI (metS T s j), .bool (decide (goodS T.length (metS T s j)))] ∧ hasH M n' H') := by
  have h1 := ints_one s
  refine FS.intro (pf := pf79) rfl rfl rfl ?_
  refine WC.seq ?_
  refine WC.region ?_
  refine WR.boxA (cs := ints s) (by first | exact gN | exact gS rfl) rfl hH rfl h1 fun H1 hH1 => ?_
  replace hH1 : hasH ((n0, .row 72 0 0 (ints (decS 0 s))) :: M) (n0 + 1) H1 := by simpa [decS] using hH1
  repeat' (first | refine zP ?_ | refine zA ?_ | (refine zM ?_; intro _ _) | refine zX ?_ | (refine zC ?_; intro _ _ _ _) | (refine zS ?_; intro _ _) | (apply Ws <;> intro hg))
  rename_i H2 hH2
  refine WC.loopX [(1, v), (2, .int .i64 (j : Int)), (3, .pointer (some ⟨n0, 0, some 0⟩)), (6, .pointer (some ⟨n0 + 1, 0, some 0⟩)), (7, .bool false), (9, v), (10, .int .i64 (T.length : Int))] (fun k : Nat => [(11, .int .i64 (k : Int))]) []
    (fun k H' => k ≤ T.length ∧ hasH ((n0 + 1, .row 72 0 0 (ints [0, 0, 0, 0])) :: (n0, .row 72 0 0 (ints (decS k s))) :: M) (n0 + 1 + 1) H') (fun k => T.length - k) 0 (by repeat' (first | exact .nil | refine .cons rfl ?_)) rfl ⟨Nat.zero_le _, hH2⟩ ?_
  clear hH1 hH2
  rintro k H3 ⟨hk, hH3⟩
  dsimp only [List.cons_append, List.nil_append]
  repeat' (first | refine zP ?_ | refine zA ?_ | (refine zM ?_; intro _ _) | refine zX ?_ | (refine zC ?_; intro _ _ _ _) | (refine zS ?_; intro _ _) | (apply Ws <;> intro hg))
  refine WC.condP rfl (fun hlt => ?_) (fun hlt => ?_)
  · have hk' : k < T.length := by omega
    have hdl : (decS k s).length = 4 := by rw [decS_len, hs]
    have hg := decS_get (n := k) (s := s) (by omega) k
    rw [if_neg (Nat.lt_irrefl k)] at hg
    have := hb k (by omega)
    repeat' (first | refine zP ?_ | refine zA ?_ | (refine zM ?_; intro _ _) | refine zX ?_ | (refine zC ?_; intro _ _ _ _) | (refine zS ?_; intro _ _) | (apply Ws <;> intro hg))
    rename_i H4 hH4
    refine Ends.loop (k + 1) (by omega) (by repeat' (first | exact .nil | refine .cons rfl ?_)) rfl ⟨hk', ?_⟩
    rwa [← decS_next (by omega)]
  · have hkn : k = T.length := by omega
    subst hkn
    have hdl : (decS T.length s).length = 4 := by rw [decS_len, hs]
    repeat' (first | refine zP ?_ | refine zA ?_ | (refine zM ?_; intro _ _) | refine zX ?_ | (refine zC ?_; intro _ _ _ _) | (refine zS ?_; intro _ _) | (apply Ws <;> intro hg))
    rename_i H4 hH4
    have hml : (metS T s j).length = 4 := by rw [metS_len, hs]
    have hmi : (ints (metS T s j)).length = 4 := by simp [hml]
    replace hH4 : hasH ((n0 + 1, .row 72 0 0 (ints [0, 0, 0, 0])) :: (n0, .row 72 0 0 (ints (metS T s j))) :: M) (n0 + 1 + 1) H4 := hH4
    have hSp : Sl ((n0 + 1, Ch.row 72 0 0 (ints [0, 0, 0, 0])) :: (n0, .row 72 0 0 (ints (metS T s j))) :: M) 1 (.slice (some ⟨n0, 0, some 0⟩) T.length (2 * 4 + 1)) (ints ((metS T s j).take T.length)) :=
      .row (lo := 0) (cs := ints (metS T s j)) (.tail _ (.head _)) (.row _ _ _ _) (Nat.zero_le _) (by simp; omega) (by simp [ints, List.map_take]) (by simp; omega) (.inr ⟨4, rfl, hT⟩)
    refine WC.regionD ?_
    repeat' (first | refine zD ?_ | (refine zE ?_; intro _ _ _ _))
    refine WD.op (by first | exact gN | exact gS rfl) rfl (OpV.slAh rfl rfl hT (by omega)) rfl (stands_nil _ _) ?_
    refine WD.call (by first | exact gN | exact gS rfl) rfl rfl (Contains_fs hH4 hSp (by simp; omega) 0) ?_
    rintro _ _ ⟨rfl, rfl⟩
    refine ⟨stands_cons (.inr (holdsN' (readA hH4 (.tail _ (.head _)) hml) (sameL_ints _))) stands_nil', ?_⟩
    refine WD.toWR rfl ?_
    repeat' (first | refine zP ?_ | refine zA ?_ | (refine zM ?_; intro _ _) | refine zX ?_ | (refine zC ?_; intro _ _ _ _) | (refine zS ?_; intro _ _) | (apply Ws <;> intro hg))
    refine WR.storeA (by first | exact gN | exact gS rfl) hH4 rfl rfl hml .here rfl fun H5 hH5 => ?_
    repeat' (first | refine zP ?_ | refine zA ?_ | (refine zM ?_; intro _ _) | refine zX ?_ | (refine zC ?_; intro _ _ _ _) | (refine zS ?_; intro _ _) | (apply Ws <;> intro hg))
    refine Ends.retCN1 rfl (readA hH5 (.head _) hml) rfl ⟨n0 + 1 + 1, by omega, ?_, hH5.tail.tail⟩
    simp only [keyI, ints, goodS, decide_not]
end
end Go.Proofs.Ytnmlfjohoeebiaa.Wk

/- A walk that can go on for long enough can go on for ever. -/
namespace Go.Proofs.Ytnmlfjohoeebiaa.Wk
open Go Go.Abs Go.Mth
set_option linter.unusedVariables false
theorem filter_eq {α : Type} {p q : α → Bool} : ∀ {l : List α}, (∀ a ∈ l, q a = true → p a = true) → (l.filter p).length ≤ (l.filter q).length → ∀ a ∈ l, p a = true → q a = true
  | [], _, _ => fun a ha => by cases ha
  | b :: l, h, hl => by
    have hle : ∀ {l : List α}, (∀ a ∈ l, q a = true → p a = true) → (l.filter q).length ≤ (l.filter p).length := by
      intro l
      induction l with
      | nil => intro _; simp
      | cons c l ih =>
        intro h
        have ih := ih fun a ha => h a (List.mem_cons_of_mem _ ha)
        have hc := h c (List.mem_cons_self ..)
        rw [List.filter_cons, List.filter_cons]
        cases hq : q c with
        | true => rw [hc hq]; simp only [if_true, List.length_cons]; omega
        | false =>
          rw [if_neg (by simp)]
          cases p c with
          | true => rw [if_pos rfl, List.length_cons]; omega
          | false => rw [if_neg (by simp)]; exact ih
    have h' : ∀ a ∈ l, q a = true → p a = true := fun a ha => h a (List.mem_cons_of_mem _ ha)
    have h2 := hle h'
    have hb := h b (List.mem_cons_self ..)
    rw [List.filter_cons, List.filter_cons] at hl
    intro a ha hp
    cases hq : q b with
    | true =>
      rw [hb hq, hq] at hl
      simp only [if_true, List.length_cons] at hl
      rcases List.mem_cons.1 ha with rfl | ha
      · exact hq
      · exact filter_eq h' (by omega) a ha hp
    | false =>
      cases hpb : p b with
      | true => rw [hpb, hq] at hl; simp at hl; omega
      | false =>
        rw [hpb, hq] at hl
        rcases List.mem_cons.1 ha with rfl | ha
        · rw [hpb] at hp; cases hp
        · exact filter_eq h' (by simpa using hl) a ha hp
theorem all_count : (allS 4).length = 6561 := by decide +kernel
open Classical in
theorem stab {T : List Int} (hT : TOK T) : ∃ k, k ≤ 6561 ∧ ∀ s, SOK T s → canS T k s → canS T (k + 1) s := by
  let cnt : Nat → Nat := fun k => ((allS 4).filter fun s => decide (SOK T s ∧ canS T k s)).length
  by_cases hex : ∃ k, k ≤ 6561 ∧ cnt k ≤ cnt (k + 1)
  · obtain ⟨k, hk, hc⟩ := hex
    refine ⟨k, hk, fun s hs h => ?_⟩
    have := filter_eq (p := fun s => decide (SOK T s ∧ canS T k s)) (q := fun s => decide (SOK T s ∧ canS T (k + 1) s)) (l := allS 4) (fun a _ ha => by
      rw [decide_eq_true_eq] at ha ⊢; exact ⟨ha.1, canS_less ha.2⟩) hc s (hs.mem hT) (by rw [decide_eq_true_eq]; exact ⟨hs, h⟩)
    rw [decide_eq_true_eq] at this
    exact this.2
  · exfalso
    have key : ∀ k, k ≤ 6562 → cnt k + k ≤ 6561 := by
      intro k
      induction k with
      | zero => intro _; have : cnt 0 ≤ (allS 4).length := List.length_filter_le _ _; rw [all_count] at this; omega
      | succ k ih =>
        intro hk
        have := ih (by omega)
        have h2 : ¬ cnt k ≤ cnt (k + 1) := fun h => hex ⟨k, by omega, h⟩
        omega
    have := key 6562 (Nat.le_refl _)
    omega
theorem stab_go {T : List Int} (hT : TOK T) {k : Nat} (h : ∀ s, SOK T s → canS T k s → canS T (k + 1) s) : ∀ d s, SOK T s → canS T k s → canS T (k + d) s := by
  have step : ∀ d s, SOK T s → canS T (k + d) s → canS T (k + d + 1) s := by
    intro d
    induction d with
    | zero => exact h
    | succ d ih =>
      rintro s hs ⟨j, h1, h2, h3⟩
      exact ⟨j, h1, h2, ih _ (met_ok hT hs h1 h2) h3⟩
  intro d
  induction d with
  | zero => exact fun s _ h => h
  | succ d ih => exact fun s hs h => step d s hs (ih s hs h)
theorem ever_of {T : List Int} (hT : TOK T) {s : List Int} (hs : SOK T s) (h : canS T 6561 s) : everS T s := by
  obtain ⟨k, hk, hst⟩ := stab hT
  intro n
  have := stab_go hT hst n s hs (canS_le h hk)
  exact canS_le this (by omega)
theorem ever_stab {T : List Int} (hT : TOK T) {k : Nat} (h : ∀ s, SOK T s → canS T k s → canS T (k + 1) s) {s : List Int} (hs : SOK T s) (hk : canS T k s) : everS T s :=
  fun n => canS_le (stab_go hT h n s hs hk) (by omega)
theorem more_lt {T : List Int} (hT : TOK T) {s : List Int} (hs : SOK T s) {m : Nat} (h1 : canS T m s) (h2 : ¬ canS T (m + 1) s) : m < 6561 := by
  rcases Nat.lt_or_ge m 6561 with h | h
  · exact h
  · exact absurd (ever_of hT hs (canS_le h1 h) _) h2
end Go.Proofs.Ytnmlfjohoeebiaa.Wk

/- For how many tides a walk can go on: the search. -/
namespace Go.Proofs.Ytnmlfjohoeebiaa.Wk
open Go Go.Abs Go.Mth
set_option linter.unusedVariables false
set_option linter.unusedSimpArgs false
/-- What is known: right, or under way. -/
def MInv (T : List Int) (S : List (List Int)) (m : MapI) : Prop := ∀ t r, findI m t = some r → MoreR T t r ∨ (t ∈ S ∧ r = -1)
theorem MInv.put {T : List Int} {S : List (List Int)} {m : MapI} (h : MInv T S m) (s : List Int) : MInv T (s :: S) (putI m s (-1)) := by
  intro t r hr
  rw [findI_put] at hr
  by_cases ht : t = s
  · rw [if_pos ht] at hr; cases hr; exact .inr ⟨by rw [ht]; exact List.mem_cons_self .., rfl⟩
  · rw [if_neg ht] at hr
    rcases h t r hr with h1 | ⟨h1, h2⟩
    · exact .inl h1
    · exact .inr ⟨List.mem_cons_of_mem _ h1, h2⟩
theorem MInv.ever {T s : List Int} {S : List (List Int)} {m : MapI} (h : MInv T (s :: S) m) (he : everS T s) : MInv T S m := by
  intro t r hr
  rcases h t r hr with h1 | ⟨h1, h2⟩
  · exact .inl h1
  · rcases List.mem_cons.1 h1 with rfl | h1
    · exact .inl (.inl ⟨h2, he⟩)
    · exact .inr ⟨h1, h2⟩
theorem MInv.done {T s : List Int} {S : List (List Int)} {m : MapI} (h : MInv T (s :: S) m) {q : Int} (he : MoreR T s q) : MInv T S (putI m s q) := by
  intro t r hr
  rw [findI_put] at hr
  by_cases ht : t = s
  · rw [if_pos ht] at hr; cases hr; exact .inl (ht ▸ he)
  · rw [if_neg ht] at hr
    rcases h t r hr with h1 | ⟨h1, h2⟩
    · exact .inl h1
    · rcases List.mem_cons.1 h1 with h1 | h1
      · exact absurd h1 ht
      · exact .inr ⟨h1, h2⟩
theorem SOK.bnd {T s : List Int} (hT : TOK T) (h : SOK T s) (i : Nat) (hi : i < 4) : 0 ≤ s.getD i 0 ∧ s.getD i 0 ≤ 8 := by
  rcases Nat.lt_or_ge i T.length with h1 | h1
  · have := h.lo i h1; have := h.hi i h1; have := hT.hi i h1; omega
  · rw [h.out i h1]; omega
structure MK where
  k : Nat
  q : Nat
  m : MapI
  n : Nat
attribute [local irreducible] gOK WS WC WR WD Ends FS YS OpV seqK blockK loopK midK retK rdK asgK rangeEnd sat Cell
theorem mgetS {C : CW} {L : Env} {H : Heap} {M : HL} {n b : Nat} {x y : Operand} {m : MapI} {s : List Int} {r : Int} (hx : ev L x = some (.map (some b))) (hy : ev L y = some (keyI s)) (hH : hasH M n H) (hm : (b, .map (ents m)) ∈ M) (hk : KeysN 4 m) (hs : s.length = 4) (hf : findI m s = some r) :
    OpV C (.mget 7 (.int .i64 0) x y true) L H (.tuple #[.int .i64 r, .bool true]) H := by
  have := OpV.mget (C := C) hx hy hH hm hk hs
  rwa [hf] at this
theorem mgetN {C : CW} {L : Env} {H : Heap} {M : HL} {n b : Nat} {x y : Operand} {m : MapI} {s : List Int} (hx : ev L x = some (.map (some b))) (hy : ev L y = some (keyI s)) (hH : hasH M n H) (hm : (b, .map (ents m)) ∈ M) (hk : KeysN 4 m) (hs : s.length = 4) (hf : findI m s = none) :
    OpV C (.mget 7 (.int .i64 0) x y true) L H (.tuple #[.int .i64 0, .bool false]) H := by
  have := OpV.mget (C := C) hx hy hH hm hk hs
  rwa [hf] at this
theorem more_fs {T : List Int} (hT : TOK T) : ∀ (w : Nat) {M : HL} {n0 b : Nat} {H : Heap} {v : Value} {m : MapI} {S : List (List Int)} {s : List Int}, restM m < w → hasH ((b, .map (ents m)) :: M) n0 H → Sl M 1 v (ints T) → SOK T s → KeysN 4 m → MInv T S m → (∀ t ∈ S, ReachS T t s) →
    FS C 57 [.agg [v, .map (some b)].toArray, keyI s] H (fun e H' => ∃ r m' n', e = .int .i64 r ∧ MoreR T s r ∧ n0 ≤ n' ∧ hasH ((b, .map (ents m')) :: M) n' H' ∧ KeysN 4 m' ∧ MInv T S m' ∧ (∀ t, findI m t ≠ none → findI m' t ≠ none)) := by
  intro w
  induction w with
  | zero => intro M n0 b H v m S s hw; omega
  | succ w ih =>
    intro M n0 b H v m S s hw hH hS hs hk hI hR
    have h1 := ints_one s
    have hli : (ints s).length = 4 := by simp [hs.len]
    have hv := hS.one_
    have hb1 : one (.map (some b)) = true := rfl
    refine FS.intro (pf := pf57) rfl rfl rfl ?_
    refine WC.seq ?_
    refine WC.region ?_
    refine WR.boxA (cs := [v, .map (some b)]) (by first | exact gN | exact gS rfl) rfl hH rfl (by (repeat' (first | exact all_nil | refine all_cons (by first | rfl | assumption) ?_))) fun H1 hH1 => ?_
    refine WR.boxA (cs := ints s) (by first | exact gN | exact gS rfl) rfl hH1 rfl h1 fun H2 hH2 => ?_
    repeat' (first | refine zP ?_ | refine zA ?_ | (refine zM ?_; intro _ _) | refine zX ?_ | (refine zC ?_; intro _ _ _ _) | (refine zS ?_; intro _ _) | (apply Ws <;> intro hg))
    cases hf : findI m s with
    | some r =>
      refine WR.op (by first | exact gN | exact gS rfl) rfl (mgetS rfl rfl hH2 (by first | assumption | exact .head _ | exact .tail _ (.head _) | exact .tail _ (.tail _ (.head _)) | exact .tail _ (.tail _ (.tail _ (.head _))) | exact .tail _ (.tail _ (.tail _ (.tail _ (.head _)))) | exact .tail _ (.tail _ (.tail _ (.tail _ (.tail _ (.head _))))) | exact .tail _ (.tail _ (.tail _ (.tail _ (.tail _ (.tail _ (.head _)))))) | (repeat' (first | assumption | apply List.mem_cons_of_mem))) hk hs.len hf) ?_
      repeat' (first | refine zP ?_ | refine zA ?_ | (refine zM ?_; intro _ _) | refine zX ?_ | (refine zC ?_; intro _ _ _ _) | (refine zS ?_; intro _ _) | (apply Ws <;> intro hg))
      refine Ends.ret1 rfl ⟨r, m, n0 + 1 + 1, rfl, ?_, by omega, hH2.tail.tail, hk, hI, fun _ h => h⟩
      rcases hI s r hf with h2 | ⟨h2, h3⟩
      · exact h2
      · exact .inl ⟨h3, ever_ring (hR s h2)⟩
    | none =>
      refine WR.op (by first | exact gN | exact gS rfl) rfl (mgetN rfl rfl hH2 (by first | assumption | exact .head _ | exact .tail _ (.head _) | exact .tail _ (.tail _ (.head _)) | exact .tail _ (.tail _ (.tail _ (.head _))) | exact .tail _ (.tail _ (.tail _ (.tail _ (.head _)))) | exact .tail _ (.tail _ (.tail _ (.tail _ (.tail _ (.head _))))) | exact .tail _ (.tail _ (.tail _ (.tail _ (.tail _ (.tail _ (.head _)))))) | (repeat' (first | assumption | apply List.mem_cons_of_mem))) hk hs.len hf) ?_
      repeat' (first | refine zP ?_ | refine zA ?_ | (refine zM ?_; intro _ _) | refine zX ?_ | (refine zC ?_; intro _ _ _ _) | (refine zS ?_; intro _ _) | (apply Ws <;> intro hg))
      refine WR.mput (by first | exact gN | exact gS rfl) rfl rfl rfl hH2 (.there (.there .here)) hk hs.len fun H3 hH3 => ?_
      have hw2 := rest_put (hs.mem hT) hf (-1)
      have hk2 := hk.put hs.len (-1)
      have hI2 := hI.put s
      have hm2 : ∀ t, findI m t ≠ none → findI (putI m s (-1)) t ≠ none := fun t ht => by rw [findI_put]; split; simp; exact ht
      have hin2 : findI (putI m s (-1)) s ≠ none := by rw [findI_put, if_pos rfl]; simp
      generalize putI m s (-1) = m2 at hw2 hk2 hI2 hm2 hH3 hin2
      have hS3 := ((hS.cons (p := (b, .map (ents m2)))).cons (p := (n0, .row 69 0 0 [v, .map (some b)]))).cons (p := (n0 + 1, .row 72 0 0 (ints s)))
      repeat' (first | refine zP ?_ | refine zA ?_ | (refine zM ?_; intro _ _) | refine zX ?_ | (refine zC ?_; intro _ _ _ _) | (refine zS ?_; intro _ _) | (apply Ws <;> intro hg))
      clear hS3
      refine WC.loopX [(0, .agg [v, .map (some b)].toArray), (1, keyI s), (2, .pointer (some ⟨n0, 0, some 0⟩)), (3, .pointer (some ⟨n0 + 1, 0, some 0⟩)), (4, .int .i64 0), (26, .int .i64 (T.length : Int))] (fun z : MK => [(27, .int .i64 (z.k : Int)), (7, .int .i64 (z.q : Int))]) []
        (fun z H' => z.k ≤ T.length ∧ n0 + 1 + 1 ≤ z.n ∧ hasH ((n0 + 1, .row 72 0 0 (ints s)) :: (n0, .row 69 0 0 [v, .map (some b)]) :: (b, .map (ents z.m)) :: M) z.n H' ∧ KeysN 4 z.m ∧ MInv T (s :: S) z.m ∧ (∀ t, findI m2 t ≠ none → findI z.m t ≠ none) ∧ MostR T s z.k z.q)
        (fun z => T.length - z.k) ⟨0, 0, m2, n0 + 1 + 1⟩ (by repeat' (first | exact .nil | refine .cons rfl ?_)) rfl ⟨Nat.zero_le _, Nat.le_refl _, hH3, hk2, hI2, fun _ h => h, most_zero T s⟩ ?_
      clear hH3 hk2 hI2 hH2 hH1
      rintro ⟨k, q, m3, n3⟩ H4 ⟨hk3, hn3, hH4, hk4, hI4, hm4, hq⟩
      simp only at hk3 hn3 hH4 hk4 hI4 hm4 hq
      dsimp only [List.cons_append, List.nil_append]
      have hS4 := ((hS.cons (p := (b, .map (ents m3)))).cons (p := (n0, .row 69 0 0 [v, .map (some b)]))).cons (p := (n0 + 1, .row 72 0 0 (ints s)))
      repeat' (first | refine zP ?_ | refine zA ?_ | (refine zM ?_; intro _ _) | refine zX ?_ | (refine zC ?_; intro _ _ _ _) | (refine zS ?_; intro _ _) | (apply Ws <;> intro hg))
      refine WC.condP rfl (fun hlt => ?_) (fun hlt => ?_)
      · have hk' : k < T.length := by omega
        repeat' (first | refine zP ?_ | refine zA ?_ | (refine zM ?_; intro _ _) | refine zX ?_ | (refine zC ?_; intro _ _ _ _) | (refine zS ?_; intro _ _) | (apply Ws <;> intro hg))
        have hml : (metS T s k).length = 4 := by rw [metS_len, hs.len]
        have hmi : (ints (metS T s k)).length = 4 := by simp [hml]
        refine WR.call (by first | exact gN | exact gS rfl) rfl rfl (meet_fs hH4 hS4 hT.len hs.len (hs.bnd hT) hk') ?_
        rintro _ H5 ⟨n5, hn5, rfl, hH5⟩
        clear hH4 hS4
        repeat' (first | refine zP ?_ | refine zA ?_ | (refine zM ?_; intro _ _) | refine zX ?_ | (refine zC ?_; intro _ _ _ _) | (refine zS ?_; intro _ _) | (apply Ws <;> intro hg))
        rename_i H6 hH6
        refine WR.storeA (by first | exact gN | exact gS rfl) hH6 rfl rfl hml .here rfl fun H7 hH7 => ?_
        clear hH5 hH6
        by_cases hg : goodS T.length (metS T s k)
        · rw [decide_eq_true hg]
          repeat' (first | refine zP ?_ | refine zA ?_ | (refine zM ?_; intro _ _) | refine zX ?_ | (refine zC ?_; intro _ _ _ _) | (refine zS ?_; intro _ _) | (apply Ws <;> intro hg))
          have hH8 := hH7.perm (M' := (b, .map (ents m3)) :: (n5, .row 72 0 0 (ints (metS T s k))) :: (n0 + 1, .row 72 0 0 (ints s)) :: (n0, .row 69 0 0 [v, .map (some b)]) :: M) (List.perm_middle (l₁ := [_, _, _]))
          have hst : StepS T s (metS T s k) := ⟨k, hk', rfl, hg⟩
          refine WR.call (by first | exact gN | exact gS rfl) rfl rfl (ih (S := s :: S) (s := metS T s k) (Nat.lt_of_le_of_lt (rest_le hm4) (by omega)) hH8 ((hS.cons).cons).cons (met_ok hT hs hk' hg) hk4 hI4 (fun t ht => ?_)) ?_
          · rcases List.mem_cons.1 ht with rfl | ht
            · exact .one hst
            · exact .more (hR t ht) hst
          rintro _ H9 ⟨r, m4, n9, rfl, hr, hn9, hH9, hk9, hI9, hm9⟩
          have hlow := hr.low
          have hH10 := hH9.perm (M' := (n5, .row 72 0 0 (ints (metS T s k))) :: (n0 + 1, .row 72 0 0 (ints s)) :: (n0, .row 69 0 0 [v, .map (some b)]) :: (b, .map (ents m4)) :: M) (List.perm_middle (l₁ := [_, _, _])).symm
          clear hH9 hH8 hH7
          rcases hr with ⟨rfl, he⟩ | ⟨p, rfl, hp1, hp2⟩
          · repeat' (first | refine zP ?_ | refine zA ?_ | (refine zM ?_; intro _ _) | refine zX ?_ | (refine zC ?_; intro _ _ _ _) | (refine zS ?_; intro _ _) | refine zO ?_ | (apply Ws <;> intro hg))
            exact Ends.ret1 rfl ⟨-1, m4, n9, rfl, .inl ⟨rfl, ever_step hst he⟩, by omega, hH10.tail.tail.tail, hk9, hI9.ever (ever_step hst he), fun t ht => hm9 t (hm4 t (hm2 t ht))⟩
          · have hp3 := more_lt hT (met_ok hT hs hk' hg) hp1 hp2
            have hTl := hT.len
            repeat' (first | refine zP ?_ | refine zA ?_ | (refine zM ?_; intro _ _) | refine zX ?_ | (refine zC ?_; intro _ _ _ _) | (refine zS ?_; intro _ _) | refine zO ?_ | (apply Ws <;> intro hg))
            rw [show max (q : Int) (1 + (p : Int)) = ((max q (p + 1) : Nat) : Int) by omega]
            exact Ends.loop ⟨k + 1, max q (p + 1), m4, n9⟩ (by simp only; omega) (by repeat' (first | exact .nil | refine .cons rfl ?_)) rfl ⟨hk', by simp only; omega, hH10.tail, hk9, hI9, fun t ht => hm9 t (hm4 t ht), most_good hq hk' hg hp1 hp2⟩
        · rw [decide_eq_false hg]
          have hTl := hT.len
          repeat' (first | refine zP ?_ | refine zA ?_ | (refine zM ?_; intro _ _) | refine zX ?_ | (refine zC ?_; intro _ _ _ _) | (refine zS ?_; intro _ _) | (apply Ws <;> intro hg))
          refine Ends.loop ⟨k + 1, q, m3, n5 + 1⟩ (by simp only; omega) (by repeat' (first | exact .nil | refine .cons rfl ?_)) rfl ⟨hk', by simp only; omega, hH7.tail, hk4, hI4, hm4, most_bad hq hg⟩
      · have hkn : k = T.length := by omega
        subst hkn
        have hd := most_all hq
        repeat' (first | refine zP ?_ | refine zA ?_ | (refine zM ?_; intro _ _) | refine zX ?_ | (refine zC ?_; intro _ _ _ _) | (refine zS ?_; intro _ _) | (apply Ws <;> intro hg))
        refine WR.mput (by first | exact gN | exact gS rfl) rfl rfl rfl hH4 (.there (.there .here)) hk4 hs.len fun H5 hH5 => ?_
        repeat' (first | refine zP ?_ | refine zA ?_ | (refine zM ?_; intro _ _) | refine zX ?_ | (refine zC ?_; intro _ _ _ _) | (refine zS ?_; intro _ _) | (apply Ws <;> intro hg))
        refine Ends.ret1 rfl ⟨q, putI m3 s q, n3, rfl, hd, by omega, hH5.tail.tail, hk4.put hs.len _, hI4.done hd, fun t ht => ?_⟩
        rw [findI_put]
        split
        · simp
        · exact hm4 t (hm2 t ht)
end Go.Proofs.Ytnmlfjohoeebiaa.Wk

/- Numbers are checked; what is looked for; whether a walk can go on for ever. -/
namespace Go.Proofs.Ytnmlfjohoeebiaa.Wk
open Go Go.Abs Go.Mth
set_option linter.unusedVariables false
set_option linter.unusedSimpArgs false
def numE (x : Int) : Int := if x < 1 ∨ 8 < x then 1 else 0
def errT (T : List Int) : Int := if T.length = 0 then 4 else if 4 < T.length then 3 else firstE (fun i => numE (T.getD i 0)) T.length
theorem errT_ok {T : List Int} (h : errT T = 0) : TOK T ∧ 1 ≤ T.length := by
  unfold errT at h
  split at h
  · omega
  · split at h
    · omega
    · have key : ∀ i, i < T.length → 1 ≤ T.getD i 0 ∧ T.getD i 0 ≤ 8 := by
        intro i hi
        have := firstE_zero.1 h i hi
        unfold numE at this
        split at this <;> omega
      exact ⟨⟨by omega, fun i hi => (key i hi).1, fun i hi => (key i hi).2⟩, by omega⟩
open Classical in
noncomputable def everB (T s : List Int) : Bool := decide (everS T s)
open Classical in
theorem everB_true {T s : List Int} : everB T s = true ↔ everS T s := by unfold everB; exact decide_eq_true_iff
theorem MoreR.everB {T s : List Int} {r : Int} (h : MoreR T s r) : decide (r = -1) = everB T s := by
  cases hb : Wk.everB T s with
  | true => exact decide_eq_true (h.ever.2 (everB_true.1 hb))
  | false => exact decide_eq_false fun e => by rw [everB_true.2 (h.ever.1 e)] at hb; cases hb
attribute [local irreducible] gOK WS WC WR WD Ends FS YS OpV seqK blockK loopK midK retK rdK asgK rangeEnd sat Cell
section
variable {M : HL} {n0 : Nat} {H : Heap} {v w : Value}
theorem Check_fs (hH : hasH M n0 H) {T : List Int} (hS : Sl M 1 v (ints T)) (hl : T.length ≤ 1000) :
    FS C 23 [v] H (fun e H' => e = .int .i64 (errT T) ∧ H' = H) := by
  refine FS.intro (pf := pf23) rfl rfl rfl ?_
  by_cases h0 : T.length = 0
  · have : errT T = 4 := by unfold errT; rw [if_pos h0]
    rw [this]
    repeat' (first | refine zP ?_ | refine zA ?_ | (refine zM ?_; intro _ _) | refine zX ?_ | (refine zC ?_; intro _ _ _ _) | (refine zS ?_; intro _ _) | refine zO ?_ | (apply Ws <;> intro hg))
    exact Ends.ret1 rfl ⟨rfl, rfl⟩
  by_cases h1 : 4 < T.length
  · have : errT T = 3 := by unfold errT; rw [if_neg h0, if_pos h1]
    rw [this]
    repeat' (first | refine zP ?_ | refine zA ?_ | (refine zM ?_; intro _ _) | refine zX ?_ | (refine zC ?_; intro _ _ _ _) | (refine zS ?_; intro _ _) | refine zO ?_ | (apply Ws <;> intro hg))
    exact Ends.ret1 rfl ⟨rfl, rfl⟩
  have hE : errT T = firstE (fun i => numE (T.getD i 0)) T.length := by unfold errT; rw [if_neg h0, if_neg h1]
  repeat' (first | refine zP ?_ | refine zA ?_ | (refine zM ?_; intro _ _) | refine zX ?_ | (refine zC ?_; intro _ _ _ _) | (refine zS ?_; intro _ _) | refine zO ?_ | (apply Ws <;> intro hg))
  refine WC.loopX [(0, _), (11, _), (12, _)] (fun k : Nat => [(13, .int .i64 (k : Int))]) [] (fun k H' => H' = H ∧ k ≤ T.length ∧ firstE (fun i => numE (T.getD i 0)) k = 0) (fun k => T.length - k) 0 (by repeat' (first | exact .nil | refine .cons rfl ?_)) rfl ⟨rfl, Nat.zero_le _, rfl⟩ ?_
  rintro k H' ⟨rfl, hk, hno⟩
  dsimp only [List.cons_append, List.nil_append]
  repeat' (first | refine zP ?_ | refine zA ?_ | (refine zM ?_; intro _ _) | refine zX ?_ | (refine zC ?_; intro _ _ _ _) | (refine zS ?_; intro _ _) | (apply Ws <;> intro hg))
  refine WC.condP rfl (fun hlt => ?_) (fun hlt => ?_)
  · have hk' : k < T.length := by omega
    by_cases h3 : T.getD k 0 < 1
    · have h4 : numE (T.getD k 0) = 1 := by unfold numE; rw [if_pos (.inl h3)]
      repeat' (first | refine zP ?_ | refine zA ?_ | (refine zM ?_; intro _ _) | refine zX ?_ | (refine zC ?_; intro _ _ _ _) | (refine zS ?_; intro _ _) | refine zO ?_ | (apply Ws <;> intro hg))
      refine Ends.ret1 rfl ⟨?_, rfl⟩
      rw [hE, firstE_at hno (by show numE _ ≠ 0; rw [h4]; decide) hk', h4]
    · by_cases h5 : 8 < T.getD k 0
      · have h4 : numE (T.getD k 0) = 1 := by unfold numE; rw [if_pos (.inr h5)]
        repeat' (first | refine zP ?_ | refine zA ?_ | (refine zM ?_; intro _ _) | refine zX ?_ | (refine zC ?_; intro _ _ _ _) | (refine zS ?_; intro _ _) | refine zO ?_ | (apply Ws <;> intro hg))
        refine Ends.ret1 rfl ⟨?_, rfl⟩
        rw [hE, firstE_at hno (by show numE _ ≠ 0; rw [h4]; decide) hk', h4]
      · have h4 : numE (T.getD k 0) = 0 := by unfold numE; rw [if_neg (by omega)]
        repeat' (first | refine zP ?_ | refine zA ?_ | (refine zM ?_; intro _ _) | refine zX ?_ | (refine zC ?_; intro _ _ _ _) | (refine zS ?_; intro _ _) | refine zO ?_ | (apply Ws <;> intro hg))
        exact Ends.loop (k + 1) (by omega) (by repeat' (first | exact .nil | refine .cons rfl ?_)) rfl ⟨rfl, hk', firstE_succ hno h4⟩
  · have hkn : k = T.length := by omega
    repeat' (first | refine zP ?_ | refine zA ?_ | (refine zM ?_; intro _ _) | refine zX ?_ | (refine zC ?_; intro _ _ _ _) | (refine zS ?_; intro _ _) | (apply Ws <;> intro hg))
    refine Ends.ret1 rfl ⟨?_, rfl⟩
    rw [hE, ← hkn, hno]
theorem look_fs (hH : hasH M n0 H) (hv : one v = true) :
    FS C 54 [v] H (fun e H' => ∃ b n', e = .agg [v, .map (some b)].toArray ∧ n0 ≤ b ∧ b < n' ∧ hasH ((b, .map (ents [])) :: M) n' H') := by
  refine FS.intro (pf := pf54) rfl rfl rfl ?_
  repeat' (first | refine zP ?_ | refine zA ?_ | (refine zM ?_; intro _ _) | refine zX ?_ | (refine zC ?_; intro _ _ _ _) | (refine zS ?_; intro _ _) | (apply Ws <;> intro hg))
  rename_i H1 hH1
  refine WR.mkM (by first | exact gN | exact gS rfl) rfl hH1 fun H2 hH2 => ?_
  repeat' (first | refine zP ?_ | refine zA ?_ | (refine zM ?_; intro _ _) | refine zX ?_ | (refine zC ?_; intro _ _ _ _) | (refine zS ?_; intro _ _) | (apply Ws <;> intro hg))
  refine WR.op (by first | exact gN | exact gS rfl) rfl (OpV.bldT (cs := [v, .map (some (n0 + 1))].toArray) rfl (by cases v <;> first | rfl | cases hv)) ?_
  refine WR.store2 (by first | exact gN | exact gS rfl) hH2 rfl rfl hv rfl (.there .here) fun H3 hH3 => ?_
  repeat' (first | refine zP ?_ | refine zA ?_ | (refine zM ?_; intro _ _) | refine zX ?_ | (refine zC ?_; intro _ _ _ _) | (refine zS ?_; intro _ _) | (apply Ws <;> intro hg))
  refine Ends.retCN (l := [v, .map (some (n0 + 1))]) rfl ?_ ⟨n0 + 1, n0 + 1 + 1, rfl, by omega, by omega, hH3.sub (.cons_cons _ (List.sublist_cons_self _ _))⟩
  have := hH3.readN (b := n0) (u := 0) (lo := 0) (o := 0) (k := 2) (.tail _ (.head _)) (.row _ _ _ _) (Nat.le_refl _) (by simp)
  simpa using this
theorem inv_nil (T : List Int) : MInv T [] [] := fun t r h => by cases h
end
end Go.Proofs.Ytnmlfjohoeebiaa.Wk

/- What is left after a walk, and the functions that ask for it. -/
namespace Go.Proofs.Ytnmlfjohoeebiaa.Wk
open Go Go.Abs Go.Mth
set_option linter.unusedVariables false
set_option linter.unusedSimpArgs false
/-- What is left after a walk, if it is good. -/
def goS (T : List Int) : List Int → List Int → Option (List Int)
  | s, [] => some s
  | s, x :: w => if goodS T.length (metS T s x.toNat) then goS T (metS T s x.toNat) w else none
theorem goS_snoc {T : List Int} {x : Int} : ∀ {w s : List Int}, goS T s (w ++ [x]) = (goS T s w).bind fun t => if goodS T.length (metS T t x.toNat) then some (metS T t x.toNat) else none
  | [], s => rfl
  | y :: w, s => by
    simp only [List.cons_append, goS]
    split
    · exact goS_snoc
    · rfl
theorem goS_none {T : List Int} : ∀ {w u s : List Int}, goS T s w = none → goS T s (w ++ u) = none
  | [], u, s, h => by cases h
  | y :: w, u, s, h => by
    simp only [List.cons_append, goS] at h ⊢
    split
    · rename_i hg; rw [if_pos hg] at h; exact goS_none h
    · rfl
/-- Numbers of stretches. -/
def WOK (n : Nat) (w : List Int) : Prop := ∀ x ∈ w, 0 ≤ x ∧ x < (n : Int)
theorem goS_ok {T : List Int} (hT : TOK T) : ∀ {w s t : List Int}, SOK T s → WOK T.length w → goS T s w = some t → SOK T t
  | [], s, t, h, _, e => by cases e; exact h
  | x :: w, s, t, h, hw, e => by
    simp only [goS] at e
    split at e
    · rename_i hg
      have hx := hw x (List.mem_cons_self ..)
      exact goS_ok hT (met_ok hT h (by omega) hg) (fun y hy => hw y (List.mem_cons_of_mem _ hy)) e
    · cases e
def strE (n : Nat) (x : Int) : Int := if x < 0 ∨ (n : Int) ≤ x then 2 else 0
def walkE (n : Nat) (w : List Int) : Int := if 60 < w.length then 19 else firstE (fun i => strE n (w.getD i 0)) w.length
theorem walkE_ok {n : Nat} {w : List Int} : walkE n w = 0 ↔ w.length ≤ 60 ∧ WOK n w := by
  unfold walkE
  split
  · rename_i h; exact ⟨fun h => by omega, fun h => by omega⟩
  · rename_i hl
    rw [firstE_zero]
    constructor
    · refine fun h => ⟨by omega, fun x hx => ?_⟩
      obtain ⟨i, hi, rfl⟩ := List.mem_iff_getElem.1 hx
      have := h i hi
      rw [getD_eq hi] at this
      unfold strE at this
      split at this <;> omega
    · refine fun h i hi => ?_
      have := h.2 _ (getD_mem (a := 0) hi)
      unfold strE
      rw [if_neg (by omega)]
def leftE (T w : List Int) : Int := if errT T ≠ 0 then errT T else if walkE T.length w ≠ 0 then walkE T.length w else if goS T (startS T) w = none then 12 else 0
structure FK where
  k : Nat
  s : List Int
  n : Nat
attribute [local irreducible] gOK WS WC WR WD Ends FS YS OpV seqK blockK loopK midK retK rdK asgK rangeEnd sat Cell
section
variable {M : HL} {n0 : Nat} {H : Heap} {v w : Value}
theorem follow_fs (hH : hasH M n0 H) {T : List Int} (hS : Sl M 1 v (ints T)) (hT : TOK T) (h1 : 1 ≤ T.length) {W : List Int} (hW : Sl M 1 w (ints W)) (hw : WOK T.length W) (hwl : W.length ≤ 1000) :
    FS C 67 [v, w] H (fun e H' => ∃ n', n0 ≤ n' ∧ hasH M n' H' ∧ ((∃ s, goS T (startS T) W = some s ∧ e = .tuple #[keyI s, .bool true]) ∨ (goS T (startS T) W = none ∧ e = .tuple #[keyI [0, 0, 0, 0], .bool false]))) := by
  have hsl := startS_len hT.len
  refine FS.intro (pf := pf67) rfl rfl rfl ?_
  repeat' (first | refine zP ?_ | refine zA ?_ | (refine zM ?_; intro _ _) | refine zX ?_ | (refine zC ?_; intro _ _ _ _) | (refine zS ?_; intro _ _) | (apply Ws <;> intro hg))
  rename_i H1 hH1
  refine WR.call (by first | exact gN | exact gS rfl) rfl rfl (start_fs hH1 hS.cons hT.len h1) ?_
  rintro _ H2 ⟨n2, hn2, rfl, hH2⟩
  repeat' (first | refine zP ?_ | refine zA ?_ | (refine zM ?_; intro _ _) | refine zX ?_ | (refine zC ?_; intro _ _ _ _) | (refine zS ?_; intro _ _) | (apply Ws <;> intro hg))
  rename_i H3 hH3
  refine WR.storeA (by first | exact gN | exact gS rfl) hH3 rfl rfl hsl .here rfl fun H4 hH4 => ?_
  have hW4 := (hW.cons (p := (n0, .row 72 0 0 (ints [0, 0, 0, 0])))).cons (p := (n2, .row 72 0 0 (ints (startS T))))
  repeat' (first | refine zP ?_ | refine zA ?_ | (refine zM ?_; intro _ _) | refine zX ?_ | (refine zC ?_; intro _ _ _ _) | (refine zS ?_; intro _ _) | (apply Ws <;> intro hg))
  refine WC.loopX [(0, v), (4, .pointer (some ⟨n0, 0, some 0⟩)), (5, .bool false), (6, .pointer (some ⟨n2, 0, some 0⟩)), (13, w), (14, .int .i64 (W.length : Int))] (fun z : FK => [(15, .int .i64 (z.k : Int))]) []
    (fun z H' => z.k ≤ W.length ∧ n2 < z.n ∧ goS T (startS T) (W.take z.k) = some z.s ∧ SOK T z.s ∧ hasH ((n2, .row 72 0 0 (ints z.s)) :: (n0, .row 72 0 0 (ints [0, 0, 0, 0])) :: M) z.n H') (fun z => W.length - z.k) ⟨0, startS T, n2 + 1⟩ (by repeat' (first | exact .nil | refine .cons rfl ?_)) rfl
    ⟨Nat.zero_le _, by simp only; omega, rfl, start_ok hT, hH4⟩ ?_
  clear hH1 hH2 hH3 hH4 hW4
  rintro ⟨k, s, n5⟩ H5 ⟨hk, hn5, hgo, hs, hH5⟩
  simp only at hk hn5 hgo hs hH5
  have hli : (ints s).length = 4 := by simp [hs.len]
  have hW5 := (hW.cons (p := (n0, .row 72 0 0 (ints [0, 0, 0, 0])))).cons (p := (n2, .row 72 0 0 (ints s)))
  dsimp only [List.cons_append, List.nil_append]
  repeat' (first | refine zP ?_ | refine zA ?_ | (refine zM ?_; intro _ _) | refine zX ?_ | (refine zC ?_; intro _ _ _ _) | (refine zS ?_; intro _ _) | (apply Ws <;> intro hg))
  refine WC.condP rfl (fun hlt => ?_) (fun hlt => ?_)
  · have hk' : k < W.length := by omega
    have hx := hw _ (getD_mem (a := 0) hk')
    obtain ⟨j, hj⟩ : ∃ j : Nat, W.getD k 0 = (j : Int) := ⟨(W.getD k 0).toNat, by omega⟩
    have hjT : j < T.length := by omega
    have htk : W.take (k + 1) = W.take k ++ [W.getD k 0] := by rw [List.take_succ_eq_append_getElem hk', getD_eq hk']
    have hgs : goS T (startS T) (W.take (k + 1)) = if goodS T.length (metS T s j) then some (metS T s j) else none := by rw [htk, goS_snoc, hgo, hj]; rfl
    repeat' (first | refine zP ?_ | refine zA ?_ | (refine zM ?_; intro _ _) | refine zX ?_ | (refine zC ?_; intro _ _ _ _) | (refine zS ?_; intro _ _) | (apply Ws <;> intro hg))
    rw [hj]
    have hml : (metS T s j).length = 4 := by rw [metS_len, hs.len]
    have hmi : (ints (metS T s j)).length = 4 := by simp [hml]
    refine WR.call (by first | exact gN | exact gS rfl) rfl rfl (meet_fs hH5 hS.cons.cons hT.len hs.len (hs.bnd hT) hjT) ?_
    rintro _ H6 ⟨n6, hn6, rfl, hH6⟩
    repeat' (first | refine zP ?_ | refine zA ?_ | (refine zM ?_; intro _ _) | refine zX ?_ | (refine zC ?_; intro _ _ _ _) | (refine zS ?_; intro _ _) | (apply Ws <;> intro hg))
    rename_i H7 hH7
    refine WR.storeA (by first | exact gN | exact gS rfl) hH7 rfl rfl hml .here rfl fun H8 hH8 => ?_
    by_cases hg : goodS T.length (metS T s j)
    · rw [decide_eq_true hg]
      repeat' (first | refine zP ?_ | refine zA ?_ | (refine zM ?_; intro _ _) | refine zX ?_ | (refine zC ?_; intro _ _ _ _) | (refine zS ?_; intro _ _) | (apply Ws <;> intro hg))
      refine WR.storeA (by first | exact gN | exact gS rfl) hH8 rfl rfl hml (.there .here) (by simp [hs.len]) fun H9 hH9 => ?_
      repeat' (first | refine zP ?_ | refine zA ?_ | (refine zM ?_; intro _ _) | refine zX ?_ | (refine zC ?_; intro _ _ _ _) | (refine zS ?_; intro _ _) | (apply Ws <;> intro hg))
      exact Ends.loop ⟨k + 1, metS T s j, n6 + 1⟩ (by simp only; omega) (by repeat' (first | exact .nil | refine .cons rfl ?_)) rfl ⟨hk', by simp only; omega, by rw [hgs, if_pos hg], met_ok hT hs hjT hg, hH9.tail⟩
    · rw [decide_eq_false hg]
      repeat' (first | refine zP ?_ | refine zA ?_ | (refine zM ?_; intro _ _) | refine zX ?_ | (refine zC ?_; intro _ _ _ _) | (refine zS ?_; intro _ _) | (apply Ws <;> intro hg))
      refine WR.op (by first | exact gN | exact gS rfl) rfl (OpV.bldA (cs := [.int .i64 0, .int .i64 0, .int .i64 0, .int .i64 0].toArray) rfl rfl) ?_
      refine WR.storeA (s := [0, 0, 0, 0]) (by first | exact gN | exact gS rfl) hH8 rfl rfl rfl (.there (.there .here)) rfl fun H9 hH9 => ?_
      repeat' (first | refine zP ?_ | refine zA ?_ | (refine zM ?_; intro _ _) | refine zX ?_ | (refine zC ?_; intro _ _ _ _) | (refine zS ?_; intro _ _) | (apply Ws <;> intro hg))
      refine Ends.retCN1 rfl (readA hH9 (.tail _ (.tail _ (.head _))) rfl) rfl ⟨n6 + 1, by omega, hH9.tail.tail.tail, .inr ⟨?_, rfl⟩⟩
      rw [← List.take_append_drop (k + 1) W]
      exact goS_none (by rw [hgs, if_neg hg])
  · have hkn : k = W.length := by omega
    subst hkn
    rw [List.take_length] at hgo
    repeat' (first | refine zP ?_ | refine zA ?_ | (refine zM ?_; intro _ _) | refine zX ?_ | (refine zC ?_; intro _ _ _ _) | (refine zS ?_; intro _ _) | (apply Ws <;> intro hg))
    refine WR.storeA (by first | exact gN | exact gS rfl) hH5 rfl rfl hs.len (.there .here) rfl fun H6 hH6 => ?_
    repeat' (first | refine zP ?_ | refine zA ?_ | (refine zM ?_; intro _ _) | refine zX ?_ | (refine zC ?_; intro _ _ _ _) | (refine zS ?_; intro _ _) | (apply Ws <;> intro hg))
    exact Ends.retCN1 rfl (readA hH6 (.tail _ (.head _)) hs.len) rfl ⟨n5, by omega, hH6.tail.tail, .inl ⟨s, hgo, rfl⟩⟩
theorem strs_fs (hH : hasH M n0 H) {T : List Int} (hS : Sl M 1 v (ints T)) (hTl : T.length ≤ 1000) {W : List Int} (hW : Sl M 1 w (ints W)) (hwl : W.length ≤ 1000) :
    FS C 65 [v, w] H (fun e H' => e = .int .i64 (walkE T.length W) ∧ H' = H) := by
  refine FS.intro (pf := pf65) rfl rfl rfl ?_
  by_cases h0 : 60 < W.length
  · have : walkE T.length W = 19 := by unfold walkE; rw [if_pos h0]
    rw [this]
    repeat' (first | refine zP ?_ | refine zA ?_ | (refine zM ?_; intro _ _) | refine zX ?_ | (refine zC ?_; intro _ _ _ _) | (refine zS ?_; intro _ _) | refine zO ?_ | (apply Ws <;> intro hg))
    exact Ends.ret1 rfl ⟨rfl, rfl⟩
  have hE : walkE T.length W = firstE (fun i => strE T.length (W.getD i 0)) W.length := by unfold walkE; rw [if_neg h0]
  repeat' (first | refine zP ?_ | refine zA ?_ | (refine zM ?_; intro _ _) | refine zX ?_ | (refine zC ?_; intro _ _ _ _) | (refine zS ?_; intro _ _) | refine zO ?_ | (apply Ws <;> intro hg))
  refine WC.loopX [(0, _), (10, _), (11, _)] (fun k : Nat => [(12, .int .i64 (k : Int))]) [] (fun k H' => H' = H ∧ k ≤ W.length ∧ firstE (fun i => strE T.length (W.getD i 0)) k = 0) (fun k => W.length - k) 0 (by repeat' (first | exact .nil | refine .cons rfl ?_)) rfl ⟨rfl, Nat.zero_le _, rfl⟩ ?_
  rintro k H' ⟨rfl, hk, hno⟩
  dsimp only [List.cons_append, List.nil_append]
  repeat' (first | refine zP ?_ | refine zA ?_ | (refine zM ?_; intro _ _) | refine zX ?_ | (refine zC ?_; intro _ _ _ _) | (refine zS ?_; intro _ _) | (apply Ws <;> intro hg))
  refine WC.condP rfl (fun hlt => ?_) (fun hlt => ?_)
  · have hk' : k < W.length := by omega
    by_cases h3 : W.getD k 0 < 0
    · have h4 : strE T.length (W.getD k 0) = 2 := by unfold strE; rw [if_pos (.inl h3)]
      repeat' (first | refine zP ?_ | refine zA ?_ | (refine zM ?_; intro _ _) | refine zX ?_ | (refine zC ?_; intro _ _ _ _) | (refine zS ?_; intro _ _) | refine zO ?_ | (apply Ws <;> intro hg))
      refine Ends.ret1 rfl ⟨?_, rfl⟩
      rw [hE, firstE_at hno (by show strE _ _ ≠ 0; rw [h4]; decide) hk', h4]
    · by_cases h5 : (T.length : Int) ≤ W.getD k 0
      · have h4 : strE T.length (W.getD k 0) = 2 := by unfold strE; rw [if_pos (.inr h5)]
        repeat' (first | refine zP ?_ | refine zA ?_ | (refine zM ?_; intro _ _) | refine zX ?_ | (refine zC ?_; intro _ _ _ _) | (refine zS ?_; intro _ _) | refine zO ?_ | (apply Ws <;> intro hg))
        refine Ends.ret1 rfl ⟨?_, rfl⟩
        rw [hE, firstE_at hno (by show strE _ _ ≠ 0; rw [h4]; decide) hk', h4]
      · have h4 : strE T.length (W.getD k 0) = 0 := by unfold strE; rw [if_neg (by omega)]
        repeat' (first | refine zP ?_ | refine zA ?_ | (refine zM ?_; intro _ _) | refine zX ?_ | (refine zC ?_; intro _ _ _ _) | (refine zS ?_; intro _ _) | refine zO ?_ | (apply Ws <;> intro hg))
        exact Ends.loop (k + 1) (by omega) (by repeat' (first | exact .nil | refine .cons rfl ?_)) rfl ⟨rfl, hk', firstE_succ hno h4⟩
  · have hkn : k = W.length := by omega
    repeat' (first | refine zP ?_ | refine zA ?_ | (refine zM ?_; intro _ _) | refine zX ?_ | (refine zC ?_; intro _ _ _ _) | (refine zS ?_; intro _ _) | (apply Ws <;> intro hg))
    refine Ends.ret1 rfl ⟨?_, rfl⟩
    rw [hE, ← hkn, hno]
theorem checked_fs (hH : hasH M n0 H) {T : List Int} (hS : Sl M 1 v (ints T)) (hTl : T.length ≤ 1000) {W : List Int} (hW : Sl M 1 w (ints W)) (hwl : W.length ≤ 1000) :
    FS C 61 [v, w] H (fun e H' => ∃ n' s, n0 ≤ n' ∧ hasH M n' H' ∧ e = .tuple #[keyI s, .int .i64 (leftE T W)] ∧ s.length = 4 ∧ (leftE T W = 0 → goS T (startS T) W = some s)) := by
  refine FS.intro (pf := pf61) rfl rfl rfl ?_
  repeat' (first | refine zP ?_ | refine zA ?_ | (refine zM ?_; intro _ _) | refine zX ?_ | (refine zC ?_; intro _ _ _ _) | (refine zS ?_; intro _ _) | (apply Ws <;> intro hg))
  rename_i H1 hH1
  refine WR.call (by first | exact gN | exact gS rfl) rfl rfl (Check_fs hH1 hS.cons hTl) ?_
  rintro _ _ ⟨rfl, rfl⟩
  by_cases h0 : errT T = 0
  · obtain ⟨hT, h1⟩ := errT_ok h0
    repeat' (first | refine zP ?_ | refine zA ?_ | (refine zM ?_; intro _ _) | refine zX ?_ | (refine zC ?_; intro _ _ _ _) | (refine zS ?_; intro _ _) | refine zO ?_ | (apply Ws <;> intro hg))
    refine WR.call (by first | exact gN | exact gS rfl) rfl rfl (strs_fs hH1 hS.cons hTl hW.cons hwl) ?_
    rintro _ _ ⟨rfl, rfl⟩
    by_cases h2 : walkE T.length W = 0
    · have hwk := walkE_ok.1 h2
      repeat' (first | refine zP ?_ | refine zA ?_ | (refine zM ?_; intro _ _) | refine zX ?_ | (refine zC ?_; intro _ _ _ _) | (refine zS ?_; intro _ _) | refine zO ?_ | (apply Ws <;> intro hg))
      refine WR.call (by first | exact gN | exact gS rfl) rfl rfl (follow_fs hH1 hS.cons hT h1 hW.cons hwk.2 hwl) ?_
      rintro _ H2 ⟨n2, hn2, hH2, ⟨s, hgo, rfl⟩ | ⟨hgo, rfl⟩⟩
      · have hs := goS_ok hT (start_ok hT) hwk.2 hgo
        have hli : (ints s).length = 4 := by simp [hs.len]
        have hE : leftE T W = 0 := by unfold leftE; rw [if_neg (by omega), if_neg (by omega), if_neg (by rw [hgo]; simp)]
        repeat' (first | refine zP ?_ | refine zA ?_ | (refine zM ?_; intro _ _) | refine zX ?_ | (refine zC ?_; intro _ _ _ _) | (refine zS ?_; intro _ _) | (apply Ws <;> intro hg))
        rename_i H3 hH3
        refine WR.storeA (by first | exact gN | exact gS rfl) hH3 rfl rfl hs.len .here rfl fun H4 hH4 => ?_
        repeat' (first | refine zP ?_ | refine zA ?_ | (refine zM ?_; intro _ _) | refine zX ?_ | (refine zC ?_; intro _ _ _ _) | (refine zS ?_; intro _ _) | (apply Ws <;> intro hg))
        refine WR.storeA (by first | exact gN | exact gS rfl) hH4 rfl rfl hs.len (.there .here) rfl fun H5 hH5 => ?_
        repeat' (first | refine zP ?_ | refine zA ?_ | (refine zM ?_; intro _ _) | refine zX ?_ | (refine zC ?_; intro _ _ _ _) | (refine zS ?_; intro _ _) | (apply Ws <;> intro hg))
        exact Ends.retCN1 rfl (readA hH5 (.tail _ (.head _)) hs.len) rfl ⟨n2 + 1, s, by omega, hH5.tail.tail, by rw [hE]; rfl, hs.len, fun _ => hgo⟩
      · have hE : leftE T W = 12 := by unfold leftE; rw [if_neg (by omega), if_neg (by omega), if_pos hgo]
        repeat' (first | refine zP ?_ | refine zA ?_ | (refine zM ?_; intro _ _) | refine zX ?_ | (refine zC ?_; intro _ _ _ _) | (refine zS ?_; intro _ _) | (apply Ws <;> intro hg))
        rename_i H3 hH3
        refine WR.storeA (s := [0, 0, 0, 0]) (by first | exact gN | exact gS rfl) hH3 rfl rfl rfl .here rfl fun H4 hH4 => ?_
        repeat' (first | refine zP ?_ | refine zA ?_ | (refine zM ?_; intro _ _) | refine zX ?_ | (refine zC ?_; intro _ _ _ _) | (refine zS ?_; intro _ _) | (apply Ws <;> intro hg))
        refine WR.op (by first | exact gN | exact gS rfl) rfl (OpV.bldA (cs := [.int .i64 0, .int .i64 0, .int .i64 0, .int .i64 0].toArray) rfl rfl) ?_
        refine WR.storeA (s := [0, 0, 0, 0]) (by first | exact gN | exact gS rfl) hH4 rfl rfl rfl (.there .here) rfl fun H5 hH5 => ?_
        repeat' (first | refine zP ?_ | refine zA ?_ | (refine zM ?_; intro _ _) | refine zX ?_ | (refine zC ?_; intro _ _ _ _) | (refine zS ?_; intro _ _) | (apply Ws <;> intro hg))
        exact Ends.retCN1 rfl (readA hH5 (.tail _ (.head _)) rfl) rfl ⟨n2 + 1, [0, 0, 0, 0], by omega, hH5.tail.tail, by rw [hE]; rfl, rfl, fun h => by omega⟩
    · have hE : leftE T W = walkE T.length W := by unfold leftE; rw [if_neg (by omega), if_pos h2]
      repeat' (first | refine zP ?_ | refine zA ?_ | (refine zM ?_; intro _ _) | refine zX ?_ | (refine zC ?_; intro _ _ _ _) | (refine zS ?_; intro _ _) | refine zO ?_ | (apply Ws <;> intro hg))
      refine WR.op (by first | exact gN | exact gS rfl) rfl (OpV.bldA (cs := [.int .i64 0, .int .i64 0, .int .i64 0, .int .i64 0].toArray) rfl rfl) ?_
      repeat' (first | refine zP ?_ | refine zA ?_ | (refine zM ?_; intro _ _) | refine zX ?_ | (refine zC ?_; intro _ _ _ _) | (refine zS ?_; intro _ _) | (apply Ws <;> intro hg))
      refine WR.storeA (s := [0, 0, 0, 0]) (by first | exact gN | exact gS rfl) hH1 rfl rfl rfl .here rfl fun H5 hH5 => ?_
      repeat' (first | refine zP ?_ | refine zA ?_ | (refine zM ?_; intro _ _) | refine zX ?_ | (refine zC ?_; intro _ _ _ _) | (refine zS ?_; intro _ _) | (apply Ws <;> intro hg))
      exact Ends.retCN1 rfl (readA hH5 (.head _) rfl) rfl ⟨n0 + 1, [0, 0, 0, 0], by omega, hH5.tail, by rw [hE]; rfl, rfl, fun h => by omega⟩
  · have hE : leftE T W = errT T := by unfold leftE; rw [if_pos h0]
    repeat' (first | refine zP ?_ | refine zA ?_ | (refine zM ?_; intro _ _) | refine zX ?_ | (refine zC ?_; intro _ _ _ _) | (refine zS ?_; intro _ _) | refine zO ?_ | (apply Ws <;> intro hg))
    refine WR.op (by first | exact gN | exact gS rfl) rfl (OpV.bldA (cs := [.int .i64 0, .int .i64 0, .int .i64 0, .int .i64 0].toArray) rfl rfl) ?_
    repeat' (first | refine zP ?_ | refine zA ?_ | (refine zM ?_; intro _ _) | refine zX ?_ | (refine zC ?_; intro _ _ _ _) | (refine zS ?_; intro _ _) | (apply Ws <;> intro hg))
    refine WR.storeA (s := [0, 0, 0, 0]) (by first | exact gN | exact gS rfl) hH1 rfl rfl rfl .here rfl fun H5 hH5 => ?_
    repeat' (first | refine zP ?_ | refine zA ?_ | (refine zM ?_; intro _ _) | refine zX ?_ | (refine zC ?_; intro _ _ _ _) | (refine zS ?_; intro _ _) | (apply Ws <;> intro hg))
    exact Ends.retCN1 rfl (readA hH5 (.head _) rfl) rfl ⟨n0 + 1, [0, 0, 0, 0], by omega, hH5.tail, by rw [hE]; rfl, rfl, fun h => by omega⟩
end
end Go.Proofs.Ytnmlfjohoeebiaa.Wk

/- Can, Longest; numbers of tides by bytes; a weight. -/
namespace Go.Proofs.Ytnmlfjohoeebiaa.Wk
open Go Go.Abs Go.Mth
set_option linter.unusedVariables false
set_option linter.unusedSimpArgs false
theorem i64k : C.c.P.underlying 3 = some (.int .i64) := by kernel_rfl
/-- A beach's cells. -/
def trayV (a b c : Int) (hs : List Int) : List Value := (a :: b :: c :: hs).map (Value.int .u8)
def beachC (x : Nat) (ys : List Nat) : List Value := numsK .u8 (x :: ys)
/-- The first so many of them, each as told. -/
def firstT (f : Nat → Nat) (ys : List Nat) (n : Nat) : List Int := (List.range n).map fun i => ((f (ys.getD i 0) : Nat) : Int)
def madeF (most y : Nat) : Nat := 1 + y % most
structure AV where
  k : Nat
  v : Value
  Mx : HL
  n : Nat
/-- A sum of one by each number, in parts of 840. -/
def sumW (T : List Int) : Int := (T.map fun t => 840 / t).sum
def weighI (T : List Int) (a b : Int) : Int := min 1 (max (-1) (sumW T * b - 840 * a))
attribute [local irreducible] gOK WS WC WR WD Ends FS YS OpV seqK blockK loopK midK retK rdK asgK rangeEnd sat Cell
section
variable {M : HL} {n0 : Nat} {H : Heap} {v w : Value}
/-- How long the longest walk is, or the error. -/
def LongR (T : List Int) (r e : Int) : Prop := (errT T ≠ 0 ∧ r = 0 ∧ e = errT T) ∨ (errT T = 0 ∧ everS T (startS T) ∧ r = 0 ∧ e = 13) ∨ (errT T = 0 ∧ e = 0 ∧ ∃ m : Nat, r = m ∧ m < 6561 ∧ canS T m (startS T) ∧ ¬ canS T (m + 1) (startS T))
end
end Go.Proofs.Ytnmlfjohoeebiaa.Wk

/- Which numbers can be walked for ever: a weight of more than 1 is too much, and for a weight of at most five sixths a plan is known. -/
namespace Go.Proofs.Ytnmlfjohoeebiaa.Wk
open Go Go.Abs Go.Mth
set_option linter.unusedVariables false
set_option linter.unusedSimpArgs false
/-! Too much. -/
def needF (T s : List Int) (N : Int) (i : Nat) : Int := (N + T.getD i 0 - s.getD i 0) / T.getD i 0
def sumF (f : Nat → Int) : Nat → Int
  | 0 => 0
  | n + 1 => sumF f n + f n
/-! Plans. -/
def consO (x : Nat) : Option (List Nat) → Option (List Nat)
  | none => none
  | some l => some (x :: l)
def metN : List Nat → List Nat → Nat → Option (List Nat)
  | t :: T, x :: s, j => bif Nat.beq j 0 then consO t (metN T s 99) else bif Nat.ble x 1 then none else consO (x - 1) (metN T s (j - 1))
  | _, _, _ => some []
def goN (T : List Nat) : List Nat → List Nat → Option (List Nat)
  | s, [] => some s
  | s, j :: p => match metN T s j with | some t => goN T t p | none => none
def sameN : List Nat → List Nat → Bool
  | [], [] => true
  | a :: l, b :: r => Nat.beq a b && sameN l r
  | _, _ => false
def ringN (T p : List Nat) : Bool := match goN T T p with
  | some s => (match goN T s p with | some r => sameN r s | none => false)
  | none => false
def sumN : List Nat → Nat
  | [] => 0
  | t :: T => 840 / t + sumN T
def inN (t : Nat) : List Nat → Bool
  | [] => false
  | a :: l => Nat.beq t a || inN t l
def famN (l : List Nat) : List Nat → Bool
  | [] => true
  | t :: T => inN t l && famN l T
def listsN : Nat → List (List Nat)
  | 0 => [[]]
  | n + 1 => ([1, 2, 3, 4, 5, 6, 7, 8].map fun t => (listsN n).map fun l => t :: l).flatten
def needN (T : List Nat) : Bool := Nat.ble (sumN T) 700 || (Nat.ble (sumN T) 840 && (famN [1, 2, 4, 8] T || famN [1, 2, 6] T || famN [1, 3, 6] T))
def plansN : Nat → List (List Nat)
  | 1 => [[0]]
  | 2 => [[0, 1]]
  | 3 => [[0, 1, 0, 2], [0, 1, 2], [0, 1, 2, 1], [0, 2, 1, 2]]
  | 4 => [[0, 1, 0, 2, 0, 1, 0, 3], [0, 1, 0, 2, 0, 3], [0, 1, 0, 2, 0, 3, 0, 2], [0, 1, 0, 3, 0, 2, 0, 3], [0, 1, 2, 0, 1, 3], [0, 1, 2, 0, 3, 2], [0, 1, 3, 0, 2, 3], [0, 1, 2, 1, 0, 1, 3, 1], [0, 1, 2, 3], [0, 2, 1, 2, 0, 2, 3, 2], [0, 3, 1, 3, 0, 3, 2, 3], [0, 1, 2, 1, 3, 1], [0, 1, 2, 3, 1, 2], [0, 1, 3, 2, 1, 3], [0, 2, 1, 2, 3, 2], [0, 2, 3, 1, 2, 3], [0, 3, 1, 3, 2, 3], [0, 1, 2, 1, 3, 1, 2, 1], [0, 1, 3, 1, 2, 1, 3, 1], [0, 2, 1, 2, 3, 2, 1, 2], [0, 3, 1, 3, 2, 3, 1, 3], [0, 2, 3, 2, 1, 2, 3, 2], [0, 3, 2, 3, 1, 3, 2, 3]]
  | _ => []
def checkN (n : Nat) : Bool := (listsN n).all fun T => !(needN T) || (plansN n).any fun p => p.all (fun j => Nat.blt j n) && ringN T p
def castN (l : List Nat) : List Int := l.map fun (x : Nat) => (x : Int)
def padN (s : List Nat) : List Int := startS (castN s)
end Go.Proofs.Ytnmlfjohoeebiaa.Wk

/- How long a stretch was not met. -/
namespace Go.Proofs.Ytnmlfjohoeebiaa.Wk
open Go Go.Abs Go.Mth
set_option linter.unusedVariables false
set_option linter.unusedSimpArgs false
/-- Tides since a stretch was met, or since the beginning. -/
def sinceK (W : List Int) (i : Nat) : Nat → Nat
  | 0 => 0
  | k + 1 => if W.getD k 0 = (i : Int) then 0 else sinceK W i k + 1
theorem since_le (W : List Int) (i : Nat) : ∀ k, sinceK W i k ≤ k
  | 0 => Nat.le_refl _
  | k + 1 => by
    have := since_le W i k
    simp only [sinceK]; split <;> omega
theorem since_ge {W : List Int} {i : Nat} : ∀ {k d : Nat}, d ≤ sinceK W i k ↔ d ≤ k ∧ ∀ j, k ≤ j + d → j < k → W.getD j 0 ≠ (i : Int)
  | 0, d => by simp [sinceK]
  | k + 1, d => by
    simp only [sinceK]
    cases d with
    | zero => simp; intro j h1 h2; omega
    | succ d =>
      by_cases h : W.getD k 0 = (i : Int)
      · rw [if_pos h]
        exact ⟨fun h => by omega, fun hk => absurd h (hk.2 k (by omega) (by omega))⟩
      · rw [if_neg h, Nat.add_le_add_iff_right, since_ge]
        constructor
        · rintro ⟨h1, h2⟩
          refine ⟨by omega, fun j h3 h4 => ?_⟩
          by_cases h5 : j = k
          · subst h5; exact h
          · exact h2 j (by omega) (by omega)
        · rintro ⟨h1, h2⟩
          exact ⟨by omega, fun j h3 h4 => h2 j (by omega) (by omega)⟩
/-- No stretch is missed in the first so many tides. -/
def keptK (T W : List Int) (k : Nat) : Prop := ∀ m, m ≤ k → ∀ i, i < T.length → (sinceK W i m : Int) < T.getD i 0
theorem kept_zero {T W : List Int} (hT : TOK T) : keptK T W 0 := fun m hm i hi => by
  have : m = 0 := by omega
  subst this
  have := hT.lo i hi
  simp only [sinceK]; omega
theorem kept_less {T W : List Int} {k : Nat} (h : keptK T W (k + 1)) : keptK T W k := fun m hm i hi => h m (by omega) i hi
/-- What is left, by what was not met. -/
def SinceS (T W s : List Int) (k : Nat) : Prop := ∀ i, i < T.length → s.getD i 0 = T.getD i 0 - (sinceK W i k : Int)
theorem go_kept {T W : List Int} (hT : TOK T) (hW : WOK T.length W) : ∀ {k : Nat}, k ≤ W.length → keptK T W k → ∃ s, goS T (startS T) (W.take k) = some s ∧ SinceS T W s k
  | 0, _, _ => ⟨startS T, by simp [goS], fun i hi => by rw [start_get hT.len, if_pos hi]; simp [sinceK]⟩
  | k + 1, hk, h => by
    obtain ⟨s, h1, h2⟩ := go_kept hT hW (k := k) (by omega) (kept_less h)
    have hk' : k < W.length := by omega
    have hs := goS_ok hT (start_ok hT) (fun x hx => hW x (List.mem_of_mem_take hx)) h1
    have hx := hW _ (getD_mem (a := 0) hk')
    have htk : W.take (k + 1) = W.take k ++ [W.getD k 0] := by rw [List.take_succ_eq_append_getElem hk', getD_eq hk']
    have get := metS_get (T := T) (s := s) (j := (W.getD k 0).toNat) (by rw [hs.len]; exact hT.len) (by omega)
    have hS : SinceS T W (metS T s (W.getD k 0).toNat) (k + 1) := fun i hi => by
      rw [get]
      simp only [sinceK]
      by_cases h3 : W.getD k 0 = (i : Int)
      · rw [if_pos (by omega), if_pos h3, show (W.getD k 0).toNat = i by omega]; simp
      · rw [if_neg (by omega), if_pos hi, if_neg h3, h2 i hi]; omega
    refine ⟨metS T s (W.getD k 0).toNat, ?_, hS⟩
    rw [htk, goS_snoc, h1, Option.bind_some, if_pos]
    refine (not_good (by rw [metS_len, hs.len]) hT.len).2 fun i hi => ?_
    rw [hS i hi]
    have := h (k + 1) (Nat.le_refl _) i hi
    omega
theorem kept_go {T W : List Int} (hT : TOK T) (hW : WOK T.length W) : ∀ {k : Nat} {s : List Int}, k ≤ W.length → goS T (startS T) (W.take k) = some s → keptK T W k
  | 0, _, _, _ => kept_zero hT
  | k + 1, s, hk, h => by
    have hk' : k < W.length := by omega
    have htk : W.take (k + 1) = W.take k ++ [W.getD k 0] := by rw [List.take_succ_eq_append_getElem hk', getD_eq hk']
    rw [htk, goS_snoc] at h
    cases h1 : goS T (startS T) (W.take k) with
    | none => rw [h1] at h; cases h
    | some t =>
      rw [h1, Option.bind_some] at h
      have ih := kept_go hT hW (by omega) h1
      obtain ⟨t', h2, h3⟩ := go_kept hT hW (by omega) ih
      rw [h1] at h2; cases h2
      have hs := goS_ok hT (start_ok hT) (fun x hx => hW x (List.mem_of_mem_take hx)) h1
      have hx := hW _ (getD_mem (a := 0) hk')
      have get := metS_get (T := T) (s := t) (j := (W.getD k 0).toNat) (by rw [hs.len]; exact hT.len) (by omega)
      split at h
      · rename_i hg
        intro m hm i hi
        rcases Nat.lt_or_ge k m with h4 | h4
        · have : m = k + 1 := by omega
          subst this
          have hg' := (not_good (by rw [metS_len, hs.len]) hT.len).1 hg i hi
          have h5 := ih k (Nat.le_refl _) i hi
          have h6 := hT.lo i hi
          rw [get] at hg'
          simp only [sinceK]
          by_cases h7 : W.getD k 0 = (i : Int)
          · rw [if_pos h7]; omega
          · rw [if_neg h7]
            rw [if_neg (by omega), if_pos hi, h3 i hi] at hg'
            omega
        · exact ih m h4 i hi
      · cases h
/-- A walk misses nothing. -/
def GoodW (T W : List Int) : Prop := ∀ i, i < T.length → ∀ f, f + (T.getD i 0).toNat ≤ W.length → (i : Int) ∈ (W.drop f).take (T.getD i 0).toNat
theorem mem_cut {W : List Int} {f d : Nat} {x : Int} (h : f + d ≤ W.length) : x ∈ (W.drop f).take d ↔ ∃ j, f ≤ j ∧ j < f + d ∧ W.getD j 0 = x := by
  constructor
  · intro hm
    obtain ⟨j, hj, rfl⟩ := List.mem_iff_getElem.1 hm
    simp only [List.length_take, List.length_drop] at hj
    refine ⟨f + j, by omega, by omega, ?_⟩
    rw [getD_eq (by omega)]; simp
  · rintro ⟨j, h1, h2, rfl⟩
    refine List.mem_iff_getElem.2 ⟨j - f, by simp; omega, ?_⟩
    rw [getD_eq (by omega)]
    simp only [List.getElem_take, List.getElem_drop]
    congr 1; omega
theorem good_kept {T W : List Int} (hT : TOK T) : GoodW T W ↔ keptK T W W.length := by
  constructor
  · intro h m hm i hi
    have h1 := hT.lo i hi
    rcases Int.lt_or_le (sinceK W i m : Int) (T.getD i 0) with h2 | h2
    · exact h2
    · have h3 := (since_ge (W := W) (i := i) (k := m) (d := (T.getD i 0).toNat)).1 (by omega)
      obtain ⟨j, h4, h5, h6⟩ := (mem_cut (by omega)).1 (h i hi (m - (T.getD i 0).toNat) (by omega))
      exact absurd h6 (h3.2 j (by omega) (by omega))
  · intro h i hi f hf
    rw [mem_cut hf]
    have h1 := hT.lo i hi
    have h2 := h (f + (T.getD i 0).toNat) hf i hi
    rcases Classical.em (∃ j, f ≤ j ∧ j < f + (T.getD i 0).toNat ∧ W.getD j 0 = (i : Int)) with h3 | h3
    · exact h3
    · have := (since_ge (W := W) (i := i) (k := f + (T.getD i 0).toNat) (d := (T.getD i 0).toNat)).2 ⟨by omega, fun j h4 h5 h6 => h3 ⟨j, by omega, h5, h6⟩⟩
      omega
theorem go_good {T W : List Int} (hT : TOK T) (hW : WOK T.length W) : (goS T (startS T) W = none ∧ ¬ GoodW T W) ∨ (GoodW T W ∧ ∃ s, goS T (startS T) W = some s ∧ SinceS T W s W.length) := by
  by_cases h : GoodW T W
  · obtain ⟨s, h1, h2⟩ := go_kept hT hW (Nat.le_refl _) ((good_kept hT).1 h)
    rw [List.take_length] at h1
    exact .inr ⟨h, s, h1, h2⟩
  · refine .inl ⟨?_, h⟩
    cases h1 : goS T (startS T) W with
    | none => rfl
    | some s => exact absurd ((good_kept hT).2 (kept_go hT hW (Nat.le_refl _) (by rw [List.take_length]; exact h1))) h
end Go.Proofs.Ytnmlfjohoeebiaa.Wk

/- Left, Goes, and what the laws say of walks. -/
namespace Go.Abs
set_option linter.unusedSectionVars false
variable [Globs]
open Go
section
variable {C : CW} {nt : Nat} {L : Env} {D : List Nat} {H : Heap} {K : St → Prop} {M M' : HL} {n i d : Nat} {gd : Option (Tmp × Bool)} {lo' : List Nat} {l : List POp}
end
end Go.Abs
namespace Go.Proofs.Ytnmlfjohoeebiaa.Wk
open Go Go.Abs Go.Mth
set_option linter.unusedVariables false
set_option linter.unusedSimpArgs false
open Classical in
noncomputable def goodB (T W : List Int) : Bool := decide (GoodW T W)
open Classical in
theorem goodB_true {T W : List Int} : goodB T W = true ↔ GoodW T W := by unfold goodB; exact decide_eq_true_iff
theorem goodB_false {T W : List Int} (h : ¬ GoodW T W) : goodB T W = false := by
  cases hb : goodB T W with
  | false => rfl
  | true => exact absurd (goodB_true.1 hb) h
/-- What the law says is left. -/
def lawLeft (T W : List Int) (k : Nat) : List Int := (List.range 4).map fun i => if i < k then T.getD i 0 - (sinceK W i W.length : Int) else 0
attribute [local irreducible] gOK WS WC WR WD Ends FS YS OpV seqK blockK loopK midK retK rdK asgK rangeEnd sat Cell
section
variable {M : HL} {n0 : Nat} {H : Heap} {v w : Value}
theorem same_fs (hH : hasH M n0 H) {xs ys : List Int} (hS : Sl M 1 v (ints xs)) (hU : Sl M 1 w (ints ys)) (hx : xs.length ≤ 1000) (hy : ys.length ≤ 1000) :
    FS C 29 [v, w] H (fun e H' => e = .bool (decide (xs = ys)) ∧ H' = H) := by
  refine FS.intro (pf := pf29) rfl rfl rfl ?_
  repeat' (first | refine zP ?_ | refine zA ?_ | (refine zM ?_; intro _ _) | refine zX ?_ | (refine zC ?_; intro _ _ _ _) | (refine zS ?_; intro _ _) | (apply Ws <;> intro hg))
  refine WC.condP rfl (fun hne => ?_) (fun hne => ?_)
  · repeat' (first | refine zP ?_ | refine zA ?_ | (refine zM ?_; intro _ _) | refine zX ?_ | (refine zC ?_; intro _ _ _ _) | (refine zS ?_; intro _ _) | (apply Ws <;> intro hg))
    exact Ends.ret1 rfl ⟨by rw [decide_eq_false (fun h => hne (by rw [h]))], rfl⟩
  have hle : xs.length = ys.length := by omega
  repeat' (first | refine zP ?_ | refine zA ?_ | (refine zM ?_; intro _ _) | refine zX ?_ | (refine zC ?_; intro _ _ _ _) | (refine zS ?_; intro _ _) | (apply Ws <;> intro hg))
  refine WC.loopX [(0, _), (1, _)] (fun k : Nat => [(5, .int .i64 (k : Int))]) [] (fun k H' => H' = H ∧ k ≤ xs.length ∧ ∀ j, j < k → xs.getD j 0 = ys.getD j 0) (fun k => xs.length - k) 0 (by repeat' (first | exact .nil | refine .cons rfl ?_)) rfl ⟨rfl, Nat.zero_le _, fun j h => absurd h (Nat.not_lt_zero _)⟩ ?_
  rintro k H' ⟨rfl, hk, hno⟩
  dsimp only [List.cons_append, List.nil_append]
  repeat' (first | refine zP ?_ | refine zA ?_ | (refine zM ?_; intro _ _) | refine zX ?_ | (refine zC ?_; intro _ _ _ _) | (refine zS ?_; intro _ _) | (apply Ws <;> intro hg))
  refine WC.condP rfl (fun hlt => ?_) (fun hlt => ?_)
  · have hk' : k < xs.length := by omega
    have hk2 : k < ys.length := by omega
    repeat' (first | refine zP ?_ | refine zA ?_ | (refine zM ?_; intro _ _) | refine zX ?_ | (refine zC ?_; intro _ _ _ _) | (refine zS ?_; intro _ _) | (apply Ws <;> intro hg))
    refine WC.condP rfl (fun hd => ?_) (fun hd => ?_)
    · repeat' (first | refine zP ?_ | refine zA ?_ | (refine zM ?_; intro _ _) | refine zX ?_ | (refine zC ?_; intro _ _ _ _) | (refine zS ?_; intro _ _) | (apply Ws <;> intro hg))
      exact Ends.ret1 rfl ⟨by rw [decide_eq_false (fun h => hd (by rw [h]))], rfl⟩
    · repeat' (first | refine zP ?_ | refine zA ?_ | (refine zM ?_; intro _ _) | refine zX ?_ | (refine zC ?_; intro _ _ _ _) | (refine zS ?_; intro _ _) | (apply Ws <;> intro hg))
      refine Ends.loop (k + 1) (by omega) (by repeat' (first | exact .nil | refine .cons rfl ?_)) rfl ⟨rfl, hk', fun j hj => ?_⟩
      rcases Nat.lt_or_ge j k with h | h
      · exact hno j h
      · have : j = k := by omega
        subst this; omega
  · repeat' (first | refine zP ?_ | refine zA ?_ | (refine zM ?_; intro _ _) | refine zX ?_ | (refine zC ?_; intro _ _ _ _) | (refine zS ?_; intro _ _) | (apply Ws <;> intro hg))
    exact Ends.ret1 rfl ⟨by rw [decide_eq_true (ext_getD (a := 0) hle fun i hi => hno i (by omega))], rfl⟩
theorem Clone_fs (hH : hasH M n0 H) {xs : List Int} (hS : Sl M 1 v (ints xs)) (hx : xs.length ≤ 1000) (h0 : xs ≠ [] ∨ v = .slice none 0 0) :
    FS C 43 [v] H (fun e H' => ∃ Mx n', Own 3 1 e (ints xs) Mx ∧ n0 ≤ n' ∧ hasH (Mx ++ M) n' H' ∧ (xs = [] → e = .slice none 0 0)) := by
  by_cases hne0 : xs = []
  · subst hne0
    rcases h0 with h0 | rfl
    · exact absurd rfl h0
    refine FS.intro (pf := pf43) rfl rfl rfl ?_
    repeat' (first | refine zP ?_ | refine zA ?_ | (refine zM ?_; intro _ _) | refine zX ?_ | (refine zC ?_; intro _ _ _ _) | (refine zS ?_; intro _ _) | (apply Ws <;> intro hg))
    exact Ends.ret1 rfl ⟨[], n0, .nil, Nat.le_refl _, hH, fun _ => rfl⟩
  · have hne : ints xs ≠ [] := fun h => hne0 (List.map_eq_nil_iff.1 h)
    have hl0 : 0 < xs.length := List.length_pos_iff.2 hne0
    have hsm : ∃ a len cap, v = .slice (some a) len cap := by
      generalize ints xs = cs at hS hne
      cases hS with
      | nil c => exact absurd rfl hne
      | emp a => exact ⟨_, _, _, rfl⟩
      | row => exact ⟨_, _, _, rfl⟩
    obtain ⟨a, len, cap, rfl⟩ := hsm
    refine FS.intro (pf := pf43) rfl rfl rfl ?_
    repeat' (first | refine zP ?_ | refine zA ?_ | (refine zM ?_; intro _ _) | refine zX ?_ | (refine zC ?_; intro _ _ _ _) | (refine zS ?_; intro _ _) | (apply Ws <;> intro hg))
    refine WR.bldS (by first | exact gN | exact gS rfl) rfl hH (vs := []) rfl (cs := []) (by rfl) rfl fun H3 hH3 => ?_
    repeat' (first | refine zP ?_ | refine zA ?_ | (refine zM ?_; intro _ _) | refine zX ?_ | (refine zC ?_; intro _ _ _ _) | (refine zS ?_; intro _ _) | (apply Ws <;> intro hg))
    obtain ⟨hk, hsr⟩ := (hS.cons (p := (n0, .row 3 0 0 []))).src hH3 hne
    refine WR.appendNew (by first | exact gN | exact gS rfl) rfl rfl rfl hH3 (.head _) (.row _ _ _ _) (Nat.zero_le _) (Nat.zero_le _) hk (by have := hsr _ (Nat.le_refl _); rw [List.take_length] at this; exact this) (by simp) (by simp; omega) (ints_one _) (by omega) (by omega) (by simp; omega) fun H' hH' => ?_
    repeat' (first | refine zP ?_ | refine zA ?_ | (refine zM ?_; intro _ _) | refine zX ?_ | (refine zC ?_; intro _ _ _ _) | (refine zS ?_; intro _ _) | (apply Ws <;> intro hg))
    exact Ends.ret1 rfl ⟨[(n0 + 1, .row 3 0 0 (ints xs))], n0 + 2, .row (by simp), by omega, hH'.sub (.cons_cons _ (List.sublist_cons_self _ _)), fun h => absurd h hne0⟩
theorem Left_fs (hH : hasH M n0 H) {T : List Int} (hS : Sl M 1 v (ints T)) (hTl : T.length ≤ 1000) {W : List Int} (hW : Sl M 1 w (ints W)) (hwl : W.length ≤ 1000) :
    FS C 25 [v, w] H (fun e H' => ∃ u xs Mx n', e = .tuple #[u, .int .i64 (leftE T W)] ∧ Own 3 1 u (ints xs) Mx ∧ n0 ≤ n' ∧ hasH (Mx ++ M) n' H' ∧ ((leftE T W ≠ 0 ∧ xs = []) ∨ (leftE T W = 0 ∧ ∃ s, goS T (startS T) W = some s ∧ xs = s.take T.length))) := by
  refine FS.intro (pf := pf25) rfl rfl rfl ?_
  repeat' (first | refine zP ?_ | refine zA ?_ | (refine zM ?_; intro _ _) | refine zX ?_ | (refine zC ?_; intro _ _ _ _) | (refine zS ?_; intro _ _) | (apply Ws <;> intro hg))
  refine WR.call (by first | exact gN | exact gS rfl) rfl rfl (checked_fs hH hS hTl hW hwl) ?_
  rintro _ H1 ⟨n1, s, hn1, hH1, rfl, hs, hgo⟩
  have hli : (ints s).length = 4 := by simp [hs]
  repeat' (first | refine zP ?_ | refine zA ?_ | (refine zM ?_; intro _ _) | refine zX ?_ | (refine zC ?_; intro _ _ _ _) | (refine zS ?_; intro _ _) | (apply Ws <;> intro hg))
  rename_i H2 hH2
  refine WR.storeA (by first | exact gN | exact gS rfl) hH2 rfl rfl hs .here rfl fun H3 hH3 => ?_
  by_cases h0 : leftE T W = 0
  · have hgo' := hgo h0
    have hE : errT T = 0 := by
      unfold leftE at h0
      split at h0
      · rename_i h; exact absurd h0 h
      · rename_i h; omega
    obtain ⟨hT, h1⟩ := errT_ok hE
    have hTl4 := hT.len
    have hSp : Sl ((n1, Ch.row 72 0 0 (ints s)) :: M) 1 (.slice (some ⟨n1, 0, some 0⟩) T.length (2 * 4 + 1)) (ints (s.take T.length)) :=
      .row (lo := 0) (cs := ints s) (.head _) (.row _ _ _ _) (Nat.zero_le _) (by simp; omega) (by simp [ints, List.map_take]) (by simp; omega) (.inr ⟨4, rfl, hTl4⟩)
    repeat' (first | refine zP ?_ | refine zA ?_ | (refine zM ?_; intro _ _) | refine zX ?_ | (refine zC ?_; intro _ _ _ _) | (refine zS ?_; intro _ _) | refine zO ?_ | (apply Ws <;> intro hg))
    refine WR.op (by first | exact gN | exact gS rfl) rfl (OpV.slAh rfl rfl hTl4 (by omega)) ?_
    refine WR.call (by first | exact gN | exact gS rfl) rfl rfl (Clone_fs hH3 hSp (by simp; omega) (.inl (fun h => by have h9 := congrArg List.length h; rw [List.length_take, hs, List.length_nil] at h9; omega))) ?_
    rintro _ H4 ⟨Mx, n4, hO, hn4, hH4, _⟩
    repeat' (first | refine zP ?_ | refine zA ?_ | (refine zM ?_; intro _ _) | refine zX ?_ | (refine zC ?_; intro _ _ _ _) | (refine zS ?_; intro _ _) | (apply Ws <;> intro hg))
    exact Ends.ret2 rfl rfl ⟨_, s.take T.length, Mx, n4, by rw [h0], hO, by omega, hH4.sub (List.Sublist.append_left (List.sublist_cons_self _ _) _), .inr ⟨h0, s, hgo', rfl⟩⟩
  · repeat' (first | refine zP ?_ | refine zA ?_ | (refine zM ?_; intro _ _) | refine zX ?_ | (refine zC ?_; intro _ _ _ _) | (refine zS ?_; intro _ _) | refine zO ?_ | (apply Ws <;> intro hg))
    exact Ends.ret2 rfl rfl ⟨_, [], [], n1 + 1, rfl, .nil, by omega, hH3.tail, .inl ⟨h0, rfl⟩⟩
theorem Goes_fs (hH : hasH M n0 H) {T : List Int} (hS : Sl M 1 v (ints T)) (hTl : T.length ≤ 1000) {W : List Int} (hW : Sl M 1 w (ints W)) (hwl : W.length ≤ 1000) :
    FS C 27 [v, w] H (fun e H' => ∃ g n', e = .tuple #[.bool g, .int .i64 (leftE T W)] ∧ n0 ≤ n' ∧ hasH M n' H' ∧ ((leftE T W ≠ 0 ∧ g = false) ∨ (leftE T W = 0 ∧ ∃ s, goS T (startS T) W = some s ∧ g = everB T s))) := by
  have hv := hS.one_
  refine FS.intro (pf := pf27) rfl rfl rfl ?_
  repeat' (first | refine zP ?_ | refine zA ?_ | (refine zM ?_; intro _ _) | refine zX ?_ | (refine zC ?_; intro _ _ _ _) | (refine zS ?_; intro _ _) | (apply Ws <;> intro hg))
  refine WR.call (by first | exact gN | exact gS rfl) rfl rfl (checked_fs hH hS hTl hW hwl) ?_
  rintro _ H1 ⟨n1, s, hn1, hH1, rfl, hs, hgo⟩
  have hli : (ints s).length = 4 := by simp [hs]
  repeat' (first | refine zP ?_ | refine zA ?_ | (refine zM ?_; intro _ _) | refine zX ?_ | (refine zC ?_; intro _ _ _ _) | (refine zS ?_; intro _ _) | (apply Ws <;> intro hg))
  rename_i H2 hH2
  refine WR.storeA (by first | exact gN | exact gS rfl) hH2 rfl rfl hs .here rfl fun H3 hH3 => ?_
  by_cases h0 : leftE T W = 0
  · have hgo' := hgo h0
    have hE : errT T = 0 := by
      unfold leftE at h0
      split at h0
      · rename_i h; exact absurd h0 h
      · rename_i h; omega
    have hWE : walkE T.length W = 0 := by
      unfold leftE at h0
      rw [if_neg (by omega)] at h0
      split at h0
      · rename_i h; exact absurd h0 h
      · rename_i h; omega
    obtain ⟨hT, h1⟩ := errT_ok hE
    have hsk := goS_ok hT (start_ok hT) (walkE_ok.1 hWE).2 hgo'
    repeat' (first | refine zP ?_ | refine zA ?_ | (refine zM ?_; intro _ _) | refine zX ?_ | (refine zC ?_; intro _ _ _ _) | (refine zS ?_; intro _ _) | refine zO ?_ | (apply Ws <;> intro hg))
    refine WC.regionD ?_
    repeat' (first | refine zD ?_ | (refine zE ?_; intro _ _ _ _))
    refine WD.call (by first | exact gN | exact gS rfl) rfl rfl (look_fs hH3 hv) ?_
    rintro _ H4 ⟨b, n4, rfl, hb, hbn, hH4⟩
    refine ⟨stands_cons (.inr (holdsN' (readA hH4 (.tail _ (.head _)) hs) (sameL_ints _))) stands_nil', ?_⟩
    refine WD.toWR rfl ?_
    refine WR.call (by first | exact gN | exact gS rfl) rfl rfl (more_fs hT _ (Nat.lt_succ_self _) hH4 hS.cons hsk (KeysN.nil 4) (inv_nil T) (fun t ht => by cases ht)) ?_
    rintro _ H5 ⟨r, m', n5, rfl, hr, hn5, hH5, _, _, _⟩
    repeat' (first | refine zP ?_ | refine zA ?_ | (refine zM ?_; intro _ _) | refine zX ?_ | (refine zC ?_; intro _ _ _ _) | (refine zS ?_; intro _ _) | (apply Ws <;> intro hg))
    exact Ends.ret2 rfl rfl ⟨_, n5, by rw [h0], by omega, hH5.tail.tail, .inr ⟨h0, s, hgo', hr.everB⟩⟩
  · repeat' (first | refine zP ?_ | refine zA ?_ | (refine zM ?_; intro _ _) | refine zX ?_ | (refine zC ?_; intro _ _ _ _) | (refine zS ?_; intro _ _) | refine zO ?_ | (apply Ws <;> intro hg))
    exact Ends.ret2 rfl rfl ⟨false, n1 + 1, rfl, by omega, hH3.tail, .inl ⟨h0, rfl⟩⟩
end
end Go.Proofs.Ytnmlfjohoeebiaa.Wk

/- The first walk that goes on for ever, tide by tide. -/
namespace Go.Proofs.Ytnmlfjohoeebiaa.Wk
open Go Go.Abs Go.Mth
set_option linter.unusedVariables false
set_option linter.unusedSimpArgs false
def okJ (T s : List Int) (j : Nat) : Prop := goodS T.length (metS T s j) ∧ everS T (metS T s j)
/-- The first stretch after which a walk can go on for ever. -/
structure NextR (T s : List Int) (j : Nat) : Prop where
  lt : j < T.length
  ok : okJ T s j
  no : ∀ i, i < j → ¬ okJ T s i
theorem NextR.one {T s : List Int} {i j : Nat} (h : NextR T s i) (k : NextR T s j) : i = j := by
  rcases Nat.lt_trichotomy i j with h1 | h1 | h1
  · exact absurd h.ok (k.no i h1)
  · exact h1
  · exact absurd k.ok (h.no j h1)
/-- A walk of first stretches. -/
inductive WalkR (T : List Int) (s : List Int) : List Int → List Int → Prop where
  | nil : WalkR T s [] s
  | snoc {W : List Int} {t : List Int} {j : Nat} (h : WalkR T s W t) (k : NextR T t j) : WalkR T s (W ++ [(j : Int)]) (metS T t j)
theorem WalkR.one {T s : List Int} : ∀ {W U t u : List Int}, W.length = U.length → WalkR T s W t → WalkR T s U u → W = U ∧ t = u := by
  intro W U t u hl h
  induction h generalizing U u with
  | nil =>
    intro k
    cases k with
    | nil => exact ⟨rfl, rfl⟩
    | snoc => simp at hl
  | @snoc W t j h hj ih =>
    intro k
    cases k with
    | nil => simp at hl
    | @snoc U u i k hi =>
      obtain ⟨rfl, rfl⟩ := ih (by simpa using hl) k
      have := hj.one hi
      subst this
      exact ⟨rfl, rfl⟩
theorem WalkR.go {T s W t : List Int} (h : WalkR T s W t) : goS T s W = some t ∧ WOK T.length W := by
  induction h with
  | nil => exact ⟨rfl, fun x hx => by cases hx⟩
  | @snoc W t j h hj ih =>
    refine ⟨?_, fun x hx => ?_⟩
    · rw [goS_snoc, ih.1, Option.bind_some, Int.toNat_natCast, if_pos hj.ok.1]
    · rcases List.mem_append.1 hx with hx | hx
      · exact ih.2 x hx
      · have := hj.lt
        rw [List.mem_singleton] at hx
        omega
theorem WalkR.ever {T s W t : List Int} (h : WalkR T s W t) (he : everS T s) : everS T t := by
  cases h with
  | nil => exact he
  | snoc h hj => exact hj.ok.2
structure NK where
  k : Nat
  m : MapI
  n : Nat
attribute [local irreducible] gOK WS WC WR WD Ends FS YS OpV seqK blockK loopK midK retK rdK asgK rangeEnd sat Cell
section
variable {M : HL} {n0 : Nat} {H : Heap} {v w : Value}
structure WV where
  k : Nat
  v : Value
  W : List Int
  t : List Int
  Mx : HL
  m : MapI
  n : Nat
noncomputable def wlkE (T : List Int) (many : Int) : Int := if errT T ≠ 0 then errT T else if many < 0 ∨ 60 < many then 1 else if everB T (startS T) = false then 12 else 0
end
end Go.Proofs.Ytnmlfjohoeebiaa.Wk

/- Rows of elements of several cells each. -/
namespace Go.Abs
set_option linter.unusedSectionVars false
variable [Globs]
open Go Go.Mth
set_option linter.unusedVariables false
def cellsF {α : Type} (F : α → List Value) (l : List α) : List Value := (l.map F).flatten
section
variable {α : Type} {F : α → List Value} {K : Nat}
theorem cellsF_len (hF : ∀ a, (F a).length = K) : ∀ l : List α, (cellsF F l).length = l.length * K
  | [] => by simp [cellsF]
  | a :: l => by
    have := cellsF_len hF l
    simp only [cellsF, List.map_cons, List.flatten_cons, List.length_append, List.length_cons, hF] at this ⊢
    rw [this, Nat.succ_mul]; omega
theorem cellsF_drop (hF : ∀ a, (F a).length = K) : ∀ (l : List α) (m : Nat), (cellsF F l).drop (m * K) = cellsF F (l.drop m)
  | l, 0 => by simp
  | [], m + 1 => by simp [cellsF]
  | a :: l, m + 1 => by
    have := cellsF_drop hF l m
    simp only [cellsF, List.map_cons, List.flatten_cons, List.drop_succ_cons] at this ⊢
    rw [← this, Nat.succ_mul, Nat.add_comm, ← List.drop_drop, List.drop_left' (hF a)]
theorem cellsF_at (hF : ∀ a, (F a).length = K) {l : List α} {m : Nat} (h : m < l.length) : ((cellsF F l).drop (m * K)).take K = F l[m] := by
  rw [cellsF_drop hF, List.drop_eq_getElem_cons h]
  simp only [cellsF, List.map_cons, List.flatten_cons]
  exact List.take_left' (hF _)
/-- Several cells, one behind another. -/
def KCell (M : HL) (b o u : Nat) (vs : List Value) : Prop := ∃ ch lo cs, (b, ch) ∈ M ∧ ch.cellsAre u lo cs ∧ lo ≤ o ∧ o - lo + vs.length ≤ cs.length ∧ (cs.drop (o - lo)).take vs.length = vs
theorem KCell.at {M : HL} {b o u j : Nat} {vs : List Value} {v : Value} (h : KCell M b o u vs) (hv : vs[j]? = some v) : Cell M b (o + j) u v := by
  obtain ⟨ch, lo, cs, h1, h2, h3, h4, h5⟩ := h
  have hj : j < vs.length := (List.getElem?_eq_some_iff.1 hv).1
  refine ⟨ch, lo, cs, h1, h2, by omega, ?_⟩
  rw [← h5, List.getElem?_take_of_lt hj, List.getElem?_drop] at hv
  rw [← hv]; congr 1; omega
theorem KCell.mono {M M' : HL} {b o u : Nat} {vs : List Value} (h : KCell M b o u vs) (k : ∀ p ∈ M, p ∈ M') : KCell M' b o u vs := by
  obtain ⟨ch, lo, cs, h1, h2⟩ := h
  exact ⟨ch, lo, cs, k _ h1, h2⟩
end
section
variable {C : CW} {nt : Nat} {L : Env} {D : List Nat} {H : Heap} {K : St → Prop} {M M' : HL} {n i d : Nat} {gd : Option (Tmp × Bool)} {lo : List Nat} {l : List POp} {rs : List Rd}
variable {α : Type} {F : α → List Value} {z : Nat}
theorem OpV.idxK {x ix : Operand} {kd : IntKind} {m : Nat} {v : Value} {ps : List α} (hF : ∀ a, (F a).length = z) (hz : 1 ≤ z) (hx : ev L x = some v) (hS : Sl M z v (cellsF F ps)) (hi : ev L ix = some (.int kd (m : Int))) (hm : m < ps.length) :
    ∃ b o u, OpV C (.idxS x ix z) L H (.pointer (some ⟨b, o, some u⟩)) H ∧ KCell M b o u (F ps[m]) := by
  have hg := cellsF_at hF hm
  have hl := cellsF_len hF ps
  generalize cellsF F ps = cs at hS hg hl
  have hm1 : m * z + z ≤ ps.length * z := by
    have := Nat.mul_le_mul_right z (show m + 1 ≤ ps.length by omega)
    rwa [Nat.succ_mul] at this
  cases hS with
  | nil c =>
    have h : ps.length * z = 0 := by simp only [List.length_nil] at hl; omega
    rcases Nat.mul_eq_zero.1 h with h | h <;> omega
  | emp a =>
    have h : ps.length * z = 0 := by simp only [List.length_nil] at hl; omega
    rcases Nat.mul_eq_zero.1 h with h | h <;> omega
  | row hm2 hc hlo hln hv hin hp =>
    rename_i b o u lo' len cap ch cs'
    have hlen : ps.length = len := Nat.eq_of_mul_eq_mul_right hz (by omega)
    refine ⟨b, o + m * z, u, OpV.idxS hx hi rfl (by omega) rfl, ch, lo', cs', hm2, hc, by omega, by rw [hF]; omega, ?_⟩
    rw [hF, ← hg, ← hv, List.drop_take, List.take_take, List.drop_drop, show o + m * z - lo' = o - lo' + m * z by omega, Nat.min_eq_left (by omega)]
theorem WR.idxK {x ix : Operand} {kd : IntKind} {m : Nat} {v : Value} {ps : List α} (hF : ∀ a, (F a).length = z) (hz : 1 ≤ z) (hg : gOK L gd) (hd : Nat.blt d nt = true) (hx : ev L x = some v) (hS : Sl M z v (cellsF F ps)) (hi : ev L ix = some (.int kd (m : Int))) (hm : m < ps.length)
    (k : ∀ b o u, KCell M b o u (F ps[m]) → WR C nt l ((d, .pointer (some ⟨b, o, some u⟩)) :: L) D H K) : WR C nt (⟨i, some d, .idxS x ix z, gd, lo⟩ :: l) L D H K := by
  obtain ⟨b, o, u, h1, h2⟩ := OpV.idxK (C := C) (H := H) hF hz hx hS hi hm
  exact WR.op hg hd h1 (k b o u h2)
end
end Go.Abs

/- The mathematics of the law's search: all that can be left, by numbers; and its helpers. -/
namespace Go.Proofs.Ytnmlfjohoeebiaa.Wk
open Go Go.Abs Go.Mth
set_option linter.unusedVariables false
set_option linter.unusedSimpArgs false
abbrev St4 := {s : List Int // s.length = 4}
def F4 (a : St4) : List Value := ints a.1
/-- What was found: each with its number. -/
structure Bfs (T : List Int) (A : List St4) (m : MapI) : Prop where
  ok : ∀ i (h : i < A.length), SOK T (A[i]).1
  num : ∀ i (h : i < A.length), findI m (A[i]).1 = some (i : Int)
  inv : ∀ s r, findI m s = some r → ∃ i, ∃ h : i < A.length, r = (i : Int) ∧ (A[i]).1 = s
  cnt : A.length + restM m ≤ 6561
  keys : KeysN 4 m
  first : ∃ h : 0 < A.length, (A[0]).1 = startS T
/-- What comes behind something, by the first stretches. -/
structure SuccR (T : List Int) (A : List St4) (s : List Int) (k : Nat) (own : List Int) : Prop where
  sound : ∀ x ∈ own, ∃ i j, ∃ h : i < A.length, x = (i : Int) ∧ j < k ∧ goodS T.length (metS T s j) ∧ (A[i]).1 = metS T s j
  full : ∀ j, j < k → goodS T.length (metS T s j) → ∃ i, ∃ h : i < A.length, (i : Int) ∈ own ∧ (A[i]).1 = metS T s j
theorem SuccR.mono {T : List Int} {A : List St4} {s : List Int} {k : Nat} {own : List Int} (h : SuccR T A s k own) (X : List St4) : SuccR T (A ++ X) s k own where
  sound x hx := by
    obtain ⟨i, j, hi, h1, h2, h3, h4⟩ := h.sound x hx
    exact ⟨i, j, by simp; omega, h1, h2, h3, by rw [List.getElem_append_left hi]; exact h4⟩
  full j hj hg := by
    obtain ⟨i, hi, h1, h2⟩ := h.full j hj hg
    exact ⟨i, by simp; omega, h1, by rw [List.getElem_append_left hi]; exact h2⟩
theorem SuccR.bad {T : List Int} {A : List St4} {s : List Int} {k : Nat} {own : List Int} (h : SuccR T A s k own) (hb : ¬ goodS T.length (metS T s k)) : SuccR T A s (k + 1) own where
  sound x hx := by
    obtain ⟨i, j, hi, h1, h2, h3, h4⟩ := h.sound x hx
    exact ⟨i, j, hi, h1, by omega, h3, h4⟩
  full j hj hg := by
    rcases Nat.lt_or_ge j k with h1 | h1
    · exact h.full j h1 hg
    · rw [show j = k by omega] at hg; exact absurd hg hb
theorem SuccR.good {T : List Int} {A : List St4} {s : List Int} {k : Nat} {own : List Int} (h : SuccR T A s k own) (hb : goodS T.length (metS T s k)) {i : Nat} (hi : i < A.length) (he : (A[i]).1 = metS T s k) : SuccR T A s (k + 1) (own ++ [(i : Int)]) where
  sound x hx := by
    rcases List.mem_append.1 hx with hx | hx
    · obtain ⟨i, j, hi, h1, h2, h3, h4⟩ := h.sound x hx
      exact ⟨i, j, hi, h1, by omega, h3, h4⟩
    · rw [List.mem_singleton] at hx
      exact ⟨i, k, hi, hx, by omega, hb, he⟩
  full j hj hg := by
    rcases Nat.lt_or_ge j k with h1 | h1
    · obtain ⟨i, hi, h2, h3⟩ := h.full j h1 hg
      exact ⟨i, hi, List.mem_append_left _ h2, h3⟩
    · have : j = k := by omega
      subst this
      exact ⟨i, hi, by simp, he⟩
def BehR (T : List Int) (A : List St4) (B : List (List Int)) : Prop := ∀ i (h : i < A.length), i < B.length → SuccR T A (A[i]).1 T.length (B.getD i [])
theorem BehR.mono {T : List Int} {A : List St4} {B : List (List Int)} (h : BehR T A B) (hl : B.length ≤ A.length) (X : List St4) : BehR T (A ++ X) B := fun i hi hb => by
  rw [List.getElem_append_left (show i < A.length by omega)]
  exact (h i (by omega) hb).mono X
theorem BehR.snoc {T : List Int} {A : List St4} {B : List (List Int)} {own : List Int} (h : BehR T A B) (hl : B.length < A.length) (hn : SuccR T A (A[B.length]).1 T.length own) : BehR T A (B ++ [own]) := fun i hi hb => by
  by_cases e : i < B.length
  · rw [getD_app_l e]; exact h i hi e
  · have : i = B.length := by simp at hb; omega
    subst this
    rw [getD_snoc]; exact hn
open Classical in
/-- What is gone after so many rounds. -/
noncomputable def goneB (T : List Int) (k : Nat) (s : List Int) : Bool := !decide (canS T k s)
theorem goneB_false {T : List Int} {k : Nat} {s : List Int} : goneB T k s = false ↔ canS T k s := by unfold goneB; simp
theorem goneB_true {T : List Int} {k : Nat} {s : List Int} : goneB T k s = true ↔ ¬ canS T k s := by unfold goneB; simp
def GoneR (T : List Int) (A : List St4) (k : Nat) (G : List Bool) : Prop := G.length = A.length ∧ ∀ i (h : i < A.length), G.getD i false = goneB T k (A[i]).1
attribute [local irreducible] gOK WS WC WR WD Ends FS YS OpV seqK blockK loopK midK retK rdK asgK rangeEnd sat Cell
section
variable {M : HL} {n0 : Nat} {H : Heap} {v w : Value}
end
end Go.Proofs.Ytnmlfjohoeebiaa.Wk

/- The law's search: how many tides the longest good walk has. -/
namespace Go.Proofs.Ytnmlfjohoeebiaa.Wk
open Go Go.Abs Go.Mth
set_option linter.unusedVariables false
set_option linter.unusedSimpArgs false
theorem goodS_dec {T s : List Int} {j : Nat} (hT : TOK T) (hs : SOK T s) (hj : j < T.length) : goodS T.length (metS T s j) ↔ ∀ i, i < T.length → i ≠ j → s.getD i 0 - 1 ≠ 0 := by
  rw [not_good (by rw [metS_len, hs.len]) hT.len]
  have get := metS_get (T := T) (s := s) (by rw [hs.len]; exact hT.len) hj
  constructor
  · intro h i hi hne
    have := h i hi
    rwa [get, if_neg hne, if_pos hi] at this
  · intro h i hi
    rw [get]
    by_cases e : i = j
    · rw [if_pos e]; have := hT.lo j hj; omega
    · rw [if_neg e, if_pos hi]; exact h i hi e
structure OV where
  k : Nat
  va : Value
  A : List St4
  MA : HL
  m : MapI
  vb : Value
  ws : List Value
  B : List (List Int)
  MB : HL
  Mi : HL
  n : Nat
structure IV where
  k : Nat
  va : Value
  A : List St4
  MA : HL
  m : MapI
  vo : Value
  own : List Int
  MO : HL
  n : Nat
structure DV where
  k : Nat
  g : Bool
structure GV where
  k : Nat
  gb : Nat
  cp : Nat
  G : List Bool
  n : Nat
def RowsB (M : HL) (ws : List Value) (B : List (List Int)) : Prop := ws.length = B.length ∧ ∀ i, i < B.length → Sl M 1 (ws.getD i undef) (ints (B.getD i []))
theorem rowsB_snoc {M Mi Mr : HL} {ws : List Value} {vs : List (List Int)} {w : Value} {l : List Int} (h : RowsB (Mi ++ M) ws vs) (hw : Sl (Mr ++ M) 1 w (ints l)) : RowsB ((Mr ++ Mi) ++ M) (ws ++ [w]) (vs ++ [l]) := by
  refine ⟨by simp [h.1], fun i hi => ?_⟩
  rw [List.length_append, List.length_singleton] at hi
  by_cases e : i < vs.length
  · rw [getD_app_l (by rw [h.1]; exact e), getD_app_l e]
    refine (h.2 i e).mono fun q hq => ?_
    rw [List.append_assoc]; exact List.mem_append_right _ hq
  · have : i = vs.length := by omega
    subst this
    rw [getD_snoc, show (ws ++ [w]).getD vs.length undef = w by rw [← h.1]; exact getD_snoc]
    refine hw.mono fun q hq => ?_
    rcases List.mem_append.1 hq with h | h
    · exact List.mem_append_left _ (List.mem_append_left _ h)
    · exact List.mem_append_right _ h
theorem RowsB.one {M : HL} {ws : List Value} {B : List (List Int)} (h : RowsB M ws B) : ws.all one = true := by
  rw [List.all_eq_true]
  intro q hq
  obtain ⟨i, hi, rfl⟩ := List.mem_iff_getElem.1 hq
  have := (h.2 i (by rw [← h.1]; exact hi)).one_
  rwa [getD_eq hi] at this
theorem fill1 {v : Value} (h : one v = true) : Instr.fill (fun j => some (j * 1, 1)) [Value.slice none 0 0].toArray [(0, v)] = some [v].toArray := by
  cases v <;> first | rfl | cases h
attribute [local irreducible] gOK WS WC WR WD Ends FS YS OpV seqK blockK loopK midK retK rdK asgK rangeEnd sat Cell
section
variable {M : HL} {n0 : Nat} {H : Heap} {v w : Value}
end
end Go.Proofs.Ytnmlfjohoeebiaa.Wk

/- The law WalkEven. -/
namespace Go.Proofs.Ytnmlfjohoeebiaa.Wk
open Go Go.Abs Go.Mth
set_option linter.unusedVariables false
set_option linter.unusedSimpArgs false
def evF (r y : Nat) : Nat := if 4 < r then [1, 2, 6, 6].getD (y % 4) 0 else if r = 4 then [1, 3, 3, 6].getD (y % 4) 0 else 2 ^ (y % 4)
def evT (r : Nat) (ys : List Nat) (n : Nat) : List Nat := (List.range n).map fun i => evF r (ys.getD i 0)
attribute [local irreducible] gOK WS WC WR WD Ends FS YS OpV seqK blockK loopK midK retK rdK asgK rangeEnd sat Cell
section
variable {M : HL} {n0 : Nat} {H : Heap} {v w : Value}
end
end Go.Proofs.Ytnmlfjohoeebiaa.Wk

/- The law WalkWalked. -/
namespace Go.Proofs.Ytnmlfjohoeebiaa.Wk
open Go Go.Abs Go.Mth
set_option linter.unusedVariables false
set_option linter.unusedSimpArgs false
def modF (N y : Nat) : Nat := y % N
attribute [local irreducible] gOK WS WC WR WD Ends FS YS OpV seqK blockK loopK midK retK rdK asgK rangeEnd sat Cell
section
variable {M : HL} {n0 : Nat} {H : Heap} {v w : Value}
end
end Go.Proofs.Ytnmlfjohoeebiaa.Wk

/- Beginnings of a slice, that may be empty, are copied. -/
namespace Go.Abs
set_option linter.unusedSectionVars false
variable [Globs]
open Go
section
variable {C : CW} {nt : Nat} {L : Env} {D : List Nat} {H : Heap} {K : St → Prop} {M M' : HL} {n i d : Nat} {gd : Option (Tmp × Bool)} {lo' : List Nat} {l : List POp}
/-- A slice that can be read, though it is empty. -/
def RdS (M : HL) (v : Value) : Prop := v = .slice none 0 0 ∨ ∃ (b u o lo len cap : Nat) (ch : Ch) (cs : List Value), v = .slice (some ⟨b, o, some u⟩) len cap ∧ (b, ch) ∈ M ∧ ch.cellsAre u lo cs ∧ lo ≤ o ∧ o - lo ≤ cs.length
theorem RdS.mono {M M' : HL} {v : Value} (h : RdS M v) (k : ∀ q ∈ M, q ∈ M') : RdS M' v := by
  rcases h with h | ⟨b, u, o, lo, len, cap, ch, cs, h1, h2, h3⟩
  · exact .inl h
  · exact .inr ⟨b, u, o, lo, len, cap, ch, cs, h1, k _ h2, h3⟩
end
end Go.Abs
namespace Go.Proofs.Ytnmlfjohoeebiaa.Wk
open Go Go.Abs Go.Mth
set_option linter.unusedVariables false
set_option linter.unusedSimpArgs false
attribute [local irreducible] gOK WS WC WR WD Ends FS YS OpV seqK blockK loopK midK retK rdK asgK rangeEnd sat Cell
section
variable {M : HL} {n0 : Nat} {H : Heap} {v w : Value}
end
/-- The first walk, and each of its beginnings. -/
theorem WalkR.take {T s W t : List Int} (h : WalkR T s W t) : ∀ i (hi : i < W.length), ∃ u j, WalkR T s (W.take i) u ∧ NextR T u j ∧ W.getD i 0 = (j : Int) := by
  induction h with
  | nil => intro i hi; simp at hi
  | @snoc W t j h hj ih =>
    intro i hi
    rcases Nat.lt_or_ge i W.length with h1 | h1
    · obtain ⟨u, k, h2, h3, h4⟩ := ih i h1
      exact ⟨u, k, by rw [List.take_append_of_le_length (by omega)]; exact h2, h3, by rw [getD_app_l h1]; exact h4⟩
    · have : i = W.length := by simp at hi; omega
      subst this
      exact ⟨t, j, by rw [List.take_append_of_le_length (Nat.le_refl _), List.take_length]; exact h, hj, getD_snoc⟩
end Go.Proofs.Ytnmlfjohoeebiaa.Wk
