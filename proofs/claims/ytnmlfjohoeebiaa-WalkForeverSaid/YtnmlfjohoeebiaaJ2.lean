/- Texts of the law, joined. -/
import Derived.Test.YtnmlfjohoeebiaaWkP
import Derived.Test.YtnmlfjohoeebiaaJ1
import Derived.Test.YtnmlfjohoeebiaaSymM
import Derived.Test.YtnmlfjohoeebiaaSymK
import Derived.Test.YtnmlfjohoeebiaaSymG
import Derived.Test.YtnmlfjohoeebiaaSymR
/- The mathematics of walks: what is left, and for how long a walk can go on. -/
namespace Go.Proofs.Ytnmlfjohoeebiaa.Wk
open Go Go.Abs Go.Mth
set_option linter.unusedVariables false
set_option linter.unusedSimpArgs false
/-- What is left when a stretch is met. -/
def decS (n : Nat) (s : List Int) : List Int := (s.take n).map (· - 1) ++ s.drop n
def metS (T s : List Int) (j : Nat) : List Int := (decS T.length s).set j (T.getD j 0)
abbrev goodS (n : Nat) (s : List Int) : Prop := (0 : Int) ∉ s.take n
def startS (T : List Int) : List Int := T ++ List.replicate (4 - T.length) 0
/-- A walk can go on for so many tides. -/
def canS (T : List Int) : Nat → List Int → Prop
  | 0, _ => True
  | k + 1, s => ∃ j, j < T.length ∧ goodS T.length (metS T s j) ∧ canS T k (metS T s j)
def everS (T s : List Int) : Prop := ∀ k, canS T k s
/-- For how many tides: -1 if there is no end. -/
def MoreR (T s : List Int) (r : Int) : Prop := (r = -1 ∧ everS T s) ∨ ∃ m : Nat, r = m ∧ canS T m s ∧ ¬ canS T (m + 1) s
/-- One tide. -/
def StepS (T s t : List Int) : Prop := ∃ j, j < T.length ∧ t = metS T s j ∧ goodS T.length t
/-- At least one tide. -/
inductive ReachS (T : List Int) : List Int → List Int → Prop where
  | one {s t : List Int} (h : StepS T s t) : ReachS T s t
  | more {s t u : List Int} (h : ReachS T s t) (k : StepS T t u) : ReachS T s u
theorem canS_less {T : List Int} : ∀ {k : Nat} {s : List Int}, canS T (k + 1) s → canS T k s
  | 0, s, _ => trivial
  | k + 1, s, ⟨j, h1, h2, h3⟩ => ⟨j, h1, h2, canS_less h3⟩
theorem canS_le {T : List Int} {k m : Nat} {s : List Int} (h : canS T m s) (hk : k ≤ m) : canS T k s := by
  obtain ⟨d, rfl⟩ := Nat.le.dest hk
  clear hk
  induction d with
  | zero => exact h
  | succ d ih => exact ih (canS_less h)
theorem canS_step {T s t : List Int} (h : StepS T s t) {k : Nat} (hk : canS T k t) : canS T (k + 1) s := by
  obtain ⟨j, h1, rfl, h2⟩ := h
  exact ⟨j, h1, h2, hk⟩
theorem canS_reach {T s t : List Int} (h : ReachS T s t) : ∀ {k : Nat}, canS T k t → canS T (k + 1) s := by
  induction h with
  | one h => exact canS_step h
  | more _ k ih => exact fun hk => canS_less (ih (canS_step k hk))
theorem ever_ring {T s : List Int} (h : ReachS T s s) : everS T s := by
  intro k
  induction k with
  | zero => trivial
  | succ k ih => exact canS_reach h ih
theorem ever_step {T s t : List Int} (h : StepS T s t) (k : everS T t) : everS T s := fun n => canS_less (canS_step h (k n))
theorem MoreR.one {T s : List Int} {r q : Int} (h : MoreR T s r) (k : MoreR T s q) : r = q := by
  rcases h with ⟨h1, h2⟩ | ⟨m, h1, h2, h3⟩ <;> rcases k with ⟨k1, k2⟩ | ⟨m', k1, k2, k3⟩
  · rw [h1, k1]
  · exact absurd (h2 _) k3
  · exact absurd (k2 _) h3
  · rw [h1, k1]
    rcases Nat.lt_trichotomy m m' with h | h | h
    · exact absurd (canS_le k2 h) h3
    · rw [h]
    · exact absurd (canS_le h2 h) k3
theorem MoreR.low {T s : List Int} {r : Int} (h : MoreR T s r) : -1 ≤ r := by
  rcases h with ⟨h1, _⟩ | ⟨m, h1, _⟩ <;> omega
theorem MoreR.ever {T s : List Int} {r : Int} (h : MoreR T s r) : r = -1 ↔ everS T s := by
  rcases h with ⟨h1, h2⟩ | ⟨m, h1, h2, h3⟩
  · exact ⟨fun _ => h2, fun _ => h1⟩
  · exact ⟨fun e => by omega, fun e => absurd (e _) h3⟩
/-- After so many stretches have been tried: the longest of them. -/
def MostR (T s : List Int) (k : Nat) (r : Nat) : Prop :=
  canS T r s ∧ ∀ j, j < k → goodS T.length (metS T s j) → ¬ canS T r (metS T s j)
theorem most_zero (T s : List Int) : MostR T s 0 0 := ⟨trivial, fun j h => absurd h (Nat.not_lt_zero _)⟩
theorem most_bad {T s : List Int} {k r : Nat} (h : MostR T s k r) (hb : ¬ goodS T.length (metS T s k)) : MostR T s (k + 1) r :=
  ⟨h.1, fun j hj hg => by
    rcases Nat.lt_or_ge j k with h1 | h1
    · exact h.2 j h1 hg
    · rw [show j = k by omega] at hg; exact absurd hg hb⟩
theorem most_good {T s : List Int} {k r q : Nat} (h : MostR T s k r) (hk : k < T.length) (hb : goodS T.length (metS T s k)) (h1 : canS T q (metS T s k)) (h2 : ¬ canS T (q + 1) (metS T s k)) : MostR T s (k + 1) (max r (q + 1)) := by
  refine ⟨?_, fun j hj hg hc => ?_⟩
  · rcases Nat.le_total r (q + 1) with h3 | h3
    · rw [Nat.max_eq_right h3]; exact ⟨k, hk, hb, h1⟩
    · rw [Nat.max_eq_left h3]; exact h.1
  · rcases Nat.lt_or_ge j k with h3 | h3
    · exact h.2 j h3 hg (canS_le hc (Nat.le_max_left _ _))
    · rw [show j = k by omega] at hc
      exact h2 (canS_le hc (Nat.le_max_right _ _))
theorem most_all {T s : List Int} {r : Nat} (h : MostR T s T.length r) : MoreR T s r :=
  .inr ⟨r, rfl, h.1, fun ⟨j, h1, h2, h3⟩ => h.2 j h1 h2 h3⟩
theorem decS_len (n : Nat) (s : List Int) : (decS n s).length = s.length := by simp [decS]; omega
theorem metS_len (T s : List Int) (j : Nat) : (metS T s j).length = s.length := by simp [metS, decS_len]
theorem startS_len {T : List Int} (h : T.length ≤ 4) : (startS T).length = 4 := by simp [startS]; omega
theorem decS_get {n : Nat} {s : List Int} (hn : n ≤ s.length) (i : Nat) : (decS n s).getD i 0 = if i < n then s.getD i 0 - 1 else s.getD i 0 := by
  unfold decS
  by_cases h : i < n
  · rw [if_pos h, getD_app_l (by simp; omega), getD_eq (by simp; omega), getD_eq (by omega)]; simp
  · rw [if_neg h, List.getD_eq_getElem?_getD, List.getElem?_append_right (by simp; omega), List.getElem?_drop, List.getD_eq_getElem?_getD]
    congr 2; simp; omega
theorem metS_get {T s : List Int} {j : Nat} (hn : T.length ≤ s.length) (hj : j < T.length) (i : Nat) : (metS T s j).getD i 0 = if i = j then T.getD j 0 else if i < T.length then s.getD i 0 - 1 else s.getD i 0 := by
  unfold metS
  rw [getD_set' (by rw [decS_len]; omega), decS_get hn]
theorem decS_next {k : Nat} {s : List Int} (h : k < s.length) : (decS k s).set k ((decS k s).getD k 0 - 1) = decS (k + 1) s := by
  refine ext_getD (a := 0) (by simp [decS_len]) fun i hi => ?_
  rw [getD_set' (by rw [decS_len]; exact h), decS_get (by omega), decS_get (by omega), decS_get (by omega)]
  by_cases h1 : i = k
  · subst h1; rw [if_pos rfl, if_neg (by omega), if_pos (by omega)]
  · rw [if_neg h1]
    by_cases h2 : i < k
    · rw [if_pos h2, if_pos (by omega)]
    · rw [if_neg h2, if_neg (by omega)]
/-- All that can be left. -/
structure SOK (T s : List Int) : Prop where
  len : s.length = 4
  lo : ∀ i, i < T.length → 1 ≤ s.getD i 0
  hi : ∀ i, i < T.length → s.getD i 0 ≤ T.getD i 0
  out : ∀ i, T.length ≤ i → s.getD i 0 = 0
structure TOK (T : List Int) : Prop where
  len : T.length ≤ 4
  lo : ∀ i, i < T.length → 1 ≤ T.getD i 0
  hi : ∀ i, i < T.length → T.getD i 0 ≤ 8
theorem start_get {T : List Int} (h : T.length ≤ 4) (i : Nat) : (startS T).getD i 0 = if i < T.length then T.getD i 0 else 0 := by
  unfold startS
  by_cases h1 : i < T.length
  · rw [if_pos h1, getD_app_l h1]
  · rw [if_neg h1, List.getD_eq_getElem?_getD, List.getElem?_append_right (by omega), List.getElem?_replicate]
    split <;> rfl
theorem start_ok {T : List Int} (h : TOK T) : SOK T (startS T) where
  len := startS_len h.len
  lo i hi := by rw [start_get h.len, if_pos hi]; exact h.lo i hi
  hi i hi := by rw [start_get h.len, if_pos hi]; exact Int.le_refl _
  out i hi := by rw [start_get h.len, if_neg (by omega)]
theorem not_good {T s : List Int} (hl : s.length = 4) (hT : T.length ≤ 4) : goodS T.length s ↔ ∀ i, i < T.length → s.getD i 0 ≠ 0 := by
  unfold goodS
  constructor
  · intro h i hi e
    exact h (by rw [← e, ← getD_take hi]; exact getD_mem (by simp; omega))
  · intro h hm
    obtain ⟨i, hi, he⟩ := List.mem_iff_getElem.1 hm
    have hi' : i < T.length ∧ i < s.length := by simp at hi; omega
    exact h i hi'.1 (by rw [getD_eq hi'.2, ← he]; simp)
theorem met_ok {T s : List Int} {j : Nat} (hT : TOK T) (h : SOK T s) (hj : j < T.length) (hg : goodS T.length (metS T s j)) : SOK T (metS T s j) := by
  have hl : (metS T s j).length = 4 := by rw [metS_len, h.len]
  have hn : T.length ≤ s.length := by rw [h.len]; exact hT.len
  have hg' := (not_good hl hT.len).1 hg
  have get := metS_get hn hj
  refine ⟨hl, fun i hi => ?_, fun i hi => ?_, fun i hi => ?_⟩
  · have g := hg' i hi
    rw [get] at g ⊢
    by_cases h1 : i = j
    · subst h1; rw [if_pos rfl]; exact hT.lo i hi
    · rw [if_neg h1, if_pos hi] at g ⊢
      have := h.lo i hi
      omega
  · rw [get]
    by_cases h1 : i = j
    · subst h1; rw [if_pos rfl]; exact Int.le_refl _
    · rw [if_neg h1, if_pos hi]
      have := h.hi i hi
      omega
  · rw [get, if_neg (by omega), if_neg (by omega)]
    exact h.out i hi
/-- A number for each of what can be left. -/
def allS : Nat → List (List Int)
  | 0 => [[]]
  | n + 1 => ((List.range 9).map fun x => (allS n).map fun l => ((x : Nat) : Int) :: l).flatten
theorem mem_allS : ∀ {n : Nat} {s : List Int}, s.length = n → (∀ x ∈ s, 0 ≤ x ∧ x ≤ 8) → s ∈ allS n
  | 0, s, h, _ => by rw [List.length_eq_zero_iff.1 h]; simp [allS]
  | n + 1, [], h, _ => by simp at h
  | n + 1, x :: s, h, hx => by
    have h0 := hx x (List.mem_cons_self ..)
    have ih := mem_allS (n := n) (s := s) (by simpa using h) (fun y hy => hx y (List.mem_cons_of_mem _ hy))
    unfold allS
    refine List.mem_flatten.2 ⟨_, List.mem_map.2 ⟨x.toNat, List.mem_range.2 (by omega), rfl⟩, List.mem_map.2 ⟨s, ih, ?_⟩⟩
    congr 1; omega
theorem SOK.mem {T s : List Int} (hT : TOK T) (h : SOK T s) : s ∈ allS 4 := by
  refine mem_allS h.len fun x hx => ?_
  obtain ⟨i, hi, rfl⟩ := List.mem_iff_getElem.1 hx
  rw [← getD_eq (a := 0) hi]
  rcases Nat.lt_or_ge i T.length with h1 | h1
  · have := h.lo i h1; have := h.hi i h1; have := hT.hi i h1; omega
  · rw [h.out i h1]; omega
/-- How much isn't known yet. -/
def restM (m : MapI) : Nat := ((allS 4).filter fun s => (findI m s).isNone).length
theorem rest_le {m m' : MapI} (h : ∀ s, findI m s ≠ none → findI m' s ≠ none) : restM m' ≤ restM m := by
  unfold restM
  generalize allS 4 = l
  induction l with
  | nil => simp
  | cons s l ih =>
    rw [List.filter_cons, List.filter_cons]
    cases h1 : findI m s with
    | none => split <;> simp only [Option.isNone_none, if_true, List.length_cons] <;> omega
    | some v =>
      have := h s (by rw [h1]; simp)
      cases h2 : findI m' s with
      | none => exact absurd h2 this
      | some w => simpa using ih
theorem rest_put {m : MapI} {s : List Int} (hs : s ∈ allS 4) (hn : findI m s = none) (v : Int) : restM (putI m s v) < restM m := by
  unfold restM
  generalize allS 4 = l at hs
  have key : ∀ l : List (List Int), (l.filter fun t => (findI (putI m s v) t).isNone).length ≤ (l.filter fun t => (findI m t).isNone).length := by
    intro l
    induction l with
    | nil => simp
    | cons t l ih =>
      rw [List.filter_cons, List.filter_cons, findI_put]
      by_cases h : t = s
      · subst h; rw [hn]; simp; omega
      · rw [if_neg h]; split <;> (try simp only [List.length_cons]) <;> omega
  induction l with
  | nil => cases hs
  | cons t l ih =>
    rw [List.filter_cons, List.filter_cons, findI_put]
    by_cases h : t = s
    · subst h; rw [hn]; simp; have := key l; omega
    · rw [if_neg h]
      have := ih (by rcases List.mem_cons.1 hs with h1 | h1; exact absurd h1.symm h; exact h1)
      split <;> (try simp only [List.length_cons]) <;> omega
end Go.Proofs.Ytnmlfjohoeebiaa.Wk

/- Functions of the library; what is left before the first tide, and after one more. -/
namespace Go.Abs
set_option linter.unusedSectionVars false
variable [Globs]
open Go
section
variable {C : CW} {nt : Nat} {L : Env} {D : List Nat} {H : Heap} {K : St → Prop} {M M' : HL} {n : Nat} {gd : Option (Tmp × Bool)} {lo : List Nat} {l : List POp}
/-- Two cells. -/
theorem WR.store2 {i : Nat} {x y : Operand} {v w : Value} {a c : Value} {b e u : Nat} (hg : gOK L gd) (hH : hasH M n H) (hx : ev L x = some (.pointer (some ⟨b, 0, some u⟩))) (hy : ev L y = some (.agg [v, w].toArray)) (h1 : one v = true) (h2 : one w = true)
    (hu : Upd M b (.row e u 0 [a, c]) (.row e u 0 [v, w]) M') (k : ∀ H', hasH M' n H' → WR C nt l L D H' K) : WR C nt (⟨i, none, .store x y 2, gd, lo⟩ :: l) L D H K :=
  WR.storeAll hg hH hx hy (ls := [v, w]) rfl rfl hu (by simp [h1, h2]) rfl k
theorem Ends.retCN1 {a b k : Nat} {p : Addr} {l : List Value} {v : Value} {R : Value → Heap → Prop} (hx : ev L (.tmp a) = some (.pointer (some p))) (hr : H.readN p k = some l) (hy : ev L (.tmp b) = some v) (h : R (.tuple #[.agg l.toArray, v]) H) : Ends (retK [.cell a (some k), .tmp b] R) .ret L [] H := by
  refine Ends.ret_of trivial fun t ht => ⟨_, H, ?_, h⟩
  simp only [takeAll, leaveC, resultOf, ev_ok ht hx, hr, ev_ok ht hy, retVal]
theorem ints_all (xs : List Int) : (xs.map (Value.int .i64)).all one = true := by
  rw [List.all_eq_true]; intro q hq; obtain ⟨z, _, rfl⟩ := List.mem_map.1 hq; rfl
/-- An array of numbers is stored whole. -/
theorem WR.storeA {i : Nat} {x y : Operand} {b e u sz : Nat} {cs : List Value} {s : List Int} (hg : gOK L gd) (hH : hasH M n H) (hx : ev L x = some (.pointer (some ⟨b, 0, some u⟩))) (hy : ev L y = some (keyI s))
    (hs : s.length = sz) (hu : Upd M b (.row e u 0 cs) (.row e u 0 (s.map (Value.int .i64))) M') (hk : cs.length = sz) (k : ∀ H', hasH M' n H' → WR C nt l L D H' K) : WR C nt (⟨i, none, .store x y sz, gd, lo⟩ :: l) L D H K :=
  WR.storeAll hg hH hx hy (ls := s.map (Value.int .i64)) (by simp [keyI, Value.cells, ints]) (by simp [hs]) hu (ints_all s) (by simp [hs, hk]) k
theorem sameL_ints (xs : List Int) : sameL (xs.map (Value.int .i64)) (xs.map (Value.int .i64)) = true := by
  induction xs with
  | nil => rfl
  | cons x xs ih => simp only [List.map_cons, sameL, ih, Bool.and_true]; exact same_int _ _
theorem readA {b e u k : Nat} {s : List Int} (hH : hasH M n H) (hm : (b, Ch.row e u 0 (s.map (Value.int .i64))) ∈ M) (hs : s.length = k) : H.readN ⟨b, 0, some u⟩ k = some (s.map (Value.int .i64)) := by
  have := hH.readN (b := b) (u := u) (lo := 0) (o := 0) (k := k) hm (.row _ _ _ _) (Nat.le_refl _) (by simp [hs])
  rw [this, Nat.sub_zero, List.drop_zero, List.take_of_length_le (by simp [hs])]
end
end Go.Abs
namespace Go.Proofs.Ytnmlfjohoeebiaa.Wk
open Go Go.Abs Go.Mth
set_option linter.unusedVariables false
set_option linter.unusedSimpArgs false
theorem splice_get {cs l : List Int} {i : Nat} (h : i + l.length ≤ cs.length) (j : Nat) : (cs.take i ++ l ++ cs.drop (i + l.length)).getD j 0 = if j < i then cs.getD j 0 else if j < i + l.length then l.getD (j - i) 0 else cs.getD j 0 := by
  simp only [List.getD_eq_getElem?_getD]
  by_cases h1 : j < i
  · rw [if_pos h1, List.append_assoc, List.getElem?_append_left (by simp; omega), List.getElem?_take_of_lt h1]
  · rw [if_neg h1]
    by_cases h2 : j < i + l.length
    · rw [if_pos h2, List.getElem?_append_left (by simp; omega), List.getElem?_append_right (by simp; omega)]
      congr 2; simp; omega
    · rw [if_neg h2, List.getElem?_append_right (by simp; omega), List.getElem?_drop]
      congr 2; simp; omega
theorem ints_one (xs : List Int) : (ints xs).all one = true := by
  rw [List.all_eq_true]; intro q hq; obtain ⟨z, _, rfl⟩ := List.mem_map.1 hq; rfl
attribute [local irreducible] gOK WS WC WR WD Ends FS YS OpV seqK blockK loopK midK retK rdK asgK rangeEnd sat Cell
section
variable {M : HL} {n0 : Nat} {H : Heap} {v w : Value}
theorem Index_fs (hH : hasH M n0 H) {xs : List Int} (hS : Sl M 1 v (ints xs)) (hx : xs.length ≤ 100000) (a : Int) :
    FS C 85 [v, .int .i64 a] H (fun e H' => H' = H ∧ ((∃ k, k < xs.length ∧ xs.getD k 0 = a ∧ (∀ j, j < k → xs.getD j 0 ≠ a) ∧ e = .int .i64 (k : Int)) ∨ (a ∉ xs ∧ e = .int .i64 (-1)))) := by
  refine FS.intro (pf := pf85) rfl rfl rfl ?_
  repeat' (first | refine zP ?_ | refine zA ?_ | (refine zM ?_; intro _ _) | refine zX ?_ | (refine zC ?_; intro _ _ _ _) | (refine zS ?_; intro _ _) | (apply Ws <;> intro hg))
  refine WC.loopX [(0, _), (1, _), (6, _), (7, _)] (fun k : Nat => [(8, .int .i64 (k : Int))]) [] (fun k H' => H' = H ∧ k ≤ xs.length ∧ ∀ j, j < k → xs.getD j 0 ≠ a) (fun k => xs.length - k) 0 (by repeat' (first | exact .nil | refine .cons rfl ?_)) rfl ⟨rfl, Nat.zero_le _, fun j h => absurd h (Nat.not_lt_zero _)⟩ ?_
  rintro k H' ⟨rfl, hk, hno⟩
  dsimp only [List.cons_append, List.nil_append]
  repeat' (first | refine zP ?_ | refine zA ?_ | (refine zM ?_; intro _ _) | refine zX ?_ | (refine zC ?_; intro _ _ _ _) | (refine zS ?_; intro _ _) | (apply Ws <;> intro hg))
  refine WC.condP rfl (fun hlt => ?_) (fun hlt => ?_)
  · have hk' : k < xs.length := by omega
    repeat' (first | refine zP ?_ | refine zA ?_ | (refine zM ?_; intro _ _) | refine zX ?_ | (refine zC ?_; intro _ _ _ _) | (refine zS ?_; intro _ _) | (apply Ws <;> intro hg))
    refine WC.condP rfl (fun h => ?_) (fun h => ?_)
    · repeat' (first | refine zP ?_ | refine zA ?_ | (refine zM ?_; intro _ _) | refine zX ?_ | (refine zC ?_; intro _ _ _ _) | (refine zS ?_; intro _ _) | (apply Ws <;> intro hg))
      exact Ends.ret1 rfl ⟨rfl, .inl ⟨k, hk', h.symm, hno, rfl⟩⟩
    · repeat' (first | refine zP ?_ | refine zA ?_ | (refine zM ?_; intro _ _) | refine zX ?_ | (refine zC ?_; intro _ _ _ _) | (refine zS ?_; intro _ _) | (apply Ws <;> intro hg))
      refine Ends.loop (k + 1) (by omega) (by repeat' (first | exact .nil | refine .cons rfl ?_)) rfl ⟨rfl, hk', fun j hj => ?_⟩
      rcases Nat.lt_or_ge j k with h2 | h2
      · exact hno j h2
      · have : j = k := by omega
        subst this
        exact fun q => h q.symm
  · repeat' (first | refine zP ?_ | refine zA ?_ | (refine zM ?_; intro _ _) | refine zX ?_ | (refine zC ?_; intro _ _ _ _) | (refine zS ?_; intro _ _) | (apply Ws <;> intro hg))
    refine Ends.ret1 rfl ⟨rfl, .inr ⟨fun hm => ?_, rfl⟩⟩
    obtain ⟨j, hj, he⟩ := List.mem_iff_getElem.1 hm
    exact hno j (by omega) (by rw [getD_eq hj]; exact he)
theorem Contains_fs (hH : hasH M n0 H) {xs : List Int} (hS : Sl M 1 v (ints xs)) (hx : xs.length ≤ 100000) (a : Int) :
    FS C 73 [v, .int .i64 a] H (fun e H' => H' = H ∧ e = .bool (decide (a ∈ xs))) := by
  refine FS.intro (pf := pf73) rfl rfl rfl ?_
  repeat' (first | refine zP ?_ | refine zA ?_ | (refine zM ?_; intro _ _) | refine zX ?_ | (refine zC ?_; intro _ _ _ _) | (refine zS ?_; intro _ _) | (apply Ws <;> intro hg))
  refine WR.call (by first | exact gN | exact gS rfl) rfl rfl (Index_fs hH hS hx a) ?_
  rintro _ _ ⟨rfl, ⟨k, hk, he, _, rfl⟩ | ⟨hn, rfl⟩⟩
  · repeat' (first | refine zP ?_ | refine zA ?_ | (refine zM ?_; intro _ _) | refine zX ?_ | (refine zC ?_; intro _ _ _ _) | (refine zS ?_; intro _ _) | (apply Ws <;> intro hg))
    refine Ends.ret1 rfl ⟨rfl, ?_⟩
    have hm : a ∈ xs := by rw [← he]; exact getD_mem hk
    rw [decide_eq_true hm, decide_eq_true (by omega)]
  · repeat' (first | refine zP ?_ | refine zA ?_ | (refine zM ?_; intro _ _) | refine zX ?_ | (refine zC ?_; intro _ _ _ _) | (refine zS ?_; intro _ _) | (apply Ws <;> intro hg))
    refine Ends.ret1 rfl ⟨rfl, ?_⟩
    rw [decide_eq_false hn, decide_eq_false (by omega)]

theorem start_splice {T : List Int} (h : T.length ≤ 4) : splice [Value.int .i64 0, .int .i64 0, .int .i64 0, .int .i64 0] (0 - 0) ((ints T).take T.length) = ints (startS T) := by
  have : (ints T).take T.length = ints T := List.take_of_length_le (by simp)
  rw [this, startS]
  match T, h with
  | [], _ => rfl
  | [_], _ => rfl
  | [_, _], _ => rfl
  | [_, _, _], _ => rfl
  | [_, _, _, _], _ => rfl
  | _ :: _ :: _ :: _ :: _ :: _, h => simp at h
theorem start_fs (hH : hasH M n0 H) {T : List Int} (hS : Sl M 1 v (ints T)) (hT : T.length ≤ 4) (h0 : 1 ≤ T.length) :
    FS C 58 [v] H (fun e H' => ∃ n', n0 ≤ n' ∧ e = keyI (startS T) ∧ hasH M n' H') := by
  have hl := startS_len hT
  have hli : (ints (startS T)).length = 4 := by simp [hl]
  refine FS.intro (pf := pf58) rfl rfl rfl ?_
  repeat' (first | refine zP ?_ | refine zA ?_ | (refine zM ?_; intro _ _) | refine zX ?_ | (refine zC ?_; intro _ _ _ _) | (refine zS ?_; intro _ _) | (apply Ws <;> intro hg))
  rename_i H1 hH1 H2 hH2
  refine WR.op (by first | exact gN | exact gS rfl) rfl (OpV.slA rfl (by omega)) ?_
  repeat' (first | refine zP ?_ | refine zA ?_ | (refine zM ?_; intro _ _) | refine zX ?_ | (refine zC ?_; intro _ _ _ _) | (refine zS ?_; intro _ _) | (apply Ws <;> intro hg))
  refine WR.copyMin (by first | exact gN | exact gS rfl) rfl rfl rfl (hS.cons.cons) hH2 .here (ints_one _) (Nat.le_refl _) (m := T.length) (by rw [List.length_map]; exact Nat.min_eq_left hT) h0 (by simp only [List.length_cons, List.length_nil]; omega) rfl fun H3 hH3 => ?_
  rw [start_splice hT] at hH3
  repeat' (first | refine zP ?_ | refine zA ?_ | (refine zM ?_; intro _ _) | refine zX ?_ | (refine zC ?_; intro _ _ _ _) | (refine zS ?_; intro _ _) | (apply Ws <;> intro hg))
  refine WR.storeA (by first | exact gN | exact gS rfl) hH3 rfl rfl hl (.there .here) rfl fun H4 hH4 => ?_
  repeat' (first | refine zP ?_ | refine zA ?_ | (refine zM ?_; intro _ _) | refine zX ?_ | (refine zC ?_; intro _ _ _ _) | (refine zS ?_; intro _ _) | (apply Ws <;> intro hg))
  exact Ends.retCN rfl (readA hH4 (.tail _ (.head _)) hl) ⟨n0 + 2, by omega, rfl, hH4.tail.tail⟩
theorem meet_fs (hH : hasH M n0 H) {T s : List Int} (hS : Sl M 1 v (ints T)) (hT : T.length ≤ 4) (hs : s.length = 4) (hb : ∀ i, i < 4 → 0 ≤ s.getD i 0 ∧ s.getD i 0 ≤ 8) {j : Nat} (hj : j < T.length) :
    FS C 79 [keyI s, v, .int .i64 (j : Int)] H (fun e H' => ∃ n', n0 ≤ n' ∧ e = .tuple #[keyI (metS T s j), .bool (decide (goodS T.length (metS T s j)))] ∧ hasH M n' H') := by
  have h1 := ints_one s
  refine FS.intro (pf := pf79) rfl rfl rfl ?_
  refine WC.seq ?_
  refine WC.region ?_
  refine WR.boxA (cs := ints s) (by first | exact gN | exact gS rfl) rfl hH rfl h1 fun H1 hH1 => ?_
  replace hH1 : hasH ((n0, .row 72 0 0 (ints (decS 0 s))) :: M) (n0 + 1) H1 := by simpa [decS] using hH1
  repeat' (first | refine zP ?_ | refine zA ?_ | (refine zM ?_; intro _ _) | refine zX ?_ | (refine zC ?_; intro _ _ _ _) | (refine zS ?_; intro _ _) | (apply Ws <;> intro hg))
  rename_i H2 hH2
  refine WC.loopX [(1, v), (2, .int .i64 (j : Int)), (3, .pointer (some ⟨n0, 0, some 0⟩)), (6, .pointer (some ⟨n0 + 1, 0, some 0⟩)), (7, .bool false), (9, v), (10, .int .i64 (T.length : Int))] (fun k : Nat => [(11, .int .i64 (k : Int))]) []
    (fun k H' => k ≤ T.length ∧ hasH ((n0 + 1, .row 72 0 0 (ints [0, 0, 0, 0])) :: (n0, .row 72 0 0 (ints (decS k s))) :: M) (n0 + 1 + 1) H') (fun k => T.length - k) 0 (by repeat' (first | exact .nil | refine .cons rfl ?_)) rfl ⟨Nat.zero_le _, hH2⟩ ?_
  clear hH1 hH2
  rintro k H3 ⟨hk, hH3⟩
  dsimp only [List.cons_append, List.nil_append]
  repeat' (first | refine zP ?_ | refine zA ?_ | (refine zM ?_; intro _ _) | refine zX ?_ | (refine zC ?_; intro _ _ _ _) | (refine zS ?_; intro _ _) | (apply Ws <;> intro hg))
  refine WC.condP rfl (fun hlt => ?_) (fun hlt => ?_)
  · have hk' : k < T.length := by omega
    have hdl : (decS k s).length = 4 := by rw [decS_len, hs]
    have hg := decS_get (n := k) (s := s) (by omega) k
    rw [if_neg (Nat.lt_irrefl k)] at hg
    have := hb k (by omega)
    repeat' (first | refine zP ?_ | refine zA ?_ | (refine zM ?_; intro _ _) | refine zX ?_ | (refine zC ?_; intro _ _ _ _) | (refine zS ?_; intro _ _) | (apply Ws <;> intro hg))
    rename_i H4 hH4
    refine Ends.loop (k + 1) (by omega) (by repeat' (first | exact .nil | refine .cons rfl ?_)) rfl ⟨hk', ?_⟩
    rwa [← decS_next (by omega)]
  · have hkn : k = T.length := by omega
    subst hkn
    have hdl : (decS T.length s).length = 4 := by rw [decS_len, hs]
    repeat' (first | refine zP ?_ | refine zA ?_ | (refine zM ?_; intro _ _) | refine zX ?_ | (refine zC ?_; intro _ _ _ _) | (refine zS ?_; intro _ _) | (apply Ws <;> intro hg))
    rename_i H4 hH4
    have hml : (metS T s j).length = 4 := by rw [metS_len, hs]
    have hmi : (ints (metS T s j)).length = 4 := by simp [hml]
    replace hH4 : hasH ((n0 + 1, .row 72 0 0 (ints [0, 0, 0, 0])) :: (n0, .row 72 0 0 (ints (metS T s j))) :: M) (n0 + 1 + 1) H4 := hH4
    have hSp : Sl ((n0 + 1, Ch.row 72 0 0 (ints [0, 0, 0, 0])) :: (n0, .row 72 0 0 (ints (metS T s j))) :: M) 1 (.slice (some ⟨n0, 0, some 0⟩) T.length (2 * 4 + 1)) (ints ((metS T s j).take T.length)) :=
      .row (lo := 0) (cs := ints (metS T s j)) (.tail _ (.head _)) (.row _ _ _ _) (Nat.zero_le _) (by simp; omega) (by simp [ints, List.map_take]) (by simp; omega) (.inr ⟨4, rfl, hT⟩)
    refine WC.regionD ?_
    repeat' (first | refine zD ?_ | (refine zE ?_; intro _ _ _ _))
    refine WD.op (by first | exact gN | exact gS rfl) rfl (OpV.slAh rfl rfl hT (by omega)) rfl (stands_nil _ _) ?_
    refine WD.call (by first | exact gN | exact gS rfl) rfl rfl (Contains_fs hH4 hSp (by simp; omega) 0) ?_
    rintro _ _ ⟨rfl, rfl⟩
    refine ⟨stands_cons (.inr (holdsN' (readA hH4 (.tail _ (.head _)) hml) (sameL_ints _))) stands_nil', ?_⟩
    refine WD.toWR rfl ?_
    repeat' (first | refine zP ?_ | refine zA ?_ | (refine zM ?_; intro _ _) | refine zX ?_ | (refine zC ?_; intro _ _ _ _) | (refine zS ?_; intro _ _) | (apply Ws <;> intro hg))
    refine WR.storeA (by first | exact gN | exact gS rfl) hH4 rfl rfl hml .here rfl fun H5 hH5 => ?_
    repeat' (first | refine zP ?_ | refine zA ?_ | (refine zM ?_; intro _ _) | refine zX ?_ | (refine zC ?_; intro _ _ _ _) | (refine zS ?_; intro _ _) | (apply Ws <;> intro hg))
    refine Ends.retCN1 rfl (readA hH5 (.head _) hml) rfl ⟨n0 + 1 + 1, by omega, ?_, hH5.tail.tail⟩
    simp only [keyI, ints, goodS, decide_not]
end
end Go.Proofs.Ytnmlfjohoeebiaa.Wk

/- A walk that can go on for long enough can go on for ever. -/
namespace Go.Proofs.Ytnmlfjohoeebiaa.Wk
open Go Go.Abs Go.Mth
set_option linter.unusedVariables false
theorem filter_eq {α : Type} {p q : α → Bool} : ∀ {l : List α}, (∀ a ∈ l, q a = true → p a = true) → (l.filter p).length ≤ (l.filter q).length → ∀ a ∈ l, p a = true → q a = true
  | [], _, _ => fun a ha => by cases ha
  | b :: l, h, hl => by
    have hle : ∀ {l : List α}, (∀ a ∈ l, q a = true → p a = true) → (l.filter q).length ≤ (l.filter p).length := by
      intro l
      induction l with
      | nil => intro _; simp
      | cons c l ih =>
        intro h
        have ih := ih fun a ha => h a (List.mem_cons_of_mem _ ha)
        have hc := h c (List.mem_cons_self ..)
        rw [List.filter_cons, List.filter_cons]
        cases hq : q c with
        | true => rw [hc hq]; simp only [if_true, List.length_cons]; omega
        | false =>
          rw [if_neg (by simp)]
          cases p c with
          | true => rw [if_pos rfl, List.length_cons]; omega
          | false => rw [if_neg (by simp)]; exact ih
    have h' : ∀ a ∈ l, q a = true → p a = true := fun a ha => h a (List.mem_cons_of_mem _ ha)
    have h2 := hle h'
    have hb := h b (List.mem_cons_self ..)
    rw [List.filter_cons, List.filter_cons] at hl
    intro a ha hp
    cases hq : q b with
    | true =>
      rw [hb hq, hq] at hl
      simp only [if_true, List.length_cons] at hl
      rcases List.mem_cons.1 ha with rfl | ha
      · exact hq
      · exact filter_eq h' (by omega) a ha hp
    | false =>
      cases hpb : p b with
      | true => rw [hpb, hq] at hl; simp at hl; omega
      | false =>
        rw [hpb, hq] at hl
        rcases List.mem_cons.1 ha with rfl | ha
        · rw [hpb] at hp; cases hp
        · exact filter_eq h' (by simpa using hl) a ha hp
theorem all_count : (allS 4).length = 6561 := by decide +kernel
open Classical in
theorem stab {T : List Int} (hT : TOK T) : ∃ k, k ≤ 6561 ∧ ∀ s, SOK T s → canS T k s → canS T (k + 1) s := by
  let cnt : Nat → Nat := fun k => ((allS 4).filter fun s => decide (SOK T s ∧ canS T k s)).length
  by_cases hex : ∃ k, k ≤ 6561 ∧ cnt k ≤ cnt (k + 1)
  · obtain ⟨k, hk, hc⟩ := hex
    refine ⟨k, hk, fun s hs h => ?_⟩
    have := filter_eq (p := fun s => decide (SOK T s ∧ canS T k s)) (q := fun s => decide (SOK T s ∧ canS T (k + 1) s)) (l := allS 4) (fun a _ ha => by
      rw [decide_eq_true_eq] at ha ⊢; exact ⟨ha.1, canS_less ha.2⟩) hc s (hs.mem hT) (by rw [decide_eq_true_eq]; exact ⟨hs, h⟩)
    rw [decide_eq_true_eq] at this
    exact this.2
  · exfalso
    have key : ∀ k, k ≤ 6562 → cnt k + k ≤ 6561 := by
      intro k
      induction k with
      | zero => intro _; have : cnt 0 ≤ (allS 4).length := List.length_filter_le _ _; rw [all_count] at this; omega
      | succ k ih =>
        intro hk
        have := ih (by omega)
        have h2 : ¬ cnt k ≤ cnt (k + 1) := fun h => hex ⟨k, by omega, h⟩
        omega
    have := key 6562 (Nat.le_refl _)
    omega
theorem stab_go {T : List Int} (hT : TOK T) {k : Nat} (h : ∀ s, SOK T s → canS T k s → canS T (k + 1) s) : ∀ d s, SOK T s → canS T k s → canS T (k + d) s := by
  have step : ∀ d s, SOK T s → canS T (k + d) s → canS T (k + d + 1) s := by
    intro d
    induction d with
    | zero => exact h
    | succ d ih =>
      rintro s hs ⟨j, h1, h2, h3⟩
      exact ⟨j, h1, h2, ih _ (met_ok hT hs h1 h2) h3⟩
  intro d
  induction d with
  | zero => exact fun s _ h => h
  | succ d ih => exact fun s hs h => step d s hs (ih s hs h)
theorem ever_of {T : List Int} (hT : TOK T) {s : List Int} (hs : SOK T s) (h : canS T 6561 s) : everS T s := by
  obtain ⟨k, hk, hst⟩ := stab hT
  intro n
  have := stab_go hT hst n s hs (canS_le h hk)
  exact canS_le this (by omega)
theorem more_lt {T : List Int} (hT : TOK T) {s : List Int} (hs : SOK T s) {m : Nat} (h1 : canS T m s) (h2 : ¬ canS T (m + 1) s) : m < 6561 := by
  rcases Nat.lt_or_ge m 6561 with h | h
  · exact h
  · exact absurd (ever_of hT hs (canS_le h1 h) _) h2
end Go.Proofs.Ytnmlfjohoeebiaa.Wk

/- For how many tides a walk can go on: the search. -/
namespace Go.Proofs.Ytnmlfjohoeebiaa.Wk
open Go Go.Abs Go.Mth
set_option linter.unusedVariables false
set_option linter.unusedSimpArgs false
/-- What is known: right, or under way. -/
def MInv (T : List Int) (S : List (List Int)) (m : MapI) : Prop := ∀ t r, findI m t = some r → MoreR T t r ∨ (t ∈ S ∧ r = -1)
theorem MInv.put {T : List Int} {S : List (List Int)} {m : MapI} (h : MInv T S m) (s : List Int) : MInv T (s :: S) (putI m s (-1)) := by
  intro t r hr
  rw [findI_put] at hr
  by_cases ht : t = s
  · rw [if_pos ht] at hr; cases hr; exact .inr ⟨by rw [ht]; exact List.mem_cons_self .., rfl⟩
  · rw [if_neg ht] at hr
    rcases h t r hr with h1 | ⟨h1, h2⟩
    · exact .inl h1
    · exact .inr ⟨List.mem_cons_of_mem _ h1, h2⟩
theorem MInv.ever {T s : List Int} {S : List (List Int)} {m : MapI} (h : MInv T (s :: S) m) (he : everS T s) : MInv T S m := by
  intro t r hr
  rcases h t r hr with h1 | ⟨h1, h2⟩
  · exact .inl h1
  · rcases List.mem_cons.1 h1 with rfl | h1
    · exact .inl (.inl ⟨h2, he⟩)
    · exact .inr ⟨h1, h2⟩
theorem MInv.done {T s : List Int} {S : List (List Int)} {m : MapI} (h : MInv T (s :: S) m) {q : Int} (he : MoreR T s q) : MInv T S (putI m s q) := by
  intro t r hr
  rw [findI_put] at hr
  by_cases ht : t = s
  · rw [if_pos ht] at hr; cases hr; exact .inl (ht ▸ he)
  · rw [if_neg ht] at hr
    rcases h t r hr with h1 | ⟨h1, h2⟩
    · exact .inl h1
    · rcases List.mem_cons.1 h1 with h1 | h1
      · exact absurd h1 ht
      · exact .inr ⟨h1, h2⟩
theorem SOK.bnd {T s : List Int} (hT : TOK T) (h : SOK T s) (i : Nat) (hi : i < 4) : 0 ≤ s.getD i 0 ∧ s.getD i 0 ≤ 8 := by
  rcases Nat.lt_or_ge i T.length with h1 | h1
  · have := h.lo i h1; have := h.hi i h1; have := hT.hi i h1; omega
  · rw [h.out i h1]; omega
structure MK where
  k : Nat
  q : Nat
  m : MapI
  n : Nat
attribute [local irreducible] gOK WS WC WR WD Ends FS YS OpV seqK blockK loopK midK retK rdK asgK rangeEnd sat Cell
theorem mgetS {C : CW} {L : Env} {H : Heap} {M : HL} {n b : Nat} {x y : Operand} {m : MapI} {s : List Int} {r : Int} (hx : ev L x = some (.map (some b))) (hy : ev L y = some (keyI s)) (hH : hasH M n H) (hm : (b, .map (ents m)) ∈ M) (hk : KeysN 4 m) (hs : s.length = 4) (hf : findI m s = some r) :
    OpV C (.mget 7 (.int .i64 0) x y true) L H (.tuple #[.int .i64 r, .bool true]) H := by
  have := OpV.mget (C := C) hx hy hH hm hk hs
  rwa [hf] at this
theorem mgetN {C : CW} {L : Env} {H : Heap} {M : HL} {n b : Nat} {x y : Operand} {m : MapI} {s : List Int} (hx : ev L x = some (.map (some b))) (hy : ev L y = some (keyI s)) (hH : hasH M n H) (hm : (b, .map (ents m)) ∈ M) (hk : KeysN 4 m) (hs : s.length = 4) (hf : findI m s = none) :
    OpV C (.mget 7 (.int .i64 0) x y true) L H (.tuple #[.int .i64 0, .bool false]) H := by
  have := OpV.mget (C := C) hx hy hH hm hk hs
  rwa [hf] at this
theorem more_fs {T : List Int} (hT : TOK T) : ∀ (w : Nat) {M : HL} {n0 b : Nat} {H : Heap} {v : Value} {m : MapI} {S : List (List Int)} {s : List Int}, restM m < w → hasH ((b, .map (ents m)) :: M) n0 H → Sl M 1 v (ints T) → SOK T s → KeysN 4 m → MInv T S m → (∀ t ∈ S, ReachS T t s) →
    FS C 57 [.agg [v, .map (some b)].toArray, keyI s] H (fun e H' => ∃ r m' n', e = .int .i64 r ∧ MoreR T s r ∧ n0 ≤ n' ∧ hasH ((b, .map (ents m')) :: M) n' H' ∧ KeysN 4 m' ∧ MInv T S m' ∧ (∀ t, findI m t ≠ none → findI m' t ≠ none)) := by
  intro w
  induction w with
  | zero => intro M n0 b H v m S s hw; omega
  | succ w ih =>
    intro M n0 b H v m S s hw hH hS hs hk hI hR
    have h1 := ints_one s
    have hli : (ints s).length = 4 := by simp [hs.len]
    have hv := hS.one_
    have hb1 : one (.map (some b)) = true := rfl
    refine FS.intro (pf := pf57) rfl rfl rfl ?_
    refine WC.seq ?_
    refine WC.region ?_
    refine WR.boxA (cs := [v, .map (some b)]) (by first | exact gN | exact gS rfl) rfl hH rfl (by (repeat' (first | exact all_nil | refine all_cons (by first | rfl | assumption) ?_))) fun H1 hH1 => ?_
    refine WR.boxA (cs := ints s) (by first | exact gN | exact gS rfl) rfl hH1 rfl h1 fun H2 hH2 => ?_
    repeat' (first | refine zP ?_ | refine zA ?_ | (refine zM ?_; intro _ _) | refine zX ?_ | (refine zC ?_; intro _ _ _ _) | (refine zS ?_; intro _ _) | (apply Ws <;> intro hg))
    cases hf : findI m s with
    | some r =>
      refine WR.op (by first | exact gN | exact gS rfl) rfl (mgetS rfl rfl hH2 (by first | assumption | exact .head _ | exact .tail _ (.head _) | exact .tail _ (.tail _ (.head _)) | exact .tail _ (.tail _ (.tail _ (.head _))) | exact .tail _ (.tail _ (.tail _ (.tail _ (.head _)))) | exact .tail _ (.tail _ (.tail _ (.tail _ (.tail _ (.head _))))) | exact .tail _ (.tail _ (.tail _ (.tail _ (.tail _ (.tail _ (.head _)))))) | (repeat' (first | assumption | apply List.mem_cons_of_mem))) hk hs.len hf) ?_
      repeat' (first | refine zP ?_ | refine zA ?_ | (refine zM ?_; intro _ _) | refine zX ?_ | (refine zC ?_; intro _ _ _ _) | (refine zS ?_; intro _ _) | (apply Ws <;> intro hg))
      refine Ends.ret1 rfl ⟨r, m, n0 + 1 + 1, rfl, ?_, by omega, hH2.tail.tail, hk, hI, fun _ h => h⟩
      rcases hI s r hf with h2 | ⟨h2, h3⟩
      · exact h2
      · exact .inl ⟨h3, ever_ring (hR s h2)⟩
    | none =>
      refine WR.op (by first | exact gN | exact gS rfl) rfl (mgetN rfl rfl hH2 (by first | assumption | exact .head _ | exact .tail _ (.head _) | exact .tail _ (.tail _ (.head _)) | exact .tail _ (.tail _ (.tail _ (.head _))) | exact .tail _ (.tail _ (.tail _ (.tail _ (.head _)))) | exact .tail _ (.tail _ (.tail _ (.tail _ (.tail _ (.head _))))) | exact .tail _ (.tail _ (.tail _ (.tail _ (.tail _ (.tail _ (.head _)))))) | (repeat' (first | assumption | apply List.mem_cons_of_mem))) hk hs.len hf) ?_
      repeat' (first | refine zP ?_ | refine zA ?_ | (refine zM ?_; intro _ _) | refine zX ?_ | (refine zC ?_; intro _ _ _ _) | (refine zS ?_; intro _ _) | (apply Ws <;> intro hg))
      refine WR.mput (by first | exact gN | exact gS rfl) rfl rfl rfl hH2 (.there (.there .here)) hk hs.len fun H3 hH3 => ?_
      have hw2 := rest_put (hs.mem hT) hf (-1)
      have hk2 := hk.put hs.len (-1)
      have hI2 := hI.put s
      have hm2 : ∀ t, findI m t ≠ none → findI (putI m s (-1)) t ≠ none := fun t ht => by rw [findI_put]; split; simp; exact ht
      have hin2 : findI (putI m s (-1)) s ≠ none := by rw [findI_put, if_pos rfl]; simp
      generalize putI m s (-1) = m2 at hw2 hk2 hI2 hm2 hH3 hin2
      have hS3 := ((hS.cons (p := (b, .map (ents m2)))).cons (p := (n0, .row 69 0 0 [v, .map (some b)]))).cons (p := (n0 + 1, .row 72 0 0 (ints s)))
      repeat' (first | refine zP ?_ | refine zA ?_ | (refine zM ?_; intro _ _) | refine zX ?_ | (refine zC ?_; intro _ _ _ _) | (refine zS ?_; intro _ _) | (apply Ws <;> intro hg))
      clear hS3
      refine WC.loopX [(0, .agg [v, .map (some b)].toArray), (1, keyI s), (2, .pointer (some ⟨n0, 0, some 0⟩)), (3, .pointer (some ⟨n0 + 1, 0, some 0⟩)), (4, .int .i64 0), (26, .int .i64 (T.length : Int))] (fun z : MK => [(27, .int .i64 (z.k : Int)), (7, .int .i64 (z.q : Int))]) []
        (fun z H' => z.k ≤ T.length ∧ n0 + 1 + 1 ≤ z.n ∧ hasH ((n0 + 1, .row 72 0 0 (ints s)) :: (n0, .row 69 0 0 [v, .map (some b)]) :: (b, .map (ents z.m)) :: M) z.n H' ∧ KeysN 4 z.m ∧ MInv T (s :: S) z.m ∧ (∀ t, findI m2 t ≠ none → findI z.m t ≠ none) ∧ MostR T s z.k z.q)
        (fun z => T.length - z.k) ⟨0, 0, m2, n0 + 1 + 1⟩ (by repeat' (first | exact .nil | refine .cons rfl ?_)) rfl ⟨Nat.zero_le _, Nat.le_refl _, hH3, hk2, hI2, fun _ h => h, most_zero T s⟩ ?_
      clear hH3 hk2 hI2 hH2 hH1
      rintro ⟨k, q, m3, n3⟩ H4 ⟨hk3, hn3, hH4, hk4, hI4, hm4, hq⟩
      simp only at hk3 hn3 hH4 hk4 hI4 hm4 hq
      dsimp only [List.cons_append, List.nil_append]
      have hS4 := ((hS.cons (p := (b, .map (ents m3)))).cons (p := (n0, .row 69 0 0 [v, .map (some b)]))).cons (p := (n0 + 1, .row 72 0 0 (ints s)))
      repeat' (first | refine zP ?_ | refine zA ?_ | (refine zM ?_; intro _ _) | refine zX ?_ | (refine zC ?_; intro _ _ _ _) | (refine zS ?_; intro _ _) | (apply Ws <;> intro hg))
      refine WC.condP rfl (fun hlt => ?_) (fun hlt => ?_)
      · have hk' : k < T.length := by omega
        repeat' (first | refine zP ?_ | refine zA ?_ | (refine zM ?_; intro _ _) | refine zX ?_ | (refine zC ?_; intro _ _ _ _) | (refine zS ?_; intro _ _) | (apply Ws <;> intro hg))
        have hml : (metS T s k).length = 4 := by rw [metS_len, hs.len]
        have hmi : (ints (metS T s k)).length = 4 := by simp [hml]
        refine WR.call (by first | exact gN | exact gS rfl) rfl rfl (meet_fs hH4 hS4 hT.len hs.len (hs.bnd hT) hk') ?_
        rintro _ H5 ⟨n5, hn5, rfl, hH5⟩
        clear hH4 hS4
        repeat' (first | refine zP ?_ | refine zA ?_ | (refine zM ?_; intro _ _) | refine zX ?_ | (refine zC ?_; intro _ _ _ _) | (refine zS ?_; intro _ _) | (apply Ws <;> intro hg))
        rename_i H6 hH6
        refine WR.storeA (by first | exact gN | exact gS rfl) hH6 rfl rfl hml .here rfl fun H7 hH7 => ?_
        clear hH5 hH6
        by_cases hg : goodS T.length (metS T s k)
        · rw [decide_eq_true hg]
          repeat' (first | refine zP ?_ | refine zA ?_ | (refine zM ?_; intro _ _) | refine zX ?_ | (refine zC ?_; intro _ _ _ _) | (refine zS ?_; intro _ _) | (apply Ws <;> intro hg))
          have hH8 := hH7.perm (M' := (b, .map (ents m3)) :: (n5, .row 72 0 0 (ints (metS T s k))) :: (n0 + 1, .row 72 0 0 (ints s)) :: (n0, .row 69 0 0 [v, .map (some b)]) :: M) (List.perm_middle (l₁ := [_, _, _]))
          have hst : StepS T s (metS T s k) := ⟨k, hk', rfl, hg⟩
          refine WR.call (by first | exact gN | exact gS rfl) rfl rfl (ih (S := s :: S) (s := metS T s k) (Nat.lt_of_le_of_lt (rest_le hm4) (by omega)) hH8 ((hS.cons).cons).cons (met_ok hT hs hk' hg) hk4 hI4 (fun t ht => ?_)) ?_
          · rcases List.mem_cons.1 ht with rfl | ht
            · exact .one hst
            · exact .more (hR t ht) hst
          rintro _ H9 ⟨r, m4, n9, rfl, hr, hn9, hH9, hk9, hI9, hm9⟩
          have hlow := hr.low
          have hH10 := hH9.perm (M' := (n5, .row 72 0 0 (ints (metS T s k))) :: (n0 + 1, .row 72 0 0 (ints s)) :: (n0, .row 69 0 0 [v, .map (some b)]) :: (b, .map (ents m4)) :: M) (List.perm_middle (l₁ := [_, _, _])).symm
          clear hH9 hH8 hH7
          rcases hr with ⟨rfl, he⟩ | ⟨p, rfl, hp1, hp2⟩
          · repeat' (first | refine zP ?_ | refine zA ?_ | (refine zM ?_; intro _ _) | refine zX ?_ | (refine zC ?_; intro _ _ _ _) | (refine zS ?_; intro _ _) | refine zO ?_ | (apply Ws <;> intro hg))
            exact Ends.ret1 rfl ⟨-1, m4, n9, rfl, .inl ⟨rfl, ever_step hst he⟩, by omega, hH10.tail.tail.tail, hk9, hI9.ever (ever_step hst he), fun t ht => hm9 t (hm4 t (hm2 t ht))⟩
          · have hp3 := more_lt hT (met_ok hT hs hk' hg) hp1 hp2
            have hTl := hT.len
            repeat' (first | refine zP ?_ | refine zA ?_ | (refine zM ?_; intro _ _) | refine zX ?_ | (refine zC ?_; intro _ _ _ _) | (refine zS ?_; intro _ _) | refine zO ?_ | (apply Ws <;> intro hg))
            rw [show max (q : Int) (1 + (p : Int)) = ((max q (p + 1) : Nat) : Int) by omega]
            exact Ends.loop ⟨k + 1, max q (p + 1), m4, n9⟩ (by simp only; omega) (by repeat' (first | exact .nil | refine .cons rfl ?_)) rfl ⟨hk', by simp only; omega, hH10.tail, hk9, hI9, fun t ht => hm9 t (hm4 t ht), most_good hq hk' hg hp1 hp2⟩
        · rw [decide_eq_false hg]
          have hTl := hT.len
          repeat' (first | refine zP ?_ | refine zA ?_ | (refine zM ?_; intro _ _) | refine zX ?_ | (refine zC ?_; intro _ _ _ _) | (refine zS ?_; intro _ _) | (apply Ws <;> intro hg))
          refine Ends.loop ⟨k + 1, q, m3, n5 + 1⟩ (by simp only; omega) (by repeat' (first | exact .nil | refine .cons rfl ?_)) rfl ⟨hk', by simp only; omega, hH7.tail, hk4, hI4, hm4, most_bad hq hg⟩
      · have hkn : k = T.length := by omega
        subst hkn
        have hd := most_all hq
        repeat' (first | refine zP ?_ | refine zA ?_ | (refine zM ?_; intro _ _) | refine zX ?_ | (refine zC ?_; intro _ _ _ _) | (refine zS ?_; intro _ _) | (apply Ws <;> intro hg))
        refine WR.mput (by first | exact gN | exact gS rfl) rfl rfl rfl hH4 (.there (.there .here)) hk4 hs.len fun H5 hH5 => ?_
        repeat' (first | refine zP ?_ | refine zA ?_ | (refine zM ?_; intro _ _) | refine zX ?_ | (refine zC ?_; intro _ _ _ _) | (refine zS ?_; intro _ _) | (apply Ws <;> intro hg))
        refine Ends.ret1 rfl ⟨q, putI m3 s q, n3, rfl, hd, by omega, hH5.tail.tail, hk4.put hs.len _, hI4.done hd, fun t ht => ?_⟩
        rw [findI_put]
        split
        · simp
        · exact hm4 t (hm2 t ht)
end Go.Proofs.Ytnmlfjohoeebiaa.Wk

/- Numbers are checked; what is looked for; whether a walk can go on for ever. -/
namespace Go.Proofs.Ytnmlfjohoeebiaa.Wk
open Go Go.Abs Go.Mth
set_option linter.unusedVariables false
set_option linter.unusedSimpArgs false
def numE (x : Int) : Int := if x < 1 ∨ 8 < x then 1 else 0
def errT (T : List Int) : Int := if T.length = 0 then 4 else if 4 < T.length then 3 else firstE (fun i => numE (T.getD i 0)) T.length
theorem errT_ok {T : List Int} (h : errT T = 0) : TOK T ∧ 1 ≤ T.length := by
  unfold errT at h
  split at h
  · omega
  · split at h
    · omega
    · have key : ∀ i, i < T.length → 1 ≤ T.getD i 0 ∧ T.getD i 0 ≤ 8 := by
        intro i hi
        have := firstE_zero.1 h i hi
        unfold numE at this
        split at this <;> omega
      exact ⟨⟨by omega, fun i hi => (key i hi).1, fun i hi => (key i hi).2⟩, by omega⟩
theorem errT_of {T : List Int} (h : TOK T) (h1 : 1 ≤ T.length) : errT T = 0 := by
  unfold errT
  rw [if_neg (by omega), if_neg (by have := h.len; omega)]
  refine firstE_zero.2 fun i hi => ?_
  unfold numE
  rw [if_neg]
  have := h.lo i hi; have := h.hi i hi
  omega
open Classical in
noncomputable def everB (T s : List Int) : Bool := decide (everS T s)
open Classical in
theorem everB_true {T s : List Int} : everB T s = true ↔ everS T s := by unfold everB; exact decide_eq_true_iff
theorem MoreR.everB {T s : List Int} {r : Int} (h : MoreR T s r) : decide (r = -1) = everB T s := by
  cases hb : Wk.everB T s with
  | true => exact decide_eq_true (h.ever.2 (everB_true.1 hb))
  | false => exact decide_eq_false fun e => by rw [everB_true.2 (h.ever.1 e)] at hb; cases hb
attribute [local irreducible] gOK WS WC WR WD Ends FS YS OpV seqK blockK loopK midK retK rdK asgK rangeEnd sat Cell
section
variable {M : HL} {n0 : Nat} {H : Heap} {v w : Value}
theorem Check_fs (hH : hasH M n0 H) {T : List Int} (hS : Sl M 1 v (ints T)) (hl : T.length ≤ 1000) :
    FS C 23 [v] H (fun e H' => e = .int .i64 (errT T) ∧ H' = H) := by
  refine FS.intro (pf := pf23) rfl rfl rfl ?_
  by_cases h0 : T.length = 0
  · have : errT T = 4 := by unfold errT; rw [if_pos h0]
    rw [this]
    repeat' (first | refine zP ?_ | refine zA ?_ | (refine zM ?_; intro _ _) | refine zX ?_ | (refine zC ?_; intro _ _ _ _) | (refine zS ?_; intro _ _) | refine zO ?_ | (apply Ws <;> intro hg))
    exact Ends.ret1 rfl ⟨rfl, rfl⟩
  by_cases h1 : 4 < T.length
  · have : errT T = 3 := by unfold errT; rw [if_neg h0, if_pos h1]
    rw [this]
    repeat' (first | refine zP ?_ | refine zA ?_ | (refine zM ?_; intro _ _) | refine zX ?_ | (refine zC ?_; intro _ _ _ _) | (refine zS ?_; intro _ _) | refine zO ?_ | (apply Ws <;> intro hg))
    exact Ends.ret1 rfl ⟨rfl, rfl⟩
  have hE : errT T = firstE (fun i => numE (T.getD i 0)) T.length := by unfold errT; rw [if_neg h0, if_neg h1]
  repeat' (first | refine zP ?_ | refine zA ?_ | (refine zM ?_; intro _ _) | refine zX ?_ | (refine zC ?_; intro _ _ _ _) | (refine zS ?_; intro _ _) | refine zO ?_ | (apply Ws <;> intro hg))
  refine WC.loopX [(0, _), (11, _), (12, _)] (fun k : Nat => [(13, .int .i64 (k : Int))]) [] (fun k H' => H' = H ∧ k ≤ T.length ∧ firstE (fun i => numE (T.getD i 0)) k = 0) (fun k => T.length - k) 0 (by repeat' (first | exact .nil | refine .cons rfl ?_)) rfl ⟨rfl, Nat.zero_le _, rfl⟩ ?_
  rintro k H' ⟨rfl, hk, hno⟩
  dsimp only [List.cons_append, List.nil_append]
  repeat' (first | refine zP ?_ | refine zA ?_ | (refine zM ?_; intro _ _) | refine zX ?_ | (refine zC ?_; intro _ _ _ _) | (refine zS ?_; intro _ _) | (apply Ws <;> intro hg))
  refine WC.condP rfl (fun hlt => ?_) (fun hlt => ?_)
  · have hk' : k < T.length := by omega
    by_cases h3 : T.getD k 0 < 1
    · have h4 : numE (T.getD k 0) = 1 := by unfold numE; rw [if_pos (.inl h3)]
      repeat' (first | refine zP ?_ | refine zA ?_ | (refine zM ?_; intro _ _) | refine zX ?_ | (refine zC ?_; intro _ _ _ _) | (refine zS ?_; intro _ _) | refine zO ?_ | (apply Ws <;> intro hg))
      refine Ends.ret1 rfl ⟨?_, rfl⟩
      rw [hE, firstE_at hno (by show numE _ ≠ 0; rw [h4]; decide) hk', h4]
    · by_cases h5 : 8 < T.getD k 0
      · have h4 : numE (T.getD k 0) = 1 := by unfold numE; rw [if_pos (.inr h5)]
        repeat' (first | refine zP ?_ | refine zA ?_ | (refine zM ?_; intro _ _) | refine zX ?_ | (refine zC ?_; intro _ _ _ _) | (refine zS ?_; intro _ _) | refine zO ?_ | (apply Ws <;> intro hg))
        refine Ends.ret1 rfl ⟨?_, rfl⟩
        rw [hE, firstE_at hno (by show numE _ ≠ 0; rw [h4]; decide) hk', h4]
      · have h4 : numE (T.getD k 0) = 0 := by unfold numE; rw [if_neg (by omega)]
        repeat' (first | refine zP ?_ | refine zA ?_ | (refine zM ?_; intro _ _) | refine zX ?_ | (refine zC ?_; intro _ _ _ _) | (refine zS ?_; intro _ _) | refine zO ?_ | (apply Ws <;> intro hg))
        exact Ends.loop (k + 1) (by omega) (by repeat' (first | exact .nil | refine .cons rfl ?_)) rfl ⟨rfl, hk', firstE_succ hno h4⟩
  · have hkn : k = T.length := by omega
    repeat' (first | refine zP ?_ | refine zA ?_ | (refine zM ?_; intro _ _) | refine zX ?_ | (refine zC ?_; intro _ _ _ _) | (refine zS ?_; intro _ _) | (apply Ws <;> intro hg))
    refine Ends.ret1 rfl ⟨?_, rfl⟩
    rw [hE, ← hkn, hno]
theorem look_fs (hH : hasH M n0 H) (hv : one v = true) :
    FS C 54 [v] H (fun e H' => ∃ b n', e = .agg [v, .map (some b)].toArray ∧ n0 ≤ b ∧ b < n' ∧ hasH ((b, .map (ents [])) :: M) n' H') := by
  refine FS.intro (pf := pf54) rfl rfl rfl ?_
  repeat' (first | refine zP ?_ | refine zA ?_ | (refine zM ?_; intro _ _) | refine zX ?_ | (refine zC ?_; intro _ _ _ _) | (refine zS ?_; intro _ _) | (apply Ws <;> intro hg))
  rename_i H1 hH1
  refine WR.mkM (by first | exact gN | exact gS rfl) rfl hH1 fun H2 hH2 => ?_
  repeat' (first | refine zP ?_ | refine zA ?_ | (refine zM ?_; intro _ _) | refine zX ?_ | (refine zC ?_; intro _ _ _ _) | (refine zS ?_; intro _ _) | (apply Ws <;> intro hg))
  refine WR.op (by first | exact gN | exact gS rfl) rfl (OpV.bldT (cs := [v, .map (some (n0 + 1))].toArray) rfl (by cases v <;> first | rfl | cases hv)) ?_
  refine WR.store2 (by first | exact gN | exact gS rfl) hH2 rfl rfl hv rfl (.there .here) fun H3 hH3 => ?_
  repeat' (first | refine zP ?_ | refine zA ?_ | (refine zM ?_; intro _ _) | refine zX ?_ | (refine zC ?_; intro _ _ _ _) | (refine zS ?_; intro _ _) | (apply Ws <;> intro hg))
  refine Ends.retCN (l := [v, .map (some (n0 + 1))]) rfl ?_ ⟨n0 + 1, n0 + 1 + 1, rfl, by omega, by omega, hH3.sub (.cons_cons _ (List.sublist_cons_self _ _))⟩
  have := hH3.readN (b := n0) (u := 0) (lo := 0) (o := 0) (k := 2) (.tail _ (.head _)) (.row _ _ _ _) (Nat.le_refl _) (by simp)
  simpa using this
theorem inv_nil (T : List Int) : MInv T [] [] := fun t r h => by cases h
theorem can_fs {b : Nat} {m : MapI} (hH : hasH ((b, .map (ents m)) :: M) n0 H) {T : List Int} (hS : Sl M 1 v (ints T)) (hT : TOK T) (h1 : 1 ≤ T.length) (hk : KeysN 4 m) (hI : MInv T [] m) :
    FS C 55 [.agg [v, .map (some b)].toArray] H (fun e H' => ∃ m' n', e = .bool (everB T (startS T)) ∧ n0 ≤ n' ∧ hasH ((b, .map (ents m')) :: M) n' H' ∧ KeysN 4 m' ∧ MInv T [] m') := by
  have hv := hS.one_
  have hb1 : one (.map (some b)) = true := rfl
  refine FS.intro (pf := pf55) rfl rfl rfl ?_
  repeat' (first | refine zP ?_ | refine zA ?_ | (refine zM ?_; intro _ _) | refine zX ?_ | (refine zC ?_; intro _ _ _ _) | (refine zS ?_; intro _ _) | (apply Ws <;> intro hg))
  rename_i H1 hH1
  refine WC.regionD ?_
  repeat' (first | refine zD ?_ | (refine zE ?_; intro _ _ _ _))
  refine WD.call (by first | exact gN | exact gS rfl) rfl rfl (start_fs hH1 (hS.cons.cons) hT.len h1) ?_
  rintro _ H2 ⟨n2, hn2, rfl, hH2⟩
  have hrd := hH2.readN (b := n0) (u := 0) (lo := 0) (o := 0) (k := 2) (.head _) (.row _ _ _ _) (Nat.le_refl _) (by simp)
  simp only [Nat.sub_zero, List.drop_zero] at hrd
  refine ⟨stands_cons (.inl rfl) (stands_cons (.inr (holdsN' (l := [v, .map (some b)]) hrd ?_)) stands_nil'), ?_⟩
  · simp only [sameL, hS.same, same_map, Bool.and_true]
  refine WD.toWR rfl ?_
  refine WR.call (by first | exact gN | exact gS rfl) rfl rfl (more_fs hT _ (Nat.lt_succ_self _) hH2.swap hS.cons (start_ok hT) hk hI (fun t ht => by cases ht)) ?_
  rintro _ H3 ⟨r, m', n3, rfl, hr, hn3, hH3, hk3, hI3, _⟩
  repeat' (first | refine zP ?_ | refine zA ?_ | (refine zM ?_; intro _ _) | refine zX ?_ | (refine zC ?_; intro _ _ _ _) | (refine zS ?_; intro _ _) | (apply Ws <;> intro hg))
  exact Ends.ret1 rfl ⟨m', n3, by rw [hr.everB], by omega, hH3.swap.tail, hk3, hI3⟩
end
end Go.Proofs.Ytnmlfjohoeebiaa.Wk

/- What is left after a walk, and the functions that ask for it. -/
namespace Go.Proofs.Ytnmlfjohoeebiaa.Wk
open Go Go.Abs Go.Mth
set_option linter.unusedVariables false
set_option linter.unusedSimpArgs false
/-- What is left after a walk, if it is good. -/
def goS (T : List Int) : List Int → List Int → Option (List Int)
  | s, [] => some s
  | s, x :: w => if goodS T.length (metS T s x.toNat) then goS T (metS T s x.toNat) w else none
theorem goS_snoc {T : List Int} {x : Int} : ∀ {w s : List Int}, goS T s (w ++ [x]) = (goS T s w).bind fun t => if goodS T.length (metS T t x.toNat) then some (metS T t x.toNat) else none
  | [], s => rfl
  | y :: w, s => by
    simp only [List.cons_append, goS]
    split
    · exact goS_snoc
    · rfl
/-- Numbers of stretches. -/
def WOK (n : Nat) (w : List Int) : Prop := ∀ x ∈ w, 0 ≤ x ∧ x < (n : Int)
def strE (n : Nat) (x : Int) : Int := if x < 0 ∨ (n : Int) ≤ x then 2 else 0
def walkE (n : Nat) (w : List Int) : Int := if 60 < w.length then 19 else firstE (fun i => strE n (w.getD i 0)) w.length
def leftE (T w : List Int) : Int := if errT T ≠ 0 then errT T else if walkE T.length w ≠ 0 then walkE T.length w else if goS T (startS T) w = none then 12 else 0
structure FK where
  k : Nat
  s : List Int
  n : Nat
attribute [local irreducible] gOK WS WC WR WD Ends FS YS OpV seqK blockK loopK midK retK rdK asgK rangeEnd sat Cell
section
variable {M : HL} {n0 : Nat} {H : Heap} {v w : Value}
end
end Go.Proofs.Ytnmlfjohoeebiaa.Wk

/- Can, Longest; numbers of tides by bytes; a weight. -/
namespace Go.Proofs.Ytnmlfjohoeebiaa.Wk
open Go Go.Abs Go.Mth
set_option linter.unusedVariables false
set_option linter.unusedSimpArgs false
theorem u8k : C.c.P.underlying 5 = some (.int .u8) := by kernel_rfl
theorem i64k : C.c.P.underlying 3 = some (.int .i64) := by kernel_rfl
/-- A beach's cells. -/
def trayV (a b c : Int) (hs : List Int) : List Value := (a :: b :: c :: hs).map (Value.int .u8)
def beachC (x : Nat) (ys : List Nat) : List Value := numsK .u8 (x :: ys)
theorem tray_beach {a b c : Int} {hs : List Int} (ha : 0 ≤ a ∧ a ≤ 255) (hb : 0 ≤ b ∧ b ≤ 255) (hc : 0 ≤ c ∧ c ≤ 255) (hl : hs.length = 2) (hu : ∀ x ∈ hs, 0 ≤ x ∧ x ≤ 255) :
    ∃ (x : Nat) (ys : List Nat), trayV a b c hs = beachC x ys ∧ x ≤ 255 ∧ ys.length = 4 ∧ ∀ y ∈ ys, y ≤ 255 := by
  match hs, hl, hu with
  | [d, e], _, hu =>
    have hd := hu d (by simp)
    have he := hu e (by simp)
    refine ⟨a.toNat, [b.toNat, c.toNat, d.toNat, e.toNat], ?_, by omega, rfl, ?_⟩
    · simp only [trayV, beachC, numsK, List.map_cons, List.map_nil]
      rw [Int.toNat_of_nonneg ha.1, Int.toNat_of_nonneg hb.1, Int.toNat_of_nonneg hc.1, Int.toNat_of_nonneg hd.1, Int.toNat_of_nonneg he.1]
    · intro y hy
      simp only [List.mem_cons, List.not_mem_nil, or_false] at hy
      omega
theorem beach_one (x : Nat) (ys : List Nat) : (beachC x ys).all one = true := by
  rw [List.all_eq_true]; intro q hq; obtain ⟨z, _, rfl⟩ := List.mem_map.1 hq; rfl
/-- The first so many of them, each as told. -/
def firstT (f : Nat → Nat) (ys : List Nat) (n : Nat) : List Int := (List.range n).map fun i => ((f (ys.getD i 0) : Nat) : Int)
theorem firstT_succ (f : Nat → Nat) (ys : List Nat) (n : Nat) : firstT f ys (n + 1) = firstT f ys n ++ [((f (ys.getD n 0) : Nat) : Int)] := by
  simp [firstT, List.range_succ]
theorem firstT_len (f : Nat → Nat) (ys : List Nat) (n : Nat) : (firstT f ys n).length = n := by simp [firstT]
theorem firstT_get {f : Nat → Nat} {ys : List Nat} {n i : Nat} (h : i < n) : (firstT f ys n).getD i 0 = ((f (ys.getD i 0) : Nat) : Int) := by
  rw [getD_eq (by rw [firstT_len]; exact h)]; simp [firstT]
theorem firstT_ok {f : Nat → Nat} {ys : List Nat} {n : Nat} (hn : n ≤ 4) (h : ∀ y, 1 ≤ f y ∧ f y ≤ 8) : TOK (firstT f ys n) := by
  refine ⟨by rw [firstT_len]; exact hn, fun i hi => ?_, fun i hi => ?_⟩ <;> rw [firstT_len] at hi <;> rw [firstT_get hi] <;> have := h (ys.getD i 0) <;> omega
def madeF (most y : Nat) : Nat := 1 + y % most
structure AV where
  k : Nat
  v : Value
  Mx : HL
  n : Nat
/-- A sum of one by each number, in parts of 840. -/
def sumW (T : List Int) : Int := (T.map fun t => 840 / t).sum
def weighI (T : List Int) (a b : Int) : Int := min 1 (max (-1) (sumW T * b - 840 * a))
attribute [local irreducible] gOK WS WC WR WD Ends FS YS OpV seqK blockK loopK midK retK rdK asgK rangeEnd sat Cell
section
variable {M : HL} {n0 : Nat} {H : Heap} {v w : Value}
theorem Can_fs (hH : hasH M n0 H) {T : List Int} (hS : Sl M 1 v (ints T)) (hl : T.length ≤ 1000) :
    FS C 19 [v] H (fun e H' => ∃ n', n0 ≤ n' ∧ hasH M n' H' ∧ e = .tuple #[.bool (decide (errT T = 0) && everB T (startS T)), .int .i64 (errT T)]) := by
  have hv := hS.one_
  refine FS.intro (pf := pf19) rfl rfl rfl ?_
  repeat' (first | refine zP ?_ | refine zA ?_ | (refine zM ?_; intro _ _) | refine zX ?_ | (refine zC ?_; intro _ _ _ _) | (refine zS ?_; intro _ _) | (apply Ws <;> intro hg))
  refine WR.call (by first | exact gN | exact gS rfl) rfl rfl (Check_fs hH hS hl) ?_
  rintro _ _ ⟨rfl, rfl⟩
  by_cases h0 : errT T = 0
  · obtain ⟨hT, h1⟩ := errT_ok h0
    repeat' (first | refine zP ?_ | refine zA ?_ | (refine zM ?_; intro _ _) | refine zX ?_ | (refine zC ?_; intro _ _ _ _) | (refine zS ?_; intro _ _) | refine zO ?_ | (apply Ws <;> intro hg))
    refine WR.call (by first | exact gN | exact gS rfl) rfl rfl (look_fs hH hv) ?_
    rintro _ H1 ⟨b, n1, rfl, hb, hbn, hH1⟩
    refine WR.call (by first | exact gN | exact gS rfl) rfl rfl (can_fs hH1 hS hT h1 (KeysN.nil 4) (inv_nil T)) ?_
    rintro _ H2 ⟨m', n2, rfl, hn2, hH2, _, _⟩
    repeat' (first | refine zP ?_ | refine zA ?_ | (refine zM ?_; intro _ _) | refine zX ?_ | (refine zC ?_; intro _ _ _ _) | (refine zS ?_; intro _ _) | (apply Ws <;> intro hg))
    exact Ends.ret2 rfl rfl ⟨n2, by omega, hH2.tail, by rw [h0]; rfl⟩
  · repeat' (first | refine zP ?_ | refine zA ?_ | (refine zM ?_; intro _ _) | refine zX ?_ | (refine zC ?_; intro _ _ _ _) | (refine zS ?_; intro _ _) | refine zO ?_ | (apply Ws <;> intro hg))
    exact Ends.ret2 rfl rfl ⟨n0, Nat.le_refl _, hH, by rw [decide_eq_false h0]; rfl⟩
/-- How long the longest walk is, or the error. -/
def LongR (T : List Int) (r e : Int) : Prop := (errT T ≠ 0 ∧ r = 0 ∧ e = errT T) ∨ (errT T = 0 ∧ everS T (startS T) ∧ r = 0 ∧ e = 13) ∨ (errT T = 0 ∧ e = 0 ∧ ∃ m : Nat, r = m ∧ m < 6561 ∧ canS T m (startS T) ∧ ¬ canS T (m + 1) (startS T))
theorem Longest_fs (hH : hasH M n0 H) {T : List Int} (hS : Sl M 1 v (ints T)) (hl : T.length ≤ 1000) :
    FS C 21 [v] H (fun e H' => ∃ n' r c, n0 ≤ n' ∧ hasH M n' H' ∧ e = .tuple #[.int .i64 r, .int .i64 c] ∧ LongR T r c) := by
  have hv := hS.one_
  refine FS.intro (pf := pf21) rfl rfl rfl ?_
  repeat' (first | refine zP ?_ | refine zA ?_ | (refine zM ?_; intro _ _) | refine zX ?_ | (refine zC ?_; intro _ _ _ _) | (refine zS ?_; intro _ _) | (apply Ws <;> intro hg))
  refine WR.call (by first | exact gN | exact gS rfl) rfl rfl (Check_fs hH hS hl) ?_
  rintro _ _ ⟨rfl, rfl⟩
  by_cases h0 : errT T = 0
  · obtain ⟨hT, h1⟩ := errT_ok h0
    repeat' (first | refine zP ?_ | refine zA ?_ | (refine zM ?_; intro _ _) | refine zX ?_ | (refine zC ?_; intro _ _ _ _) | (refine zS ?_; intro _ _) | refine zO ?_ | (apply Ws <;> intro hg))
    refine WR.call (by first | exact gN | exact gS rfl) rfl rfl (look_fs hH hv) ?_
    rintro _ H1 ⟨b, n1, rfl, hb, hbn, hH1⟩
    repeat' (first | refine zP ?_ | refine zA ?_ | (refine zM ?_; intro _ _) | refine zX ?_ | (refine zC ?_; intro _ _ _ _) | (refine zS ?_; intro _ _) | (apply Ws <;> intro hg))
    refine WR.call (by first | exact gN | exact gS rfl) rfl rfl (start_fs hH1 hS.cons hT.len h1) ?_
    rintro _ H2 ⟨n2, hn2, rfl, hH2⟩
    refine WR.call (by first | exact gN | exact gS rfl) rfl rfl (more_fs hT _ (Nat.lt_succ_self _) hH2 hS (start_ok hT) (KeysN.nil 4) (inv_nil T) (fun t ht => by cases ht)) ?_
    rintro _ H3 ⟨r, m', n3, rfl, hr, hn3, hH3, _, _, _⟩
    have hlow := hr.low
    rcases hr with ⟨rfl, he⟩ | ⟨p, rfl, hp1, hp2⟩
    · repeat' (first | refine zP ?_ | refine zA ?_ | (refine zM ?_; intro _ _) | refine zX ?_ | (refine zC ?_; intro _ _ _ _) | (refine zS ?_; intro _ _) | refine zO ?_ | (apply Ws <;> intro hg))
      exact Ends.ret2 rfl rfl ⟨n3, 0, 13, by omega, hH3.tail, rfl, .inr (.inl ⟨h0, he, rfl, rfl⟩)⟩
    · repeat' (first | refine zP ?_ | refine zA ?_ | (refine zM ?_; intro _ _) | refine zX ?_ | (refine zC ?_; intro _ _ _ _) | (refine zS ?_; intro _ _) | refine zO ?_ | (apply Ws <;> intro hg))
      exact Ends.ret2 rfl rfl ⟨n3, p, 0, by omega, hH3.tail, rfl, .inr (.inr ⟨h0, rfl, p, rfl, more_lt hT (start_ok hT) hp1 hp2, hp1, hp2⟩)⟩
  · repeat' (first | refine zP ?_ | refine zA ?_ | (refine zM ?_; intro _ _) | refine zX ?_ | (refine zC ?_; intro _ _ _ _) | (refine zS ?_; intro _ _) | refine zO ?_ | (apply Ws <;> intro hg))
    exact Ends.ret2 rfl rfl ⟨n0, 0, errT T, Nat.le_refl _, hH, rfl, .inl ⟨h0, rfl, rfl⟩⟩
theorem made_fs (hH : hasH M n0 H) {x : Nat} {ys : List Nat} (hx : x ≤ 255) (hl : ys.length = 4) (hy : ∀ y ∈ ys, y ≤ 255) {many most : Nat} (hm : 1 ≤ many ∧ many ≤ 4) (ho : 1 ≤ most ∧ most ≤ 8) :
    FS C 38 [.agg (beachC x ys).toArray, .int .i64 (many : Int), .int .i64 (most : Int)] H (fun e H' => ∃ Mx n', Own 3 1 e (ints (firstT (madeF most) ys (1 + x % many))) Mx ∧ n0 ≤ n' ∧ hasH (Mx ++ M) n' H') := by
  have hone := beach_one x ys
  have hbl : (beachC x ys).length = 5 := by simp [beachC, hl]
  refine FS.intro (pf := pf38) rfl rfl rfl ?_
  repeat' (first | refine zP ?_ | refine zA ?_ | (refine zM ?_; intro _ _) | refine zX ?_ | (refine zC ?_; intro _ _ _ _) | (refine zS ?_; intro _ _))
  rename_i H1 hH1
  refine WR.op (by first | exact gN | exact gS rfl) rfl (OpV.conv u8k i64k rfl (c := (x : Int)) (IntWalk.i64_in _ (by omega))) ?_
  have hmod := Nat.mod_lt x (show 0 < many by omega)
  repeat' (first | refine zP ?_ | refine zA ?_ | (refine zM ?_; intro _ _) | refine zX ?_ | (refine zC ?_; intro _ _ _ _) | (refine zS ?_; intro _ _) | (apply Ws <;> intro hg))
  rw [show (x : Int) % (many : Int) = ((x % many : Nat) : Int) by simp]
  obtain ⟨r, hr⟩ : ∃ r, x % many = r := ⟨_, rfl⟩
  rw [hr] at hmod ⊢
  repeat' (first | refine zP ?_ | refine zA ?_ | (refine zM ?_; intro _ _) | refine zX ?_ | (refine zC ?_; intro _ _ _ _) | (refine zS ?_; intro _ _) | (apply Ws <;> intro hg))
  rw [show (1 : Int) + (r : Int) = ((1 + r : Nat) : Int) by omega]
  obtain ⟨N, hN⟩ : ∃ N, 1 + r = N := ⟨_, rfl⟩
  have hN4 : 1 ≤ N ∧ N ≤ 4 := by omega
  rw [hN]
  refine WR.op (by first | exact gN | exact gS rfl) rfl (OpV.slAh rfl rfl (by omega) (by decide)) ?_
  repeat' (first | refine zP ?_ | refine zA ?_ | (refine zM ?_; intro _ _) | refine zX ?_ | (refine zC ?_; intro _ _ _ _) | (refine zS ?_; intro _ _) | (apply Ws <;> intro hg))
  refine WC.loopX [(1, _), (2, _), (3, _), (6, _), (17, _), (18, _)] (fun s : AV => [(7, s.v), (19, .int .i64 (s.k : Int))]) []
    (fun s H' => s.k ≤ N ∧ n0 + 1 ≤ s.n ∧ Own 3 1 s.v (ints (firstT (madeF most) ys s.k)) s.Mx ∧ hasH ((n0, .row 45 0 0 (beachC x ys)) :: (s.Mx ++ M)) s.n H') (fun s => N - s.k) ⟨0, .slice none 0 0, [], n0 + 1⟩ (by repeat' (first | exact .nil | refine .cons rfl ?_)) rfl
    ⟨Nat.zero_le _, Nat.le_refl _, .nil, hH1⟩ ?_
  clear hH1
  rintro ⟨k, v, Mx, n1⟩ H2 ⟨hk, hn1, hO, hH2⟩
  simp only at hk hn1 hO hH2
  dsimp only [List.cons_append, List.nil_append]
  repeat' (first | refine zP ?_ | refine zA ?_ | (refine zM ?_; intro _ _) | refine zX ?_ | (refine zC ?_; intro _ _ _ _) | (refine zS ?_; intro _ _) | (apply Ws <;> intro hg))
  refine WC.condP rfl (fun hlt => ?_) (fun hlt => ?_)
  · have hk' : k < N := by omega
    have hyk : ys.getD k 0 ≤ 255 := hy _ (getD_mem (by omega))
    have hcell : (beachC x ys)[1 + k]? = some (.int .u8 ((ys.getD k 0 : Nat) : Int)) := by
      rw [Nat.add_comm]
      simp only [beachC, numsK, List.map_cons, List.getElem?_cons_succ]
      exact nodes_get (by omega)
    repeat' (first | refine zP ?_ | refine zA ?_ | (refine zM ?_; intro _ _) | refine zX ?_ | (refine zC ?_; intro _ _ _ _) | (refine zS ?_; intro _ _) | (apply Ws <;> intro hg))
    refine WR.op (by first | exact gN | exact gS rfl) rfl (OpV.load1 rfl hH2 (.head _) (.row _ _ _ _) (Nat.zero_le _) hcell) ?_
    repeat' (first | refine zP ?_ | refine zA ?_ | (refine zM ?_; intro _ _) | refine zX ?_ | (refine zC ?_; intro _ _ _ _) | (refine zS ?_; intro _ _) | (apply Ws <;> intro hg))
    refine WR.op (by first | exact gN | exact gS rfl) rfl (OpV.conv u8k i64k rfl (c := ((ys.getD k 0 : Nat) : Int)) (IntWalk.i64_in _ (by omega))) ?_
    repeat' (first | refine zP ?_ | refine zA ?_ | (refine zM ?_; intro _ _) | refine zX ?_ | (refine zC ?_; intro _ _ _ _) | (refine zS ?_; intro _ _) | (apply Ws <;> intro hg))
    rw [show ((ys.getD k 0 : Nat) : Int) % (most : Int) = ((ys.getD k 0 % most : Nat) : Int) by simp]
    have hmm := Nat.mod_lt (ys.getD k 0) (show 0 < most by omega)
    generalize hz : ys.getD k 0 % most = z at hmm
    repeat' (first | refine zP ?_ | refine zA ?_ | (refine zM ?_; intro _ _) | refine zX ?_ | (refine zC ?_; intro _ _ _ _) | (refine zS ?_; intro _ _) | (apply Ws <;> intro hg))
    rw [show (1 : Int) + (z : Int) = ((1 + z : Nat) : Int) by omega]
    refine WR.append1F [(n0, .row 45 0 0 (beachC x ys))] Mx M rfl rfl rfl rfl hO hH2 (new := [.int .i64 ((1 + z : Nat) : Int)]) (by rfl) rfl rfl (Nat.le_refl _) (by omega) (by simp [firstT_len]; omega) fun v3 M3 n3 H6 hO3 hH6 hn3 => ?_
    repeat' (first | refine zP ?_ | refine zA ?_ | (refine zM ?_; intro _ _) | refine zX ?_ | (refine zC ?_; intro _ _ _ _) | (refine zS ?_; intro _ _) | (apply Ws <;> intro hg))
    refine Ends.loop ⟨k + 1, v3, M3, n3⟩ (by simp only; omega) (by repeat' (first | exact .nil | refine .cons rfl ?_)) rfl ⟨hk', by simp only; omega, ?_, hH6⟩
    show Own _ 1 v3 (List.map (Value.int .i64) (firstT (madeF most) ys (k + 1))) M3
    rw [firstT_succ, List.map_append, show madeF most (ys.getD k 0) = 1 + z by rw [madeF, hz]]
    exact hO3
  · have hkN : k = N := by omega
    subst hkN
    repeat' (first | refine zP ?_ | refine zA ?_ | (refine zM ?_; intro _ _) | refine zX ?_ | (refine zC ?_; intro _ _ _ _) | (refine zS ?_; intro _ _) | (apply Ws <;> intro hg))
    exact Ends.ret1 rfl ⟨Mx, n1, hO, by omega, hH2.tail⟩
end
end Go.Proofs.Ytnmlfjohoeebiaa.Wk

/- Which numbers can be walked for ever: a weight of more than 1 is too much, and for a weight of at most five sixths a plan is known. -/
namespace Go.Proofs.Ytnmlfjohoeebiaa.Wk
open Go Go.Abs Go.Mth
set_option linter.unusedVariables false
set_option linter.unusedSimpArgs false
/-! Too much. -/
def needF (T s : List Int) (N : Int) (i : Nat) : Int := (N + T.getD i 0 - s.getD i 0) / T.getD i 0
def sumF (f : Nat → Int) : Nat → Int
  | 0 => 0
  | n + 1 => sumF f n + f n
/-! Plans. -/
def consO (x : Nat) : Option (List Nat) → Option (List Nat)
  | none => none
  | some l => some (x :: l)
def metN : List Nat → List Nat → Nat → Option (List Nat)
  | t :: T, x :: s, j => bif Nat.beq j 0 then consO t (metN T s 99) else bif Nat.ble x 1 then none else consO (x - 1) (metN T s (j - 1))
  | _, _, _ => some []
def goN (T : List Nat) : List Nat → List Nat → Option (List Nat)
  | s, [] => some s
  | s, j :: p => match metN T s j with | some t => goN T t p | none => none
def sameN : List Nat → List Nat → Bool
  | [], [] => true
  | a :: l, b :: r => Nat.beq a b && sameN l r
  | _, _ => false
def ringN (T p : List Nat) : Bool := match goN T T p with
  | some s => (match goN T s p with | some r => sameN r s | none => false)
  | none => false
def sumN : List Nat → Nat
  | [] => 0
  | t :: T => 840 / t + sumN T
def inN (t : Nat) : List Nat → Bool
  | [] => false
  | a :: l => Nat.beq t a || inN t l
def famN (l : List Nat) : List Nat → Bool
  | [] => true
  | t :: T => inN t l && famN l T
def listsN : Nat → List (List Nat)
  | 0 => [[]]
  | n + 1 => ([1, 2, 3, 4, 5, 6, 7, 8].map fun t => (listsN n).map fun l => t :: l).flatten
def needN (T : List Nat) : Bool := Nat.ble (sumN T) 700 || (Nat.ble (sumN T) 840 && (famN [1, 2, 4, 8] T || famN [1, 2, 6] T || famN [1, 3, 6] T))
def plansN : Nat → List (List Nat)
  | 1 => [[0]]
  | 2 => [[0, 1]]
  | 3 => [[0, 1, 0, 2], [0, 1, 2], [0, 1, 2, 1], [0, 2, 1, 2]]
  | 4 => [[0, 1, 0, 2, 0, 1, 0, 3], [0, 1, 0, 2, 0, 3], [0, 1, 0, 2, 0, 3, 0, 2], [0, 1, 0, 3, 0, 2, 0, 3], [0, 1, 2, 0, 1, 3], [0, 1, 2, 0, 3, 2], [0, 1, 3, 0, 2, 3], [0, 1, 2, 1, 0, 1, 3, 1], [0, 1, 2, 3], [0, 2, 1, 2, 0, 2, 3, 2], [0, 3, 1, 3, 0, 3, 2, 3], [0, 1, 2, 1, 3, 1], [0, 1, 2, 3, 1, 2], [0, 1, 3, 2, 1, 3], [0, 2, 1, 2, 3, 2], [0, 2, 3, 1, 2, 3], [0, 3, 1, 3, 2, 3], [0, 1, 2, 1, 3, 1, 2, 1], [0, 1, 3, 1, 2, 1, 3, 1], [0, 2, 1, 2, 3, 2, 1, 2], [0, 3, 1, 3, 2, 3, 1, 3], [0, 2, 3, 2, 1, 2, 3, 2], [0, 3, 2, 3, 1, 3, 2, 3]]
  | _ => []
def checkN (n : Nat) : Bool := (listsN n).all fun T => !(needN T) || (plansN n).any fun p => p.all (fun j => Nat.blt j n) && ringN T p
def castN (l : List Nat) : List Int := l.map fun (x : Nat) => (x : Int)
def padN (s : List Nat) : List Int := startS (castN s)
end Go.Proofs.Ytnmlfjohoeebiaa.Wk

/- How long a stretch was not met. -/
namespace Go.Proofs.Ytnmlfjohoeebiaa.Wk
open Go Go.Abs Go.Mth
set_option linter.unusedVariables false
set_option linter.unusedSimpArgs false
/-- Tides since a stretch was met, or since the beginning. -/
def sinceK (W : List Int) (i : Nat) : Nat → Nat
  | 0 => 0
  | k + 1 => if W.getD k 0 = (i : Int) then 0 else sinceK W i k + 1
/-- No stretch is missed in the first so many tides. -/
def keptK (T W : List Int) (k : Nat) : Prop := ∀ m, m ≤ k → ∀ i, i < T.length → (sinceK W i m : Int) < T.getD i 0
/-- What is left, by what was not met. -/
def SinceS (T W s : List Int) (k : Nat) : Prop := ∀ i, i < T.length → s.getD i 0 = T.getD i 0 - (sinceK W i k : Int)
/-- A walk misses nothing. -/
def GoodW (T W : List Int) : Prop := ∀ i, i < T.length → ∀ f, f + (T.getD i 0).toNat ≤ W.length → (i : Int) ∈ (W.drop f).take (T.getD i 0).toNat
end Go.Proofs.Ytnmlfjohoeebiaa.Wk

/- Left, Goes, and what the laws say of walks. -/
namespace Go.Abs
set_option linter.unusedSectionVars false
variable [Globs]
open Go
section
variable {C : CW} {nt : Nat} {L : Env} {D : List Nat} {H : Heap} {K : St → Prop} {M M' : HL} {n i d : Nat} {gd : Option (Tmp × Bool)} {lo' : List Nat} {l : List POp}
end
end Go.Abs
namespace Go.Proofs.Ytnmlfjohoeebiaa.Wk
open Go Go.Abs Go.Mth
set_option linter.unusedVariables false
set_option linter.unusedSimpArgs false
open Classical in
noncomputable def goodB (T W : List Int) : Bool := decide (GoodW T W)
/-- What the law says is left. -/
def lawLeft (T W : List Int) (k : Nat) : List Int := (List.range 4).map fun i => if i < k then T.getD i 0 - (sinceK W i W.length : Int) else 0
attribute [local irreducible] gOK WS WC WR WD Ends FS YS OpV seqK blockK loopK midK retK rdK asgK rangeEnd sat Cell
section
variable {M : HL} {n0 : Nat} {H : Heap} {v w : Value}
end
end Go.Proofs.Ytnmlfjohoeebiaa.Wk

/- The first walk that goes on for ever, tide by tide. -/
namespace Go.Proofs.Ytnmlfjohoeebiaa.Wk
open Go Go.Abs Go.Mth
set_option linter.unusedVariables false
set_option linter.unusedSimpArgs false
def okJ (T s : List Int) (j : Nat) : Prop := goodS T.length (metS T s j) ∧ everS T (metS T s j)
/-- The first stretch after which a walk can go on for ever. -/
structure NextR (T s : List Int) (j : Nat) : Prop where
  lt : j < T.length
  ok : okJ T s j
  no : ∀ i, i < j → ¬ okJ T s i
theorem NextR.one {T s : List Int} {i j : Nat} (h : NextR T s i) (k : NextR T s j) : i = j := by
  rcases Nat.lt_trichotomy i j with h1 | h1 | h1
  · exact absurd h.ok (k.no i h1)
  · exact h1
  · exact absurd k.ok (h.no j h1)
/-- A walk of first stretches. -/
inductive WalkR (T : List Int) (s : List Int) : List Int → List Int → Prop where
  | nil : WalkR T s [] s
  | snoc {W : List Int} {t : List Int} {j : Nat} (h : WalkR T s W t) (k : NextR T t j) : WalkR T s (W ++ [(j : Int)]) (metS T t j)
theorem WalkR.one {T s : List Int} : ∀ {W U t u : List Int}, W.length = U.length → WalkR T s W t → WalkR T s U u → W = U ∧ t = u := by
  intro W U t u hl h
  induction h generalizing U u with
  | nil =>
    intro k
    cases k with
    | nil => exact ⟨rfl, rfl⟩
    | snoc => simp at hl
  | @snoc W t j h hj ih =>
    intro k
    cases k with
    | nil => simp at hl
    | @snoc U u i k hi =>
      obtain ⟨rfl, rfl⟩ := ih (by simpa using hl) k
      have := hj.one hi
      subst this
      exact ⟨rfl, rfl⟩
theorem WalkR.go {T s W t : List Int} (h : WalkR T s W t) : goS T s W = some t ∧ WOK T.length W := by
  induction h with
  | nil => exact ⟨rfl, fun x hx => by cases hx⟩
  | @snoc W t j h hj ih =>
    refine ⟨?_, fun x hx => ?_⟩
    · rw [goS_snoc, ih.1, Option.bind_some, Int.toNat_natCast, if_pos hj.ok.1]
    · rcases List.mem_append.1 hx with hx | hx
      · exact ih.2 x hx
      · have := hj.lt
        rw [List.mem_singleton] at hx
        omega
theorem WalkR.ever {T s W t : List Int} (h : WalkR T s W t) (he : everS T s) : everS T t := by
  cases h with
  | nil => exact he
  | snoc h hj => exact hj.ok.2
structure NK where
  k : Nat
  m : MapI
  n : Nat
attribute [local irreducible] gOK WS WC WR WD Ends FS YS OpV seqK blockK loopK midK retK rdK asgK rangeEnd sat Cell
section
variable {M : HL} {n0 : Nat} {H : Heap} {v w : Value}
structure WV where
  k : Nat
  v : Value
  W : List Int
  t : List Int
  Mx : HL
  m : MapI
  n : Nat
noncomputable def wlkE (T : List Int) (many : Int) : Int := if errT T ≠ 0 then errT T else if many < 0 ∨ 60 < many then 1 else if everB T (startS T) = false then 12 else 0
end
end Go.Proofs.Ytnmlfjohoeebiaa.Wk

/- Rows of elements of several cells each. -/
namespace Go.Abs
set_option linter.unusedSectionVars false
variable [Globs]
open Go Go.Mth
set_option linter.unusedVariables false
def cellsF {α : Type} (F : α → List Value) (l : List α) : List Value := (l.map F).flatten
section
variable {α : Type} {F : α → List Value} {K : Nat}
theorem cellsF_len (hF : ∀ a, (F a).length = K) : ∀ l : List α, (cellsF F l).length = l.length * K
  | [] => by simp [cellsF]
  | a :: l => by
    have := cellsF_len hF l
    simp only [cellsF, List.map_cons, List.flatten_cons, List.length_append, List.length_cons, hF] at this ⊢
    rw [this, Nat.succ_mul]; omega
theorem cellsF_drop (hF : ∀ a, (F a).length = K) : ∀ (l : List α) (m : Nat), (cellsF F l).drop (m * K) = cellsF F (l.drop m)
  | l, 0 => by simp
  | [], m + 1 => by simp [cellsF]
  | a :: l, m + 1 => by
    have := cellsF_drop hF l m
    simp only [cellsF, List.map_cons, List.flatten_cons, List.drop_succ_cons] at this ⊢
    rw [← this, Nat.succ_mul, Nat.add_comm, ← List.drop_drop, List.drop_left' (hF a)]
theorem cellsF_at (hF : ∀ a, (F a).length = K) {l : List α} {m : Nat} (h : m < l.length) : ((cellsF F l).drop (m * K)).take K = F l[m] := by
  rw [cellsF_drop hF, List.drop_eq_getElem_cons h]
  simp only [cellsF, List.map_cons, List.flatten_cons]
  exact List.take_left' (hF _)
/-- Several cells, one behind another. -/
def KCell (M : HL) (b o u : Nat) (vs : List Value) : Prop := ∃ ch lo cs, (b, ch) ∈ M ∧ ch.cellsAre u lo cs ∧ lo ≤ o ∧ o - lo + vs.length ≤ cs.length ∧ (cs.drop (o - lo)).take vs.length = vs
theorem KCell.at {M : HL} {b o u j : Nat} {vs : List Value} {v : Value} (h : KCell M b o u vs) (hv : vs[j]? = some v) : Cell M b (o + j) u v := by
  obtain ⟨ch, lo, cs, h1, h2, h3, h4, h5⟩ := h
  have hj : j < vs.length := (List.getElem?_eq_some_iff.1 hv).1
  refine ⟨ch, lo, cs, h1, h2, by omega, ?_⟩
  rw [← h5, List.getElem?_take_of_lt hj, List.getElem?_drop] at hv
  rw [← hv]; congr 1; omega
theorem KCell.mono {M M' : HL} {b o u : Nat} {vs : List Value} (h : KCell M b o u vs) (k : ∀ p ∈ M, p ∈ M') : KCell M' b o u vs := by
  obtain ⟨ch, lo, cs, h1, h2⟩ := h
  exact ⟨ch, lo, cs, k _ h1, h2⟩
theorem Sl.lenK {M : HL} {v : Value} {l : List α} (hF : ∀ a, (F a).length = K) (hK : 1 ≤ K) (h : Sl M K v (cellsF F l)) : ∃ a c, v = .slice a l.length c := by
  have hl := cellsF_len hF l
  generalize cellsF F l = cs at h hl
  have h0 : ∀ {n : Nat}, n * K = 0 → n = 0 := fun {n} h => by rcases Nat.mul_eq_zero.1 h with h | h <;> omega
  cases h with
  | nil c => have := h0 (n := l.length) (by simp at hl; omega)
             exact ⟨none, c, by rw [this]⟩
  | emp a => have := h0 (n := l.length) (by simp at hl; omega)
             exact ⟨some a, _, by rw [this]⟩
  | row hm hcl hlo hln hv hin hcap =>
    rename_i b o u lo len cap ch cs'
    have : l.length = len := Nat.eq_of_mul_eq_mul_right hK (by omega)
    exact ⟨_, _, by rw [this]⟩
end
section
variable {C : CW} {nt : Nat} {L : Env} {D : List Nat} {H : Heap} {K : St → Prop} {M M' : HL} {n i d : Nat} {gd : Option (Tmp × Bool)} {lo : List Nat} {l : List POp} {rs : List Rd}
variable {α : Type} {F : α → List Value} {z : Nat}
theorem OpV.lenK {x : Operand} {v : Value} {ps : List α} (hF : ∀ a, (F a).length = z) (hz : 1 ≤ z) (hx : ev L x = some v) (hS : Sl M z v (cellsF F ps)) : OpV C (.len x) L H (.int .i64 (ps.length : Int)) H := by
  obtain ⟨a, c, rfl⟩ := hS.lenK hF hz
  exact OpV.len hx
theorem OpV.idxK {x ix : Operand} {kd : IntKind} {m : Nat} {v : Value} {ps : List α} (hF : ∀ a, (F a).length = z) (hz : 1 ≤ z) (hx : ev L x = some v) (hS : Sl M z v (cellsF F ps)) (hi : ev L ix = some (.int kd (m : Int))) (hm : m < ps.length) :
    ∃ b o u, OpV C (.idxS x ix z) L H (.pointer (some ⟨b, o, some u⟩)) H ∧ KCell M b o u (F ps[m]) := by
  have hg := cellsF_at hF hm
  have hl := cellsF_len hF ps
  generalize cellsF F ps = cs at hS hg hl
  have hm1 : m * z + z ≤ ps.length * z := by
    have := Nat.mul_le_mul_right z (show m + 1 ≤ ps.length by omega)
    rwa [Nat.succ_mul] at this
  cases hS with
  | nil c =>
    have h : ps.length * z = 0 := by simp only [List.length_nil] at hl; omega
    rcases Nat.mul_eq_zero.1 h with h | h <;> omega
  | emp a =>
    have h : ps.length * z = 0 := by simp only [List.length_nil] at hl; omega
    rcases Nat.mul_eq_zero.1 h with h | h <;> omega
  | row hm2 hc hlo hln hv hin hp =>
    rename_i b o u lo' len cap ch cs'
    have hlen : ps.length = len := Nat.eq_of_mul_eq_mul_right hz (by omega)
    refine ⟨b, o + m * z, u, OpV.idxS hx hi rfl (by omega) rfl, ch, lo', cs', hm2, hc, by omega, by rw [hF]; omega, ?_⟩
    rw [hF, ← hg, ← hv, List.drop_take, List.take_take, List.drop_drop, show o + m * z - lo' = o - lo' + m * z by omega, Nat.min_eq_left (by omega)]
theorem WR.idxK {x ix : Operand} {kd : IntKind} {m : Nat} {v : Value} {ps : List α} (hF : ∀ a, (F a).length = z) (hz : 1 ≤ z) (hg : gOK L gd) (hd : Nat.blt d nt = true) (hx : ev L x = some v) (hS : Sl M z v (cellsF F ps)) (hi : ev L ix = some (.int kd (m : Int))) (hm : m < ps.length)
    (k : ∀ b o u, KCell M b o u (F ps[m]) → WR C nt l ((d, .pointer (some ⟨b, o, some u⟩)) :: L) D H K) : WR C nt (⟨i, some d, .idxS x ix z, gd, lo⟩ :: l) L D H K := by
  obtain ⟨b, o, u, h1, h2⟩ := OpV.idxK (C := C) (H := H) hF hz hx hS hi hm
  exact WR.op hg hd h1 (k b o u h2)
theorem OpV.loadK {x : Operand} {b o u k : Nat} {vs : List Value} (hx : ev L x = some (.pointer (some ⟨b, o, some u⟩))) (hP : KCell M b o u vs) (hH : hasH M n H) (hk : vs.length = k) : OpV C (.loadN x k) L H (.agg vs.toArray) H := by
  obtain ⟨ch, lo', cs, h1, h2, h3, h4, h5⟩ := hP
  subst hk
  exact OpV.loadN hx hH h1 h2 h3 h4 h5
end
end Go.Abs

/- The mathematics of the law's search: all that can be left, by numbers; and its helpers. -/
namespace Go.Proofs.Ytnmlfjohoeebiaa.Wk
open Go Go.Abs Go.Mth
set_option linter.unusedVariables false
set_option linter.unusedSimpArgs false
abbrev St4 := {s : List Int // s.length = 4}
def F4 (a : St4) : List Value := ints a.1
theorem F4_len (a : St4) : (F4 a).length = 4 := by simp [F4, a.2]
theorem F4_one (a : St4) : (F4 a).all one = true := ints_one a.1
theorem fill4 : ∀ {s : List Int}, s.length = 4 → Instr.fill (fun j => some (j * 4, 4)) [Value.int .i64 0, .int .i64 0, .int .i64 0, .int .i64 0].toArray [(0, keyI s)] = some (ints s).toArray
  | [a, b, c, d], _ => rfl
/-- What was found: each with its number. -/
structure Bfs (T : List Int) (A : List St4) (m : MapI) : Prop where
  ok : ∀ i (h : i < A.length), SOK T (A[i]).1
  num : ∀ i (h : i < A.length), findI m (A[i]).1 = some (i : Int)
  inv : ∀ s r, findI m s = some r → ∃ i, ∃ h : i < A.length, r = (i : Int) ∧ (A[i]).1 = s
  cnt : A.length + restM m ≤ 6561
  keys : KeysN 4 m
  first : ∃ h : 0 < A.length, (A[0]).1 = startS T
theorem rest_nil : restM [] = 6561 := by
  unfold restM
  have : (allS 4).filter (fun s => (findI [] s).isNone) = allS 4 := List.filter_eq_self.2 fun a _ => rfl
  rw [this, all_count]
theorem bfs_one {T : List Int} (hT : TOK T) : Bfs T [⟨startS T, startS_len hT.len⟩] [(startS T, 0)] where
  ok i h := by have : i = 0 := by simpa using h
               subst this; exact start_ok hT
  num i h := by have : i = 0 := by simpa using h
                subst this; simp [findI]
  inv s r h := by
    simp only [findI] at h
    split at h
    · rename_i e; cases h; exact ⟨0, by simp, rfl, e⟩
    · cases h
  cnt := by
    have := rest_put (m := []) (s := startS T) ((start_ok hT).mem hT) rfl 0
    rw [rest_nil] at this
    simp only [List.length_singleton, putI] at this ⊢
    omega
  keys p hp := by rw [List.mem_singleton] at hp; subst hp; exact startS_len hT.len
  first := ⟨by simp, rfl⟩
theorem bfs_more {T : List Int} (hT : TOK T) {A : List St4} {m : MapI} (h : Bfs T A m) {a : St4} (ha : SOK T a.1) (hn : findI m a.1 = none) : Bfs T (A ++ [a]) (putI m a.1 (A.length : Int)) where
  ok i hi := by
    by_cases e : i < A.length
    · rw [List.getElem_append_left e]; exact h.ok i e
    · have : i = A.length := by simp at hi; omega
      subst this; simpa using ha
  num i hi := by
    rw [findI_put]
    by_cases e : i < A.length
    · rw [List.getElem_append_left e, if_neg, h.num i e]
      intro e2; rw [← e2, h.num i e] at hn; cases hn
    · have : i = A.length := by simp at hi; omega
      subst this; simp
  inv s r hs := by
    rw [findI_put] at hs
    split at hs
    · rename_i e; cases hs; exact ⟨A.length, by simp, rfl, by simp [e]⟩
    · obtain ⟨i, hi, h1, h2⟩ := h.inv s r hs
      exact ⟨i, by simp; omega, h1, by rw [List.getElem_append_left hi]; exact h2⟩
  cnt := by
    have := rest_put (m := m) (ha.mem hT) hn (A.length : Int)
    have := h.cnt
    simp only [List.length_append, List.length_singleton]
    omega
  keys := h.keys.put ha.len _
  first := by
    obtain ⟨h0, h1⟩ := h.first
    exact ⟨by simp, by rw [List.getElem_append_left h0]; exact h1⟩
/-- What comes behind something, by the first stretches. -/
structure SuccR (T : List Int) (A : List St4) (s : List Int) (k : Nat) (own : List Int) : Prop where
  sound : ∀ x ∈ own, ∃ i j, ∃ h : i < A.length, x = (i : Int) ∧ j < k ∧ goodS T.length (metS T s j) ∧ (A[i]).1 = metS T s j
  full : ∀ j, j < k → goodS T.length (metS T s j) → ∃ i, ∃ h : i < A.length, (i : Int) ∈ own ∧ (A[i]).1 = metS T s j
theorem succ_nil (T : List Int) (A : List St4) (s : List Int) : SuccR T A s 0 [] := ⟨fun x hx => (by cases hx), fun j hj => absurd hj (Nat.not_lt_zero _)⟩
theorem SuccR.mono {T : List Int} {A : List St4} {s : List Int} {k : Nat} {own : List Int} (h : SuccR T A s k own) (X : List St4) : SuccR T (A ++ X) s k own where
  sound x hx := by
    obtain ⟨i, j, hi, h1, h2, h3, h4⟩ := h.sound x hx
    exact ⟨i, j, by simp; omega, h1, h2, h3, by rw [List.getElem_append_left hi]; exact h4⟩
  full j hj hg := by
    obtain ⟨i, hi, h1, h2⟩ := h.full j hj hg
    exact ⟨i, by simp; omega, h1, by rw [List.getElem_append_left hi]; exact h2⟩
theorem SuccR.bad {T : List Int} {A : List St4} {s : List Int} {k : Nat} {own : List Int} (h : SuccR T A s k own) (hb : ¬ goodS T.length (metS T s k)) : SuccR T A s (k + 1) own where
  sound x hx := by
    obtain ⟨i, j, hi, h1, h2, h3, h4⟩ := h.sound x hx
    exact ⟨i, j, hi, h1, by omega, h3, h4⟩
  full j hj hg := by
    rcases Nat.lt_or_ge j k with h1 | h1
    · exact h.full j h1 hg
    · rw [show j = k by omega] at hg; exact absurd hg hb
theorem SuccR.good {T : List Int} {A : List St4} {s : List Int} {k : Nat} {own : List Int} (h : SuccR T A s k own) (hb : goodS T.length (metS T s k)) {i : Nat} (hi : i < A.length) (he : (A[i]).1 = metS T s k) : SuccR T A s (k + 1) (own ++ [(i : Int)]) where
  sound x hx := by
    rcases List.mem_append.1 hx with hx | hx
    · obtain ⟨i, j, hi, h1, h2, h3, h4⟩ := h.sound x hx
      exact ⟨i, j, hi, h1, by omega, h3, h4⟩
    · rw [List.mem_singleton] at hx
      exact ⟨i, k, hi, hx, by omega, hb, he⟩
  full j hj hg := by
    rcases Nat.lt_or_ge j k with h1 | h1
    · obtain ⟨i, hi, h2, h3⟩ := h.full j h1 hg
      exact ⟨i, hi, List.mem_append_left _ h2, h3⟩
    · have : j = k := by omega
      subst this
      exact ⟨i, hi, by simp, he⟩
def BehR (T : List Int) (A : List St4) (B : List (List Int)) : Prop := ∀ i (h : i < A.length), i < B.length → SuccR T A (A[i]).1 T.length (B.getD i [])
theorem BehR.mono {T : List Int} {A : List St4} {B : List (List Int)} (h : BehR T A B) (hl : B.length ≤ A.length) (X : List St4) : BehR T (A ++ X) B := fun i hi hb => by
  rw [List.getElem_append_left (show i < A.length by omega)]
  exact (h i (by omega) hb).mono X
theorem BehR.snoc {T : List Int} {A : List St4} {B : List (List Int)} {own : List Int} (h : BehR T A B) (hl : B.length < A.length) (hn : SuccR T A (A[B.length]).1 T.length own) : BehR T A (B ++ [own]) := fun i hi hb => by
  by_cases e : i < B.length
  · rw [getD_app_l e]; exact h i hi e
  · have : i = B.length := by simp at hb; omega
    subst this
    rw [getD_snoc]; exact hn
open Classical in
/-- What is gone after so many rounds. -/
noncomputable def goneB (T : List Int) (k : Nat) (s : List Int) : Bool := !decide (canS T k s)
theorem goneB_false {T : List Int} {k : Nat} {s : List Int} : goneB T k s = false ↔ canS T k s := by unfold goneB; simp
theorem goneB_true {T : List Int} {k : Nat} {s : List Int} : goneB T k s = true ↔ ¬ canS T k s := by unfold goneB; simp
def GoneR (T : List Int) (A : List St4) (k : Nat) (G : List Bool) : Prop := G.length = A.length ∧ ∀ i (h : i < A.length), G.getD i false = goneB T k (A[i]).1
theorem gone_next {T : List Int} {A : List St4} {B : List (List Int)} {k : Nat} {G : List Bool} (hB : BehR T A B) (hG : GoneR T A k G) {i : Nat} (hi : i < A.length) (hb : i < B.length) :
    (!((B.getD i []).any fun x => !(G.getD x.toNat false))) = goneB T (k + 1) (A[i]).1 := by
  have hS := hB i hi hb
  cases hg : goneB T (k + 1) (A[i]).1 with
  | false =>
    obtain ⟨j, h1, h2, h3⟩ := goneB_false.1 hg
    obtain ⟨p, hp, h4, h5⟩ := hS.full j h1 h2
    rw [Bool.not_eq_false', List.any_eq_true]
    refine ⟨(p : Int), h4, ?_⟩
    rw [Int.toNat_natCast, hG.2 p hp, h5, goneB_false.2 h3]; rfl
  | true =>
    rw [Bool.not_eq_true', List.any_eq_false]
    intro x hx
    obtain ⟨p, j, hp, rfl, h1, h2, h3⟩ := hS.sound x hx
    rw [Int.toNat_natCast, hG.2 p hp, h3]
    cases h4 : goneB T k (metS T (A[i]).1 j) with
    | true => simp
    | false => exact absurd ⟨j, h1, h2, goneB_false.1 h4⟩ (goneB_true.1 hg)
/-- Nothing more goes: what is there goes on for ever. -/
theorem gone_stop {T : List Int} {A : List St4} {B : List (List Int)} {m : MapI} {k : Nat} (hA : Bfs T A m) (hB : BehR T A B) (hl : B.length = A.length) (h : ∀ i (h : i < A.length), goneB T (k + 1) (A[i]).1 = goneB T k (A[i]).1) (h0 : canS T k (startS T)) : everS T (startS T) := by
  have key : ∀ d i (hi : i < A.length), canS T k (A[i]).1 → canS T (k + d) (A[i]).1 := by
    intro d
    induction d with
    | zero => exact fun i hi hc => hc
    | succ d ih =>
      intro i hi hc
      have h1 : canS T (k + 1) (A[i]).1 := by rw [← goneB_false, h i hi, goneB_false]; exact hc
      obtain ⟨j, h2, h3, h4⟩ := h1
      obtain ⟨p, hp, _, h5⟩ := (hB i hi (by omega)).full j h2 h3
      rw [← h5] at h4
      have := ih p hp h4
      rw [h5] at this
      exact ⟨j, h2, h3, this⟩
  obtain ⟨h1, h2⟩ := hA.first
  intro n
  have := key n 0 h1 (by rw [h2]; exact h0)
  rw [h2] at this
  exact canS_le this (by omega)
theorem bools_one (l : List Bool) : (bools l).all one = true := by
  rw [List.all_eq_true]; intro q hq; obtain ⟨z, _, rfl⟩ := List.mem_map.1 hq; rfl
theorem neqB : ∀ a b : Bool, pureRun C.c.P (binOp .neq 4 (.bool a) (.bool b)) = some (.bool (a != b)) := by
  intro a b
  cases a <;> cases b <;> kernel_rfl
attribute [local irreducible] gOK WS WC WR WD Ends FS YS OpV seqK blockK loopK midK retK rdK asgK rangeEnd sat Cell
section
variable {M : HL} {n0 : Nat} {H : Heap} {v w : Value}
theorem IndexFunc_fs {g : FuncId} {vb : List Value} {P : Int → Bool} {ns : List Int} (hH : hasH M n0 H) (hS : Sl M 1 v (ints ns)) (hl : ns.length ≤ 1000)
    (hy : ∀ c ∈ ns, FS C g ([] ++ [.int .i64 c] ++ vb) H (fun e H' => e = .bool (P c) ∧ H' = H)) :
    FS C 86 [v, .func (.func g) [].toArray vb.toArray] H (fun e H' => (∃ r : Int, e = .int .i64 r ∧ (0 ≤ r ↔ ns.any P = true)) ∧ H' = H) := by
  refine FS.intro (pf := pf86) rfl rfl rfl ?_
  repeat' (first | refine zP ?_ | refine zA ?_ | (refine zM ?_; intro _ _) | refine zX ?_ | (refine zC ?_; intro _ _ _ _) | (refine zS ?_; intro _ _) | (apply Ws <;> intro hg))
  refine WC.loopX [(0, _), (1, _), (7, _)] (fun s : Nat => [(8, .int .i64 (s : Int))]) [] (fun s H' => H' = H ∧ s ≤ ns.length ∧ ∀ i, i < s → P (ns.getD i 0) = false) (fun s => ns.length - s) 0 (by repeat' (first | exact .nil | refine .cons rfl ?_)) rfl ⟨rfl, Nat.zero_le _, fun i h => absurd h (Nat.not_lt_zero _)⟩ ?_
  rintro s _ ⟨rfl, hs, hno⟩
  dsimp only [List.cons_append, List.nil_append]
  repeat' (first | refine zP ?_ | refine zA ?_ | (refine zM ?_; intro _ _) | refine zX ?_ | (refine zC ?_; intro _ _ _ _) | (refine zS ?_; intro _ _) | (apply Ws <;> intro hg))
  refine WC.condP rfl (fun hlt => ?_) (fun hlt => ?_)
  · have hs' : s < ns.length := by omega
    repeat' (first | refine zP ?_ | refine zA ?_ | (refine zM ?_; intro _ _) | refine zX ?_ | (refine zC ?_; intro _ _ _ _) | (refine zS ?_; intro _ _) | (apply Ws <;> intro hg))
    refine WR.callV (by first | exact gN | exact gS rfl) rfl rfl rfl (hy _ (getD_mem hs')) ?_
    rintro _ _ ⟨rfl, rfl⟩
    cases hP : P (ns.getD s 0) with
    | true =>
      repeat' (first | refine zP ?_ | refine zA ?_ | (refine zM ?_; intro _ _) | refine zX ?_ | (refine zC ?_; intro _ _ _ _) | (refine zS ?_; intro _ _) | (apply Ws <;> intro hg))
      refine Ends.ret1 rfl ⟨⟨_, rfl, ?_⟩, rfl⟩
      exact ⟨fun _ => List.any_eq_true.2 ⟨_, getD_mem hs', hP⟩, fun _ => by omega⟩
    | false =>
      repeat' (first | refine zP ?_ | refine zA ?_ | (refine zM ?_; intro _ _) | refine zX ?_ | (refine zC ?_; intro _ _ _ _) | (refine zS ?_; intro _ _) | (apply Ws <;> intro hg))
      refine Ends.loop (s + 1) (by omega) (by repeat' (first | exact .nil | refine .cons rfl ?_)) rfl ⟨rfl, hs', fun i hi => ?_⟩
      by_cases h : i = s
      · rw [h]; exact hP
      · exact hno i (by omega)
  have hsl : ns.length = s := by omega
  subst hsl
  repeat' (first | refine zP ?_ | refine zA ?_ | (refine zM ?_; intro _ _) | refine zX ?_ | (refine zC ?_; intro _ _ _ _) | (refine zS ?_; intro _ _) | (apply Ws <;> intro hg))
  refine Ends.ret1 rfl ⟨⟨_, rfl, ?_⟩, rfl⟩
  refine ⟨fun h => absurd h (by decide), fun h => ?_⟩
  obtain ⟨x, hx, hx2⟩ := List.any_eq_true.1 h
  obtain ⟨i, hi, rfl⟩ := List.mem_iff_getElem.1 hx
  have := hno i hi
  rw [getD_eq hi, hx2] at this
  cases this
theorem ContainsFunc_fs {g : FuncId} {vb : List Value} {P : Int → Bool} {ns : List Int} (hH : hasH M n0 H) (hS : Sl M 1 v (ints ns)) (hl : ns.length ≤ 1000)
    (hy : ∀ c ∈ ns, FS C g ([] ++ [.int .i64 c] ++ vb) H (fun e H' => e = .bool (P c) ∧ H' = H)) :
    FS C 76 [v, .func (.func g) [].toArray vb.toArray] H (fun e H' => e = .bool (ns.any P) ∧ H' = H) := by
  refine FS.intro (pf := pf76) rfl rfl rfl ?_
  repeat' (first | refine zP ?_ | refine zA ?_ | (refine zM ?_; intro _ _) | refine zX ?_ | (refine zC ?_; intro _ _ _ _) | (refine zS ?_; intro _ _) | (apply Ws <;> intro hg))
  refine WR.call (by first | exact gN | exact gS rfl) rfl rfl (IndexFunc_fs hH hS hl hy) ?_
  rintro _ _ ⟨⟨r, rfl, hr⟩, rfl⟩
  repeat' (first | refine zP ?_ | refine zA ?_ | (refine zM ?_; intro _ _) | refine zX ?_ | (refine zC ?_; intro _ _ _ _) | (refine zS ?_; intro _ _) | (apply Ws <;> intro hg))
  refine Ends.ret1 rfl ⟨?_, rfl⟩
  congr 1
  cases ha : ns.any P with
  | true => exact decide_eq_true (hr.2 ha)
  | false => exact decide_eq_false fun h => by rw [hr.1 h] at ha; cases ha
/-- Is it still there? -/
theorem there_fs {p : Nat} {gv : Value} {G : List Bool} (hH : hasH M n0 H) (hm : (p, Ch.row 60 0 0 [gv]) ∈ M) (hS : Sl M 1 gv (bools G)) {c : Int} (hc : 0 ≤ c ∧ c < (G.length : Int)) :
    FS C 77 ([] ++ [.int .i64 c] ++ [.pointer (some ⟨p, 0, some 0⟩)]) H (fun e H' => e = .bool (!(G.getD c.toNat false)) ∧ H' = H) := by
  obtain ⟨k, rfl⟩ : ∃ k : Nat, c = k := ⟨c.toNat, by omega⟩
  refine FS.intro (pf := pf77) rfl rfl rfl ?_
  repeat' (first | refine zP ?_ | refine zA ?_ | (refine zM ?_; intro _ _) | refine zX ?_ | (refine zC ?_; intro _ _ _ _) | (refine zS ?_; intro _ _) | (apply Ws <;> intro hg))
  exact Ends.ret1 rfl ⟨rfl, rfl⟩
theorem EqualB_fs (hH : hasH M n0 H) {xs ys : List Bool} (hS : Sl M 1 v (bools xs)) (hU : Sl M 1 w (bools ys)) (hx : xs.length ≤ 10000) (hy : ys.length ≤ 10000) :
    FS C 78 [v, w] H (fun e H' => e = .bool (decide (xs = ys)) ∧ H' = H) := by
  refine FS.intro (pf := pf78) rfl rfl rfl ?_
  repeat' (first | refine zP ?_ | refine zA ?_ | (refine zM ?_; intro _ _) | refine zX ?_ | (refine zC ?_; intro _ _ _ _) | (refine zS ?_; intro _ _) | (apply Ws <;> intro hg))
  refine WC.condP rfl (fun hne => ?_) (fun hne => ?_)
  · repeat' (first | refine zP ?_ | refine zA ?_ | (refine zM ?_; intro _ _) | refine zX ?_ | (refine zC ?_; intro _ _ _ _) | (refine zS ?_; intro _ _) | (apply Ws <;> intro hg))
    exact Ends.ret1 rfl ⟨by rw [decide_eq_false (fun h => hne (by rw [h]))], rfl⟩
  have hle : xs.length = ys.length := by omega
  repeat' (first | refine zP ?_ | refine zA ?_ | (refine zM ?_; intro _ _) | refine zX ?_ | (refine zC ?_; intro _ _ _ _) | (refine zS ?_; intro _ _) | (apply Ws <;> intro hg))
  refine WC.loopX [(0, _), (1, _), (12, _)] (fun k : Nat => [(13, .int .i64 (k : Int))]) [] (fun k H' => H' = H ∧ k ≤ xs.length ∧ ∀ j, j < k → xs.getD j false = ys.getD j false) (fun k => xs.length - k) 0 (by repeat' (first | exact .nil | refine .cons rfl ?_)) rfl ⟨rfl, Nat.zero_le _, fun j h => absurd h (Nat.not_lt_zero _)⟩ ?_
  rintro k H' ⟨rfl, hk, hno⟩
  dsimp only [List.cons_append, List.nil_append]
  repeat' (first | refine zP ?_ | refine zA ?_ | (refine zM ?_; intro _ _) | refine zX ?_ | (refine zC ?_; intro _ _ _ _) | (refine zS ?_; intro _ _) | (apply Ws <;> intro hg))
  refine WC.condP rfl (fun hlt => ?_) (fun hlt => ?_)
  · have hk' : k < xs.length := by omega
    have hk2 : k < ys.length := by omega
    repeat' (first | refine zP ?_ | refine zA ?_ | (refine zM ?_; intro _ _) | refine zX ?_ | (refine zC ?_; intro _ _ _ _) | (refine zS ?_; intro _ _) | (apply Ws <;> intro hg))
    refine WR.op (by first | exact gN | exact gS rfl) rfl (OpV.neB (neqB _ _) rfl rfl) ?_
    by_cases he : xs.getD k false = ys.getD k false
    · rw [show (xs.getD k false != ys.getD k false) = false by simpa using he]
      repeat' (first | refine zP ?_ | refine zA ?_ | (refine zM ?_; intro _ _) | refine zX ?_ | (refine zC ?_; intro _ _ _ _) | (refine zS ?_; intro _ _) | (apply Ws <;> intro hg))
      refine Ends.loop (k + 1) (by omega) (by repeat' (first | exact .nil | refine .cons rfl ?_)) rfl ⟨rfl, hk', fun j hj => ?_⟩
      rcases Nat.lt_or_ge j k with h | h
      · exact hno j h
      · have : j = k := by omega
        subst this; exact he
    · rw [show (xs.getD k false != ys.getD k false) = true by simpa using he]
      repeat' (first | refine zP ?_ | refine zA ?_ | (refine zM ?_; intro _ _) | refine zX ?_ | (refine zC ?_; intro _ _ _ _) | (refine zS ?_; intro _ _) | (apply Ws <;> intro hg))
      exact Ends.ret1 rfl ⟨by rw [decide_eq_false (fun h => he (by rw [h]))], rfl⟩
  · repeat' (first | refine zP ?_ | refine zA ?_ | (refine zM ?_; intro _ _) | refine zX ?_ | (refine zC ?_; intro _ _ _ _) | (refine zS ?_; intro _ _) | (apply Ws <;> intro hg))
    exact Ends.ret1 rfl ⟨by rw [decide_eq_true (ext_getD (a := false) hle fun i hi => hno i (by omega))], rfl⟩
theorem CloneB_fs (hH : hasH M n0 H) {xs : List Bool} (hS : Sl M 1 v (bools xs)) (hx : xs.length ≤ 10000) (h0 : 1 ≤ xs.length) :
    FS C 75 [v] H (fun e H' => ∃ b n', e = .slice (some ⟨b, 0, some 0⟩) xs.length (2 * 1) ∧ n0 ≤ n' ∧ hasH ((b, .row 4 0 0 (bools xs)) :: M) n' H') := by
  have hne : bools xs ≠ [] := fun h => by have h9 := congrArg List.length h; rw [List.length_map, List.length_nil] at h9; omega
  have hsm : ∃ a len cap, v = .slice (some a) len cap := by
    generalize bools xs = cs at hS hne
    cases hS with
    | nil c => exact absurd rfl hne
    | emp a => exact ⟨_, _, _, rfl⟩
    | row => exact ⟨_, _, _, rfl⟩
  obtain ⟨a, len, cap, rfl⟩ := hsm
  refine FS.intro (pf := pf75) rfl rfl rfl ?_
  repeat' (first | refine zP ?_ | refine zA ?_ | (refine zM ?_; intro _ _) | refine zX ?_ | (refine zC ?_; intro _ _ _ _) | (refine zS ?_; intro _ _) | (apply Ws <;> intro hg))
  refine WR.bldS (by first | exact gN | exact gS rfl) rfl hH (vs := []) rfl (cs := []) (by rfl) rfl fun H3 hH3 => ?_
  repeat' (first | refine zP ?_ | refine zA ?_ | (refine zM ?_; intro _ _) | refine zX ?_ | (refine zC ?_; intro _ _ _ _) | (refine zS ?_; intro _ _) | (apply Ws <;> intro hg))
  obtain ⟨hk, hsr⟩ := (hS.cons (p := (n0, .row 4 0 0 []))).src hH3 hne
  rw [show (bools xs).length = xs.length by simp] at hk
  refine WR.appendNew (by first | exact gN | exact gS rfl) rfl rfl rfl hH3 (.head _) (.row _ _ _ _) (Nat.zero_le _) (Nat.zero_le _) hk (by have := hsr _ (Nat.le_refl _); rw [List.take_length, show (bools xs).length = xs.length by simp] at this; exact this) (by simp) h0 (bools_one _) (by omega) (by omega) (by omega) fun H' hH' => ?_
  repeat' (first | refine zP ?_ | refine zA ?_ | (refine zM ?_; intro _ _) | refine zX ?_ | (refine zC ?_; intro _ _ _ _) | (refine zS ?_; intro _ _) | (apply Ws <;> intro hg))
  exact Ends.ret1 rfl ⟨n0 + 1, n0 + 2, rfl, by omega, hH'.sub (.cons_cons _ (List.sublist_cons_self _ _))⟩
end
end Go.Proofs.Ytnmlfjohoeebiaa.Wk
