/- Texts of the law, joined. -/
import Derived.Test.YtaipmdhnhffckaaJ1
import Derived.Test.YtaipmdhnhffckaaSymK
import Derived.Test.YtaipmdhnhffckaaSymG
import Derived.Test.YtaipmdhnhffckaaSymR
/- What the program's functions on shares come to. -/
namespace Go.Abs
variable [Globs]
end Go.Abs
namespace Go.Proofs.Ytaipmdhnhffckaa.Sh
open Go Go.Abs Go.Mth
set_option linter.unusedVariables false
set_option linter.unusedSimpArgs false
abbrev u64s (l : List Nat) : List Value := numsK .u64 l
theorem lt_pow {s k : Nat} (h : s < 2 ^ k) (hk : k ≤ 62) : s < 2 ^ 62 := Nat.lt_of_lt_of_le h (Nat.pow_le_pow_right (by omega) hk)
/-- Values: a slice of slices of numbers. -/
def RowsN (M : HL) (ws : List Value) (vs : List (List Nat)) : Prop := ws.length = vs.length ∧ ∀ i, i < vs.length → Sl M 1 (ws.getD i undef) (nodes (vs.getD i []))
theorem RowsN.mono {M M' : HL} {ws : List Value} {vs : List (List Nat)} (h : RowsN M ws vs) (k : ∀ p ∈ M, p ∈ M') : RowsN M' ws vs := ⟨h.1, fun i hi => (h.2 i hi).mono k⟩
theorem RowsN.cons {M : HL} {p : Nat × Ch} {ws : List Value} {vs : List (List Nat)} (h : RowsN M ws vs) : RowsN (p :: M) ws vs := h.mono fun q hq => List.mem_cons_of_mem _ hq
structure ValsN (M : HL) (v : Value) (vs : List (List Nat)) : Prop where
  ex : ∃ ws, Sl M 1 v ws ∧ RowsN M ws vs
theorem ValsN.mono {M M' : HL} {v : Value} {vs : List (List Nat)} (h : ValsN M v vs) (k : ∀ p ∈ M, p ∈ M') : ValsN M' v vs := by
  obtain ⟨ws, h1, h2⟩ := h.ex
  exact ⟨ws, h1.mono k, h2.mono k⟩
theorem ValsN.cons {M : HL} {p : Nat × Ch} {v : Value} {vs : List (List Nat)} (h : ValsN M v vs) : ValsN (p :: M) v vs := h.mono fun q hq => List.mem_cons_of_mem _ hq
theorem ValsN.one_ {M : HL} {v : Value} {vs : List (List Nat)} (h : ValsN M v vs) : one v = true := by obtain ⟨ws, h1, _⟩ := h.ex; exact h1.one_
theorem map_getD {α β : Type} {g : α → β} {l : List α} {i : Nat} {a : α} {b : β} (h : i < l.length) : (l.map g).getD i b = g (l.getD i a) := by
  rw [getD_eq (by simpa using h), List.getElem_map, getD_eq h]
theorem ValsN.rows {M : HL} {v : Value} {vs : List (List Nat)} (h : ValsN M v vs) : RowsI M v (vs.map fun l => l.map fun (x : Nat) => (x : Int)) := by
  obtain ⟨ws, h1, h2, h3⟩ := h.ex
  refine ⟨ws, h1, by rw [h2, List.length_map], fun i hi => ?_⟩
  rw [List.length_map] at hi
  rw [map_getD hi, ← nodesI]
  exact h3 i hi
theorem RowsI.vals {M : HL} {v : Value} {vs : List (List Nat)} (h : RowsI M v (vs.map fun l => l.map fun (x : Nat) => (x : Int))) : ValsN M v vs := by
  obtain ⟨ws, h1, h2, h3⟩ := h
  rw [List.length_map] at h2
  refine ⟨ws, h1, h2, fun i hi => ?_⟩
  have := h3 i (by simpa using hi)
  rwa [map_getD hi, ← nodesI] at this
/-- What is left of a share, one thing taken out. -/
def lessN (s j : Nat) : Nat := s ^^^ (s &&& 2 ^ j)
def restsTo (s k : Nat) : List Nat := ((List.range k).filter fun j => s.testBit j).map (lessN s)
attribute [local irreducible] gOK WS WC WR WD Ends FS YS OpV seqK blockK loopK midK retK rdK asgK rangeEnd sat Cell

theorem only_fs {j : Nat} (hj : j ≤ 62) (H : Heap) : FS C 112 [.int .i64 (j : Int)] H (fun e H' => e = .int .u64 ((2 ^ j : Nat) : Int) ∧ H' = H) := by
  have hp : 2 ^ j < 2 ^ 64 := Nat.pow_lt_pow_right (by omega) (by omega)
  refine FS.intro (pf := pf112) rfl rfl rfl ?_
  repeat' (first | refine zP ?_ | refine zA ?_ | (refine zM ?_; intro _ _) | refine zX ?_ | (refine zC ?_; intro _ _ _ _) | (refine zS ?_; intro _ _) | (apply Ws <;> intro hg))
  refine WR.op (by first | exact gN | exact gS rfl) rfl (OpV.shl1 rfl rfl (by show j ≤ 64; omega) hp) ?_
  repeat' (first | refine zP ?_ | refine zA ?_ | (refine zM ?_; intro _ _) | refine zX ?_ | (refine zC ?_; intro _ _ _ _) | (refine zS ?_; intro _ _) | (apply Ws <;> intro hg))
  exact Ends.ret1 rfl ⟨rfl, rfl⟩
theorem has_fs {s j : Nat} (hs : s < 2 ^ 62) (hj : j ≤ 61) (H : Heap) : FS C 104 [.int .u64 (s : Int), .int .i64 (j : Int)] H (fun e H' => e = .bool (s.testBit j) ∧ H' = H) := by
  refine FS.intro (pf := pf104) rfl rfl rfl ?_
  repeat' (first | refine zP ?_ | refine zA ?_ | (refine zM ?_; intro _ _) | refine zX ?_ | (refine zC ?_; intro _ _ _ _) | (refine zS ?_; intro _ _) | (apply Ws <;> intro hg))
  refine WR.call (by first | exact gN | exact gS rfl) rfl rfl (only_fs (by omega) _) ?_
  rintro _ H1 ⟨rfl, rfl⟩
  repeat' (first | refine zP ?_ | refine zA ?_ | (refine zM ?_; intro _ _) | refine zX ?_ | (refine zC ?_; intro _ _ _ _) | (refine zS ?_; intro _ _) | (apply Ws <;> intro hg))
  refine WR.op (by first | exact gN | exact gS rfl) rfl (OpV.andN rfl rfl (by show s < 2 ^ 64; omega) (by show 2 ^ j < 2 ^ 64; exact Nat.pow_lt_pow_right (by omega) (by omega))) ?_
  repeat' (first | refine zP ?_ | refine zA ?_ | (refine zM ?_; intro _ _) | refine zX ?_ | (refine zC ?_; intro _ _ _ _) | (refine zS ?_; intro _ _) | (apply Ws <;> intro hg))
  refine Ends.ret1 rfl ⟨?_, rfl⟩
  congr 1
  rw [Bool.eq_iff_iff, decide_eq_true_eq, and_pow_ne]

section
variable {M : HL} {n0 : Nat} {H : Heap} {v w : Value}
end
end Go.Proofs.Ytaipmdhnhffckaa.Sh

namespace Go.Proofs.Ytaipmdhnhffckaa.Sh
open Go Go.Abs Go.Mth
set_option linter.unusedVariables false
set_option linter.unusedSimpArgs false
/-- A function that answers a question about each share. -/
def AskQ (M : HL) (g : FuncId) (va vb : List Value) (V : Nat → Value) (S : Nat → Prop) : Prop :=
  ∀ {X : HL} {n : Nat} {H : Heap} {s : Nat}, (∀ q ∈ M, q ∈ X) → hasH X n H → S s → FS C g (va ++ [.int .u64 (s : Int)] ++ vb) H (fun e H' => e = V s ∧ ∃ n', n ≤ n' ∧ hasH X n' H')
structure KB where
  k : Nat
  l : List Bool
  n : Nat
structure KI where
  k : Nat
  l : List Int
  n : Nat
structure KV where
  k : Nat
  v : Value
  Mx : HL
  n : Nat
theorem rep_u64s (n : Nat) : (List.replicate n [Value.int .u64 0]).flatten = u64s (List.replicate n 0) := by
  induction n with
  | zero => rfl
  | succ n ih => simp [List.replicate_succ, ih]
theorem Sl.mkd {M : HL} {n e k : Nat} {cs : List Value} (h : cs.length = k) : Sl ((n, .row e 0 0 cs) :: M) 1 (.slice (some ⟨n, 0, some 0⟩) k (2 * k + 1)) cs := by
  subst h
  exact .row (lo := 0) (.head _) (.row _ _ _ _) (Nat.le_refl _) (by omega) (by rw [Nat.sub_self, List.drop_zero, List.take_length]) (by simp) (.inr ⟨_, rfl, Nat.le_refl _⟩)
attribute [local irreducible] gOK WS WC WR WD Ends FS YS OpV seqK blockK loopK midK retK rdK asgK rangeEnd sat Cell

section
variable {M : HL} {n0 : Nat} {H : Heap} {v w : Value}
end
end Go.Proofs.Ytaipmdhnhffckaa.Sh

namespace Go.Proofs.Ytaipmdhnhffckaa.Sh
open Go Go.Abs Go.Mth
set_option linter.unusedVariables false
set_option linter.unusedSimpArgs false
abbrev IL (l : List Nat) : List Int := l.map fun (x : Nat) => (x : Int)
abbrev ILL (vs : List (List Nat)) : List (List Int) := vs.map fun l => l.map fun (x : Nat) => (x : Int)
def belowB (n : Int) (xs : List Int) : Bool := xs.all fun x => decide (0 ≤ x) && decide (x < n)
/-- The error of values. -/
def rowE (m : Nat) (l : List Int) : Int := if l.length = m then (if belowB 21 l = true then 0 else 1) else 5
def valsE (fs : List (List Int)) : Int := if fs.length = 0 then 4 else if 4 < fs.length ∨ 6 < (fs.getD 0 []).length then 3 else firstE (fun i => rowE (fs.getD 0 []).length (fs.getD i [])) fs.length
/-- The error of values and a division. -/
def divE (fs : List (List Int)) (o : List Int) : Int := if valsE fs ≠ 0 then valsE fs else if o.length ≠ (fs.getD 0 []).length then 5 else if belowB (fs.length : Int) o = true then 0 else 2
theorem belowB_iff {n : Int} {xs : List Int} : belowB n xs = true ↔ ∀ x ∈ xs, 0 ≤ x ∧ x < n := by simp [belowB]
theorem vals_ok {fs : List (List Int)} (h : valsE fs = 0) : ∃ vs n m, fs = ILL vs ∧ OKV vs n m := by
  unfold valsE at h
  split at h
  · cases h
  · rename_i h0
    split at h
    · cases h
    · rename_i h1
      have h2 : ∀ i, i < fs.length → (fs.getD i []).length = (fs.getD 0 []).length ∧ ∀ x ∈ fs.getD i [], 0 ≤ x ∧ x < 21 := fun i hi => by
        have := firstE_zero.1 h i hi
        unfold rowE at this
        split at this
        · rename_i h3
          split at this
          · rename_i h4; exact ⟨h3, belowB_iff.1 h4⟩
          · cases this
        · cases this
      have h5 : ∀ l ∈ fs, l.length = (fs.getD 0 []).length ∧ ∀ x ∈ l, 0 ≤ x ∧ x < 21 := fun l hl => by
        obtain ⟨i, hi, rfl⟩ := List.mem_iff_getElem.1 hl
        have := h2 i hi
        rwa [getD_eq (l := fs) (k := i) hi] at this
      refine ⟨fs.map fun l => l.map Int.toNat, fs.length, (fs.getD 0 []).length, ?_, ⟨by simp, by omega, by omega, by omega, fun l hl => ?_, fun l hl x hx => ?_⟩⟩
      · rw [ILL, List.map_map]
        have : fs.map ((fun l : List Nat => l.map fun (x : Nat) => (x : Int)) ∘ fun l : List Int => l.map Int.toNat) = fs.map id := List.map_congr_left fun l hl => by
          show (l.map Int.toNat).map _ = l
          rw [List.map_map]
          have : l.map ((fun (x : Nat) => (x : Int)) ∘ Int.toNat) = l.map id := List.map_congr_left fun x hx => by have := ((h5 l hl).2 x hx).1; simp; omega
          rw [this, List.map_id]
        rw [this, List.map_id]
      · obtain ⟨k, hk, rfl⟩ := List.mem_map.1 hl
        rw [List.length_map]; exact (h5 k hk).1
      · obtain ⟨k, hk, rfl⟩ := List.mem_map.1 hl
        obtain ⟨y, hy, rfl⟩ := List.mem_map.1 hx
        have := (h5 k hk).2 y hy
        omega
theorem vals_intro {vs : List (List Nat)} {n m : Nat} (h : OKV vs n m) : valsE (ILL vs) = 0 := by
  have hl : (ILL vs).length = n := by simp [h.len]
  have hg : ∀ i, i < n → (ILL vs).getD i [] = IL (vs.getD i []) := fun i hi => map_getD (by rw [h.len]; exact hi)
  have h0 := h.pos
  have h4 := h.n4
  have h6 := h.m6
  have hr : ∀ i, i < n → ((ILL vs).getD i []).length = m := fun i hi => by rw [hg i hi, List.length_map, h.rowLen hi]
  unfold valsE
  rw [if_neg (by omega), if_neg (by have := hr 0 (by omega); omega), firstE_zero]
  intro i hi
  rw [hl] at hi
  unfold rowE
  rw [hr i hi, hr 0 (by omega), if_pos rfl, if_pos]
  refine belowB_iff.2 fun x hx => ?_
  rw [hg i hi] at hx
  obtain ⟨y, hy, rfl⟩ := List.mem_map.1 hx
  have := h.rowBd hi y hy
  omega
/-- A division of m things among n finders. -/
structure OKD (o : List Int) (n m : Nat) : Prop where
  len : o.length = m
  bd : ∀ x ∈ o, 0 ≤ x ∧ x < (n : Int)
theorem shr_snoc {o : List Int} {w : Int} {j : Nat} : shr (o ++ [w]) j = if w = (j : Int) then shr o j ||| 2 ^ o.length else shr o j := by
  refine Nat.eq_of_testBit_eq fun i => ?_
  have h1 := @shr_bit (o ++ [w]) j i
  have h2 := @shr_bit o j i
  rw [List.length_append, List.length_singleton] at h1
  rw [Bool.eq_iff_iff, h1]
  have hg : ∀ k, k < o.length → (o ++ [w]).getD k (-1) = o.getD k (-1) := fun k hk => getD_app_l hk
  by_cases hi : i < o.length
  · rw [hg i hi]
    have e1 : i < o.length + 1 := by omega
    split
    · rw [Nat.testBit_or, Bool.or_eq_true, h2, Nat.testBit_two_pow, decide_eq_true_eq]
      constructor
      · rintro ⟨_, h⟩; exact .inl ⟨hi, h⟩
      · rintro (⟨_, h⟩ | h)
        · exact ⟨e1, h⟩
        · omega
    · rw [h2]; exact ⟨fun ⟨_, h⟩ => ⟨hi, h⟩, fun ⟨_, h⟩ => ⟨e1, h⟩⟩
  · by_cases he : i = o.length
    · subst he
      rw [getD_snoc]
      split
      · rename_i h; rw [Nat.testBit_or, Nat.testBit_two_pow]; simp [h]
      · rename_i h; rw [h2]; simp [h]
    · split
      · rw [Nat.testBit_or, Bool.or_eq_true, h2, Nat.testBit_two_pow, decide_eq_true_eq]
        constructor
        · rintro ⟨h, _⟩; omega
        · rintro (⟨h, _⟩ | h) <;> omega
      · rw [h2]
        constructor
        · rintro ⟨h, _⟩; omega
        · rintro ⟨h, _⟩; omega
theorem shs_snoc {n : Nat} {o : List Int} {w : Nat} (hw : w < n) : shs n (o ++ [(w : Int)]) = (shs n o).set w ((shs n o).getD w 0 ||| 2 ^ o.length) := by
  refine ext_getD (a := 0) (by simp [shs]) fun i hi => ?_
  rw [shs_len] at hi
  rw [shs_get _ hi, getD_set' (by rw [shs_len]; exact hw), shr_snoc, shs_get _ hw, shs_get _ hi]
  by_cases h : i = w
  · subst h; rw [if_pos rfl, if_pos rfl]
  · rw [if_neg h, if_neg (by omega)]
theorem shs_nil (n : Nat) : shs n [] = List.replicate n 0 := by
  refine ext_getD (a := 0) (by simp [shs]) fun i hi => ?_
  rw [shs_len] at hi
  rw [shs_get _ hi, getD_eq (by simpa using hi), List.getElem_replicate]; rfl
theorem same_sl (a : Addr) (k c : Nat) : same1 (.slice (some a) k c) (.slice (some a) k c) = true := by simp [same1, same0, sameAddr_refl]
theorem take_snoc {o : List Int} {k : Nat} (h : k < o.length) : o.take (k + 1) = o.take k ++ [o.getD k 0] := by rw [getD_eq h, List.take_succ_eq_append_getElem h]
theorem shs_lt {n : Nat} {o : List Int} {m : Nat} (h : o.length ≤ m) : ∀ s ∈ shs n o, s < 2 ^ m := fun s hs => by
  obtain ⟨j, _, rfl⟩ := List.mem_map.1 hs
  exact Nat.lt_of_lt_of_le (shr_lt o j) (Nat.pow_le_pow_right (by omega) h)
attribute [local irreducible] gOK WS WC WR WD Ends FS YS OpV seqK blockK loopK midK retK rdK asgK rangeEnd sat Cell

section
variable {M : HL} {n0 : Nat} {H : Heap} {v w : Value}
theorem below_fs (hH : hasH M n0 H) {xs : List Int} (hS : Sl M 1 v (ints xs)) (hl : xs.length ≤ 1000) (n : Int) :
    FS C 83 [.int .i64 n, v] H (fun e H' => e = .bool (belowB n xs) ∧ H' = H) := by
  refine FS.intro (pf := pf83) rfl rfl rfl ?_
  repeat' (first | refine zP ?_ | refine zA ?_ | (refine zM ?_; intro _ _) | refine zX ?_ | (refine zC ?_; intro _ _ _ _) | (refine zS ?_; intro _ _) | (apply Ws <;> intro hg))
  refine WC.loopX [(0, _), (7, _), (8, _)] (fun k : Nat => [(9, .int .i64 (k : Int))]) [] (fun k H' => H' = H ∧ k ≤ xs.length ∧ ∀ j, j < k → 0 ≤ xs.getD j 0 ∧ xs.getD j 0 < n) (fun k => xs.length - k) 0 (by repeat' (first | exact .nil | refine .cons rfl ?_)) rfl ⟨rfl, Nat.zero_le _, fun j h => absurd h (Nat.not_lt_zero _)⟩ ?_
  rintro k H' ⟨rfl, hk, hno⟩
  dsimp only [List.cons_append, List.nil_append]
  repeat' (first | refine zP ?_ | refine zA ?_ | (refine zM ?_; intro _ _) | refine zX ?_ | (refine zC ?_; intro _ _ _ _) | (refine zS ?_; intro _ _) | (apply Ws <;> intro hg))
  refine WC.condP rfl (fun hlt => ?_) (fun hlt => ?_)
  · have hk' : k < xs.length := by omega
    by_cases h1 : 0 ≤ xs.getD k 0 ∧ xs.getD k 0 < n
    · repeat' (first | refine zP ?_ | refine zA ?_ | (refine zM ?_; intro _ _) | refine zX ?_ | (refine zC ?_; intro _ _ _ _) | (refine zS ?_; intro _ _) | refine zO ?_ | (apply Ws <;> intro hg))
      refine Ends.loop (k + 1) (by omega) (by repeat' (first | exact .nil | refine .cons rfl ?_)) rfl ⟨rfl, hk', fun j hj => ?_⟩
      rcases Nat.lt_or_ge j k with h3 | h3
      · exact hno j h3
      · have : j = k := by omega
        subst this; exact h1
    · have hf : belowB n xs = false := by
        cases h : belowB n xs with
        | false => rfl
        | true => exact absurd (belowB_iff.1 h _ (getD_mem hk')) h1
      by_cases h2 : xs.getD k 0 < 0
      · repeat' (first | refine zP ?_ | refine zA ?_ | (refine zM ?_; intro _ _) | refine zX ?_ | (refine zC ?_; intro _ _ _ _) | (refine zS ?_; intro _ _) | refine zO ?_ | (apply Ws <;> intro hg))
        exact Ends.ret1 rfl ⟨by rw [hf], rfl⟩
      · repeat' (first | refine zP ?_ | refine zA ?_ | (refine zM ?_; intro _ _) | refine zX ?_ | (refine zC ?_; intro _ _ _ _) | (refine zS ?_; intro _ _) | refine zO ?_ | (apply Ws <;> intro hg))
        exact Ends.ret1 rfl ⟨by rw [hf], rfl⟩
  · repeat' (first | refine zP ?_ | refine zA ?_ | (refine zM ?_; intro _ _) | refine zX ?_ | (refine zC ?_; intro _ _ _ _) | (refine zS ?_; intro _ _) | (apply Ws <;> intro hg))
    refine Ends.ret1 rfl ⟨?_, rfl⟩
    have : belowB n xs = true := belowB_iff.2 fun x hx => by
      obtain ⟨i, hi, rfl⟩ := List.mem_iff_getElem.1 hx
      have := hno i (by omega)
      rwa [getD_eq hi] at this
    rw [this]

theorem Check_fs (hH : hasH M n0 H) {fs : List (List Int)} (hR : RowsI M v fs) (hl : fs.length ≤ 1000) (hll : ∀ l ∈ fs, l.length ≤ 1000) :
    FS C 27 [v] H (fun e H' => e = .int .i64 (valsE fs) ∧ H' = H) := by
  obtain ⟨ws, hW, hwl, hws⟩ := hR
  refine FS.intro (pf := pf27) rfl rfl rfl ?_
  by_cases h0 : fs.length = 0
  · have : valsE fs = 4 := by unfold valsE; rw [if_pos h0]
    rw [this]
    repeat' (first | refine zP ?_ | refine zA ?_ | (refine zM ?_; intro _ _) | refine zX ?_ | (refine zC ?_; intro _ _ _ _) | (refine zS ?_; intro _ _) | refine zO ?_ | (apply Ws <;> intro hg))
    exact Ends.ret1 rfl ⟨rfl, rfl⟩
  have hr0 := hws 0 (by omega)
  by_cases h1 : 4 < fs.length
  · have : valsE fs = 3 := by unfold valsE; rw [if_neg h0, if_pos (.inl h1)]
    rw [this]
    repeat' (first | refine zP ?_ | refine zA ?_ | (refine zM ?_; intro _ _) | refine zX ?_ | (refine zC ?_; intro _ _ _ _) | (refine zS ?_; intro _ _) | refine zO ?_ | (apply Ws <;> intro hg))
    exact Ends.ret1 rfl ⟨rfl, rfl⟩
  by_cases h2 : 6 < (fs.getD 0 []).length
  · have : valsE fs = 3 := by unfold valsE; rw [if_neg h0, if_pos (.inr h2)]
    rw [this]
    repeat' (first | refine zP ?_ | refine zA ?_ | (refine zM ?_; intro _ _) | refine zX ?_ | (refine zC ?_; intro _ _ _ _) | (refine zS ?_; intro _ _) | refine zO ?_ | (apply Ws <;> intro hg))
    exact Ends.ret1 rfl ⟨rfl, rfl⟩
  have hE : valsE fs = firstE (fun i => rowE (fs.getD 0 []).length (fs.getD i [])) fs.length := by unfold valsE; rw [if_neg h0, if_neg (by omega)]
  repeat' (first | refine zP ?_ | refine zA ?_ | (refine zM ?_; intro _ _) | refine zX ?_ | (refine zC ?_; intro _ _ _ _) | (refine zS ?_; intro _ _) | refine zO ?_ | (apply Ws <;> intro hg))
  refine WC.loopX [(0, _), (18, _), (19, _)] (fun k : Nat => [(20, .int .i64 (k : Int))]) [] (fun k H' => H' = H ∧ k ≤ fs.length ∧ firstE (fun i => rowE (fs.getD 0 []).length (fs.getD i [])) k = 0) (fun k => fs.length - k) 0 (by repeat' (first | exact .nil | refine .cons rfl ?_)) rfl ⟨rfl, Nat.zero_le _, rfl⟩ ?_
  rintro k H' ⟨rfl, hk, hno⟩
  dsimp only [List.cons_append, List.nil_append]
  repeat' (first | refine zP ?_ | refine zA ?_ | (refine zM ?_; intro _ _) | refine zX ?_ | (refine zC ?_; intro _ _ _ _) | (refine zS ?_; intro _ _) | (apply Ws <;> intro hg))
  refine WC.condP rfl (fun hlt => ?_) (fun hlt => ?_)
  · have hk' : k < fs.length := by omega
    have hrk := hws k hk'
    have hlk := hll _ (getD_mem (a := []) hk')
    by_cases h3 : (fs.getD k []).length = (fs.getD 0 []).length
    · repeat' (first | refine zP ?_ | refine zA ?_ | (refine zM ?_; intro _ _) | refine zX ?_ | (refine zC ?_; intro _ _ _ _) | (refine zS ?_; intro _ _) | refine zO ?_ | (apply Ws <;> intro hg))
      refine WR.call (by first | exact gN | exact gS rfl) rfl rfl (below_fs hH hrk hlk _) ?_
      rintro _ _ ⟨rfl, rfl⟩
      cases hb : belowB 21 (fs.getD k []) with
      | true =>
        repeat' (first | refine zP ?_ | refine zA ?_ | (refine zM ?_; intro _ _) | refine zX ?_ | (refine zC ?_; intro _ _ _ _) | (refine zS ?_; intro _ _) | refine zO ?_ | (apply Ws <;> intro hg))
        refine Ends.loop (k + 1) (by omega) (by repeat' (first | exact .nil | refine .cons rfl ?_)) rfl ⟨rfl, hk', firstE_succ hno ?_⟩
        show rowE _ _ = 0
        unfold rowE
        rw [if_pos h3, if_pos hb]
      | false =>
        repeat' (first | refine zP ?_ | refine zA ?_ | (refine zM ?_; intro _ _) | refine zX ?_ | (refine zC ?_; intro _ _ _ _) | (refine zS ?_; intro _ _) | refine zO ?_ | (apply Ws <;> intro hg))
        refine Ends.ret1 rfl ⟨?_, rfl⟩
        have h4 : rowE (fs.getD 0 []).length (fs.getD k []) = 1 := by unfold rowE; rw [if_pos h3, if_neg (by rw [hb]; decide)]
        rw [hE, firstE_at hno (by show rowE _ _ ≠ 0; rw [h4]; decide) hk']
        show _ = Value.int .i64 (rowE _ _)
        rw [h4]
    · repeat' (first | refine zP ?_ | refine zA ?_ | (refine zM ?_; intro _ _) | refine zX ?_ | (refine zC ?_; intro _ _ _ _) | (refine zS ?_; intro _ _) | refine zO ?_ | (apply Ws <;> intro hg))
      refine Ends.ret1 rfl ⟨?_, rfl⟩
      have h4 : rowE (fs.getD 0 []).length (fs.getD k []) = 5 := by unfold rowE; rw [if_neg h3]
      rw [hE, firstE_at hno (by show rowE _ _ ≠ 0; rw [h4]; decide) hk']
      show _ = Value.int .i64 (rowE _ _)
      rw [h4]
  · have hkl : k = fs.length := by omega
    subst hkl
    repeat' (first | refine zP ?_ | refine zA ?_ | (refine zM ?_; intro _ _) | refine zX ?_ | (refine zC ?_; intro _ _ _ _) | (refine zS ?_; intro _ _) | (apply Ws <;> intro hg))
    exact Ends.ret1 rfl ⟨by rw [hE, hno], rfl⟩

theorem give_fs {b e : Nat} {ss : List Nat} {vv : Value} {cp : Nat} (hH : hasH ((b, .row e 0 0 (u64s ss)) :: M) n0 H) (hv : one vv = true) {j x N : Nat} (hj : j ≤ 61) (hN : ss.length = N) (hx : x < N) (hb : ∀ s ∈ ss, s < 2 ^ 62) :
    FS C 114 [.agg [vv, .slice (some ⟨b, 0, some 0⟩) N cp].toArray, .int .i64 (j : Int), .int .i64 (x : Int)] H (fun _ H' => ∃ n', n0 ≤ n' ∧ hasH ((b, .row e 0 0 (u64s (ss.set x (ss.getD x 0 ||| 2 ^ j)))) :: M) n' H') := by
  have hlt := hb _ (getD_mem (a := 0) (show x < ss.length by omega))
  refine FS.intro (pf := pf114) rfl rfl rfl ?_
  repeat' (first | refine zP ?_ | refine zA ?_ | (refine zM ?_; intro _ _) | refine zX ?_ | (refine zC ?_; intro _ _ _ _) | (refine zS ?_; intro _ _) | (apply Ws <;> intro hg))
  rename_i H1 hH1
  refine WC.regionD ?_
  repeat' (first | refine zD ?_ | (refine zE ?_; intro _ _ _ _))
  refine WD.call (by first | exact gN | exact gS rfl) rfl rfl (only_fs (by omega) _) ?_
  rintro _ _ ⟨rfl, rfl⟩
  refine ⟨stands_cons (.inr (holds_at (hH1.read (.tail _ (.head _)) (.row _ _ _ _) (Nat.zero_le _) (nodes_get (by omega))) (same_int _ _))) (stands_cons (.inr (holds_at (hH1.read (.head _) (.row _ _ _ _) (Nat.zero_le _) rfl) (same_sl _ _ _))) stands_nil'), ?_⟩
  refine WD.toWR rfl ?_
  refine WR.op (by first | exact gN | exact gS rfl) rfl (OpV.orN rfl rfl (by show ss.getD x 0 < 2 ^ 64; omega) (by show 2 ^ j < 2 ^ 64; exact Nat.pow_lt_pow_right (by omega) (by omega))) ?_
  repeat' (first | refine zP ?_ | refine zA ?_ | (refine zM ?_; intro _ _) | refine zX ?_ | (refine zC ?_; intro _ _ _ _) | (refine zS ?_; intro _ _) | (apply Ws <;> intro hg))
  rename_i H2 hH2
  exact Ends.end0 ⟨n0 + 1, by omega, hH2.tail⟩
end
end Go.Proofs.Ytaipmdhnhffckaa.Sh

namespace Go.Abs
set_option linter.unusedSectionVars false
variable [Globs]
open Go
section
variable {C : CW} {nt : Nat} {L : Env} {D : List Nat} {H : Heap} {K : St → Prop} {M M' : HL} {n : Nat} {gd : Option (Tmp × Bool)} {lo : List Nat} {l : List POp}
/-- Two cells. -/
theorem WR.store2 {i : Nat} {x y : Operand} {v w : Value} {a c : Value} {b e u : Nat} (hg : gOK L gd) (hH : hasH M n H) (hx : ev L x = some (.pointer (some ⟨b, 0, some u⟩))) (hy : ev L y = some (.agg [v, w].toArray)) (h1 : one v = true) (h2 : one w = true)
    (hu : Upd M b (.row e u 0 [a, c]) (.row e u 0 [v, w]) M') (k : ∀ H', hasH M' n H' → WR C nt l L D H' K) : WR C nt (⟨i, none, .store x y 2, gd, lo⟩ :: l) L D H K :=
  WR.storeAll hg hH hx hy (ls := [v, w]) rfl rfl hu (by simp [h1, h2]) rfl k
end
end Go.Abs
namespace Go.Proofs.Ytaipmdhnhffckaa.Sh
open Go Go.Abs Go.Mth
set_option linter.unusedVariables false
set_option linter.unusedSimpArgs false
theorem shs_mem62 {n : Nat} {o : List Int} (h : o.length ≤ 61) : ∀ s ∈ shs n o, s < 2 ^ 62 := fun s hs => by
  have := shs_lt (n := n) (m := 61) h s hs
  have : (2 : Nat) ^ 61 < 2 ^ 62 := by decide
  omega
theorem read2 {M : HL} {n b e : Nat} {H : Heap} {v w : Value} (hH : hasH M n H) (hm : (b, Ch.row e 0 0 [v, w]) ∈ M) : H.readN ⟨b, 0, some 0⟩ 2 = some [v, w] := by
  have := hH.readN (b := b) (u := 0) (lo := 0) (o := 0) (k := 2) hm (.row _ _ _ _) (Nat.le_refl _) (by simp)
  simpa using this
structure KN where
  k : Nat
  n : Nat
attribute [local irreducible] gOK WS WC WR WD Ends FS YS OpV seqK blockK loopK midK retK rdK asgK rangeEnd sat Cell
section
variable {M : HL} {n0 : Nat} {H : Heap} {v w : Value}
theorem divide_fs (hH : hasH M n0 H) {ws : List Value} (hV : Sl M 1 v ws) (hN : ws.length ≤ 1000) {o : List Int} (hO : Sl M 1 w (ints o)) (hol : o.length ≤ 61) (hob : ∀ x ∈ o, 0 ≤ x ∧ x < (ws.length : Int)) :
    FS C 92 [v, w] H (fun e H' => ∃ b n', n0 ≤ n' ∧ e = .agg [v, .slice (some ⟨b, 0, some 0⟩) ws.length (2 * ws.length + 1)].toArray ∧ hasH ((b, .row 116 0 0 (u64s (shs ws.length o))) :: M) n' H') := by
  have hv1 := hV.one_
  obtain ⟨av, cv, hv⟩ := hV.len
  subst hv
  refine FS.intro (pf := pf92) rfl rfl rfl ?_
  repeat' (first | refine zP ?_ | refine zA ?_ | (refine zM ?_; intro _ _) | refine zX ?_ | (refine zC ?_; intro _ _ _ _) | (refine zS ?_; intro _ _) | (apply Ws <;> intro hg))
  refine WR.mkSL (by first | exact gN | exact gS rfl) rfl (by assumption) rfl rfl (by omega) rfl fun H2 hH2 => ?_
  rw [rep_u64s] at hH2
  refine WR.op (by first | exact gN | exact gS rfl) rfl (OpV.bldT (cs := [.slice av ws.length cv, .slice (some ⟨n0 + 1, 0, some 0⟩) ws.length (2 * ws.length + 1)].toArray) rfl rfl) ?_
  repeat' (first | refine zP ?_ | refine zA ?_ | (refine zM ?_; intro _ _) | refine zX ?_ | (refine zC ?_; intro _ _ _ _) | (refine zS ?_; intro _ _) | (apply Ws <;> intro hg))
  rename_i H3 hH3
  refine WR.store2 (by first | exact gN | exact gS rfl) hH3 rfl rfl hv1 rfl .here fun H4 hH4 => ?_
  replace hH4 := hH4.swap
  clear hH3 hH2
  have hO4 := (((hO.cons (p := (n0, Ch.row 78 0 0 [.slice none 0 0, .slice none 0 0]))).cons (p := (n0 + 1 + 1, Ch.row 78 0 0 [.slice av ws.length cv, .slice (some ⟨n0 + 1, 0, some 0⟩) ws.length (2 * ws.length + 1)])))).cons (p := (n0 + 1, Ch.row 116 0 0 (u64s (List.replicate ws.length 0))))
  repeat' (first | refine zP ?_ | refine zA ?_ | (refine zM ?_; intro _ _) | refine zX ?_ | (refine zC ?_; intro _ _ _ _) | (refine zS ?_; intro _ _) | (apply Ws <;> intro hg))
  refine WC.loopX [(0, _), (1, _), (4, _), (5, _), (13, _), (14, _)] (fun s : KN => [(15, .int .i64 (s.k : Int))]) []
    (fun s H' => s.k ≤ o.length ∧ n0 ≤ s.n ∧ hasH ((n0 + 1, .row 116 0 0 (u64s (shs ws.length (o.take s.k)))) :: (n0 + 1 + 1, .row 78 0 0 [.slice av ws.length cv, .slice (some ⟨n0 + 1, 0, some 0⟩) ws.length (2 * ws.length + 1)]) :: (n0, .row 78 0 0 [.slice none 0 0, .slice none 0 0]) :: M) s.n H') (fun s => o.length - s.k) ⟨0, n0 + 1 + 1 + 1⟩ (by repeat' (first | exact .nil | refine .cons rfl ?_)) rfl
    ⟨Nat.zero_le _, by simp only; omega, by simp only [List.take_zero, shs_nil]; exact hH4⟩ ?_
  clear hH4
  rintro ⟨k, n1⟩ H5 ⟨hk, hn1, hH5⟩
  simp only at hk hn1 hH5
  have hO5 : Sl ((n0 + 1, Ch.row 116 0 0 (u64s (shs ws.length (o.take k)))) :: (n0 + 1 + 1, Ch.row 78 0 0 [.slice av ws.length cv, .slice (some ⟨n0 + 1, 0, some 0⟩) ws.length (2 * ws.length + 1)]) :: (n0, Ch.row 78 0 0 [.slice none 0 0, .slice none 0 0]) :: M) 1 w (ints o) := hO.cons.cons.cons
  dsimp only [List.cons_append, List.nil_append]
  repeat' (first | refine zP ?_ | refine zA ?_ | (refine zM ?_; intro _ _) | refine zX ?_ | (refine zC ?_; intro _ _ _ _) | (refine zS ?_; intro _ _) | (apply Ws <;> intro hg))
  refine WC.condP rfl (fun hlt => ?_) (fun hlt => ?_)
  · have hk' : k < o.length := by omega
    have hx := hob _ (getD_mem (a := 0) hk')
    repeat' (first | refine zP ?_ | refine zA ?_ | (refine zM ?_; intro _ _) | refine zX ?_ | (refine zC ?_; intro _ _ _ _) | (refine zS ?_; intro _ _) | (apply Ws <;> intro hg))
    obtain ⟨x, hxe⟩ : ∃ x : Nat, o.getD k 0 = x := ⟨(o.getD k 0).toNat, by omega⟩
    rw [hxe]
    refine WR.call (by first | exact gN | exact gS rfl) rfl rfl (give_fs hH5 hv1 (by omega) (shs_len _ _) (show x < ws.length by omega) (shs_mem62 (by rw [List.length_take]; omega))) ?_
    rintro _ H6 ⟨n6, hn6, hH6⟩
    repeat' (first | refine zP ?_ | refine zA ?_ | (refine zM ?_; intro _ _) | refine zX ?_ | (refine zC ?_; intro _ _ _ _) | (refine zS ?_; intro _ _) | (apply Ws <;> intro hg))
    rw [show (k : Int) + 1 = ((k + 1 : Nat) : Int) by omega]
    refine Ends.loop ⟨k + 1, n6⟩ (by simp only; omega) (by repeat' (first | exact .nil | refine .cons rfl ?_)) rfl ⟨hk', by simp only; omega, ?_⟩
    simp only
    rw [take_snoc hk', hxe, shs_snoc (by omega), List.length_take, Nat.min_eq_left (by omega)]
    exact hH6
  · have hkl : k = o.length := by omega
    subst hkl
    rw [List.take_length] at hH5
    repeat' (first | refine zP ?_ | refine zA ?_ | (refine zM ?_; intro _ _) | refine zX ?_ | (refine zC ?_; intro _ _ _ _) | (refine zS ?_; intro _ _) | (apply Ws <;> intro hg))
    refine WR.store2 (by first | exact gN | exact gS rfl) hH5 rfl rfl hv1 rfl (.there (.there .here)) fun H7 hH7 => ?_
    repeat' (first | refine zP ?_ | refine zA ?_ | (refine zM ?_; intro _ _) | refine zX ?_ | (refine zC ?_; intro _ _ _ _) | (refine zS ?_; intro _ _) | (apply Ws <;> intro hg))
    exact Ends.retCN rfl (read2 hH7 (.tail _ (.tail _ (.head _)))) ⟨n0 + 1, n1, hn1, rfl, hH7.sub (.cons_cons _ ((List.sublist_cons_self _ _).trans (List.sublist_cons_self _ _)))⟩
end
end Go.Proofs.Ytaipmdhnhffckaa.Sh

/- The greatest product of own shares: nobody envies anybody by more than one thing, and nothing is better. -/
namespace Go.Proofs.Ytaipmdhnhffckaa.Sh
open Go Go.Abs Go.Mth
set_option linter.unusedVariables false
set_option linter.unusedSimpArgs false

def prodN (q : Nat → Nat) : Nat → Nat
  | 0 => 1
  | k + 1 => prodN q k * q k
def posQ (w : Nat → Nat) (i : Nat) : Nat := if 0 < w i then w i else 1
def posC (w : Nat → Nat) (i : Nat) : Nat := if 0 < w i then 1 else 0
/-- How many own shares are worth something, and the product of these. -/
def manyW (w : Nat → Nat) (n : Nat) : Nat := sumN (posC w) n
def prodW (w : Nat → Nat) (n : Nat) : Nat := prodN (posQ w) n
def gtG (a b : Nat × Nat) : Bool := decide (b.1 < a.1) || (decide (b.1 = a.1) && decide (b.2 < a.2))
def gainW (w : Nat → Nat) (n : Nat) : Nat × Nat := (manyW w n, prodW w n)
theorem sumN_upd {q r : Nat → Nat} {a : Nat} (h : ∀ i, i ≠ a → r i = q i) : ∀ {n : Nat}, a < n → sumN r n + q a = sumN q n + r a
  | 0, h0 => absurd h0 (Nat.not_lt_zero _)
  | n + 1, h0 => by
    simp only [sumN]
    by_cases e : a = n
    · subst e
      rw [sumN_congr (m := a) (f := r) (g := q) fun i hi => h i (by omega)]; omega
    · have := sumN_upd h (n := n) (by omega)
      rw [h n (fun h => e h.symm)]; omega
theorem sumN_mono {q r : Nat → Nat} : ∀ {n : Nat}, (∀ i, i < n → q i ≤ r i) → sumN q n ≤ sumN r n
  | 0, _ => Nat.le_refl _
  | n + 1, h => Nat.add_le_add (sumN_mono fun i hi => h i (by omega)) (h n (by omega))
end Go.Proofs.Ytaipmdhnhffckaa.Sh

namespace Go.Abs
set_option linter.unusedSectionVars false
variable [Globs]
open Go
section
variable {C : CW} {nt : Nat} {L : Env} {D : List Nat} {H : Heap} {K : St → Prop} {M M' : HL} {n i d : Nat} {gd : Option (Tmp × Bool)} {lo : List Nat} {l : List POp} {rs : List Rd}
theorem WD.callV {f : Operand} {g : FuncId} {va vb : List Value} {xs : List Operand} {vs : List Value} (hg : gOK L gd) (hd : Nat.blt d nt = true) (hf : ev L f = some (.func (.func g) va.toArray vb.toArray)) (hx : evs L xs = some vs) {R : Value → Heap → Prop} (hc : FS C g (va ++ vs ++ vb) H R)
    (k : ∀ v H', R v H' → stands H' lo rs = true ∧ WD C nt l rs ((d, v) :: L) D H' K) : WD C nt (⟨i, some d, .callV f xs, gd, lo⟩ :: l) rs L D H K := by
  obtain ⟨v, H1, ⟨m1, h1⟩, h2⟩ := hc
  intro t ht
  obtain ⟨ks, kk⟩ := k v H1 h2
  obtain ⟨m2, s', h3, h4⟩ := kk _ (ht.put d v)
  refine ⟨max m1 m2, s', ?_, h4⟩
  have hv : opA C.c.P (.callV f xs) (evalO t) H = .call g (va ++ vs ++ vb) := by simp only [opA, ev_ok ht hf, evs_ok ht hx, callVA]
  have hn : ∀ s s', noteRd ⟨i, some d, .callV f xs, gd, lo⟩ s s' rs = rs := by
    intro s s'; simp only [noteRd]; cases wantedA s.t ⟨i, some d, .callV f xs, gd, lo⟩ <;> rfl
  simp only [stepOpsD, doOp, hg.wanted ht, cond_true, hv, ans, run_mono (Nat.le_max_left m1 m2) _ _ h1, afterOp, putT, hd, stOf, ks, hn]
  exact stepOpsD_mono' (run_mono (Nat.le_max_right m1 m2)) h3
end
end Go.Abs
namespace Go.Proofs.Ytaipmdhnhffckaa.Sh
open Go Go.Abs Go.Mth
set_option linter.unusedVariables false
set_option linter.unusedSimpArgs false
/-- Pairs that are still to come. -/
def restRow (p : Nat → Nat → Bool) (n a b : Nat) : List (Nat × Nat) := (((List.range n).drop b).filter (p a)).map fun b => (a, b)
def restP (p : Nat → Nat → Bool) (n a : Nat) : List (Nat × Nat) := ((List.range n).drop a).flatMap (rowL p n)
/-- A question about a finder with a share. -/
def QuestR (g : FuncId) (p : List Nat → Nat → Nat → Bool) : Prop := ∀ {X : HL} {n : Nat} {H : Heap} {f : List Nat} {v : Value} {own m : Nat}, hasH X n H → Sl X 1 v (nodes f) → f.length = m → m ≤ 6 → (∀ x ∈ f, x ≤ 20) → own < 2 ^ m →
  FS C g [v, .int .u64 (own : Int)] H (fun e H' => ∃ g' vb' F n', e = .func (.func g') [].toArray (List.toArray vb') ∧ n ≤ n' ∧ hasH (F ++ X) n' H' ∧ AskQ (F ++ X) g' [] vb' (fun s => .bool (p f own s)) (fun s => s < 2 ^ m))
/-- A division in memory. -/
structure DivM (M : HL) (vv sv : Value) (vs : List (List Nat)) (ss : List Nat) (n m : Nat) : Prop where
  ok : OKV vs n m
  vals : ValsN M vv vs
  shar : Sl M 1 sv (u64s ss)
  len : ss.length = n
  bd : ∀ s ∈ ss, s < 2 ^ m
theorem DivM.mono {M M' : HL} {vv sv : Value} {vs : List (List Nat)} {ss : List Nat} {n m : Nat} (h : DivM M vv sv vs ss n m) (k : ∀ p ∈ M, p ∈ M') : DivM M' vv sv vs ss n m := ⟨h.ok, h.vals.mono k, h.shar.mono k, h.len, h.bd⟩
def quP (p : List Nat → Nat → Nat → Bool) (vs : List (List Nat)) (ss : List Nat) (a b : Nat) : Bool := p (vs.getD a []) (ss.getD a 0) (ss.getD b 0)
structure PA where
  a : Nat
  M : HL
  n : Nat
attribute [local irreducible] gOK WS WC WR WD Ends FS YS OpV seqK blockK loopK midK retK rdK asgK rangeEnd sat Cell
section
variable {M B : HL} {n0 : Nat} {H : Heap} {vv sv : Value} {vs : List (List Nat)} {ss : List Nat} {n m : Nat}
end
end Go.Proofs.Ytaipmdhnhffckaa.Sh

namespace Go.Abs
set_option linter.unusedSectionVars false
variable [Globs]
open Go
section
variable {L : Env} {D : List Nat} {H : Heap} {M M' : HL} {n : Nat}
end
end Go.Abs
namespace Go.Proofs.Ytaipmdhnhffckaa.Sh
open Go Go.Abs Go.Mth
set_option linter.unusedVariables false
set_option linter.unusedSimpArgs false
attribute [local irreducible] gOK WS WC WR WD Ends FS YS OpV seqK blockK loopK midK retK rdK asgK rangeEnd sat Cell
section
variable {M : HL} {n0 : Nat} {H : Heap} {vv sv : Value} {vs : List (List Nat)} {ss : List Nat} {n m : Nat}
end
end Go.Proofs.Ytaipmdhnhffckaa.Sh

namespace Go.Proofs.Ytaipmdhnhffckaa.Sh
open Go Go.Abs Go.Mth
set_option linter.unusedVariables false
set_option linter.unusedSimpArgs false
def natV (fs : List (List Int)) : List (List Nat) := fs.map fun l => l.map Int.toNat
theorem cast_toNat (l : List Nat) : (IL l).map Int.toNat = l := by
  rw [IL, List.map_map]
  have : l.map (Int.toNat ∘ fun (x : Nat) => (x : Int)) = l.map id := List.map_congr_left fun x _ => by simp
  rw [this, List.map_id]
theorem natV_ILL (vs : List (List Nat)) : natV (ILL vs) = vs := by
  rw [natV, ILL, List.map_map]
  have : vs.map ((fun l : List Int => l.map Int.toNat) ∘ fun l : List Nat => l.map fun (x : Nat) => (x : Int)) = vs.map id := List.map_congr_left fun l _ => cast_toNat l
  rw [this, List.map_id]
/-- What Fair and Why come to. -/
def fairC (fs : List (List Int)) (o : List Int) : Nat := if divE fs o = 0 then fairN (natV fs) (shs fs.length o) else 0
def whyL (fs : List (List Int)) (o : List Int) : List (Nat × Nat) := if divE fs o = 0 then pairsL (muchP (natV fs) (shs fs.length o)) fs.length else []
def whyC (fs : List (List Int)) (o : List Int) : Int := if divE fs o = 0 then (if (whyL fs o).isEmpty = true then 13 else 0) else divE fs o
theorem shs_bd {n m : Nat} {o : List Int} (h : o.length = m) : ∀ s ∈ shs n o, s < 2 ^ m := shs_lt (by omega)
attribute [local irreducible] gOK WS WC WR WD Ends FS YS OpV seqK blockK loopK midK retK rdK asgK rangeEnd sat Cell
section
variable {M : HL} {n0 : Nat} {H : Heap} {v w : Value}
end
end Go.Proofs.Ytaipmdhnhffckaa.Sh

namespace Go.Abs
open Go
end Go.Abs
namespace Go.Proofs.Ytaipmdhnhffckaa.Sh
open Go Go.Abs Go.Mth
set_option linter.unusedVariables false
set_option linter.unusedSimpArgs false
theorem u8k : C.c.P.underlying 5 = some (.int .u8) := by kernel_rfl
theorem i64k : C.c.P.underlying 3 = some (.int .i64) := by kernel_rfl
abbrev bytesV (hs : List Int) : List Value := hs.map (Value.int .u8)
theorem bytes_one (hs : List Int) : (bytesV hs).all one = true := by simp [bytesV, List.all_map]; exact fun x _ => rfl
/-- A heap's cells: two bytes, then four times six. -/
def heapV (a b : Int) (hs : List Int) : List Value := .int .u8 a :: .int .u8 b :: bytesV hs
theorem heap_one (a b : Int) (hs : List Int) : (heapV a b hs).all one = true := by
  have := bytes_one hs
  simp only [heapV, List.all_cons, this, Bool.and_true]; rfl
theorem heap_drop (a b : Int) (hs : List Int) (k : Nat) : (heapV a b hs).drop (2 + k) = bytesV (hs.drop k) := by
  rw [Nat.add_comm, heapV]
  simp only [List.drop_succ_cons, bytesV, List.map_drop]
/-- The values that a heap's bytes stand for. -/
def madeRow (hs : List Int) (i n most : Nat) : List Nat := (List.range n).map fun k => (hs.getD (i * 6 + k) 0).toNat % (most + 1)
def madeVs (a b : Int) (hs : List Int) (fi th most : Nat) : List (List Nat) := (List.range (1 + a.toNat % fi)).map fun i => madeRow hs i (b.toNat % (th + 1)) most
theorem made_ok {a b : Int} {hs : List Int} {fi th most : Nat} (h1 : 1 ≤ fi ∧ fi ≤ 4) (h2 : th ≤ 6) (h3 : most ≤ 20) : OKV (madeVs a b hs fi th most) (1 + a.toNat % fi) (b.toNat % (th + 1)) := by
  have := Nat.mod_lt a.toNat (show 0 < fi by omega)
  have := Nat.mod_lt b.toNat (show 0 < th + 1 by omega)
  refine ⟨by simp [madeVs], by omega, by omega, by omega, fun l hl => ?_, fun l hl x hx => ?_⟩
  · obtain ⟨i, _, rfl⟩ := List.mem_map.1 hl
    simp [madeRow]
  · obtain ⟨i, _, rfl⟩ := List.mem_map.1 hl
    obtain ⟨k, _, rfl⟩ := List.mem_map.1 hx
    have := Nat.mod_lt (hs.getD (i * 6 + k) 0).toNat (show 0 < most + 1 by omega)
    omega
theorem row_succ (hs : List Int) (i k most : Nat) : madeRow hs i (k + 1) most = madeRow hs i k most ++ [(hs.getD (i * 6 + k) 0).toNat % (most + 1)] := by simp [madeRow, List.range_succ]
/-- Slices that are built one by one: what they hold, and where. -/
structure KW where
  k : Nat
  v : Value
  ws : List Value
  Mo : HL
  Mi : HL
  n : Nat
theorem rowsN_snoc {M Mi Mr : HL} {ws : List Value} {vs : List (List Nat)} {w : Value} {l : List Nat} (h : RowsN (Mi ++ M) ws vs) (hw : Sl (Mr ++ M) 1 w (nodes l)) : RowsN ((Mr ++ Mi) ++ M) (ws ++ [w]) (vs ++ [l]) := by
  refine ⟨by simp [h.1], fun i hi => ?_⟩
  rw [List.length_append, List.length_singleton] at hi
  by_cases e : i < vs.length
  · rw [getD_app_l (by rw [h.1]; exact e), getD_app_l e]
    refine (h.2 i e).mono fun q hq => ?_
    rw [List.append_assoc]; exact List.mem_append_right _ hq
  · have : i = vs.length := by omega
    subst this
    rw [getD_snoc, show (ws ++ [w]).getD vs.length undef = w by rw [← h.1]; exact getD_snoc]
    refine hw.mono fun q hq => ?_
    rcases List.mem_append.1 hq with h | h
    · exact List.mem_append_left _ (List.mem_append_left _ h)
    · exact List.mem_append_right _ h
theorem fill1 {v : Value} (h : one v = true) : Instr.fill (fun j => some (j * 1, 1)) [Value.slice none 0 0].toArray [(0, v)] = some [v].toArray := by
  cases v <;> first | rfl | cases h
attribute [local irreducible] gOK WS WC WR WD Ends FS YS OpV seqK blockK loopK midK retK rdK asgK rangeEnd sat Cell
section
variable {M : HL} {n0 : Nat} {H : Heap}
set_option maxHeartbeats 4000000 in
theorem made_fs (hH : hasH M n0 H) {a b : Int} {hs : List Int} (ha : 0 ≤ a ∧ a ≤ 255) (hb : 0 ≤ b ∧ b ≤ 255) (hl : hs.length = 24) (hu : ∀ x ∈ hs, 0 ≤ x ∧ x ≤ 255) {fi th most : Nat} (hfi : 1 ≤ fi ∧ fi ≤ 4) (hth : th ≤ 6) (hmo : most ≤ 20) :
    FS C 46 [.agg (heapV a b hs).toArray, .int .i64 (fi : Int), .int .i64 (th : Int), .int .i64 (most : Int)] H (fun e H' => ∃ ws Mo Mi n', OwnR 23 1 e ws Mo ∧ RowsN (Mi ++ M) ws (madeVs a b hs fi th most) ∧ n0 ≤ n' ∧ hasH (Mo ++ (Mi ++ M)) n' H') := by
  have hone := heap_one a b hs
  refine FS.intro (pf := pf46) rfl rfl rfl ?_
  repeat' (first | refine zP ?_ | refine zA ?_ | (refine zM ?_; intro _ _) | refine zX ?_ | (refine zC ?_; intro _ _ _ _) | (refine zS ?_; intro _ _))
  rename_i H1 hH1
  refine WR.op (by first | exact gN | exact gS rfl) rfl (OpV.conv u8k i64k rfl (c := b) (IntWalk.i64_in _ (by omega))) ?_
  obtain ⟨an, rfl⟩ : ∃ an : Nat, a = an := ⟨a.toNat, by omega⟩
  obtain ⟨bn, rfl⟩ : ∃ bn : Nat, b = bn := ⟨b.toNat, by omega⟩
  have hmod := Nat.mod_lt an (show 0 < fi by omega)
  have hmodb := Nat.mod_lt bn (show 0 < th + 1 by omega)
  repeat' (first | refine zP ?_ | refine zA ?_ | (refine zM ?_; intro _ _) | refine zX ?_ | (refine zC ?_; intro _ _ _ _) | (refine zS ?_; intro _ _) | (apply Ws <;> intro hg))
  rw [show (bn : Int) % ((th : Int) + 1) = ((bn % (th + 1) : Nat) : Int) by simp]
  obtain ⟨m, hm⟩ : ∃ m, bn % (th + 1) = m := ⟨_, rfl⟩
  rw [hm] at hmodb ⊢
  repeat' (first | refine zP ?_ | refine zA ?_ | (refine zM ?_; intro _ _) | refine zX ?_ | (refine zC ?_; intro _ _ _ _) | (refine zS ?_; intro _ _) | (apply Ws <;> intro hg))
  refine WR.op (by first | exact gN | exact gS rfl) rfl (OpV.conv u8k i64k rfl (c := (an : Int)) (IntWalk.i64_in _ (by omega))) ?_
  repeat' (first | refine zP ?_ | refine zA ?_ | (refine zM ?_; intro _ _) | refine zX ?_ | (refine zC ?_; intro _ _ _ _) | (refine zS ?_; intro _ _) | (apply Ws <;> intro hg))
  rw [show (an : Int) % (fi : Int) = ((an % fi : Nat) : Int) by simp]
  obtain ⟨r, hr⟩ : ∃ r, an % fi = r := ⟨_, rfl⟩
  rw [hr] at hmod ⊢
  repeat' (first | refine zP ?_ | refine zA ?_ | (refine zM ?_; intro _ _) | refine zX ?_ | (refine zC ?_; intro _ _ _ _) | (refine zS ?_; intro _ _) | (apply Ws <;> intro hg))
  rw [show (1 : Int) + (r : Int) = ((1 + r : Nat) : Int) by omega]
  obtain ⟨N, hN⟩ : ∃ N, 1 + r = N := ⟨_, rfl⟩
  have hvs : madeVs an bn hs fi th most = (List.range N).map fun i => madeRow hs i m most := by
    unfold madeVs
    rw [Int.toNat_natCast, Int.toNat_natCast, hr, hm, hN]
  rw [hvs]
  have hN4 : 1 ≤ N ∧ N ≤ 4 := by omega
  rw [hN]
  refine WR.op (by first | exact gN | exact gS rfl) rfl (OpV.slAh rfl rfl (by omega) (by decide)) ?_
  repeat' (first | refine zP ?_ | refine zA ?_ | (refine zM ?_; intro _ _) | refine zX ?_ | (refine zC ?_; intro _ _ _ _) | (refine zS ?_; intro _ _) | (apply Ws <;> intro hg))
  refine WC.loopX [(1, _), (2, _), (3, _), (4, _), (10, _), (29, _), (30, _)] (fun s : KW => [(9, s.v), (31, .int .i64 (s.k : Int))]) []
    (fun s H' => s.k ≤ N ∧ n0 + 1 ≤ s.n ∧ ((s.k = 0 ∧ s.v = .slice none 0 0 ∧ s.ws = [] ∧ s.Mo = []) ∨ OwnR 23 1 s.v s.ws s.Mo) ∧ RowsN (s.Mi ++ M) s.ws ((List.range s.k).map fun i => madeRow hs i m most) ∧ hasH ((n0, .row 49 0 0 (heapV an bn hs)) :: (s.Mo ++ (s.Mi ++ M))) s.n H') (fun s => N - s.k) ⟨0, .slice none 0 0, [], [], [], n0 + 1⟩ (by repeat' (first | exact .nil | refine .cons rfl ?_)) rfl
    ⟨Nat.zero_le _, Nat.le_refl _, .inl ⟨rfl, rfl, rfl, rfl⟩, ⟨rfl, fun i h => absurd h (Nat.not_lt_zero _)⟩, hH1⟩ ?_
  clear hH1
  rintro ⟨k, v, ws, Mo, Mi, n1⟩ H2 ⟨hk, hn1, hO, hR, hH2⟩
  simp only at hk hn1 hO hR hH2
  have hOwn : Own 23 1 v ws Mo := by
    rcases hO with ⟨_, rfl, rfl, rfl⟩ | h
    · exact .nil
    · exact h.own
  have hwl : ws.length = k := by rw [hR.1]; simp
  dsimp only [List.cons_append, List.nil_append]
  repeat' (first | refine zP ?_ | refine zA ?_ | (refine zM ?_; intro _ _) | refine zX ?_ | (refine zC ?_; intro _ _ _ _) | (refine zS ?_; intro _ _) | (apply Ws <;> intro hg))
  refine WC.condP rfl (fun hlt => ?_) (fun hlt => ?_)
  · have hk' : k < N := by omega
    repeat' (first | refine zP ?_ | refine zA ?_ | (refine zM ?_; intro _ _) | refine zX ?_ | (refine zC ?_; intro _ _ _ _) | (refine zS ?_; intro _ _) | (apply Ws <;> intro hg))
    have hdl : (heapV an bn hs).length = 26 := by simp [heapV, hl]
    obtain ⟨row, hrow⟩ : ∃ row : List Nat, row = ((hs.drop (k * 6)).take 6).map Int.toNat := ⟨_, rfl⟩
    have hrl : row.length = 6 := by rw [hrow, List.length_map, List.length_take, List.length_drop, hl]; omega
    have hrv : bytesV ((hs.drop (k * 6)).take 6) = numsK .u8 row := by
      rw [hrow, bytesV, numsK, List.map_map]
      refine List.map_congr_left fun x hx => ?_
      have := (hu x (List.mem_of_mem_drop (List.mem_of_mem_take hx))).1
      show Value.int .u8 x = Value.int .u8 (x.toNat : Nat)
      rw [Int.toNat_of_nonneg this]
    have hrg : ∀ j, j < 6 → row.getD j 0 = (hs.getD (k * 6 + j) 0).toNat := fun j hj => by
      rw [hrow, map_getD (a := 0) (by rw [List.length_take, List.length_drop, hl]; omega), getD_take hj, getD_eq (by rw [List.length_drop, hl]; omega), List.getElem_drop, getD_eq (by omega)]
    have hrb : ∀ j, j < 6 → row.getD j 0 ≤ 255 := fun j hj => by
      rw [hrg j hj]
      have := hu _ (getD_mem (a := 0) (show k * 6 + j < hs.length by omega))
      omega
    have hrone : (numsK .u8 row).all one = true := by rw [← hrv]; exact bytes_one _
    refine WR.op (by first | exact gN | exact gS rfl) rfl (OpV.loadN (l := numsK .u8 row) rfl hH2 (.head _) (.row _ _ _ _) (Nat.zero_le _) (by rw [hdl]; omega) (by rw [Nat.sub_zero, heap_drop, ← hrv, bytesV, bytesV, List.map_take])) ?_
    repeat' (first | refine zP ?_ | refine zA ?_ | (refine zM ?_; intro _ _) | refine zX ?_ | (refine zC ?_; intro _ _ _ _) | (refine zS ?_; intro _ _) | (apply Ws <;> intro hg))
    rename_i H3 hH3
    refine WR.storeAll (by first | exact gN | exact gS rfl) hH3 rfl rfl (ls := numsK .u8 row) (by simp [Value.cells]) (by simp [hrl]) .here hrone (by simp [hrl]) fun H4 hH4 => ?_
    clear hH2 hH3
    repeat' (first | refine zP ?_ | refine zA ?_ | (refine zM ?_; intro _ _) | refine zX ?_ | (refine zC ?_; intro _ _ _ _) | (refine zS ?_; intro _ _) | (apply Ws <;> intro hg))
    refine WR.op (by first | exact gN | exact gS rfl) rfl (OpV.slAh rfl rfl (show m ≤ 6 by omega) (by decide)) ?_
    repeat' (first | refine zP ?_ | refine zA ?_ | (refine zM ?_; intro _ _) | refine zX ?_ | (refine zC ?_; intro _ _ _ _) | (refine zS ?_; intro _ _) | (apply Ws <;> intro hg))
    refine WC.loopX [(1, _), (2, _), (3, _), (4, _), (9, _), (10, _), (29, _), (30, _), (31, _), (36, _), (37, _)] (fun s : KV => [(13, s.v), (38, .int .i64 (s.k : Int))]) []
      (fun s H' => s.k ≤ m ∧ n0 + 1 ≤ s.n ∧ Own 3 1 s.v (nodes (madeRow hs k s.k most)) s.Mx ∧ hasH ((n1, .row 46 0 0 (numsK .u8 row)) :: (s.Mx ++ ((n0, .row 49 0 0 (heapV an bn hs)) :: (Mo ++ (Mi ++ M))))) s.n H') (fun s => m - s.k) ⟨0, .slice none 0 0, [], n1 + 1⟩ (by repeat' (first | exact .nil | refine .cons rfl ?_)) rfl
      ⟨Nat.zero_le _, by simp only; omega, .nil, hH4⟩ ?_
    clear hH4
    rintro ⟨j, u, Mr, n2⟩ H5 ⟨hj, hn2, hOr, hH5⟩
    simp only at hj hn2 hOr hH5
    dsimp only [List.cons_append, List.nil_append]
    repeat' (first | refine zP ?_ | refine zA ?_ | (refine zM ?_; intro _ _) | refine zX ?_ | (refine zC ?_; intro _ _ _ _) | (refine zS ?_; intro _ _) | (apply Ws <;> intro hg))
    refine WC.condP rfl (fun hlt2 => ?_) (fun hlt2 => ?_)
    · have hj' : j < m := by omega
      have hxb := hrb j (by omega)
      repeat' (first | refine zP ?_ | refine zA ?_ | (refine zM ?_; intro _ _) | refine zX ?_ | (refine zC ?_; intro _ _ _ _) | (refine zS ?_; intro _ _) | (apply Ws <;> intro hg))
      refine WR.op (by first | exact gN | exact gS rfl) rfl (OpV.conv u8k i64k rfl (c := (row.getD j 0 : Int)) (IntWalk.i64_in _ (by omega))) ?_
      repeat' (first | refine zP ?_ | refine zA ?_ | (refine zM ?_; intro _ _) | refine zX ?_ | (refine zC ?_; intro _ _ _ _) | (refine zS ?_; intro _ _) | (apply Ws <;> intro hg))
      rw [show ((row.getD j 0 : Nat) : Int) % ((most : Int) + 1) = ((row.getD j 0 % (most + 1) : Nat) : Int) by simp]
      refine WR.append1F [(n1, .row 46 0 0 (numsK .u8 row))] Mr ((n0, .row 49 0 0 (heapV an bn hs)) :: (Mo ++ (Mi ++ M))) rfl rfl rfl rfl hOr hH5 (new := [.int .i64 (row.getD j 0 % (most + 1) : Nat)]) (by rfl) rfl rfl (Nat.le_refl _) (by omega) (by simp [madeRow]; omega) fun v3 M3 n3 H6 hO3 hH6 hn3 => ?_
      repeat' (first | refine zP ?_ | refine zA ?_ | (refine zM ?_; intro _ _) | refine zX ?_ | (refine zC ?_; intro _ _ _ _) | (refine zS ?_; intro _ _) | (apply Ws <;> intro hg))
      rw [show (j : Int) + 1 = ((j + 1 : Nat) : Int) by omega]
      refine Ends.loop ⟨j + 1, v3, M3, n3⟩ (by simp only; omega) (by repeat' (first | exact .nil | refine .cons rfl ?_)) rfl ⟨hj', by simp only; omega, ?_, hH6⟩
      simp only
      rw [row_succ, ← hrg j (by omega)]
      simpa [nodes] using hO3
    · have hjm : j = m := by omega
      subst hjm
      have hu1 := (hOr.sl M).one_
      repeat' (first | refine zP ?_ | refine zA ?_ | (refine zM ?_; intro _ _) | refine zX ?_ | (refine zC ?_; intro _ _ _ _) | (refine zS ?_; intro _ _) | (apply Ws <;> intro hg))
      refine WR.append1RF (Mr ++ [(n0, .row 49 0 0 (heapV an bn hs))]) Mo (Mi ++ M) rfl rfl rfl rfl hOwn (by have := hH5.tail; rw [List.append_assoc]; exact this) (new := [u]) (fill1 hu1) (by simp [hu1]) rfl (Nat.le_refl _) (by omega) (by simp; omega) fun v3 M3 n3 H6 hO3 hH6 hn3 => ?_
      repeat' (first | refine zP ?_ | refine zA ?_ | (refine zM ?_; intro _ _) | refine zX ?_ | (refine zC ?_; intro _ _ _ _) | (refine zS ?_; intro _ _) | (apply Ws <;> intro hg))
      rw [show (k : Int) + 1 = ((k + 1 : Nat) : Int) by omega]
      refine Ends.loop ⟨k + 1, v3, ws ++ [u], M3, Mr ++ Mi, n3⟩ (by simp only; omega) (by repeat' (first | exact .nil | refine .cons rfl ?_)) rfl ⟨hk', by simp only; omega, .inr hO3, ?_, hH6.perm ?_⟩
      · simp only
        rw [List.range_succ, List.map_append]
        exact rowsN_snoc hR (hOr.sl M)
      · simp only
        refine List.Perm.trans (l₂ := (n0, .row 49 0 0 (heapV an bn hs)) :: (Mr ++ (M3 ++ (Mi ++ M)))) ?_ (List.Perm.cons _ ?_)
        · rw [List.append_assoc]
          exact List.perm_middle
        · rw [← List.append_assoc, ← List.append_assoc, ← List.append_assoc, ← List.append_assoc]
          exact (List.perm_append_comm.append_right _).append_right _
  · have hkN : k = N := by omega
    subst hkN
    rcases hO with ⟨h, _⟩ | hO
    · omega
    repeat' (first | refine zP ?_ | refine zA ?_ | (refine zM ?_; intro _ _) | refine zX ?_ | (refine zC ?_; intro _ _ _ _) | (refine zS ?_; intro _ _) | (apply Ws <;> intro hg))
    exact Ends.ret1 rfl ⟨ws, Mo, Mi, n1, hO, hR, by omega, hH2.tail⟩
end
end Go.Proofs.Ytaipmdhnhffckaa.Sh

/- All finders have the same values: the law. -/
namespace Go.Proofs.Ytaipmdhnhffckaa.Sh
open Go Go.Abs Go.Mth
set_option linter.unusedVariables false
set_option linter.unusedSimpArgs false
/-- All pairs before a place. -/
def twoAll (q : Nat → Nat → Bool) (n i j : Nat) : Bool := (List.range i).all (fun a => (List.range n).all (q a)) && (List.range j).all (q i)
/-- The greatest thing of a share. -/
def topTo (f : List Nat) (s : Nat) : Nat → Nat
  | 0 => 0
  | k + 1 => max (topTo f s k) (if s.testBit k then f.getD k 0 else 0)
def topN (f : List Nat) (s : Nat) : Nat := topTo f s f.length
/-- Owners by numbers. -/
def byL (bs : List Nat) (n m : Nat) : List Nat := (List.range m).map fun k => bs.getD k 0 % n
theorem bytes_nat {hs : List Int} (h : ∀ x ∈ hs, 0 ≤ x ∧ x ≤ 255) : bytesV hs = numsK .u8 (hs.map Int.toNat) := by
  rw [bytesV, numsK, List.map_map]
  refine List.map_congr_left fun x hx => ?_
  have := (h x hx).1
  show Value.int .u8 x = Value.int .u8 (x.toNat : Nat)
  rw [Int.toNat_of_nonneg this]
theorem nat_le {hs : List Int} (h : ∀ x ∈ hs, 0 ≤ x ∧ x ≤ 255) : ∀ x ∈ hs.map Int.toNat, x ≤ 255 := fun x hx => by
  obtain ⟨y, hy, rfl⟩ := List.mem_map.1 hx
  have := h y hy
  omega
theorem Sl.asInts {M : HL} {v : Value} {l : List Nat} (h : Sl M 1 v (nodes l)) : Sl M 1 v (ints (IL l)) := by rw [← nodesI]; exact h
theorem IL_get {l : List Nat} {k : Nat} (h : k < l.length) (a : Int) : (IL l).getD k a = ((l.getD k 0 : Nat) : Int) := map_getD h
structure KST where
  k : Nat
  S : List Nat
  T : List Nat
end Go.Proofs.Ytaipmdhnhffckaa.Sh

namespace Go.Proofs.Ytaipmdhnhffckaa.Sh
open Go Go.Abs Go.Mth
set_option linter.unusedVariables false
set_option linter.unusedSimpArgs false
theorem own_row {e N : Nat} {v : Value} {ws : List Value} {Mo : HL} (h : OwnR e 1 v ws Mo) (hl : ws.length = N) : ∃ b u o, v = .slice (some ⟨b, o, some u⟩) N 2 ∧ Mo = [(b, .row e u o ws)] := by
  cases h with
  | @mk b u o len _ hw =>
    have : len = N := by omega
    subst this
    exact ⟨b, u, o, rfl, rfl⟩
theorem nodes_rep (n : Nat) : (List.replicate n [Value.int .i64 0]).flatten = nodes (List.replicate n 0) := by
  induction n with
  | zero => rfl
  | succ n ih => simp [List.replicate_succ, ih]
attribute [local irreducible] gOK WS WC WR WD Ends FS YS OpV seqK blockK loopK midK retK rdK asgK rangeEnd sat Cell
section
variable {M : HL} {n0 : Nat} {H : Heap}
end
end Go.Proofs.Ytaipmdhnhffckaa.Sh

namespace Go.Abs
set_option linter.unusedSectionVars false
variable [Globs]
open Go
section
variable {L : Env} {H : Heap}
theorem Ends.ret1CN {a b k : Nat} {p : Addr} {l : List Value} {v : Value} {R : Value → Heap → Prop} (hy : ev L (.tmp b) = some v) (hx : ev L (.tmp a) = some (.pointer (some p))) (hr : H.readN p k = some l) (h : R (.tuple #[v, .agg l.toArray]) H) : Ends (retK [.tmp b, .cell a (some k)] R) .ret L [] H := by
  refine Ends.ret_of trivial fun t ht => ⟨_, H, ?_, h⟩
  simp only [takeAll, leaveC, resultOf, ev_ok ht hx, hr, ev_ok ht hy, retVal]
end
end Go.Abs
namespace Go.Proofs.Ytaipmdhnhffckaa.Sh
open Go Go.Abs Go.Mth
set_option linter.unusedVariables false
set_option linter.unusedSimpArgs false
/-- What all shares are worth to all. -/
def worM (vs : List (List Nat)) (ss : List Nat) : List (List Nat) := vs.map fun f => ss.map (wor f)
theorem worM_get {vs : List (List Nat)} {ss : List Nat} {i : Nat} (h : i < vs.length) : (worM vs ss).getD i [] = ss.map (wor (vs.getD i [])) := map_getD h
theorem worM_at {vs : List (List Nat)} {ss : List Nat} {i j : Nat} (h : i < vs.length) (hj : j < ss.length) : ((worM vs ss).getD i []).getD j 0 = wor (vs.getD i []) (ss.getD j 0) := by rw [worM_get h, map_getD hj]
/-- Owners, some of them nobody. -/
structure OKP (o : List Int) (n m : Nat) : Prop where
  len : o.length = m
  bd : ∀ x ∈ o, -1 ≤ x ∧ x < (n : Int)
theorem OKD.part {o : List Int} {n m : Nat} (h : OKD o n m) : OKP o n m := ⟨h.len, fun x hx => by have := h.bd x hx; omega⟩
theorem shs_none {n : Nat} {o : List Int} {w : Int} (hw : w < 0) : shs n (o ++ [w]) = shs n o := by
  refine ext_getD (a := 0) (by simp [shs]) fun i hi => ?_
  rw [shs_len] at hi
  rw [shs_get _ hi, shs_get _ hi, shr_snoc, if_neg (by omega)]
structure KU where
  k : Nat
  us : List Value
  Mi : HL
  n : Nat
structure KL2 where
  k : Nat
  l : List Nat
/-- Pairs that have been seen. -/
def doneP (p : Nat → Nat → Bool) (n i j : Nat) : List (Nat × Nat) := (List.range i).flatMap (rowL p n) ++ ((List.range j).filter (p i)).map fun b => (i, b)
theorem done_yes {p : Nat → Nat → Bool} {n i j : Nat} (h : p i j = true) : doneP p n i (j + 1) = doneP p n i j ++ [(i, j)] := by
  simp only [doneP, List.range_succ, List.filter_append, List.filter_cons_of_pos h, List.filter_nil, List.map_append, List.map_singleton, List.append_assoc]
theorem done_no {p : Nat → Nat → Bool} {n i j : Nat} (h : p i j = false) : doneP p n i (j + 1) = doneP p n i j := by
  simp only [doneP, List.range_succ, List.filter_append, List.filter_cons_of_neg (show ¬ p i j = true by rw [h]; decide), List.filter_nil, List.append_nil]
theorem done_next (p : Nat → Nat → Bool) (n i : Nat) : doneP p n (i + 1) 0 = doneP p n i n := by
  simp only [doneP, List.range_succ, List.flatMap_append, List.range_zero, List.filter_nil, List.map_nil, List.append_nil, List.flatMap_singleton]; rfl
theorem done_all (p : Nat → Nat → Bool) (n : Nat) : doneP p n n 0 = pairsL p n := by simp [doneP, pairsL]
def fairOf (e mu : List (Nat × Nat)) : Nat := if mu = [] then (if e = [] then 2 else 1) else 0
/-- Things of a share, one by one. -/
def allTo (o : List Int) (f : List Nat) (j : Nat) (x y k : Nat) : Bool := (List.range k).all fun i => !decide (o.getD i (-1) = (j : Int)) || decide (x + f.getD i 0 < y)
theorem allTo_succ (o : List Int) (f : List Nat) (j x y k : Nat) : allTo o f j x y (k + 1) = (allTo o f j x y k && (!decide (o.getD k (-1) = (j : Int)) || decide (x + f.getD k 0 < y))) := by simp [allTo, List.range_succ]
theorem much_all {o : List Int} {f : List Nat} {a j m : Nat} (ho : o.length = m) (hm : m ≤ 6) : muchB f a (shr o j) = (envB f a (shr o j) && allTo o f j (wor f a) (wor f (shr o j)) m) := by
  unfold muchB
  congr 1
  rw [Bool.eq_iff_iff]
  simp only [allTo, List.all_eq_true, List.mem_range, Bool.or_eq_true, Bool.not_eq_true', decide_eq_true_eq, decide_eq_false_iff_not]
  constructor
  · intro h k hk
    by_cases e : o.getD k (-1) = (j : Int)
    · rcases h k (by omega) with h1 | h1
      · have := shr_bit.2 ⟨show k < o.length by omega, e⟩
        rw [this] at h1; cases h1
      · exact .inr h1
    · exact .inl e
  · intro h k hk
    cases hb : (shr o j).testBit k with
    | false => exact .inl rfl
    | true =>
      obtain ⟨h1, h2⟩ := shr_bit.1 hb
      rcases h k (by omega) with h3 | h3
      · exact absurd h2 h3
      · exact .inr h3
attribute [local irreducible] gOK WS WC WR WD Ends FS YS OpV seqK blockK loopK midK retK rdK asgK rangeEnd sat Cell
section
variable {M : HL} {n0 : Nat} {H : Heap} {v w : Value} {vs : List (List Nat)} {n m : Nat} {o : List Int}
set_option maxHeartbeats 2000000 in
theorem worths_fs (hH : hasH M n0 H) (hV : OKV vs n m) (hR : ValsN M v vs) (hO : Sl M 1 w (ints o)) (ho : OKP o n m) :
    FS C 61 [v, w] H (fun e H' => ∃ us Mi n', e = .slice (some ⟨n0, 0, some 0⟩) n (2 * n + 1) ∧ RowsN (Mi ++ M) us (worM vs (shs n o)) ∧ n0 < n' ∧ hasH ((n0, .row 23 0 0 us) :: (Mi ++ M)) n' H') := by
  obtain ⟨ws, hW, hwl, hws⟩ := hR.ex
  have hvl := hV.len
  have hn4 := hV.n4
  have hm6 := hV.m6
  have hol := ho.len
  refine FS.intro (pf := pf61) rfl rfl rfl ?_
  repeat' (first | refine zP ?_ | refine zA ?_ | (refine zM ?_; intro _ _) | refine zX ?_ | (refine zC ?_; intro _ _ _ _) | (refine zS ?_; intro _ _) | (apply Ws <;> intro hg))
  rw [hwl, hvl]
  refine WR.mkS (by first | exact gN | exact gS rfl) rfl hH rfl rfl (by omega) rfl fun H1 hH1 => ?_
  repeat' (first | refine zP ?_ | refine zA ?_ | (refine zM ?_; intro _ _) | refine zX ?_ | (refine zC ?_; intro _ _ _ _) | (refine zS ?_; intro _ _) | (apply Ws <;> intro hg))
  refine WC.loopX [(0, _), (1, _), (5, _), (6, _), (14, _), (15, _)] (fun s : KU => [(16, .int .i64 (s.k : Int))]) []
    (fun s H' => s.k ≤ n ∧ n0 < s.n ∧ s.us.length = n ∧ (∀ i, i < s.k → Sl (s.Mi ++ M) 1 (s.us.getD i undef) (nodes ((shs n o).map (wor (vs.getD i []))))) ∧ hasH ((n0, .row 23 0 0 s.us) :: (s.Mi ++ M)) s.n H') (fun s => n - s.k) ⟨0, List.replicate n (.slice none 0 0), [], n0 + 1⟩ (by repeat' (first | exact .nil | refine .cons rfl ?_)) rfl
    ⟨Nat.zero_le _, by simp only; omega, by simp, fun i h => absurd h (Nat.not_lt_zero _), hH1⟩ ?_
  clear hH1
  rintro ⟨k, us, Mi, n1⟩ H2 ⟨hk, hn1, hul, hus, hH2⟩
  simp only at hk hn1 hul hus hH2
  dsimp only [List.cons_append, List.nil_append]
  repeat' (first | refine zP ?_ | refine zA ?_ | (refine zM ?_; intro _ _) | refine zX ?_ | (refine zC ?_; intro _ _ _ _) | (refine zS ?_; intro _ _) | (apply Ws <;> intro hg))
  refine WC.condP rfl (fun hlt => ?_) (fun hlt => ?_)
  · have hk' : k < n := by omega
    repeat' (first | refine zP ?_ | refine zA ?_ | (refine zM ?_; intro _ _) | refine zX ?_ | (refine zC ?_; intro _ _ _ _) | (refine zS ?_; intro _ _) | (apply Ws <;> intro hg))
    refine WR.mkSL (by first | exact gN | exact gS rfl) rfl hH2 rfl rfl (by omega) rfl fun H3 hH3 => ?_
    rw [nodes_rep] at hH3
    clear hH2
    obtain ⟨us2, hus2⟩ : ∃ us2, us2 = us.set k (.slice (some ⟨n1, 0, some 0⟩) n (2 * n + 1)) := ⟨_, rfl⟩
    have hul2 : us2.length = n := by rw [hus2, List.length_set]; exact hul
    refine WR.op (by first | exact gN | exact gS rfl) rfl (OpV.idxS rfl rfl rfl hk' (addr01 _ _ _)) ?_
    refine WR.store1 (cs' := us2) (by first | exact gN | exact gS rfl) hH3 rfl rfl rfl (.there .here) (Nat.zero_le _) (by omega) hus2 fun H4 hH4 => ?_
    clear hH3
    have hg2 : us2[k]? = some (.slice (some ⟨n1, 0, some 0⟩) n (2 * n + 1)) := by rw [hus2, List.getElem?_set_self (by omega)]
    have hf := hws k (by omega)
    have c4 : ∀ {l : List Nat}, Sl ((n1, .row 3 0 0 (nodes l)) :: (n0, .row 23 0 0 us2) :: (Mi ++ M)) 1 w (ints o) ∧ Sl ((n1, .row 3 0 0 (nodes l)) :: (n0, .row 23 0 0 us2) :: (Mi ++ M)) 1 v ws ∧ Sl ((n1, .row 3 0 0 (nodes l)) :: (n0, .row 23 0 0 us2) :: (Mi ++ M)) 1 (ws.getD k undef) (nodes (vs.getD k [])) := fun {l} =>
      ⟨((hO.mono fun q hq => List.mem_append_right _ hq).cons).cons, ((hW.mono fun q hq => List.mem_append_right _ hq).cons).cons, ((hf.mono fun q hq => List.mem_append_right _ hq).cons).cons⟩
    have c5 := (c4 (l := List.replicate n 0)).1
    repeat' (first | refine zP ?_ | refine zA ?_ | (refine zM ?_; intro _ _) | refine zX ?_ | (refine zC ?_; intro _ _ _ _) | (refine zS ?_; intro _ _) | (apply Ws <;> intro hg))
    rw [hol]
    clear c5
    refine WC.loopX [(0, _), (1, _), (5, _), (6, _), (7, _), (14, _), (15, _), (16, _), (24, _), (25, _)] (fun s : KL2 => [(26, .int .i64 (s.k : Int))]) []
      (fun s H' => s.k ≤ m ∧ s.l = (shs n (o.take s.k)).map (wor (vs.getD k [])) ∧ hasH ((n1, .row 3 0 0 (nodes s.l)) :: (n0, .row 23 0 0 us2) :: (Mi ++ M)) (n1 + 1) H') (fun s => m - s.k) ⟨0, List.replicate n 0⟩ (by repeat' (first | exact .nil | refine .cons rfl ?_)) rfl
      ⟨Nat.zero_le _, by simp [shs_nil, wor_zero], hH4⟩ ?_
    clear hH4
    rintro ⟨t, l⟩ H5 ⟨ht, hl, hH5⟩
    simp only at ht hl hH5
    obtain ⟨d1', d2', d3'⟩ := c4 (l := l)
    have hll : l.length = n := by rw [hl, List.length_map, shs_len]
    dsimp only [List.cons_append, List.nil_append]
    repeat' (first | refine zP ?_ | refine zA ?_ | (refine zM ?_; intro _ _) | refine zX ?_ | (refine zC ?_; intro _ _ _ _) | (refine zS ?_; intro _ _) | (apply Ws <;> intro hg))
    refine WC.condP rfl (fun hlt2 => ?_) (fun hlt2 => ?_)
    · have ht' : t < m := by omega
      have hx := ho.bd _ (getD_mem (a := 0) (show t < o.length by omega))
      have hts := take_snoc (o := o) (k := t) (by omega)
      have hrl := hV.rowLen hk'
      repeat' (first | refine zP ?_ | refine zA ?_ | (refine zM ?_; intro _ _) | refine zX ?_ | (refine zC ?_; intro _ _ _ _) | (refine zS ?_; intro _ _) | (apply Ws <;> intro hg))
      refine WC.condP rfl (fun hge => ?_) (fun hge => ?_)
      · obtain ⟨x, hxe⟩ : ∃ x : Nat, o.getD t 0 = x := ⟨(o.getD t 0).toNat, by omega⟩
        rw [hxe] at hx hts
        have hxn : x < n := by omega
        have hstep := shs_snoc (n := n) (o := o.take t) hxn
        rw [← hts, List.length_take, Nat.min_eq_left (by omega)] at hstep
        have hbit : ((shs n (o.take t)).getD x 0).testBit t = false := by
          rw [shs_get _ hxn]
          exact Nat.testBit_lt_two_pow (Nat.lt_of_lt_of_le (shr_lt _ _) (Nat.pow_le_pow_right (by omega) (by rw [List.length_take]; omega)))
        have hwo := wor_or (f := vs.getD k []) hbit (by omega)
        have hlx : l.getD x 0 = wor (vs.getD k []) ((shs n (o.take t)).getD x 0) := by rw [hl]; exact map_getD (by rw [shs_len]; exact hxn)
        have hw1 := hV.wor (s := (shs n (o.take t)).getD x 0) hk'
        have hfk := getD_le (hV.rowBd hk') t
        repeat' (first | refine zP ?_ | refine zA ?_ | (refine zM ?_; intro _ _) | refine zX ?_ | (refine zC ?_; intro _ _ _ _) | (refine zS ?_; intro _ _) | (apply Ws <;> intro hg))
        refine WR.op (by first | exact gN | exact gS rfl) rfl (OpV.load1 (v := .slice (some ⟨n1, 0, some 0⟩) n (2 * n + 1)) rfl hH5 (.tail _ (.head _)) (.row _ _ _ _) (Nat.zero_le _) (by rw [Nat.sub_zero]; exact hg2)) ?_
        rw [hxe]
        repeat' (first | refine zP ?_ | refine zA ?_ | (refine zM ?_; intro _ _) | refine zX ?_ | (refine zC ?_; intro _ _ _ _) | (refine zS ?_; intro _ _) | (apply Ws <;> intro hg))
        rw [show ((l.getD x 0 : Nat) : Int) + (((vs.getD k []).getD t 0 : Nat) : Int) = ((l.getD x 0 + (vs.getD k []).getD t 0 : Nat) : Int) by omega]
        repeat' (first | refine zP ?_ | refine zA ?_ | (refine zM ?_; intro _ _) | refine zX ?_ | (refine zC ?_; intro _ _ _ _) | (refine zS ?_; intro _ _) | (apply Ws <;> intro hg))
        rename_i H6 hH6
        rw [show (t : Int) + 1 = ((t + 1 : Nat) : Int) by omega]
        refine Ends.loop ⟨t + 1, l.set x (l.getD x 0 + (vs.getD k []).getD t 0)⟩ (by simp only; omega) (by repeat' (first | exact .nil | refine .cons rfl ?_)) rfl ⟨ht', ?_, hH6⟩
        simp only
        rw [hstep, List.map_set, hwo, ← hl, hlx]
      · have hstep := shs_none (n := n) (o := o.take t) (w := o.getD t 0) (by omega)
        rw [← hts] at hstep
        repeat' (first | refine zP ?_ | refine zA ?_ | (refine zM ?_; intro _ _) | refine zX ?_ | (refine zC ?_; intro _ _ _ _) | (refine zS ?_; intro _ _) | (apply Ws <;> intro hg))
        rw [show (t : Int) + 1 = ((t + 1 : Nat) : Int) by omega]
        exact Ends.loop ⟨t + 1, l⟩ (by simp only; omega) (by repeat' (first | exact .nil | refine .cons rfl ?_)) rfl ⟨ht', by simp only; rw [hstep]; exact hl, hH5⟩
    · have htm : t = m := by omega
      rw [htm, List.take_of_length_le (by omega)] at hl
      repeat' (first | refine zP ?_ | refine zA ?_ | (refine zM ?_; intro _ _) | refine zX ?_ | (refine zC ?_; intro _ _ _ _) | (refine zS ?_; intro _ _) | (apply Ws <;> intro hg))
      rw [show (k : Int) + 1 = ((k + 1 : Nat) : Int) by omega]
      refine Ends.loop ⟨k + 1, us2, (n1, .row 3 0 0 (nodes l)) :: Mi, n1 + 1⟩ (by simp only; omega) (by repeat' (first | exact .nil | refine .cons rfl ?_)) rfl ⟨hk', by simp only; omega, hul2, fun i hi => ?_, hH5.swap⟩
      simp only at hi ⊢
      by_cases e : i = k
      · subst e
        rw [← hl, List.getD_eq_getElem?_getD, hg2]
        exact Sl.mkd (by simp [hll])
      · rw [hus2, getD_set' (by omega), if_neg e]
        exact (hus i (by omega)).cons
  · have hkn : k = n := by omega
    subst hkn
    repeat' (first | refine zP ?_ | refine zA ?_ | (refine zM ?_; intro _ _) | refine zX ?_ | (refine zC ?_; intro _ _ _ _) | (refine zS ?_; intro _ _) | (apply Ws <;> intro hg))
    refine Ends.ret1 rfl ⟨us, Mi, n1, rfl, ⟨by simp [worM, hul, hvl], fun i hi => ?_⟩, hn1, hH2⟩
    have hi' : i < vs.length := by simpa [worM] using hi
    rw [worM_get hi']
    exact hus i (by omega)
end
end Go.Proofs.Ytaipmdhnhffckaa.Sh

namespace Go.Proofs.Ytaipmdhnhffckaa.Sh
open Go Go.Abs Go.Mth
set_option linter.unusedVariables false
set_option linter.unusedSimpArgs false
structure KJ where
  k : Nat
  n : Nat
attribute [local irreducible] gOK WS WC WR WD Ends FS YS OpV seqK blockK loopK midK retK rdK asgK rangeEnd sat Cell
section
variable {M : HL} {n0 : Nat} {H : Heap} {v w : Value} {vs : List (List Nat)} {n m : Nat} {o : List Int}
set_option maxHeartbeats 2000000 in
theorem lenvies_fs (hH : hasH M n0 H) (hV : OKV vs n m) (hR : ValsN M v vs) (hO : Sl M 1 w (ints o)) (ho : OKP o n m) {i j : Nat} (hi : i < n) (hj : j < n) :
    FS C 58 [v, w, .int .i64 (i : Int), .int .i64 (j : Int)] H (fun e H' => e = .tuple #[.bool (envP vs (shs n o) i j), .bool (muchP vs (shs n o) i j)] ∧ ∃ n', n0 ≤ n' ∧ hasH M n' H') := by
  have hvl := hV.len
  have hn4 := hV.n4
  have hm6 := hV.m6
  have hol := ho.len
  refine FS.intro (pf := pf58) rfl rfl rfl ?_
  repeat' (first | refine zP ?_ | refine zA ?_ | (refine zM ?_; intro _ _) | refine zX ?_ | (refine zC ?_; intro _ _ _ _) | (refine zS ?_; intro _ _) | (apply Ws <;> intro hg))
  refine WR.call (by first | exact gN | exact gS rfl) rfl rfl (worths_fs hH hV hR hO ho) ?_
  rintro _ H1 ⟨us, Mi, n1, rfl, hRW, hn1, hH1⟩
  have hul : us.length = n := by rw [hRW.1]; simp [worM, hvl]
  have hwl : (worM vs (shs n o)).length = n := by simp [worM, hvl]
  have hSu : Sl ((n0, .row 23 0 0 us) :: (Mi ++ M)) 1 (.slice (some ⟨n0, 0, some 0⟩) n (2 * n + 1)) us := Sl.mkd hul
  have hri : Sl ((n0, .row 23 0 0 us) :: (Mi ++ M)) 1 (us.getD i undef) (nodes ((worM vs (shs n o)).getD i [])) := (hRW.2 i (by omega)).cons
  have hRl : ((worM vs (shs n o)).getD i []).length = n := by rw [worM_get (by omega), List.length_map, shs_len]
  have hRj : ((worM vs (shs n o)).getD i []).getD j 0 = wor (vs.getD i []) (shr o j) := by rw [worM_at (by omega) (by rw [shs_len]; exact hj), shs_get _ hj]
  have hRi : ((worM vs (shs n o)).getD i []).getD i 0 = wor (vs.getD i []) (shr o i) := by rw [worM_at (by omega) (by rw [shs_len]; exact hi), shs_get _ hi]
  have hsub : ∀ q ∈ M, q ∈ (n0, Ch.row 23 0 0 us) :: (Mi ++ M) := fun q hq => .tail _ (List.mem_append_right _ hq)
  have hback : ∀ {n' : Nat} {H' : Heap}, hasH ((n0, Ch.row 23 0 0 us) :: (Mi ++ M)) n' H' → hasH M n' H' := fun h => h.sub ((List.sublist_append_right _ _).trans (List.sublist_cons_self _ _))
  obtain ⟨ws, hW, hwsl, hws⟩ := hR.ex
  have hW1 := hW.mono hsub
  have hO1 := hO.mono hsub
  have hf := (hws i (by omega)).mono hsub
  have hb1 := hV.wor (s := shr o j) hi
  have hb2 := hV.wor (s := shr o i) hi
  have hrl := hV.rowLen hi
  generalize (worM vs (shs n o)).getD i [] = R at hri hRl hRj hRi
  generalize (n0, Ch.row 23 0 0 us) :: (Mi ++ M) = T at hH1 hSu hri hW1 hO1 hf hback
  generalize Value.slice (some ⟨n0, 0, some 0⟩) n (2 * n + 1) = u at hSu ⊢
  clear hRW hsub
  have hE : envP vs (shs n o) i j = envB (vs.getD i []) (shr o i) (shr o j) := by unfold envP; rw [shs_get _ hi, shs_get _ hj]
  have hMu : muchP vs (shs n o) i j = (envB (vs.getD i []) (shr o i) (shr o j) && allTo o (vs.getD i []) j (wor (vs.getD i []) (shr o i)) (wor (vs.getD i []) (shr o j)) m) := by unfold muchP; rw [shs_get _ hi, shs_get _ hj, much_all hol hm6]
  rw [hE, hMu]
  have hEb : decide (((R.getD i 0 : Nat) : Int) < ((R.getD j 0 : Nat) : Int)) = envB (vs.getD i []) (shr o i) (shr o j) := by
    unfold envB
    rw [decide_eq_decide, hRj, hRi]; omega
  generalize envB (vs.getD i []) (shr o i) (shr o j) = E at hEb ⊢
  clear hE hMu
  obtain ⟨g, hg⟩ : ∃ g : Nat → Bool, ∀ k, g k = (E && allTo o (vs.getD i []) j (wor (vs.getD i []) (shr o i)) (wor (vs.getD i []) (shr o j)) k) := ⟨_, fun _ => rfl⟩
  have hg0 : E = g 0 := by rw [hg 0]; simp [allTo]
  have hgs : ∀ k, g (k + 1) = (g k && (!decide (o.getD k (-1) = (j : Int)) || decide (wor (vs.getD i []) (shr o i) + (vs.getD i []).getD k 0 < wor (vs.getD i []) (shr o j)))) := fun k => by rw [hg, hg, allTo_succ, Bool.and_assoc]
  rw [← hg m]
  rw [hg0] at hEb ⊢
  clear hg hg0
  repeat' (first | refine zP ?_ | refine zA ?_ | (refine zM ?_; intro _ _) | refine zX ?_ | (refine zC ?_; intro _ _ _ _) | (refine zS ?_; intro _ _) | (apply Ws <;> intro hg))
  rw [hEb]
  repeat' (first | refine zP ?_ | refine zA ?_ | (refine zM ?_; intro _ _) | refine zX ?_ | (refine zC ?_; intro _ _ _ _) | (refine zS ?_; intro _ _) | (apply Ws <;> intro hg))
  rw [hol]
  refine WC.loopX [(0, _), (1, _), (2, _), (3, _), (8, _), (10, _), (32, _), (33, _)] (fun s : Nat => [(9, .bool (g s)), (34, .int .i64 (s : Int))]) []
    (fun s H' => s ≤ m ∧ H' = H1) (fun s => m - s) 0 (by repeat' (first | exact .nil | refine .cons rfl ?_)) rfl ⟨Nat.zero_le _, rfl⟩ ?_
  rintro k H2 ⟨hk, rfl⟩
  dsimp only [List.cons_append, List.nil_append]
  repeat' (first | refine zP ?_ | refine zA ?_ | (refine zM ?_; intro _ _) | refine zX ?_ | (refine zC ?_; intro _ _ _ _) | (refine zS ?_; intro _ _) | (apply Ws <;> intro hg))
  refine WC.condP rfl (fun hlt => ?_) (fun hlt => ?_)
  · have hk' : k < m := by omega
    have hg : o.getD k (-1) = o.getD k 0 := by rw [getD_eq (by omega), getD_eq (by omega)]
    have hs := hgs k
    rw [hg] at hs
    have hfk := getD_le (hV.rowBd hi) k
    by_cases hown : o.getD k 0 = (j : Int)
    · rw [decide_eq_true hown, Bool.not_true, Bool.false_or] at hs
      by_cases hle : wor (vs.getD i []) (shr o j) ≤ wor (vs.getD i []) (shr o i) + (vs.getD i []).getD k 0
      · rw [decide_eq_false (by omega), Bool.and_false] at hs
        repeat' (first | refine zP ?_ | refine zA ?_ | (refine zM ?_; intro _ _) | refine zX ?_ | (refine zC ?_; intro _ _ _ _) | (refine zS ?_; intro _ _) | refine zO ?_ | (apply Ws <;> intro hg))
        rw [show (k : Int) + 1 = ((k + 1 : Nat) : Int) by omega]
        exact Ends.loop (k + 1) (by omega) (by rw [hs]; exact (by repeat' (first | exact .nil | refine .cons rfl ?_))) rfl ⟨hk', rfl⟩
      · rw [decide_eq_true (by omega), Bool.and_true] at hs
        repeat' (first | refine zP ?_ | refine zA ?_ | (refine zM ?_; intro _ _) | refine zX ?_ | (refine zC ?_; intro _ _ _ _) | (refine zS ?_; intro _ _) | refine zO ?_ | (apply Ws <;> intro hg))
        rw [show (k : Int) + 1 = ((k + 1 : Nat) : Int) by omega]
        exact Ends.loop (k + 1) (by omega) (by rw [hs]; exact (by repeat' (first | exact .nil | refine .cons rfl ?_))) rfl ⟨hk', rfl⟩
    · rw [decide_eq_false hown, Bool.not_false, Bool.true_or, Bool.and_true] at hs
      repeat' (first | refine zP ?_ | refine zA ?_ | (refine zM ?_; intro _ _) | refine zX ?_ | (refine zC ?_; intro _ _ _ _) | (refine zS ?_; intro _ _) | refine zO ?_ | (apply Ws <;> intro hg))
      rw [show (k : Int) + 1 = ((k + 1 : Nat) : Int) by omega]
      exact Ends.loop (k + 1) (by omega) (by rw [hs]; exact (by repeat' (first | exact .nil | refine .cons rfl ?_))) rfl ⟨hk', rfl⟩
  · have hkm : k = m := by omega
    rw [hkm]
    repeat' (first | refine zP ?_ | refine zA ?_ | (refine zM ?_; intro _ _) | refine zX ?_ | (refine zC ?_; intro _ _ _ _) | (refine zS ?_; intro _ _) | (apply Ws <;> intro hg))
    exact Ends.ret2 rfl rfl ⟨rfl, n1, by omega, hback hH1⟩
set_option maxHeartbeats 2000000 in
theorem judged_fs (hH : hasH M n0 H) (hV : OKV vs n m) (hR : ValsN M v vs) (hO : Sl M 1 w (ints o)) (ho : OKP o n m) :
    FS C 55 [v, w] H (fun e H' => e = .tuple #[.int .i64 (fairN vs (shs n o) : Nat), .agg [.int .i64 (((pairsL (muchP vs (shs n o)) n).headD (0, 0)).1 : Nat), .int .i64 (((pairsL (muchP vs (shs n o)) n).headD (0, 0)).2 : Nat)].toArray] ∧ ∃ n', n0 ≤ n' ∧ hasH M n' H') := by
  have hvl := hV.len
  have hn4 := hV.n4
  obtain ⟨ws, hW, hwl, hws⟩ := hR.ex
  have hfair : fairN vs (shs n o) = fairOf (pairsL (envP vs (shs n o)) n) (pairsL (muchP vs (shs n o)) n) := by
    unfold fairN fairOf
    rw [hvl]
    by_cases e1 : pairsL (envP vs (shs n o)) n = []
    · have e2 : pairsL (muchP vs (shs n o)) n = [] := pairs_nil.2 fun a b ha hb => by
        cases h : muchP vs (shs n o) a b with
        | false => rfl
        | true => rw [pairs_nil.1 e1 a b ha hb |>.symm.trans (much_envP h)]
      rw [if_pos e1, if_pos e2, if_pos e1]
    · rw [if_neg e1]; split <;> simp [e1]
  rw [hfair, ← done_all, ← done_all]
  have hem : ∀ {a b : Nat}, muchP vs (shs n o) a b = true → envP vs (shs n o) a b = true := fun h => much_envP h
  obtain ⟨E, hE⟩ : ∃ E, E = envP vs (shs n o) := ⟨_, rfl⟩
  obtain ⟨U, hU⟩ : ∃ U, U = muchP vs (shs n o) := ⟨_, rfl⟩
  rw [← hE, ← hU] at hem ⊢
  refine FS.intro (pf := pf55) rfl rfl rfl ?_
  repeat' (first | refine zP ?_ | refine zA ?_ | (refine zM ?_; intro _ _) | refine zX ?_ | (refine zC ?_; intro _ _ _ _) | (refine zS ?_; intro _ _) | (apply Ws <;> intro hg))
  rename_i H1 hH1
  rw [hwl, hvl]
  have hW1 := hW.cons (p := (n0, .row 58 0 0 [.int .i64 0, .int .i64 0]))
  clear hH
  refine WC.loopX [(0, _), (1, _), (5, _), (10, _), (11, _)] (fun s : KJ => [(4, .int .i64 (fairOf (doneP E n s.k 0) (doneP U n s.k 0) : Nat)), (12, .int .i64 (s.k : Int))]) []
    (fun s H' => s.k ≤ n ∧ n0 < s.n ∧ hasH ((n0, .row 58 0 0 [.int .i64 (((doneP U n s.k 0).headD (0, 0)).1 : Nat), .int .i64 (((doneP U n s.k 0).headD (0, 0)).2 : Nat)]) :: M) s.n H') (fun s => n - s.k) ⟨0, n0 + 1⟩ (by repeat' (first | exact .nil | refine .cons rfl ?_)) rfl
    ⟨Nat.zero_le _, by simp only; omega, hH1⟩ ?_
  clear hH1 hW1
  rintro ⟨i, n1⟩ H2 ⟨hi, hn1, hH2⟩
  simp only at hi hn1 hH2
  have hW2 := hW.cons (p := (n0, .row 58 0 0 [.int .i64 (((doneP U n i 0).headD (0, 0)).1 : Nat), .int .i64 (((doneP U n i 0).headD (0, 0)).2 : Nat)]))
  dsimp only [List.cons_append, List.nil_append]
  repeat' (first | refine zP ?_ | refine zA ?_ | (refine zM ?_; intro _ _) | refine zX ?_ | (refine zC ?_; intro _ _ _ _) | (refine zS ?_; intro _ _) | (apply Ws <;> intro hg))
  refine WC.condP rfl (fun hlt => ?_) (fun hlt => ?_)
  · have hi' : i < n := by omega
    repeat' (first | refine zP ?_ | refine zA ?_ | (refine zM ?_; intro _ _) | refine zX ?_ | (refine zC ?_; intro _ _ _ _) | (refine zS ?_; intro _ _) | (apply Ws <;> intro hg))
    rw [hwl, hvl]
    clear hW2
    refine WC.loopX [(0, _), (1, _), (5, _), (6, _), (10, _), (11, _), (12, _), (15, _), (16, _)] (fun s : KJ => [(4, .int .i64 (fairOf (doneP E n i s.k) (doneP U n i s.k) : Nat)), (17, .int .i64 (s.k : Int))]) []
      (fun s H' => s.k ≤ n ∧ n0 < s.n ∧ hasH ((n0, .row 58 0 0 [.int .i64 (((doneP U n i s.k).headD (0, 0)).1 : Nat), .int .i64 (((doneP U n i s.k).headD (0, 0)).2 : Nat)]) :: M) s.n H') (fun s => n - s.k) ⟨0, n1⟩ (by repeat' (first | exact .nil | refine .cons rfl ?_)) rfl
      ⟨Nat.zero_le _, hn1, hH2⟩ ?_
    clear hH2
    rintro ⟨j, n2⟩ H3 ⟨hj, hn2, hH3⟩
    simp only at hj hn2 hH3
    dsimp only [List.cons_append, List.nil_append]
    repeat' (first | refine zP ?_ | refine zA ?_ | (refine zM ?_; intro _ _) | refine zX ?_ | (refine zC ?_; intro _ _ _ _) | (refine zS ?_; intro _ _) | (apply Ws <;> intro hg))
    refine WC.condP rfl (fun hlt2 => ?_) (fun hlt2 => ?_)
    · have hj' : j < n := by omega
      repeat' (first | refine zP ?_ | refine zA ?_ | (refine zM ?_; intro _ _) | refine zX ?_ | (refine zC ?_; intro _ _ _ _) | (refine zS ?_; intro _ _) | (apply Ws <;> intro hg))
      refine WR.call (by first | exact gN | exact gS rfl) rfl rfl (lenvies_fs hH3 hV hR.cons hO.cons ho hi' hj') ?_
      rintro _ H4 ⟨rfl, n4, hn4', hH4⟩
      rw [← hE, ← hU]
      clear hH3
      obtain ⟨de, hde⟩ : ∃ de, de = doneP E n i j := ⟨_, rfl⟩
      obtain ⟨du, hdu⟩ : ∃ du, du = doneP U n i j := ⟨_, rfl⟩
      rw [← hde, ← hdu]
      rw [← hdu] at hH4
      have hf2 : fairOf de du ≤ 2 := by unfold fairOf; split <;> (try split) <;> omega
      cases he : E i j with
      | false =>
        have hu : U i j = false := by
          cases h : U i j with
          | false => rfl
          | true => rw [hem h] at he; cases he
        have h1 := done_no (n := n) he
        have h2 := done_no (n := n) hu
        rw [← hde] at h1
        rw [← hdu] at h2
        rw [hu]
        repeat' (first | refine zP ?_ | refine zA ?_ | (refine zM ?_; intro _ _) | refine zX ?_ | (refine zC ?_; intro _ _ _ _) | (refine zS ?_; intro _ _) | refine zO ?_ | (apply Ws <;> intro hg))
        rw [show (j : Int) + 1 = ((j + 1 : Nat) : Int) by omega]
        exact Ends.loop ⟨j + 1, n4⟩ (by simp only; omega) (by simp only; rw [h1, h2]; exact (by repeat' (first | exact .nil | refine .cons rfl ?_))) rfl ⟨hj', by simp only; omega, by simp only; rw [h2]; exact hH4⟩
      | true =>
        have h1 := done_yes (n := n) he
        rw [← hde] at h1
        have hmin : min ((fairOf de du : Nat) : Int) 1 = ((fairOf (de ++ [(i, j)]) du : Nat) : Int) := by
          unfold fairOf
          by_cases e1 : de = [] <;> by_cases e2 : du = [] <;> simp [e1, e2] <;> (try decide)
        cases hu : U i j with
        | false =>
          have h2 := done_no (n := n) hu
          rw [← hdu] at h2
          repeat' (first | refine zP ?_ | refine zA ?_ | (refine zM ?_; intro _ _) | refine zX ?_ | (refine zC ?_; intro _ _ _ _) | (refine zS ?_; intro _ _) | (apply Ws <;> intro hg))
          rw [hmin, ← h1, ← h2]
          repeat' (first | refine zP ?_ | refine zA ?_ | (refine zM ?_; intro _ _) | refine zX ?_ | (refine zC ?_; intro _ _ _ _) | (refine zS ?_; intro _ _) | refine zO ?_ | (apply Ws <;> intro hg))
          rw [show (j : Int) + 1 = ((j + 1 : Nat) : Int) by omega]
          exact Ends.loop ⟨j + 1, n4⟩ (by simp only; omega) (by repeat' (first | exact .nil | refine .cons rfl ?_)) rfl ⟨hj', by simp only; omega, by simp only; rw [h2]; exact hH4⟩
        | true =>
          have h2 := done_yes (n := n) hu
          rw [← hdu] at h2
          repeat' (first | refine zP ?_ | refine zA ?_ | (refine zM ?_; intro _ _) | refine zX ?_ | (refine zC ?_; intro _ _ _ _) | (refine zS ?_; intro _ _) | (apply Ws <;> intro hg))
          rw [hmin]
          by_cases e2 : du = []
          · have hz : fairOf (doneP E n i (j + 1)) (doneP U n i (j + 1)) = 0 := by rw [h2]; unfold fairOf; rw [if_neg (by simp)]
            have hone : fairOf (de ++ [(i, j)]) du = 1 := by unfold fairOf; rw [if_pos e2, if_neg (by simp)]
            rw [hone]
            repeat' (first | refine zP ?_ | refine zA ?_ | (refine zM ?_; intro _ _) | refine zX ?_ | (refine zC ?_; intro _ _ _ _) | (refine zS ?_; intro _ _) | refine zO ?_ | (apply Ws <;> intro hg))
            refine WR.op (by first | exact gN | exact gS rfl) rfl (OpV.bldA (cs := [Value.int .i64 (i : Int), .int .i64 (j : Int)].toArray) rfl rfl) ?_
            repeat' (first | refine zP ?_ | refine zA ?_ | (refine zM ?_; intro _ _) | refine zX ?_ | (refine zC ?_; intro _ _ _ _) | (refine zS ?_; intro _ _) | (apply Ws <;> intro hg))
            refine WR.store2 (by first | exact gN | exact gS rfl) hH4 rfl rfl rfl rfl .here fun H5 hH5 => ?_
            repeat' (first | refine zP ?_ | refine zA ?_ | (refine zM ?_; intro _ _) | refine zX ?_ | (refine zC ?_; intro _ _ _ _) | (refine zS ?_; intro _ _) | (apply Ws <;> intro hg))
            rw [show (j : Int) + 1 = ((j + 1 : Nat) : Int) by omega]
            exact Ends.loop ⟨j + 1, n4⟩ (by simp only; omega) (by simp only; rw [hz]; exact (by repeat' (first | exact .nil | refine .cons rfl ?_))) rfl ⟨hj', by simp only; omega, by simp only; rw [h2, e2]; exact hH5⟩
          · have hz : fairOf (doneP E n i (j + 1)) (doneP U n i (j + 1)) = 0 := by rw [h2]; unfold fairOf; rw [if_neg (by simp)]
            have hone : fairOf (de ++ [(i, j)]) du = 0 := by unfold fairOf; rw [if_neg e2]
            have hd : (doneP U n i (j + 1)).headD (0, 0) = du.headD (0, 0) := by
              rw [h2]
              cases du with
              | nil => exact absurd rfl e2
              | cons _ _ => rfl
            rw [hone]
            repeat' (first | refine zP ?_ | refine zA ?_ | (refine zM ?_; intro _ _) | refine zX ?_ | (refine zC ?_; intro _ _ _ _) | (refine zS ?_; intro _ _) | refine zO ?_ | (apply Ws <;> intro hg))
            rw [show (j : Int) + 1 = ((j + 1 : Nat) : Int) by omega]
            exact Ends.loop ⟨j + 1, n4⟩ (by simp only; omega) (by simp only; rw [hz]; exact (by repeat' (first | exact .nil | refine .cons rfl ?_))) rfl ⟨hj', by simp only; omega, by simp only; rw [hd]; exact hH4⟩
    · have hjn : j = n := by omega
      rw [hjn, ← done_next, ← done_next]
      rw [hjn, ← done_next] at hH3
      repeat' (first | refine zP ?_ | refine zA ?_ | (refine zM ?_; intro _ _) | refine zX ?_ | (refine zC ?_; intro _ _ _ _) | (refine zS ?_; intro _ _) | (apply Ws <;> intro hg))
      rw [show (i : Int) + 1 = ((i + 1 : Nat) : Int) by omega]
      exact Ends.loop ⟨i + 1, n2⟩ (by simp only; omega) (by repeat' (first | exact .nil | refine .cons rfl ?_)) rfl ⟨hi', hn2, hH3⟩
  · have hin : i = n := by omega
    rw [hin] at hH2 ⊢
    repeat' (first | refine zP ?_ | refine zA ?_ | (refine zM ?_; intro _ _) | refine zX ?_ | (refine zC ?_; intro _ _ _ _) | (refine zS ?_; intro _ _) | (apply Ws <;> intro hg))
    refine WR.store2 (by first | exact gN | exact gS rfl) hH2 rfl rfl rfl rfl .here fun H3 hH3 => ?_
    repeat' (first | refine zP ?_ | refine zA ?_ | (refine zM ?_; intro _ _) | refine zX ?_ | (refine zC ?_; intro _ _ _ _) | (refine zS ?_; intro _ _) | (apply Ws <;> intro hg))
    exact Ends.ret1CN rfl rfl (read2 hH3 (.head _)) ⟨rfl, n1, by omega, hH3.tail⟩
end
end Go.Proofs.Ytaipmdhnhffckaa.Sh

/- Functions of the library. -/
namespace Go.Abs
set_option linter.unusedSectionVars false
variable [Globs]
open Go
section
variable {C : CW} {nt : Nat} {L : Env} {D : List Nat} {H : Heap} {K : St → Prop} {M M' : HL} {n : Nat} {gd : Option (Tmp × Bool)} {lo : List Nat} {l : List POp}
/-- Nothing is copied to a slice without elements. -/
theorem WR.copy0 {i d : Nat} {x y : Operand} {a : Option Addr} {c : Nat} {v : Value} {ls : List Value} (hg : gOK L gd) (hd : Nat.blt d nt = true) (hx : ev L x = some (.slice a 0 c)) (hy : ev L y = some v) (hS : Sl M 1 v ls) (hH : hasH M n H) (hne : ls ≠ [])
    (k : WR C nt l ((d, .int .i64 0) :: L) D H K) : WR C nt (⟨i, some d, .copy 1 x y, gd, lo⟩ :: l) L D H K := by
  obtain ⟨h1, h2⟩ := hS.src hH hne
  have h3 := h2 0 (Nat.zero_le _)
  refine WR.op hg hd (v := .int .i64 0) (H' := H) (fun t ht => ?_) k
  have hm : Nat.min ls.length 0 = 0 := Nat.min_zero _
  simp only [opA, ev_ok ht hx, ev_ok ht hy, copyA, h1, hm, h3, List.take_zero]
  cases a <;> rfl
end
end Go.Abs
namespace Go.Proofs.Ytaipmdhnhffckaa.Sh
open Go Go.Abs Go.Mth
set_option linter.unusedVariables false
set_option linter.unusedSimpArgs false
set_option maxRecDepth 100000 in
theorem mul64_one (H : Heap) : ∀ m : Nat, m < 7 → ∃ k, runW C k (.call 100 [.int .u64 1, .int .u64 (m : Int)] H) = some (.val (.tuple #[.int .u64 0, .int .u64 (m : Int)]) H)
  | 0, _ => ⟨100, by kernel_rfl⟩
  | 1, _ => ⟨100, by kernel_rfl⟩
  | 2, _ => ⟨100, by kernel_rfl⟩
  | 3, _ => ⟨100, by kernel_rfl⟩
  | 4, _ => ⟨100, by kernel_rfl⟩
  | 5, _ => ⟨100, by kernel_rfl⟩
  | 6, _ => ⟨100, by kernel_rfl⟩
  | m + 7, h => absurd h (by omega)
theorem Mul_fs {H : Heap} {m : Nat} (h : m < 7) : FS C 100 [.int .u64 1, .int .u64 (m : Int)] H (fun v H' => v = .tuple #[.int .u64 0, .int .u64 (m : Int)] ∧ H' = H) := by
  obtain ⟨k, hk⟩ := mul64_one H m h
  exact ⟨_, _, ⟨k, hk⟩, rfl, rfl⟩
theorem uk : C.c.P.underlying 112 = some (.int .u64) := by kernel_rfl
theorem splice_get {cs l : List Int} {i : Nat} (h : i + l.length ≤ cs.length) (j : Nat) : (cs.take i ++ l ++ cs.drop (i + l.length)).getD j 0 = if j < i then cs.getD j 0 else if j < i + l.length then l.getD (j - i) 0 else cs.getD j 0 := by
  simp only [List.getD_eq_getElem?_getD]
  by_cases h1 : j < i
  · rw [if_pos h1, List.append_assoc, List.getElem?_append_left (by simp; omega), List.getElem?_take_of_lt h1]
  · rw [if_neg h1]
    by_cases h2 : j < i + l.length
    · rw [if_pos h2, List.getElem?_append_left (by simp; omega), List.getElem?_append_right (by simp; omega)]
      congr 2; simp; omega
    · rw [if_neg h2, List.getElem?_append_right (by simp; omega), List.getElem?_drop]
      congr 2; simp; omega
theorem splice_ints {cs l : List Int} {i : Nat} : splice (ints cs) i (ints l) = ints (cs.take i ++ l ++ cs.drop (i + l.length)) := by
  simp [splice, ints, List.map_take, List.map_drop]
theorem ints_one (xs : List Int) : (ints xs).all one = true := by
  rw [List.all_eq_true]; intro q hq; obtain ⟨z, _, rfl⟩ := List.mem_map.1 hq; rfl
structure KR where
  k : Nat
  ys : List Int
attribute [local irreducible] gOK WS WC WR WD Ends FS YS OpV seqK blockK loopK midK retK rdK asgK rangeEnd sat Cell
section
variable {M : HL} {n0 : Nat} {H : Heap} {v w : Value}
theorem Index_fs (hH : hasH M n0 H) {xs : List Int} (hS : Sl M 1 v (ints xs)) (hx : xs.length ≤ 100000) (a : Int) :
    FS C 53 [v, .int .i64 a] H (fun e H' => H' = H ∧ ((∃ k, k < xs.length ∧ xs.getD k 0 = a ∧ (∀ j, j < k → xs.getD j 0 ≠ a) ∧ e = .int .i64 (k : Int)) ∨ (a ∉ xs ∧ e = .int .i64 (-1)))) := by
  refine FS.intro (pf := pf53) rfl rfl rfl ?_
  repeat' (first | refine zP ?_ | refine zA ?_ | (refine zM ?_; intro _ _) | refine zX ?_ | (refine zC ?_; intro _ _ _ _) | (refine zS ?_; intro _ _) | (apply Ws <;> intro hg))
  refine WC.loopX [(0, _), (1, _), (6, _), (7, _)] (fun k : Nat => [(8, .int .i64 (k : Int))]) [] (fun k H' => H' = H ∧ k ≤ xs.length ∧ ∀ j, j < k → xs.getD j 0 ≠ a) (fun k => xs.length - k) 0 (by repeat' (first | exact .nil | refine .cons rfl ?_)) rfl ⟨rfl, Nat.zero_le _, fun j h => absurd h (Nat.not_lt_zero _)⟩ ?_
  rintro k H' ⟨rfl, hk, hno⟩
  dsimp only [List.cons_append, List.nil_append]
  repeat' (first | refine zP ?_ | refine zA ?_ | (refine zM ?_; intro _ _) | refine zX ?_ | (refine zC ?_; intro _ _ _ _) | (refine zS ?_; intro _ _) | (apply Ws <;> intro hg))
  refine WC.condP rfl (fun hlt => ?_) (fun hlt => ?_)
  · have hk' : k < xs.length := by omega
    repeat' (first | refine zP ?_ | refine zA ?_ | (refine zM ?_; intro _ _) | refine zX ?_ | (refine zC ?_; intro _ _ _ _) | (refine zS ?_; intro _ _) | (apply Ws <;> intro hg))
    refine WC.condP rfl (fun h => ?_) (fun h => ?_)
    · repeat' (first | refine zP ?_ | refine zA ?_ | (refine zM ?_; intro _ _) | refine zX ?_ | (refine zC ?_; intro _ _ _ _) | (refine zS ?_; intro _ _) | (apply Ws <;> intro hg))
      exact Ends.ret1 rfl ⟨rfl, .inl ⟨k, hk', h.symm, hno, rfl⟩⟩
    · repeat' (first | refine zP ?_ | refine zA ?_ | (refine zM ?_; intro _ _) | refine zX ?_ | (refine zC ?_; intro _ _ _ _) | (refine zS ?_; intro _ _) | (apply Ws <;> intro hg))
      refine Ends.loop (k + 1) (by omega) (by repeat' (first | exact .nil | refine .cons rfl ?_)) rfl ⟨rfl, hk', fun j hj => ?_⟩
      rcases Nat.lt_or_ge j k with h2 | h2
      · exact hno j h2
      · have : j = k := by omega
        subst this
        exact fun q => h q.symm
  · repeat' (first | refine zP ?_ | refine zA ?_ | (refine zM ?_; intro _ _) | refine zX ?_ | (refine zC ?_; intro _ _ _ _) | (refine zS ?_; intro _ _) | (apply Ws <;> intro hg))
    refine Ends.ret1 rfl ⟨rfl, .inr ⟨fun hm => ?_, rfl⟩⟩
    obtain ⟨j, hj, he⟩ := List.mem_iff_getElem.1 hm
    exact hno j (by omega) (by rw [getD_eq hj]; exact he)
theorem Contains_fs (hH : hasH M n0 H) {xs : List Int} (hS : Sl M 1 v (ints xs)) (hx : xs.length ≤ 100000) (a : Int) :
    FS C 52 [v, .int .i64 a] H (fun e H' => H' = H ∧ e = .bool (decide (a ∈ xs))) := by
  refine FS.intro (pf := pf52) rfl rfl rfl ?_
  repeat' (first | refine zP ?_ | refine zA ?_ | (refine zM ?_; intro _ _) | refine zX ?_ | (refine zC ?_; intro _ _ _ _) | (refine zS ?_; intro _ _) | (apply Ws <;> intro hg))
  refine WR.call (by first | exact gN | exact gS rfl) rfl rfl (Index_fs hH hS hx a) ?_
  rintro _ _ ⟨rfl, ⟨k, hk, he, _, rfl⟩ | ⟨hn, rfl⟩⟩
  · repeat' (first | refine zP ?_ | refine zA ?_ | (refine zM ?_; intro _ _) | refine zX ?_ | (refine zC ?_; intro _ _ _ _) | (refine zS ?_; intro _ _) | (apply Ws <;> intro hg))
    refine Ends.ret1 rfl ⟨rfl, ?_⟩
    have hm : a ∈ xs := by rw [← he]; exact getD_mem hk
    rw [decide_eq_true hm, decide_eq_true (by omega)]
  · repeat' (first | refine zP ?_ | refine zA ?_ | (refine zM ?_; intro _ _) | refine zX ?_ | (refine zC ?_; intro _ _ _ _) | (refine zS ?_; intro _ _) | (apply Ws <;> intro hg))
    refine Ends.ret1 rfl ⟨rfl, ?_⟩
    rw [decide_eq_false hn, decide_eq_false (by omega)]
theorem Delete_fs {b u o len cp R i j : Nat} {ys : List Int} (hH : hasH ((b, .row 3 u o (ints ys)) :: M) n0 H) (hc : capR cp len R) (hly : len ≤ ys.length) (hij : i < j) (hjl : j ≤ len) (hyl : ys.length ≤ 100000) :
    FS C 56 [.slice (some ⟨b, o, some u⟩) len cp, .int .i64 (i : Int), .int .i64 (j : Int)] H (fun e H' => ∃ zs, e = .slice (some ⟨b, o, some u⟩) (len - (j - i)) (roomCode 1 R) ∧ hasH ((b, .row 3 u o (ints zs)) :: M) n0 H' ∧
      zs.length = ys.length ∧ zs.take (len - (j - i)) = ys.take i ++ (ys.take len).drop j) := by
  have hR := hc.le
  refine FS.intro (pf := pf56) rfl rfl rfl ?_
  repeat' (first | refine zP ?_ | refine zA ?_ | (refine zM ?_; intro _ _) | refine zX ?_ | (refine zC ?_; intro _ _ _ _) | (refine zS ?_; intro _ _) | (apply Ws <;> intro hg))
  refine WR.cutMax (by first | exact gN | exact gS rfl) rfl rfl hc rfl rfl rfl (Nat.le_of_lt hij) hjl (Nat.le_refl _) (by omega) fun v13 => ?_
  repeat' (first | refine zP ?_ | refine zA ?_ | (refine zM ?_; intro _ _) | refine zX ?_ | (refine zC ?_; intro _ _ _ _) | (refine zS ?_; intro _ _) | refine zO ?_ | (apply Ws <;> intro hg))
  refine WR.op (by first | exact gN | exact gS rfl) rfl (OpV.cutPre rfl hc rfl (by omega) (by omega)) ?_
  repeat' (first | refine zP ?_ | refine zA ?_ | (refine zM ?_; intro _ _) | refine zX ?_ | (refine zC ?_; intro _ _ _ _) | (refine zS ?_; intro _ _) | (apply Ws <;> intro hg))
  refine WR.cutSuf (by first | exact gN | exact gS rfl) rfl rfl hc rfl hjl fun cp' => ?_
  refine WR.appendR (M' := (b, .row 3 u o (ints (ys.take i ++ (ys.drop j).take (len - j) ++ ys.drop (i + (len - j))))) :: M) (by first | exact gN | exact gS rfl) rfl rfl rfl hH .here (by omega) (by omega) (by omega) fun H1 hH1 => ?_
  have hl2 : i + (len - j) = len - (j - i) := by omega
  rw [hl2] at hH1 ⊢
  obtain ⟨zs, hzs⟩ : ∃ zs, ys.take i ++ (ys.drop j).take (len - j) ++ ys.drop (len - (j - i)) = zs := ⟨_, rfl⟩
  rw [hzs] at hH1
  have hzl : zs.length = ys.length := by rw [← hzs]; simp; omega
  have hzt : zs.take (len - (j - i)) = ys.take i ++ (ys.take len).drop j := by
    rw [← hzs, List.take_append_of_le_length (by simp; omega), List.take_of_length_le (by simp; omega), List.drop_take]
  repeat' (first | refine zP ?_ | refine zA ?_ | (refine zM ?_; intro _ _) | refine zX ?_ | (refine zC ?_; intro _ _ _ _) | (refine zS ?_; intro _ _) | (apply Ws <;> intro hg))
  refine WR.cutOver (by first | exact gN | exact gS rfl) rfl rfl (by omega) rfl rfl (by omega) (by omega) fun cp2 => ?_
  refine WR.clrI (M' := (b, .row 3 u o (ints (zs.take (len - (j - i)) ++ List.replicate (len - (len - (j - i))) 0 ++ zs.drop (len - (j - i) + (len - (len - (j - i))))))) :: M) (by first | exact gN | exact gS rfl) rfl hH1 .here (by omega) (by omega) fun H2 hH2 => ?_
  repeat' (first | refine zP ?_ | refine zA ?_ | (refine zM ?_; intro _ _) | refine zX ?_ | (refine zC ?_; intro _ _ _ _) | (refine zS ?_; intro _ _) | (apply Ws <;> intro hg))
  refine Ends.ret1 rfl ⟨_, rfl, hH2, by simp; omega, ?_⟩
  rw [List.append_assoc, List.take_append_of_le_length (by simp; omega), List.take_of_length_le (by simp; omega), hzt]
theorem Repeat_fs (hH : hasH M n0 H) {a : Int} (hS : Sl M 1 v (ints [a])) {m : Nat} (hm : m ≤ 6) :
    FS C 47 [v, .int .i64 (m : Int)] H (fun e H' => ∃ b n', e = .slice (some ⟨b, 0, some 0⟩) m (2 * m + 1) ∧ n0 ≤ n' ∧ hasH ((b, .row 3 0 0 (ints (List.replicate m a))) :: M) n' H') := by
  have h1 := hS.one_
  refine FS.intro (pf := pf47) rfl rfl rfl ?_
  repeat' (first | refine zP ?_ | refine zA ?_ | (refine zM ?_; intro _ _) | refine zX ?_ | (refine zC ?_; intro _ _ _ _) | (refine zS ?_; intro _ _) | refine zO ?_ | (apply Ws <;> intro hg))
  refine WR.op (by first | exact gN | exact gS rfl) rfl (OpV.conv i64k uk rfl (c := (1 : Int)) rfl) ?_
  repeat' (first | refine zP ?_ | refine zA ?_ | (refine zM ?_; intro _ _) | refine zX ?_ | (refine zC ?_; intro _ _ _ _) | (refine zS ?_; intro _ _) | (apply Ws <;> intro hg))
  refine WR.op (by first | exact gN | exact gS rfl) rfl (OpV.conv i64k uk rfl (c := (m : Int)) (IntWalk.u64_in _ (by omega))) ?_
  refine WR.call (by first | exact gN | exact gS rfl) rfl rfl (Mul_fs (by omega)) ?_
  rintro _ _ ⟨rfl, rfl⟩
  repeat' (first | refine zP ?_ | refine zA ?_ | (refine zM ?_; intro _ _) | refine zX ?_ | (refine zC ?_; intro _ _ _ _) | (refine zS ?_; intro _ _) | refine zO ?_ | (apply Ws <;> intro hg))
  refine WR.op (by first | exact gN | exact gS rfl) rfl (OpV.conv uk i64k rfl (c := (m : Int)) (IntWalk.i64_in _ (by omega))) ?_
  refine WR.mkS (by first | exact gN | exact gS rfl) rfl hH rfl rfl (by omega) rfl fun H2 hH2 => ?_
  replace hH2 : hasH ((n0, .row 3 0 0 (ints (List.replicate m 0))) :: M) (n0 + 1) H2 := by rw [ints, List.map_replicate]; exact hH2
  have hS2 := hS.cons (p := (n0, .row 3 0 0 (ints (List.replicate m 0))))
  by_cases hm0 : m = 0
  · subst hm0
    repeat' (first | refine zP ?_ | refine zA ?_ | (refine zM ?_; intro _ _) | refine zX ?_ | (refine zC ?_; intro _ _ _ _) | (refine zS ?_; intro _ _) | (apply Ws <;> intro hg))
    refine WR.copy0 (by first | exact gN | exact gS rfl) rfl rfl rfl hS2 hH2 (by simp) ?_
    repeat' (first | refine zP ?_ | refine zA ?_ | (refine zM ?_; intro _ _) | refine zX ?_ | (refine zC ?_; intro _ _ _ _) | (refine zS ?_; intro _ _) | (apply Ws <;> intro hg))
    refine WC.loopX [(7, _)] (fun _ : Unit => [(8, .int .i64 0)]) [] (fun _ H' => hasH ((n0, .row 3 0 0 (ints (List.replicate 0 0))) :: M) (n0 + 1) H') (fun _ => 0) () (by repeat' (first | exact .nil | refine .cons rfl ?_)) rfl hH2 ?_
    rintro _ H3 hH3
    dsimp only [List.cons_append, List.nil_append]
    repeat' (first | refine zP ?_ | refine zA ?_ | (refine zM ?_; intro _ _) | refine zX ?_ | (refine zC ?_; intro _ _ _ _) | (refine zS ?_; intro _ _) | refine zO ?_ | (apply Ws <;> intro hg))
    exact Ends.ret1 rfl ⟨n0, n0 + 1, rfl, by omega, hH3⟩
  repeat' (first | refine zP ?_ | refine zA ?_ | (refine zM ?_; intro _ _) | refine zX ?_ | (refine zC ?_; intro _ _ _ _) | (refine zS ?_; intro _ _) | (apply Ws <;> intro hg))
  refine WR.copyMin (by first | exact gN | exact gS rfl) rfl rfl rfl hS2 hH2 .here (by simp [ints, one]) (Nat.le_refl _) (m := 1) (Nat.min_eq_left (by simp; omega)) (Nat.le_refl _) (by simp; omega) rfl fun H3 hH3 => ?_
  rw [show splice (ints (List.replicate m 0)) (0 - 0) ((ints [a]).take 1) = ints ((List.replicate m 0).take 0 ++ [a] ++ (List.replicate m 0).drop (0 + [a].length)) from splice_ints (l := [a]) (i := 0)] at hH3
  have hl0 : ((List.replicate m (0 : Int)).take 0 ++ [a] ++ (List.replicate m 0).drop (0 + [a].length)).length = m := by simp; omega
  have ha0 : ∀ j, j < 1 → ((List.replicate m (0 : Int)).take 0 ++ [a] ++ (List.replicate m 0).drop (0 + [a].length)).getD j 0 = a := fun j hj => by
    have : j = 0 := by omega
    subst this; rfl
  generalize (List.replicate m (0 : Int)).take 0 ++ [a] ++ (List.replicate m 0).drop (0 + [a].length) = ys0 at hH3 hl0 ha0
  repeat' (first | refine zP ?_ | refine zA ?_ | (refine zM ?_; intro _ _) | refine zX ?_ | (refine zC ?_; intro _ _ _ _) | (refine zS ?_; intro _ _) | (apply Ws <;> intro hg))
  refine WC.loopX [(7, .slice (some ⟨n0, 0, some 0⟩) m (2 * m + 1))] (fun s : KR => [(8, .int .i64 (s.k : Int))]) []
    (fun s H' => 1 ≤ s.k ∧ s.k ≤ m ∧ s.ys.length = m ∧ (∀ j, j < s.k → s.ys.getD j 0 = a) ∧ hasH ((n0, .row 3 0 0 (ints s.ys)) :: M) (n0 + 1) H') (fun s => m - s.k) ⟨1, ys0⟩ (by repeat' (first | exact .nil | refine .cons rfl ?_)) rfl ⟨Nat.le_refl _, by simp only; omega, hl0, ha0, hH3⟩ ?_
  clear hH3 hH2 ha0 hl0 hS2
  rintro ⟨k, ys⟩ H4 ⟨hk1, hk, hl, ha, hH4⟩
  simp only at hk1 hk hl ha hH4
  dsimp only [List.cons_append, List.nil_append]
  repeat' (first | refine zP ?_ | refine zA ?_ | (refine zM ?_; intro _ _) | refine zX ?_ | (refine zC ?_; intro _ _ _ _) | (refine zS ?_; intro _ _) | (apply Ws <;> intro hg))
  refine WC.condP rfl (fun hlt => ?_) (fun hlt => ?_)
  · have hk' : k < m := by omega
    repeat' (first | refine zP ?_ | refine zA ?_ | (refine zM ?_; intro _ _) | refine zX ?_ | (refine zC ?_; intro _ _ _ _) | (refine zS ?_; intro _ _) | (apply Ws <;> intro hg))
    refine WR.op (by first | exact gN | exact gS rfl) rfl (OpV.slLoK rfl rfl (by omega) (Nat.le_refl _) hk') ?_
    repeat' (first | refine zP ?_ | refine zA ?_ | (refine zM ?_; intro _ _) | refine zX ?_ | (refine zC ?_; intro _ _ _ _) | (refine zS ?_; intro _ _) | (apply Ws <;> intro hg))
    refine WR.op (by first | exact gN | exact gS rfl) rfl (OpV.slHiK rfl rfl (by omega) (by omega)) ?_
    have hSl : Sl ((n0, .row 3 0 0 (ints ys)) :: M) 1 (.slice (some ⟨n0, 0, some 0⟩) k (2 * m + 1)) (ints (ys.take k)) :=
      .row (lo := 0) (cs := ints ys) (.head _) (.row _ _ _ _) (Nat.zero_le _) (by simp; omega) (by simp [ints, List.map_take]) (by simp; omega) (.inr ⟨m, rfl, by omega⟩)
    obtain ⟨d, hd⟩ : ∃ d, min k (m - k) = d := ⟨_, rfl⟩
    refine WR.copyMin (by first | exact gN | exact gS rfl) rfl rfl rfl hSl hH4 .here (ints_one _) (Nat.zero_le _) (m := d) (by rw [show (ints (ys.take k)).length = k by simp; omega]; exact hd) (by omega) (by simp; omega) rfl fun H5 hH5 => ?_
    rw [show (ints (ys.take k)).take d = ints ((ys.take k).take d) by simp [ints, List.map_take], show splice (ints ys) (0 + k - 0) (ints ((ys.take k).take d)) = ints (ys.take (0 + k - 0) ++ (ys.take k).take d ++ ys.drop ((0 + k - 0) + ((ys.take k).take d).length)) from splice_ints] at hH5
    have htl : ((ys.take k).take d).length = d := by simp; omega
    have hget := fun j => splice_get (cs := ys) (l := (ys.take k).take d) (i := 0 + k - 0) (by omega) j
    have hnl : (ys.take (0 + k - 0) ++ (ys.take k).take d ++ ys.drop ((0 + k - 0) + ((ys.take k).take d).length)).length = m := by simp; omega
    generalize ys.take (0 + k - 0) ++ (ys.take k).take d ++ ys.drop ((0 + k - 0) + ((ys.take k).take d).length) = ys2 at hH5 hget hnl
    repeat' (first | refine zP ?_ | refine zA ?_ | (refine zM ?_; intro _ _) | refine zX ?_ | (refine zC ?_; intro _ _ _ _) | (refine zS ?_; intro _ _) | (apply Ws <;> intro hg))
    refine Ends.loop ⟨k + d, ys2⟩ (by simp only; omega) (by repeat' (first | exact .nil | refine .cons rfl ?_)) rfl ⟨by simp only; omega, by simp only; omega, hnl, fun j hj => ?_, hH5⟩
    simp only at hj ⊢
    rw [hget, htl]
    split
    · exact ha j (by omega)
    · rw [if_pos (by omega), List.getD_eq_getElem?_getD, List.getElem?_take_of_lt (by omega), List.getElem?_take_of_lt (by omega), ← List.getD_eq_getElem?_getD]
      exact ha _ (by omega)
  have hkn : k = m := by omega
  subst hkn
  have : ys = List.replicate k a := ext_getD (a := 0) (by simp [hl]) fun j hj => by rw [ha j (by omega), getD_eq (by simp; omega), List.getElem_replicate]
  subst this
  repeat' (first | refine zP ?_ | refine zA ?_ | (refine zM ?_; intro _ _) | refine zX ?_ | (refine zC ?_; intro _ _ _ _) | (refine zS ?_; intro _ _) | (apply Ws <;> intro hg))
  exact Ends.ret1 rfl ⟨n0, n0 + 1, rfl, by omega, hH4⟩
end
end Go.Proofs.Ytaipmdhnhffckaa.Sh
