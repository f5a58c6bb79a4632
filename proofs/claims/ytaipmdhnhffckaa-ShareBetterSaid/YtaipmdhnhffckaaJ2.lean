/- Texts of the law, joined. -/
import Derived.Test.YtaipmdhnhffckaaJ1
import Derived.Test.YtaipmdhnhffckaaSymK
import Derived.Test.YtaipmdhnhffckaaSymG
import Derived.Test.YtaipmdhnhffckaaSymR
/- What the program's functions on shares come to. -/
namespace Go.Abs
variable [Globs]
end Go.Abs
namespace Go.Proofs.Ytaipmdhnhffckaa.Sh
open Go Go.Abs Go.Mth
set_option linter.unusedVariables false
set_option linter.unusedSimpArgs false
abbrev u64s (l : List Nat) : List Value := numsK .u64 l
theorem lt_pow {s k : Nat} (h : s < 2 ^ k) (hk : k ≤ 62) : s < 2 ^ 62 := Nat.lt_of_lt_of_le h (Nat.pow_le_pow_right (by omega) hk)
/-- Values: a slice of slices of numbers. -/
def RowsN (M : HL) (ws : List Value) (vs : List (List Nat)) : Prop := ws.length = vs.length ∧ ∀ i, i < vs.length → Sl M 1 (ws.getD i undef) (nodes (vs.getD i []))
theorem RowsN.mono {M M' : HL} {ws : List Value} {vs : List (List Nat)} (h : RowsN M ws vs) (k : ∀ p ∈ M, p ∈ M') : RowsN M' ws vs := ⟨h.1, fun i hi => (h.2 i hi).mono k⟩
theorem RowsN.cons {M : HL} {p : Nat × Ch} {ws : List Value} {vs : List (List Nat)} (h : RowsN M ws vs) : RowsN (p :: M) ws vs := h.mono fun q hq => List.mem_cons_of_mem _ hq
structure ValsN (M : HL) (v : Value) (vs : List (List Nat)) : Prop where
  ex : ∃ ws, Sl M 1 v ws ∧ RowsN M ws vs
theorem ValsN.mono {M M' : HL} {v : Value} {vs : List (List Nat)} (h : ValsN M v vs) (k : ∀ p ∈ M, p ∈ M') : ValsN M' v vs := by
  obtain ⟨ws, h1, h2⟩ := h.ex
  exact ⟨ws, h1.mono k, h2.mono k⟩
theorem ValsN.cons {M : HL} {p : Nat × Ch} {v : Value} {vs : List (List Nat)} (h : ValsN M v vs) : ValsN (p :: M) v vs := h.mono fun q hq => List.mem_cons_of_mem _ hq
theorem ValsN.one_ {M : HL} {v : Value} {vs : List (List Nat)} (h : ValsN M v vs) : one v = true := by obtain ⟨ws, h1, _⟩ := h.ex; exact h1.one_
theorem map_getD {α β : Type} {g : α → β} {l : List α} {i : Nat} {a : α} {b : β} (h : i < l.length) : (l.map g).getD i b = g (l.getD i a) := by
  rw [getD_eq (by simpa using h), List.getElem_map, getD_eq h]
theorem ValsN.rows {M : HL} {v : Value} {vs : List (List Nat)} (h : ValsN M v vs) : RowsI M v (vs.map fun l => l.map fun (x : Nat) => (x : Int)) := by
  obtain ⟨ws, h1, h2, h3⟩ := h.ex
  refine ⟨ws, h1, by rw [h2, List.length_map], fun i hi => ?_⟩
  rw [List.length_map] at hi
  rw [map_getD hi, ← nodesI]
  exact h3 i hi
theorem RowsI.vals {M : HL} {v : Value} {vs : List (List Nat)} (h : RowsI M v (vs.map fun l => l.map fun (x : Nat) => (x : Int))) : ValsN M v vs := by
  obtain ⟨ws, h1, h2, h3⟩ := h
  rw [List.length_map] at h2
  refine ⟨ws, h1, h2, fun i hi => ?_⟩
  have := h3 i (by simpa using hi)
  rwa [map_getD hi, ← nodesI] at this
/-- What is left of a share, one thing taken out. -/
def lessN (s j : Nat) : Nat := s ^^^ (s &&& 2 ^ j)
def restsTo (s k : Nat) : List Nat := ((List.range k).filter fun j => s.testBit j).map (lessN s)
attribute [local irreducible] gOK WS WC WR WD Ends FS YS OpV seqK blockK loopK midK retK rdK asgK rangeEnd sat Cell

theorem only_fs {j : Nat} (hj : j ≤ 62) (H : Heap) : FS C 112 [.int .i64 (j : Int)] H (fun e H' => e = .int .u64 ((2 ^ j : Nat) : Int) ∧ H' = H) := by
  have hp : 2 ^ j < 2 ^ 64 := Nat.pow_lt_pow_right (by omega) (by omega)
  refine FS.intro (pf := pf112) rfl rfl rfl ?_
  repeat' (first | refine zP ?_ | refine zA ?_ | (refine zM ?_; intro _ _) | refine zX ?_ | (refine zC ?_; intro _ _ _ _) | (refine zS ?_; intro _ _) | (apply Ws <;> intro hg))
  refine WR.op (by first | exact gN | exact gS rfl) rfl (OpV.shl1 rfl rfl (by show j ≤ 64; omega) hp) ?_
  repeat' (first | refine zP ?_ | refine zA ?_ | (refine zM ?_; intro _ _) | refine zX ?_ | (refine zC ?_; intro _ _ _ _) | (refine zS ?_; intro _ _) | (apply Ws <;> intro hg))
  exact Ends.ret1 rfl ⟨rfl, rfl⟩
theorem has_fs {s j : Nat} (hs : s < 2 ^ 62) (hj : j ≤ 61) (H : Heap) : FS C 104 [.int .u64 (s : Int), .int .i64 (j : Int)] H (fun e H' => e = .bool (s.testBit j) ∧ H' = H) := by
  refine FS.intro (pf := pf104) rfl rfl rfl ?_
  repeat' (first | refine zP ?_ | refine zA ?_ | (refine zM ?_; intro _ _) | refine zX ?_ | (refine zC ?_; intro _ _ _ _) | (refine zS ?_; intro _ _) | (apply Ws <;> intro hg))
  refine WR.call (by first | exact gN | exact gS rfl) rfl rfl (only_fs (by omega) _) ?_
  rintro _ H1 ⟨rfl, rfl⟩
  repeat' (first | refine zP ?_ | refine zA ?_ | (refine zM ?_; intro _ _) | refine zX ?_ | (refine zC ?_; intro _ _ _ _) | (refine zS ?_; intro _ _) | (apply Ws <;> intro hg))
  refine WR.op (by first | exact gN | exact gS rfl) rfl (OpV.andN rfl rfl (by show s < 2 ^ 64; omega) (by show 2 ^ j < 2 ^ 64; exact Nat.pow_lt_pow_right (by omega) (by omega))) ?_
  repeat' (first | refine zP ?_ | refine zA ?_ | (refine zM ?_; intro _ _) | refine zX ?_ | (refine zC ?_; intro _ _ _ _) | (refine zS ?_; intro _ _) | (apply Ws <;> intro hg))
  refine Ends.ret1 rfl ⟨?_, rfl⟩
  congr 1
  rw [Bool.eq_iff_iff, decide_eq_true_eq, and_pow_ne]

section
variable {M : HL} {n0 : Nat} {H : Heap} {v w : Value}
theorem worth_fs (hH : hasH M n0 H) {f : List Nat} (hS : Sl M 1 v (nodes f)) (hl : f.length ≤ 6) (hb : ∀ x ∈ f, x ≤ 20) {s : Nat} (hs : s < 2 ^ 62) :
    FS C 72 [v, .int .u64 (s : Int)] H (fun e H' => e = .int .i64 (wor f s : Nat) ∧ H' = H) := by
  refine FS.intro (pf := pf72) rfl rfl rfl ?_
  repeat' (first | refine zP ?_ | refine zA ?_ | (refine zM ?_; intro _ _) | refine zX ?_ | (refine zC ?_; intro _ _ _ _) | (refine zS ?_; intro _ _) | (apply Ws <;> intro hg))
  refine WC.loopX [(0, _), (1, _), (8, _), (9, _)] (fun k : Nat => [(5, .int .i64 (worTo f s k : Nat)), (10, .int .i64 (k : Int))]) [] (fun k H' => H' = H ∧ k ≤ f.length) (fun k => f.length - k) 0 (by repeat' (first | exact .nil | refine .cons rfl ?_)) rfl ⟨rfl, Nat.zero_le _⟩ ?_
  rintro k H' ⟨rfl, hk⟩
  dsimp only [List.cons_append, List.nil_append]
  repeat' (first | refine zP ?_ | refine zA ?_ | (refine zM ?_; intro _ _) | refine zX ?_ | (refine zC ?_; intro _ _ _ _) | (refine zS ?_; intro _ _) | (apply Ws <;> intro hg))
  refine WC.condP rfl (fun hlt => ?_) (fun hlt => ?_)
  · have hk' : k < f.length := by omega
    have hle := worTo_le hb (s := s) k
    have hx := getD_le hb k
    repeat' (first | refine zP ?_ | refine zA ?_ | (refine zM ?_; intro _ _) | refine zX ?_ | (refine zC ?_; intro _ _ _ _) | (refine zS ?_; intro _ _) | (apply Ws <;> intro hg))
    refine WR.call (by first | exact gN | exact gS rfl) rfl rfl (has_fs hs (by omega) _) ?_
    rintro _ _ ⟨rfl, rfl⟩
    have he : worTo f s (k + 1) = worTo f s k + (if s.testBit k = true then f.getD k 0 else 0) := rfl
    cases h1 : s.testBit k with
    | true =>
      rw [h1, if_pos rfl] at he
      repeat' (first | refine zP ?_ | refine zA ?_ | (refine zM ?_; intro _ _) | refine zX ?_ | (refine zC ?_; intro _ _ _ _) | (refine zS ?_; intro _ _) | (apply Ws <;> intro hg))
      rw [show ((worTo f s k : Nat) : Int) + ((f.getD k 0 : Nat) : Int) = ((worTo f s (k + 1) : Nat) : Int) by omega, show (k : Int) + 1 = ((k + 1 : Nat) : Int) by omega]
      exact Ends.loop (k + 1) (by omega) (by repeat' (first | exact .nil | refine .cons rfl ?_)) rfl ⟨rfl, hk'⟩
    | false =>
      rw [h1, if_neg (by decide)] at he
      replace he : worTo f s (k + 1) = worTo f s k := he
      repeat' (first | refine zP ?_ | refine zA ?_ | (refine zM ?_; intro _ _) | refine zX ?_ | (refine zC ?_; intro _ _ _ _) | (refine zS ?_; intro _ _) | (apply Ws <;> intro hg))
      rw [← he, show (k : Int) + 1 = ((k + 1 : Nat) : Int) by omega]
      exact Ends.loop (k + 1) (by omega) (by repeat' (first | exact .nil | refine .cons rfl ?_)) rfl ⟨rfl, hk'⟩
  · have hkl : k = f.length := by omega
    subst hkl
    repeat' (first | refine zP ?_ | refine zA ?_ | (refine zM ?_; intro _ _) | refine zX ?_ | (refine zC ?_; intro _ _ _ _) | (refine zS ?_; intro _ _) | (apply Ws <;> intro hg))
    exact Ends.ret1 rfl ⟨rfl, rfl⟩
end
end Go.Proofs.Ytaipmdhnhffckaa.Sh

namespace Go.Proofs.Ytaipmdhnhffckaa.Sh
open Go Go.Abs Go.Mth
set_option linter.unusedVariables false
set_option linter.unusedSimpArgs false
/-- A function that answers a question about each share. -/
def AskQ (M : HL) (g : FuncId) (va vb : List Value) (V : Nat → Value) (S : Nat → Prop) : Prop :=
  ∀ {X : HL} {n : Nat} {H : Heap} {s : Nat}, (∀ q ∈ M, q ∈ X) → hasH X n H → S s → FS C g (va ++ [.int .u64 (s : Int)] ++ vb) H (fun e H' => e = V s ∧ ∃ n', n ≤ n' ∧ hasH X n' H')
structure KB where
  k : Nat
  l : List Bool
  n : Nat
structure KI where
  k : Nat
  l : List Int
  n : Nat
structure KV where
  k : Nat
  v : Value
  Mx : HL
  n : Nat
theorem rep_u64s (n : Nat) : (List.replicate n [Value.int .u64 0]).flatten = u64s (List.replicate n 0) := by
  induction n with
  | zero => rfl
  | succ n ih => simp [List.replicate_succ, ih]
theorem Sl.mkd {M : HL} {n e k : Nat} {cs : List Value} (h : cs.length = k) : Sl ((n, .row e 0 0 cs) :: M) 1 (.slice (some ⟨n, 0, some 0⟩) k (2 * k + 1)) cs := by
  subst h
  exact .row (lo := 0) (.head _) (.row _ _ _ _) (Nat.le_refl _) (by omega) (by rw [Nat.sub_self, List.drop_zero, List.take_length]) (by simp) (.inr ⟨_, rfl, Nat.le_refl _⟩)
attribute [local irreducible] gOK WS WC WR WD Ends FS YS OpV seqK blockK loopK midK retK rdK asgK rangeEnd sat Cell

section
variable {M : HL} {n0 : Nat} {H : Heap} {v w : Value}
end
end Go.Proofs.Ytaipmdhnhffckaa.Sh

namespace Go.Proofs.Ytaipmdhnhffckaa.Sh
open Go Go.Abs Go.Mth
set_option linter.unusedVariables false
set_option linter.unusedSimpArgs false
abbrev IL (l : List Nat) : List Int := l.map fun (x : Nat) => (x : Int)
abbrev ILL (vs : List (List Nat)) : List (List Int) := vs.map fun l => l.map fun (x : Nat) => (x : Int)
def belowB (n : Int) (xs : List Int) : Bool := xs.all fun x => decide (0 ≤ x) && decide (x < n)
/-- The error of values. -/
def rowE (m : Nat) (l : List Int) : Int := if l.length = m then (if belowB 21 l = true then 0 else 1) else 5
def valsE (fs : List (List Int)) : Int := if fs.length = 0 then 4 else if 4 < fs.length ∨ 6 < (fs.getD 0 []).length then 3 else firstE (fun i => rowE (fs.getD 0 []).length (fs.getD i [])) fs.length
/-- The error of values and a division. -/
def divE (fs : List (List Int)) (o : List Int) : Int := if valsE fs ≠ 0 then valsE fs else if o.length ≠ (fs.getD 0 []).length then 5 else if belowB (fs.length : Int) o = true then 0 else 2
theorem belowB_iff {n : Int} {xs : List Int} : belowB n xs = true ↔ ∀ x ∈ xs, 0 ≤ x ∧ x < n := by simp [belowB]
theorem vals_ok {fs : List (List Int)} (h : valsE fs = 0) : ∃ vs n m, fs = ILL vs ∧ OKV vs n m := by
  unfold valsE at h
  split at h
  · cases h
  · rename_i h0
    split at h
    · cases h
    · rename_i h1
      have h2 : ∀ i, i < fs.length → (fs.getD i []).length = (fs.getD 0 []).length ∧ ∀ x ∈ fs.getD i [], 0 ≤ x ∧ x < 21 := fun i hi => by
        have := firstE_zero.1 h i hi
        unfold rowE at this
        split at this
        · rename_i h3
          split at this
          · rename_i h4; exact ⟨h3, belowB_iff.1 h4⟩
          · cases this
        · cases this
      have h5 : ∀ l ∈ fs, l.length = (fs.getD 0 []).length ∧ ∀ x ∈ l, 0 ≤ x ∧ x < 21 := fun l hl => by
        obtain ⟨i, hi, rfl⟩ := List.mem_iff_getElem.1 hl
        have := h2 i hi
        rwa [getD_eq (l := fs) (k := i) hi] at this
      refine ⟨fs.map fun l => l.map Int.toNat, fs.length, (fs.getD 0 []).length, ?_, ⟨by simp, by omega, by omega, by omega, fun l hl => ?_, fun l hl x hx => ?_⟩⟩
      · rw [ILL, List.map_map]
        have : fs.map ((fun l : List Nat => l.map fun (x : Nat) => (x : Int)) ∘ fun l : List Int => l.map Int.toNat) = fs.map id := List.map_congr_left fun l hl => by
          show (l.map Int.toNat).map _ = l
          rw [List.map_map]
          have : l.map ((fun (x : Nat) => (x : Int)) ∘ Int.toNat) = l.map id := List.map_congr_left fun x hx => by have := ((h5 l hl).2 x hx).1; simp; omega
          rw [this, List.map_id]
        rw [this, List.map_id]
      · obtain ⟨k, hk, rfl⟩ := List.mem_map.1 hl
        rw [List.length_map]; exact (h5 k hk).1
      · obtain ⟨k, hk, rfl⟩ := List.mem_map.1 hl
        obtain ⟨y, hy, rfl⟩ := List.mem_map.1 hx
        have := (h5 k hk).2 y hy
        omega
theorem vals_intro {vs : List (List Nat)} {n m : Nat} (h : OKV vs n m) : valsE (ILL vs) = 0 := by
  have hl : (ILL vs).length = n := by simp [h.len]
  have hg : ∀ i, i < n → (ILL vs).getD i [] = IL (vs.getD i []) := fun i hi => map_getD (by rw [h.len]; exact hi)
  have h0 := h.pos
  have h4 := h.n4
  have h6 := h.m6
  have hr : ∀ i, i < n → ((ILL vs).getD i []).length = m := fun i hi => by rw [hg i hi, List.length_map, h.rowLen hi]
  unfold valsE
  rw [if_neg (by omega), if_neg (by have := hr 0 (by omega); omega), firstE_zero]
  intro i hi
  rw [hl] at hi
  unfold rowE
  rw [hr i hi, hr 0 (by omega), if_pos rfl, if_pos]
  refine belowB_iff.2 fun x hx => ?_
  rw [hg i hi] at hx
  obtain ⟨y, hy, rfl⟩ := List.mem_map.1 hx
  have := h.rowBd hi y hy
  omega
/-- A division of m things among n finders. -/
structure OKD (o : List Int) (n m : Nat) : Prop where
  len : o.length = m
  bd : ∀ x ∈ o, 0 ≤ x ∧ x < (n : Int)
theorem div_ok {vs : List (List Nat)} {n m : Nat} {o : List Int} (h : OKV vs n m) (he : divE (ILL vs) o = 0) : OKD o n m := by
  have hl : (ILL vs).length = n := by simp [h.len]
  have hr : ((ILL vs).getD 0 []).length = m := by rw [map_getD (a := []) (by rw [h.len]; exact h.pos), List.length_map, h.rowLen h.pos]
  unfold divE at he
  rw [if_neg (by rw [vals_intro h]; simp), hr, hl] at he
  split at he
  · cases he
  · rename_i h1
    split at he
    · rename_i h2; exact ⟨by omega, belowB_iff.1 h2⟩
    · cases he
theorem div_intro {vs : List (List Nat)} {n m : Nat} {o : List Int} (h : OKV vs n m) (ho : OKD o n m) : divE (ILL vs) o = 0 := by
  have hl : (ILL vs).length = n := by simp [h.len]
  have hr : ((ILL vs).getD 0 []).length = m := by rw [map_getD (a := []) (by rw [h.len]; exact h.pos), List.length_map, h.rowLen h.pos]
  unfold divE
  rw [if_neg (by rw [vals_intro h]; simp), hr, hl, if_neg (by rw [ho.len]; simp), if_pos (belowB_iff.2 ho.bd)]
theorem div_vals {fs : List (List Int)} {o : List Int} (h : divE fs o = 0) : valsE fs = 0 := by
  unfold divE at h
  split at h
  · rename_i h1; exact absurd h h1
  · rename_i h1; exact Decidable.not_not.1 h1

theorem shr_snoc {o : List Int} {w : Int} {j : Nat} : shr (o ++ [w]) j = if w = (j : Int) then shr o j ||| 2 ^ o.length else shr o j := by
  refine Nat.eq_of_testBit_eq fun i => ?_
  have h1 := @shr_bit (o ++ [w]) j i
  have h2 := @shr_bit o j i
  rw [List.length_append, List.length_singleton] at h1
  rw [Bool.eq_iff_iff, h1]
  have hg : ∀ k, k < o.length → (o ++ [w]).getD k (-1) = o.getD k (-1) := fun k hk => getD_app_l hk
  by_cases hi : i < o.length
  · rw [hg i hi]
    have e1 : i < o.length + 1 := by omega
    split
    · rw [Nat.testBit_or, Bool.or_eq_true, h2, Nat.testBit_two_pow, decide_eq_true_eq]
      constructor
      · rintro ⟨_, h⟩; exact .inl ⟨hi, h⟩
      · rintro (⟨_, h⟩ | h)
        · exact ⟨e1, h⟩
        · omega
    · rw [h2]; exact ⟨fun ⟨_, h⟩ => ⟨hi, h⟩, fun ⟨_, h⟩ => ⟨e1, h⟩⟩
  · by_cases he : i = o.length
    · subst he
      rw [getD_snoc]
      split
      · rename_i h; rw [Nat.testBit_or, Nat.testBit_two_pow]; simp [h]
      · rename_i h; rw [h2]; simp [h]
    · split
      · rw [Nat.testBit_or, Bool.or_eq_true, h2, Nat.testBit_two_pow, decide_eq_true_eq]
        constructor
        · rintro ⟨h, _⟩; omega
        · rintro (⟨h, _⟩ | h) <;> omega
      · rw [h2]
        constructor
        · rintro ⟨h, _⟩; omega
        · rintro ⟨h, _⟩; omega
theorem shs_snoc {n : Nat} {o : List Int} {w : Nat} (hw : w < n) : shs n (o ++ [(w : Int)]) = (shs n o).set w ((shs n o).getD w 0 ||| 2 ^ o.length) := by
  refine ext_getD (a := 0) (by simp [shs]) fun i hi => ?_
  rw [shs_len] at hi
  rw [shs_get _ hi, getD_set' (by rw [shs_len]; exact hw), shr_snoc, shs_get _ hw, shs_get _ hi]
  by_cases h : i = w
  · subst h; rw [if_pos rfl, if_pos rfl]
  · rw [if_neg h, if_neg (by omega)]
theorem shs_nil (n : Nat) : shs n [] = List.replicate n 0 := by
  refine ext_getD (a := 0) (by simp [shs]) fun i hi => ?_
  rw [shs_len] at hi
  rw [shs_get _ hi, getD_eq (by simpa using hi), List.getElem_replicate]; rfl
theorem same_sl (a : Addr) (k c : Nat) : same1 (.slice (some a) k c) (.slice (some a) k c) = true := by simp [same1, same0, sameAddr_refl]
theorem take_snoc {o : List Int} {k : Nat} (h : k < o.length) : o.take (k + 1) = o.take k ++ [o.getD k 0] := by rw [getD_eq h, List.take_succ_eq_append_getElem h]
theorem shs_lt {n : Nat} {o : List Int} {m : Nat} (h : o.length ≤ m) : ∀ s ∈ shs n o, s < 2 ^ m := fun s hs => by
  obtain ⟨j, _, rfl⟩ := List.mem_map.1 hs
  exact Nat.lt_of_lt_of_le (shr_lt o j) (Nat.pow_le_pow_right (by omega) h)
attribute [local irreducible] gOK WS WC WR WD Ends FS YS OpV seqK blockK loopK midK retK rdK asgK rangeEnd sat Cell

section
variable {M : HL} {n0 : Nat} {H : Heap} {v w : Value}
theorem below_fs (hH : hasH M n0 H) {xs : List Int} (hS : Sl M 1 v (ints xs)) (hl : xs.length ≤ 1000) (n : Int) :
    FS C 83 [.int .i64 n, v] H (fun e H' => e = .bool (belowB n xs) ∧ H' = H) := by
  refine FS.intro (pf := pf83) rfl rfl rfl ?_
  repeat' (first | refine zP ?_ | refine zA ?_ | (refine zM ?_; intro _ _) | refine zX ?_ | (refine zC ?_; intro _ _ _ _) | (refine zS ?_; intro _ _) | (apply Ws <;> intro hg))
  refine WC.loopX [(0, _), (7, _), (8, _)] (fun k : Nat => [(9, .int .i64 (k : Int))]) [] (fun k H' => H' = H ∧ k ≤ xs.length ∧ ∀ j, j < k → 0 ≤ xs.getD j 0 ∧ xs.getD j 0 < n) (fun k => xs.length - k) 0 (by repeat' (first | exact .nil | refine .cons rfl ?_)) rfl ⟨rfl, Nat.zero_le _, fun j h => absurd h (Nat.not_lt_zero _)⟩ ?_
  rintro k H' ⟨rfl, hk, hno⟩
  dsimp only [List.cons_append, List.nil_append]
  repeat' (first | refine zP ?_ | refine zA ?_ | (refine zM ?_; intro _ _) | refine zX ?_ | (refine zC ?_; intro _ _ _ _) | (refine zS ?_; intro _ _) | (apply Ws <;> intro hg))
  refine WC.condP rfl (fun hlt => ?_) (fun hlt => ?_)
  · have hk' : k < xs.length := by omega
    by_cases h1 : 0 ≤ xs.getD k 0 ∧ xs.getD k 0 < n
    · repeat' (first | refine zP ?_ | refine zA ?_ | (refine zM ?_; intro _ _) | refine zX ?_ | (refine zC ?_; intro _ _ _ _) | (refine zS ?_; intro _ _) | refine zO ?_ | (apply Ws <;> intro hg))
      refine Ends.loop (k + 1) (by omega) (by repeat' (first | exact .nil | refine .cons rfl ?_)) rfl ⟨rfl, hk', fun j hj => ?_⟩
      rcases Nat.lt_or_ge j k with h3 | h3
      · exact hno j h3
      · have : j = k := by omega
        subst this; exact h1
    · have hf : belowB n xs = false := by
        cases h : belowB n xs with
        | false => rfl
        | true => exact absurd (belowB_iff.1 h _ (getD_mem hk')) h1
      by_cases h2 : xs.getD k 0 < 0
      · repeat' (first | refine zP ?_ | refine zA ?_ | (refine zM ?_; intro _ _) | refine zX ?_ | (refine zC ?_; intro _ _ _ _) | (refine zS ?_; intro _ _) | refine zO ?_ | (apply Ws <;> intro hg))
        exact Ends.ret1 rfl ⟨by rw [hf], rfl⟩
      · repeat' (first | refine zP ?_ | refine zA ?_ | (refine zM ?_; intro _ _) | refine zX ?_ | (refine zC ?_; intro _ _ _ _) | (refine zS ?_; intro _ _) | refine zO ?_ | (apply Ws <;> intro hg))
        exact Ends.ret1 rfl ⟨by rw [hf], rfl⟩
  · repeat' (first | refine zP ?_ | refine zA ?_ | (refine zM ?_; intro _ _) | refine zX ?_ | (refine zC ?_; intro _ _ _ _) | (refine zS ?_; intro _ _) | (apply Ws <;> intro hg))
    refine Ends.ret1 rfl ⟨?_, rfl⟩
    have : belowB n xs = true := belowB_iff.2 fun x hx => by
      obtain ⟨i, hi, rfl⟩ := List.mem_iff_getElem.1 hx
      have := hno i (by omega)
      rwa [getD_eq hi] at this
    rw [this]

theorem Check_fs (hH : hasH M n0 H) {fs : List (List Int)} (hR : RowsI M v fs) (hl : fs.length ≤ 1000) (hll : ∀ l ∈ fs, l.length ≤ 1000) :
    FS C 27 [v] H (fun e H' => e = .int .i64 (valsE fs) ∧ H' = H) := by
  obtain ⟨ws, hW, hwl, hws⟩ := hR
  refine FS.intro (pf := pf27) rfl rfl rfl ?_
  by_cases h0 : fs.length = 0
  · have : valsE fs = 4 := by unfold valsE; rw [if_pos h0]
    rw [this]
    repeat' (first | refine zP ?_ | refine zA ?_ | (refine zM ?_; intro _ _) | refine zX ?_ | (refine zC ?_; intro _ _ _ _) | (refine zS ?_; intro _ _) | refine zO ?_ | (apply Ws <;> intro hg))
    exact Ends.ret1 rfl ⟨rfl, rfl⟩
  have hr0 := hws 0 (by omega)
  by_cases h1 : 4 < fs.length
  · have : valsE fs = 3 := by unfold valsE; rw [if_neg h0, if_pos (.inl h1)]
    rw [this]
    repeat' (first | refine zP ?_ | refine zA ?_ | (refine zM ?_; intro _ _) | refine zX ?_ | (refine zC ?_; intro _ _ _ _) | (refine zS ?_; intro _ _) | refine zO ?_ | (apply Ws <;> intro hg))
    exact Ends.ret1 rfl ⟨rfl, rfl⟩
  by_cases h2 : 6 < (fs.getD 0 []).length
  · have : valsE fs = 3 := by unfold valsE; rw [if_neg h0, if_pos (.inr h2)]
    rw [this]
    repeat' (first | refine zP ?_ | refine zA ?_ | (refine zM ?_; intro _ _) | refine zX ?_ | (refine zC ?_; intro _ _ _ _) | (refine zS ?_; intro _ _) | refine zO ?_ | (apply Ws <;> intro hg))
    exact Ends.ret1 rfl ⟨rfl, rfl⟩
  have hE : valsE fs = firstE (fun i => rowE (fs.getD 0 []).length (fs.getD i [])) fs.length := by unfold valsE; rw [if_neg h0, if_neg (by omega)]
  repeat' (first | refine zP ?_ | refine zA ?_ | (refine zM ?_; intro _ _) | refine zX ?_ | (refine zC ?_; intro _ _ _ _) | (refine zS ?_; intro _ _) | refine zO ?_ | (apply Ws <;> intro hg))
  refine WC.loopX [(0, _), (18, _), (19, _)] (fun k : Nat => [(20, .int .i64 (k : Int))]) [] (fun k H' => H' = H ∧ k ≤ fs.length ∧ firstE (fun i => rowE (fs.getD 0 []).length (fs.getD i [])) k = 0) (fun k => fs.length - k) 0 (by repeat' (first | exact .nil | refine .cons rfl ?_)) rfl ⟨rfl, Nat.zero_le _, rfl⟩ ?_
  rintro k H' ⟨rfl, hk, hno⟩
  dsimp only [List.cons_append, List.nil_append]
  repeat' (first | refine zP ?_ | refine zA ?_ | (refine zM ?_; intro _ _) | refine zX ?_ | (refine zC ?_; intro _ _ _ _) | (refine zS ?_; intro _ _) | (apply Ws <;> intro hg))
  refine WC.condP rfl (fun hlt => ?_) (fun hlt => ?_)
  · have hk' : k < fs.length := by omega
    have hrk := hws k hk'
    have hlk := hll _ (getD_mem (a := []) hk')
    by_cases h3 : (fs.getD k []).length = (fs.getD 0 []).length
    · repeat' (first | refine zP ?_ | refine zA ?_ | (refine zM ?_; intro _ _) | refine zX ?_ | (refine zC ?_; intro _ _ _ _) | (refine zS ?_; intro _ _) | refine zO ?_ | (apply Ws <;> intro hg))
      refine WR.call (by first | exact gN | exact gS rfl) rfl rfl (below_fs hH hrk hlk _) ?_
      rintro _ _ ⟨rfl, rfl⟩
      cases hb : belowB 21 (fs.getD k []) with
      | true =>
        repeat' (first | refine zP ?_ | refine zA ?_ | (refine zM ?_; intro _ _) | refine zX ?_ | (refine zC ?_; intro _ _ _ _) | (refine zS ?_; intro _ _) | refine zO ?_ | (apply Ws <;> intro hg))
        refine Ends.loop (k + 1) (by omega) (by repeat' (first | exact .nil | refine .cons rfl ?_)) rfl ⟨rfl, hk', firstE_succ hno ?_⟩
        show rowE _ _ = 0
        unfold rowE
        rw [if_pos h3, if_pos hb]
      | false =>
        repeat' (first | refine zP ?_ | refine zA ?_ | (refine zM ?_; intro _ _) | refine zX ?_ | (refine zC ?_; intro _ _ _ _) | (refine zS ?_; intro _ _) | refine zO ?_ | (apply Ws <;> intro hg))
        refine Ends.ret1 rfl ⟨?_, rfl⟩
        have h4 : rowE (fs.getD 0 []).length (fs.getD k []) = 1 := by unfold rowE; rw [if_pos h3, if_neg (by rw [hb]; decide)]
        rw [hE, firstE_at hno (by show rowE _ _ ≠ 0; rw [h4]; decide) hk']
        show _ = Value.int .i64 (rowE _ _)
        rw [h4]
    · repeat' (first | refine zP ?_ | refine zA ?_ | (refine zM ?_; intro _ _) | refine zX ?_ | (refine zC ?_; intro _ _ _ _) | (refine zS ?_; intro _ _) | refine zO ?_ | (apply Ws <;> intro hg))
      refine Ends.ret1 rfl ⟨?_, rfl⟩
      have h4 : rowE (fs.getD 0 []).length (fs.getD k []) = 5 := by unfold rowE; rw [if_neg h3]
      rw [hE, firstE_at hno (by show rowE _ _ ≠ 0; rw [h4]; decide) hk']
      show _ = Value.int .i64 (rowE _ _)
      rw [h4]
  · have hkl : k = fs.length := by omega
    subst hkl
    repeat' (first | refine zP ?_ | refine zA ?_ | (refine zM ?_; intro _ _) | refine zX ?_ | (refine zC ?_; intro _ _ _ _) | (refine zS ?_; intro _ _) | (apply Ws <;> intro hg))
    exact Ends.ret1 rfl ⟨by rw [hE, hno], rfl⟩

theorem give_fs {b e : Nat} {ss : List Nat} {vv : Value} {cp : Nat} (hH : hasH ((b, .row e 0 0 (u64s ss)) :: M) n0 H) (hv : one vv = true) {j x N : Nat} (hj : j ≤ 61) (hN : ss.length = N) (hx : x < N) (hb : ∀ s ∈ ss, s < 2 ^ 62) :
    FS C 114 [.agg [vv, .slice (some ⟨b, 0, some 0⟩) N cp].toArray, .int .i64 (j : Int), .int .i64 (x : Int)] H (fun _ H' => ∃ n', n0 ≤ n' ∧ hasH ((b, .row e 0 0 (u64s (ss.set x (ss.getD x 0 ||| 2 ^ j)))) :: M) n' H') := by
  have hlt := hb _ (getD_mem (a := 0) (show x < ss.length by omega))
  refine FS.intro (pf := pf114) rfl rfl rfl ?_
  repeat' (first | refine zP ?_ | refine zA ?_ | (refine zM ?_; intro _ _) | refine zX ?_ | (refine zC ?_; intro _ _ _ _) | (refine zS ?_; intro _ _) | (apply Ws <;> intro hg))
  rename_i H1 hH1
  refine WC.regionD ?_
  repeat' (first | refine zD ?_ | (refine zE ?_; intro _ _ _ _))
  refine WD.call (by first | exact gN | exact gS rfl) rfl rfl (only_fs (by omega) _) ?_
  rintro _ _ ⟨rfl, rfl⟩
  refine ⟨stands_cons (.inr (holds_at (hH1.read (.tail _ (.head _)) (.row _ _ _ _) (Nat.zero_le _) (nodes_get (by omega))) (same_int _ _))) (stands_cons (.inr (holds_at (hH1.read (.head _) (.row _ _ _ _) (Nat.zero_le _) rfl) (same_sl _ _ _))) stands_nil'), ?_⟩
  refine WD.toWR rfl ?_
  refine WR.op (by first | exact gN | exact gS rfl) rfl (OpV.orN rfl rfl (by show ss.getD x 0 < 2 ^ 64; omega) (by show 2 ^ j < 2 ^ 64; exact Nat.pow_lt_pow_right (by omega) (by omega))) ?_
  repeat' (first | refine zP ?_ | refine zA ?_ | (refine zM ?_; intro _ _) | refine zX ?_ | (refine zC ?_; intro _ _ _ _) | (refine zS ?_; intro _ _) | (apply Ws <;> intro hg))
  rename_i H2 hH2
  exact Ends.end0 ⟨n0 + 1, by omega, hH2.tail⟩
end
end Go.Proofs.Ytaipmdhnhffckaa.Sh

namespace Go.Abs
set_option linter.unusedSectionVars false
variable [Globs]
open Go
section
variable {C : CW} {nt : Nat} {L : Env} {D : List Nat} {H : Heap} {K : St → Prop} {M M' : HL} {n : Nat} {gd : Option (Tmp × Bool)} {lo : List Nat} {l : List POp}
/-- Two cells. -/
theorem WR.store2 {i : Nat} {x y : Operand} {v w : Value} {a c : Value} {b e u : Nat} (hg : gOK L gd) (hH : hasH M n H) (hx : ev L x = some (.pointer (some ⟨b, 0, some u⟩))) (hy : ev L y = some (.agg [v, w].toArray)) (h1 : one v = true) (h2 : one w = true)
    (hu : Upd M b (.row e u 0 [a, c]) (.row e u 0 [v, w]) M') (k : ∀ H', hasH M' n H' → WR C nt l L D H' K) : WR C nt (⟨i, none, .store x y 2, gd, lo⟩ :: l) L D H K :=
  WR.storeAll hg hH hx hy (ls := [v, w]) rfl rfl hu (by simp [h1, h2]) rfl k
theorem Ends.retCN1 {a b k : Nat} {p : Addr} {l : List Value} {v : Value} {R : Value → Heap → Prop} (hx : ev L (.tmp a) = some (.pointer (some p))) (hr : H.readN p k = some l) (hy : ev L (.tmp b) = some v) (h : R (.tuple #[.agg l.toArray, v]) H) : Ends (retK [.cell a (some k), .tmp b] R) .ret L [] H := by
  refine Ends.ret_of trivial fun t ht => ⟨_, H, ?_, h⟩
  simp only [takeAll, leaveC, resultOf, ev_ok ht hx, hr, ev_ok ht hy, retVal]
end
end Go.Abs
namespace Go.Proofs.Ytaipmdhnhffckaa.Sh
open Go Go.Abs Go.Mth
set_option linter.unusedVariables false
set_option linter.unusedSimpArgs false
theorem shs_mem62 {n : Nat} {o : List Int} (h : o.length ≤ 61) : ∀ s ∈ shs n o, s < 2 ^ 62 := fun s hs => by
  have := shs_lt (n := n) (m := 61) h s hs
  have : (2 : Nat) ^ 61 < 2 ^ 62 := by decide
  omega
theorem read2 {M : HL} {n b e : Nat} {H : Heap} {v w : Value} (hH : hasH M n H) (hm : (b, Ch.row e 0 0 [v, w]) ∈ M) : H.readN ⟨b, 0, some 0⟩ 2 = some [v, w] := by
  have := hH.readN (b := b) (u := 0) (lo := 0) (o := 0) (k := 2) hm (.row _ _ _ _) (Nat.le_refl _) (by simp)
  simpa using this
structure KN where
  k : Nat
  n : Nat
attribute [local irreducible] gOK WS WC WR WD Ends FS YS OpV seqK blockK loopK midK retK rdK asgK rangeEnd sat Cell
section
variable {M : HL} {n0 : Nat} {H : Heap} {v w : Value}
theorem divide_fs (hH : hasH M n0 H) {ws : List Value} (hV : Sl M 1 v ws) (hN : ws.length ≤ 1000) {o : List Int} (hO : Sl M 1 w (ints o)) (hol : o.length ≤ 61) (hob : ∀ x ∈ o, 0 ≤ x ∧ x < (ws.length : Int)) :
    FS C 92 [v, w] H (fun e H' => ∃ b n', n0 ≤ n' ∧ e = .agg [v, .slice (some ⟨b, 0, some 0⟩) ws.length (2 * ws.length + 1)].toArray ∧ hasH ((b, .row 116 0 0 (u64s (shs ws.length o))) :: M) n' H') := by
  have hv1 := hV.one_
  obtain ⟨av, cv, hv⟩ := hV.len
  subst hv
  refine FS.intro (pf := pf92) rfl rfl rfl ?_
  repeat' (first | refine zP ?_ | refine zA ?_ | (refine zM ?_; intro _ _) | refine zX ?_ | (refine zC ?_; intro _ _ _ _) | (refine zS ?_; intro _ _) | (apply Ws <;> intro hg))
  refine WR.mkSL (by first | exact gN | exact gS rfl) rfl (by assumption) rfl rfl (by omega) rfl fun H2 hH2 => ?_
  rw [rep_u64s] at hH2
  refine WR.op (by first | exact gN | exact gS rfl) rfl (OpV.bldT (cs := [.slice av ws.length cv, .slice (some ⟨n0 + 1, 0, some 0⟩) ws.length (2 * ws.length + 1)].toArray) rfl rfl) ?_
  repeat' (first | refine zP ?_ | refine zA ?_ | (refine zM ?_; intro _ _) | refine zX ?_ | (refine zC ?_; intro _ _ _ _) | (refine zS ?_; intro _ _) | (apply Ws <;> intro hg))
  rename_i H3 hH3
  refine WR.store2 (by first | exact gN | exact gS rfl) hH3 rfl rfl hv1 rfl .here fun H4 hH4 => ?_
  replace hH4 := hH4.swap
  clear hH3 hH2
  have hO4 := (((hO.cons (p := (n0, Ch.row 78 0 0 [.slice none 0 0, .slice none 0 0]))).cons (p := (n0 + 1 + 1, Ch.row 78 0 0 [.slice av ws.length cv, .slice (some ⟨n0 + 1, 0, some 0⟩) ws.length (2 * ws.length + 1)])))).cons (p := (n0 + 1, Ch.row 116 0 0 (u64s (List.replicate ws.length 0))))
  repeat' (first | refine zP ?_ | refine zA ?_ | (refine zM ?_; intro _ _) | refine zX ?_ | (refine zC ?_; intro _ _ _ _) | (refine zS ?_; intro _ _) | (apply Ws <;> intro hg))
  refine WC.loopX [(0, _), (1, _), (4, _), (5, _), (13, _), (14, _)] (fun s : KN => [(15, .int .i64 (s.k : Int))]) []
    (fun s H' => s.k ≤ o.length ∧ n0 ≤ s.n ∧ hasH ((n0 + 1, .row 116 0 0 (u64s (shs ws.length (o.take s.k)))) :: (n0 + 1 + 1, .row 78 0 0 [.slice av ws.length cv, .slice (some ⟨n0 + 1, 0, some 0⟩) ws.length (2 * ws.length + 1)]) :: (n0, .row 78 0 0 [.slice none 0 0, .slice none 0 0]) :: M) s.n H') (fun s => o.length - s.k) ⟨0, n0 + 1 + 1 + 1⟩ (by repeat' (first | exact .nil | refine .cons rfl ?_)) rfl
    ⟨Nat.zero_le _, by simp only; omega, by simp only [List.take_zero, shs_nil]; exact hH4⟩ ?_
  clear hH4
  rintro ⟨k, n1⟩ H5 ⟨hk, hn1, hH5⟩
  simp only at hk hn1 hH5
  have hO5 : Sl ((n0 + 1, Ch.row 116 0 0 (u64s (shs ws.length (o.take k)))) :: (n0 + 1 + 1, Ch.row 78 0 0 [.slice av ws.length cv, .slice (some ⟨n0 + 1, 0, some 0⟩) ws.length (2 * ws.length + 1)]) :: (n0, Ch.row 78 0 0 [.slice none 0 0, .slice none 0 0]) :: M) 1 w (ints o) := hO.cons.cons.cons
  dsimp only [List.cons_append, List.nil_append]
  repeat' (first | refine zP ?_ | refine zA ?_ | (refine zM ?_; intro _ _) | refine zX ?_ | (refine zC ?_; intro _ _ _ _) | (refine zS ?_; intro _ _) | (apply Ws <;> intro hg))
  refine WC.condP rfl (fun hlt => ?_) (fun hlt => ?_)
  · have hk' : k < o.length := by omega
    have hx := hob _ (getD_mem (a := 0) hk')
    repeat' (first | refine zP ?_ | refine zA ?_ | (refine zM ?_; intro _ _) | refine zX ?_ | (refine zC ?_; intro _ _ _ _) | (refine zS ?_; intro _ _) | (apply Ws <;> intro hg))
    obtain ⟨x, hxe⟩ : ∃ x : Nat, o.getD k 0 = x := ⟨(o.getD k 0).toNat, by omega⟩
    rw [hxe]
    refine WR.call (by first | exact gN | exact gS rfl) rfl rfl (give_fs hH5 hv1 (by omega) (shs_len _ _) (show x < ws.length by omega) (shs_mem62 (by rw [List.length_take]; omega))) ?_
    rintro _ H6 ⟨n6, hn6, hH6⟩
    repeat' (first | refine zP ?_ | refine zA ?_ | (refine zM ?_; intro _ _) | refine zX ?_ | (refine zC ?_; intro _ _ _ _) | (refine zS ?_; intro _ _) | (apply Ws <;> intro hg))
    rw [show (k : Int) + 1 = ((k + 1 : Nat) : Int) by omega]
    refine Ends.loop ⟨k + 1, n6⟩ (by simp only; omega) (by repeat' (first | exact .nil | refine .cons rfl ?_)) rfl ⟨hk', by simp only; omega, ?_⟩
    simp only
    rw [take_snoc hk', hxe, shs_snoc (by omega), List.length_take, Nat.min_eq_left (by omega)]
    exact hH6
  · have hkl : k = o.length := by omega
    subst hkl
    rw [List.take_length] at hH5
    repeat' (first | refine zP ?_ | refine zA ?_ | (refine zM ?_; intro _ _) | refine zX ?_ | (refine zC ?_; intro _ _ _ _) | (refine zS ?_; intro _ _) | (apply Ws <;> intro hg))
    refine WR.store2 (by first | exact gN | exact gS rfl) hH5 rfl rfl hv1 rfl (.there (.there .here)) fun H7 hH7 => ?_
    repeat' (first | refine zP ?_ | refine zA ?_ | (refine zM ?_; intro _ _) | refine zX ?_ | (refine zC ?_; intro _ _ _ _) | (refine zS ?_; intro _ _) | (apply Ws <;> intro hg))
    exact Ends.retCN rfl (read2 hH7 (.tail _ (.tail _ (.head _)))) ⟨n0 + 1, n1, hn1, rfl, hH7.sub (.cons_cons _ ((List.sublist_cons_self _ _).trans (List.sublist_cons_self _ _)))⟩

/-- A division, or the error. -/
theorem checked_fs (hH : hasH M n0 H) {fs : List (List Int)} (hR : RowsI M v fs) (hl : fs.length ≤ 1000) (hll : ∀ l ∈ fs, l.length ≤ 1000) {o : List Int} (hO : Sl M 1 w (ints o)) (hol : o.length ≤ 1000) :
    FS C 70 [v, w] H (fun e H' => ∃ n', n0 ≤ n' ∧ ((divE fs o ≠ 0 ∧ e = .tuple #[.agg [.slice none 0 0, .slice none 0 0].toArray, .int .i64 (divE fs o)] ∧ hasH M n' H') ∨
      (divE fs o = 0 ∧ ∃ b, e = .tuple #[.agg [v, .slice (some ⟨b, 0, some 0⟩) fs.length (2 * fs.length + 1)].toArray, .int .i64 0] ∧ hasH ((b, .row 116 0 0 (u64s (shs fs.length o))) :: M) n' H'))) := by
  have hv1 := hR.one_
  obtain ⟨ws, hW, hwl, hws⟩ := id hR
  refine FS.intro (pf := pf70) rfl rfl rfl ?_
  repeat' (first | refine zP ?_ | refine zA ?_ | (refine zM ?_; intro _ _) | refine zX ?_ | (refine zC ?_; intro _ _ _ _) | (refine zS ?_; intro _ _) | (apply Ws <;> intro hg))
  rename_i H1 hH1
  refine WR.call (by first | exact gN | exact gS rfl) rfl rfl (Check_fs hH1 hR.cons hl hll) ?_
  rintro _ _ ⟨rfl, rfl⟩
  by_cases h1 : valsE fs = 0
  · have hl0 : 0 < fs.length := by
      refine Nat.pos_of_ne_zero fun h => ?_
      unfold valsE at h1
      rw [if_pos h] at h1; cases h1
    obtain ⟨vs, n, m, rfl, hV⟩ := vals_ok h1
    have hfl : (ILL vs).length = n := by simp [hV.len]
    have h0 := hws 0 hl0
    have hW1 : Sl ((n0, Ch.row 78 0 0 [.slice none 0 0, .slice none 0 0]) :: M) 1 v ws := hW.cons
    have h01 : Sl ((n0, Ch.row 78 0 0 [.slice none 0 0, .slice none 0 0]) :: M) 1 (ws.getD 0 undef) (ints ((ILL vs).getD 0 [])) := h0.cons
    have hr0 : ((ILL vs).getD 0 []).length = m := by rw [map_getD (a := []) (by rw [hV.len]; exact hV.pos), List.length_map, hV.rowLen hV.pos]
    rw [h1]
    repeat' (first | refine zP ?_ | refine zA ?_ | (refine zM ?_; intro _ _) | refine zX ?_ | (refine zC ?_; intro _ _ _ _) | (refine zS ?_; intro _ _) | refine zO ?_ | (apply Ws <;> intro hg))
    by_cases h2 : o.length = m
    · have hd : divE (ILL vs) o = if belowB (n : Int) o = true then 0 else 2 := by unfold divE; rw [if_neg (by omega), hr0, hfl, if_neg (by omega)]
      repeat' (first | refine zP ?_ | refine zA ?_ | (refine zM ?_; intro _ _) | refine zX ?_ | (refine zC ?_; intro _ _ _ _) | (refine zS ?_; intro _ _) | refine zO ?_ | (apply Ws <;> intro hg))
      rw [hwl, hfl]
      repeat' (first | refine zP ?_ | refine zA ?_ | (refine zM ?_; intro _ _) | refine zX ?_ | (refine zC ?_; intro _ _ _ _) | (refine zS ?_; intro _ _) | (apply Ws <;> intro hg))
      refine WR.call (by first | exact gN | exact gS rfl) rfl rfl (below_fs hH1 hO.cons hol _) ?_
      rintro _ _ ⟨rfl, rfl⟩
      cases hb : belowB (n : Int) o with
      | true =>
        rw [hb, if_pos rfl] at hd
        repeat' (first | refine zP ?_ | refine zA ?_ | (refine zM ?_; intro _ _) | refine zX ?_ | (refine zC ?_; intro _ _ _ _) | (refine zS ?_; intro _ _) | refine zO ?_ | (apply Ws <;> intro hg))
        refine WR.call (by first | exact gN | exact gS rfl) rfl rfl (divide_fs hH1 hW1 (by omega) hO.cons (by have := hV.m6; omega) (by rw [hwl, hfl]; exact belowB_iff.1 hb)) ?_
        rintro _ H2 ⟨b, n2, hn2, rfl, hH2⟩
        rw [hwl, hfl] at hH2 ⊢
        repeat' (first | refine zP ?_ | refine zA ?_ | (refine zM ?_; intro _ _) | refine zX ?_ | (refine zC ?_; intro _ _ _ _) | (refine zS ?_; intro _ _) | (apply Ws <;> intro hg))
        refine WR.store2 (by first | exact gN | exact gS rfl) hH2 rfl rfl hv1 rfl (.there .here) fun H3 hH3 => ?_
        repeat' (first | refine zP ?_ | refine zA ?_ | (refine zM ?_; intro _ _) | refine zX ?_ | (refine zC ?_; intro _ _ _ _) | (refine zS ?_; intro _ _) | (apply Ws <;> intro hg))
        exact Ends.retCN1 rfl (read2 hH3 (.tail _ (.head _))) rfl ⟨n2, by omega, .inr ⟨hd, b, rfl, hH3.sub (.cons_cons _ (List.sublist_cons_self _ _))⟩⟩
      | false =>
        rw [hb, if_neg (by decide)] at hd
        repeat' (first | refine zP ?_ | refine zA ?_ | (refine zM ?_; intro _ _) | refine zX ?_ | (refine zC ?_; intro _ _ _ _) | (refine zS ?_; intro _ _) | refine zO ?_ | (apply Ws <;> intro hg))
        refine WR.op (by first | exact gN | exact gS rfl) rfl (OpV.bldT (cs := [.slice none 0 0, .slice none 0 0].toArray) rfl rfl) ?_
        refine WR.store2 (by first | exact gN | exact gS rfl) hH1 rfl rfl rfl rfl .here fun H3 hH3 => ?_
        repeat' (first | refine zP ?_ | refine zA ?_ | (refine zM ?_; intro _ _) | refine zX ?_ | (refine zC ?_; intro _ _ _ _) | (refine zS ?_; intro _ _) | (apply Ws <;> intro hg))
        exact Ends.retCN1 rfl (read2 hH3 (.head _)) rfl ⟨n0 + 1, by omega, .inl ⟨by omega, by rw [hd], hH3.tail⟩⟩
    · have hd : divE (ILL vs) o = 5 := by unfold divE; rw [if_neg (by omega), hr0, if_pos (by omega)]
      repeat' (first | refine zP ?_ | refine zA ?_ | (refine zM ?_; intro _ _) | refine zX ?_ | (refine zC ?_; intro _ _ _ _) | (refine zS ?_; intro _ _) | refine zO ?_ | (apply Ws <;> intro hg))
      refine WR.op (by first | exact gN | exact gS rfl) rfl (OpV.bldT (cs := [.slice none 0 0, .slice none 0 0].toArray) rfl rfl) ?_
      refine WR.store2 (by first | exact gN | exact gS rfl) hH1 rfl rfl rfl rfl .here fun H3 hH3 => ?_
      repeat' (first | refine zP ?_ | refine zA ?_ | (refine zM ?_; intro _ _) | refine zX ?_ | (refine zC ?_; intro _ _ _ _) | (refine zS ?_; intro _ _) | (apply Ws <;> intro hg))
      exact Ends.retCN1 rfl (read2 hH3 (.head _)) rfl ⟨n0 + 1, by omega, .inl ⟨by omega, by rw [hd], hH3.tail⟩⟩
  · have hd : divE fs o = valsE fs := by unfold divE; rw [if_pos h1]
    repeat' (first | refine zP ?_ | refine zA ?_ | (refine zM ?_; intro _ _) | refine zX ?_ | (refine zC ?_; intro _ _ _ _) | (refine zS ?_; intro _ _) | refine zO ?_ | (apply Ws <;> intro hg))
    refine WR.op (by first | exact gN | exact gS rfl) rfl (OpV.bldT (cs := [.slice none 0 0, .slice none 0 0].toArray) rfl rfl) ?_
    repeat' (first | refine zP ?_ | refine zA ?_ | (refine zM ?_; intro _ _) | refine zX ?_ | (refine zC ?_; intro _ _ _ _) | (refine zS ?_; intro _ _) | (apply Ws <;> intro hg))
    refine WR.store2 (by first | exact gN | exact gS rfl) hH1 rfl rfl rfl rfl .here fun H3 hH3 => ?_
    repeat' (first | refine zP ?_ | refine zA ?_ | (refine zM ?_; intro _ _) | refine zX ?_ | (refine zC ?_; intro _ _ _ _) | (refine zS ?_; intro _ _) | (apply Ws <;> intro hg))
    exact Ends.retCN1 rfl (read2 hH3 (.head _)) rfl ⟨n0 + 1, by omega, .inl ⟨by omega, by rw [hd], hH3.tail⟩⟩
end
end Go.Proofs.Ytaipmdhnhffckaa.Sh

/- The greatest product of own shares: nobody envies anybody by more than one thing, and nothing is better. -/
namespace Go.Proofs.Ytaipmdhnhffckaa.Sh
open Go Go.Abs Go.Mth
set_option linter.unusedVariables false
set_option linter.unusedSimpArgs false

def prodN (q : Nat → Nat) : Nat → Nat
  | 0 => 1
  | k + 1 => prodN q k * q k
def posQ (w : Nat → Nat) (i : Nat) : Nat := if 0 < w i then w i else 1
def posC (w : Nat → Nat) (i : Nat) : Nat := if 0 < w i then 1 else 0
/-- How many own shares are worth something, and the product of these. -/
def manyW (w : Nat → Nat) (n : Nat) : Nat := sumN (posC w) n
def prodW (w : Nat → Nat) (n : Nat) : Nat := prodN (posQ w) n
def gtG (a b : Nat × Nat) : Bool := decide (b.1 < a.1) || (decide (b.1 = a.1) && decide (b.2 < a.2))
def gainW (w : Nat → Nat) (n : Nat) : Nat × Nat := (manyW w n, prodW w n)
theorem sumN_mono {q r : Nat → Nat} : ∀ {n : Nat}, (∀ i, i < n → q i ≤ r i) → sumN q n ≤ sumN r n
  | 0, _ => Nat.le_refl _
  | n + 1, h => Nat.add_le_add (sumN_mono fun i hi => h i (by omega)) (h n (by omega))
theorem sumN_lt {q r : Nat → Nat} {a : Nat} : ∀ {n : Nat}, (∀ i, i < n → q i ≤ r i) → a < n → q a < r a → sumN q n < sumN r n
  | 0, _, h, _ => absurd h (Nat.not_lt_zero _)
  | n + 1, h, ha, hlt => by
    simp only [sumN]
    have h1 := sumN_mono (n := n) fun i hi => h i (by omega)
    have h2 := h n (by omega)
    by_cases e : a = n
    · subst e; omega
    · have := sumN_lt (n := n) (fun i hi => h i (by omega)) (by omega) hlt; omega
end Go.Proofs.Ytaipmdhnhffckaa.Sh

namespace Go.Abs
set_option linter.unusedSectionVars false
variable [Globs]
open Go
section
variable {C : CW} {nt : Nat} {L : Env} {D : List Nat} {H : Heap} {K : St → Prop} {M M' : HL} {n i d : Nat} {gd : Option (Tmp × Bool)} {lo : List Nat} {l : List POp} {rs : List Rd}
theorem WD.callV {f : Operand} {g : FuncId} {va vb : List Value} {xs : List Operand} {vs : List Value} (hg : gOK L gd) (hd : Nat.blt d nt = true) (hf : ev L f = some (.func (.func g) va.toArray vb.toArray)) (hx : evs L xs = some vs) {R : Value → Heap → Prop} (hc : FS C g (va ++ vs ++ vb) H R)
    (k : ∀ v H', R v H' → stands H' lo rs = true ∧ WD C nt l rs ((d, v) :: L) D H' K) : WD C nt (⟨i, some d, .callV f xs, gd, lo⟩ :: l) rs L D H K := by
  obtain ⟨v, H1, ⟨m1, h1⟩, h2⟩ := hc
  intro t ht
  obtain ⟨ks, kk⟩ := k v H1 h2
  obtain ⟨m2, s', h3, h4⟩ := kk _ (ht.put d v)
  refine ⟨max m1 m2, s', ?_, h4⟩
  have hv : opA C.c.P (.callV f xs) (evalO t) H = .call g (va ++ vs ++ vb) := by simp only [opA, ev_ok ht hf, evs_ok ht hx, callVA]
  have hn : ∀ s s', noteRd ⟨i, some d, .callV f xs, gd, lo⟩ s s' rs = rs := by
    intro s s'; simp only [noteRd]; cases wantedA s.t ⟨i, some d, .callV f xs, gd, lo⟩ <;> rfl
  simp only [stepOpsD, doOp, hg.wanted ht, cond_true, hv, ans, run_mono (Nat.le_max_left m1 m2) _ _ h1, afterOp, putT, hd, stOf, ks, hn]
  exact stepOpsD_mono' (run_mono (Nat.le_max_right m1 m2)) h3
end
end Go.Abs
namespace Go.Proofs.Ytaipmdhnhffckaa.Sh
open Go Go.Abs Go.Mth
set_option linter.unusedVariables false
set_option linter.unusedSimpArgs false
/-- Pairs that are still to come. -/
def restRow (p : Nat → Nat → Bool) (n a b : Nat) : List (Nat × Nat) := (((List.range n).drop b).filter (p a)).map fun b => (a, b)
def restP (p : Nat → Nat → Bool) (n a : Nat) : List (Nat × Nat) := ((List.range n).drop a).flatMap (rowL p n)
/-- A question about a finder with a share. -/
def QuestR (g : FuncId) (p : List Nat → Nat → Nat → Bool) : Prop := ∀ {X : HL} {n : Nat} {H : Heap} {f : List Nat} {v : Value} {own m : Nat}, hasH X n H → Sl X 1 v (nodes f) → f.length = m → m ≤ 6 → (∀ x ∈ f, x ≤ 20) → own < 2 ^ m →
  FS C g [v, .int .u64 (own : Int)] H (fun e H' => ∃ g' vb' F n', e = .func (.func g') [].toArray (List.toArray vb') ∧ n ≤ n' ∧ hasH (F ++ X) n' H' ∧ AskQ (F ++ X) g' [] vb' (fun s => .bool (p f own s)) (fun s => s < 2 ^ m))
/-- A division in memory. -/
structure DivM (M : HL) (vv sv : Value) (vs : List (List Nat)) (ss : List Nat) (n m : Nat) : Prop where
  ok : OKV vs n m
  vals : ValsN M vv vs
  shar : Sl M 1 sv (u64s ss)
  len : ss.length = n
  bd : ∀ s ∈ ss, s < 2 ^ m
theorem DivM.mono {M M' : HL} {vv sv : Value} {vs : List (List Nat)} {ss : List Nat} {n m : Nat} (h : DivM M vv sv vs ss n m) (k : ∀ p ∈ M, p ∈ M') : DivM M' vv sv vs ss n m := ⟨h.ok, h.vals.mono k, h.shar.mono k, h.len, h.bd⟩
def quP (p : List Nat → Nat → Nat → Bool) (vs : List (List Nat)) (ss : List Nat) (a b : Nat) : Bool := p (vs.getD a []) (ss.getD a 0) (ss.getD b 0)
structure PA where
  a : Nat
  M : HL
  n : Nat
attribute [local irreducible] gOK WS WC WR WD Ends FS YS OpV seqK blockK loopK midK retK rdK asgK rangeEnd sat Cell
section
variable {M B : HL} {n0 : Nat} {H : Heap} {vv sv : Value} {vs : List (List Nat)} {ss : List Nat} {n m : Nat}
end
end Go.Proofs.Ytaipmdhnhffckaa.Sh

namespace Go.Abs
set_option linter.unusedSectionVars false
variable [Globs]
open Go
section
variable {L : Env} {D : List Nat} {H : Heap} {M M' : HL} {n : Nat}
theorem retC1D {a : Nat} {p : Addr} {v : Value} {R : Value → Heap → Prop} {M0 : HL} {e : Ex} (he : (match e with | .normal => True | .ret => True | _ => False)) (hx : ev L (.tmp a) = some (.pointer (some p))) (hH : hasH M n H) (hM : M'.Sublist M)
    (hp : M'.Perm (D.map (fun b => (b, Ch.defd false)) ++ M0)) (k2 : ∀ H', hasH M0 n H' → H'.read p = some v ∧ R v H') : Abs.Ends (retK [.cell a none] R) e L D H :=
  Abs.Ends.retD he hH hM hp fun H' h' t ht => by
    obtain ⟨h1, h3⟩ := k2 H' h'
    exact ⟨_, H', by simp only [leaveC, resultOf, ev_ok ht hx, h1, retVal], h3⟩
end
end Go.Abs
namespace Go.Proofs.Ytaipmdhnhffckaa.Sh
open Go Go.Abs Go.Mth
set_option linter.unusedVariables false
set_option linter.unusedSimpArgs false
attribute [local irreducible] gOK WS WC WR WD Ends FS YS OpV seqK blockK loopK midK retK rdK asgK rangeEnd sat Cell
section
variable {M : HL} {n0 : Nat} {H : Heap} {vv sv : Value} {vs : List (List Nat)} {ss : List Nat} {n m : Nat}
end
end Go.Proofs.Ytaipmdhnhffckaa.Sh

namespace Go.Proofs.Ytaipmdhnhffckaa.Sh
open Go Go.Abs Go.Mth
set_option linter.unusedVariables false
set_option linter.unusedSimpArgs false
def natV (fs : List (List Int)) : List (List Nat) := fs.map fun l => l.map Int.toNat
theorem cast_toNat (l : List Nat) : (IL l).map Int.toNat = l := by
  rw [IL, List.map_map]
  have : l.map (Int.toNat ∘ fun (x : Nat) => (x : Int)) = l.map id := List.map_congr_left fun x _ => by simp
  rw [this, List.map_id]
theorem natV_ILL (vs : List (List Nat)) : natV (ILL vs) = vs := by
  rw [natV, ILL, List.map_map]
  have : vs.map ((fun l : List Int => l.map Int.toNat) ∘ fun l : List Nat => l.map fun (x : Nat) => (x : Int)) = vs.map id := List.map_congr_left fun l _ => cast_toNat l
  rw [this, List.map_id]
/-- What Fair and Why come to. -/
def fairC (fs : List (List Int)) (o : List Int) : Nat := if divE fs o = 0 then fairN (natV fs) (shs fs.length o) else 0
def whyL (fs : List (List Int)) (o : List Int) : List (Nat × Nat) := if divE fs o = 0 then pairsL (muchP (natV fs) (shs fs.length o)) fs.length else []
def whyC (fs : List (List Int)) (o : List Int) : Int := if divE fs o = 0 then (if (whyL fs o).isEmpty = true then 13 else 0) else divE fs o
theorem shs_bd {n m : Nat} {o : List Int} (h : o.length = m) : ∀ s ∈ shs n o, s < 2 ^ m := shs_lt (by omega)
attribute [local irreducible] gOK WS WC WR WD Ends FS YS OpV seqK blockK loopK midK retK rdK asgK rangeEnd sat Cell
section
variable {M : HL} {n0 : Nat} {H : Heap} {v w : Value}
theorem divM_of {fs : List (List Int)} {o : List Int} {b : Nat} (hR : RowsI M v fs) (h : divE fs o = 0) : ∃ vs n m, fs = ILL vs ∧ natV fs = vs ∧ fs.length = n ∧ vs.length = n ∧ OKD o n m ∧ DivM ((b, .row 116 0 0 (u64s (shs n o))) :: M) v (.slice (some ⟨b, 0, some 0⟩) n (2 * n + 1)) vs (shs n o) n m := by
  obtain ⟨vs, n, m, rfl, hV⟩ := vals_ok (div_vals h)
  have ho := div_ok hV h
  exact ⟨vs, n, m, rfl, natV_ILL vs, by simp [hV.len], hV.len, ho, ⟨hV, (RowsI.vals hR).cons, Sl.mkd (by simp [shs]), shs_len _ _, shs_bd ho.len⟩⟩
end
end Go.Proofs.Ytaipmdhnhffckaa.Sh

namespace Go.Abs
open Go
end Go.Abs
namespace Go.Proofs.Ytaipmdhnhffckaa.Sh
open Go Go.Abs Go.Mth
set_option linter.unusedVariables false
set_option linter.unusedSimpArgs false
theorem u8k : C.c.P.underlying 5 = some (.int .u8) := by kernel_rfl
theorem i64k : C.c.P.underlying 3 = some (.int .i64) := by kernel_rfl
abbrev bytesV (hs : List Int) : List Value := hs.map (Value.int .u8)
theorem bytes_one (hs : List Int) : (bytesV hs).all one = true := by simp [bytesV, List.all_map]; exact fun x _ => rfl
/-- A heap's cells: two bytes, then four times six. -/
def heapV (a b : Int) (hs : List Int) : List Value := .int .u8 a :: .int .u8 b :: bytesV hs
theorem heap_one (a b : Int) (hs : List Int) : (heapV a b hs).all one = true := by
  have := bytes_one hs
  simp only [heapV, List.all_cons, this, Bool.and_true]; rfl
theorem heap_drop (a b : Int) (hs : List Int) (k : Nat) : (heapV a b hs).drop (2 + k) = bytesV (hs.drop k) := by
  rw [Nat.add_comm, heapV]
  simp only [List.drop_succ_cons, bytesV, List.map_drop]
/-- The values that a heap's bytes stand for. -/
def madeRow (hs : List Int) (i n most : Nat) : List Nat := (List.range n).map fun k => (hs.getD (i * 6 + k) 0).toNat % (most + 1)
def madeVs (a b : Int) (hs : List Int) (fi th most : Nat) : List (List Nat) := (List.range (1 + a.toNat % fi)).map fun i => madeRow hs i (b.toNat % (th + 1)) most
theorem made_ok {a b : Int} {hs : List Int} {fi th most : Nat} (h1 : 1 ≤ fi ∧ fi ≤ 4) (h2 : th ≤ 6) (h3 : most ≤ 20) : OKV (madeVs a b hs fi th most) (1 + a.toNat % fi) (b.toNat % (th + 1)) := by
  have := Nat.mod_lt a.toNat (show 0 < fi by omega)
  have := Nat.mod_lt b.toNat (show 0 < th + 1 by omega)
  refine ⟨by simp [madeVs], by omega, by omega, by omega, fun l hl => ?_, fun l hl x hx => ?_⟩
  · obtain ⟨i, _, rfl⟩ := List.mem_map.1 hl
    simp [madeRow]
  · obtain ⟨i, _, rfl⟩ := List.mem_map.1 hl
    obtain ⟨k, _, rfl⟩ := List.mem_map.1 hx
    have := Nat.mod_lt (hs.getD (i * 6 + k) 0).toNat (show 0 < most + 1 by omega)
    omega
theorem row_succ (hs : List Int) (i k most : Nat) : madeRow hs i (k + 1) most = madeRow hs i k most ++ [(hs.getD (i * 6 + k) 0).toNat % (most + 1)] := by simp [madeRow, List.range_succ]
/-- Slices that are built one by one: what they hold, and where. -/
structure KW where
  k : Nat
  v : Value
  ws : List Value
  Mo : HL
  Mi : HL
  n : Nat
theorem rowsN_snoc {M Mi Mr : HL} {ws : List Value} {vs : List (List Nat)} {w : Value} {l : List Nat} (h : RowsN (Mi ++ M) ws vs) (hw : Sl (Mr ++ M) 1 w (nodes l)) : RowsN ((Mr ++ Mi) ++ M) (ws ++ [w]) (vs ++ [l]) := by
  refine ⟨by simp [h.1], fun i hi => ?_⟩
  rw [List.length_append, List.length_singleton] at hi
  by_cases e : i < vs.length
  · rw [getD_app_l (by rw [h.1]; exact e), getD_app_l e]
    refine (h.2 i e).mono fun q hq => ?_
    rw [List.append_assoc]; exact List.mem_append_right _ hq
  · have : i = vs.length := by omega
    subst this
    rw [getD_snoc, show (ws ++ [w]).getD vs.length undef = w by rw [← h.1]; exact getD_snoc]
    refine hw.mono fun q hq => ?_
    rcases List.mem_append.1 hq with h | h
    · exact List.mem_append_left _ (List.mem_append_left _ h)
    · exact List.mem_append_right _ h
theorem fill1 {v : Value} (h : one v = true) : Instr.fill (fun j => some (j * 1, 1)) [Value.slice none 0 0].toArray [(0, v)] = some [v].toArray := by
  cases v <;> first | rfl | cases h
attribute [local irreducible] gOK WS WC WR WD Ends FS YS OpV seqK blockK loopK midK retK rdK asgK rangeEnd sat Cell
section
variable {M : HL} {n0 : Nat} {H : Heap}
set_option maxHeartbeats 4000000 in
theorem made_fs (hH : hasH M n0 H) {a b : Int} {hs : List Int} (ha : 0 ≤ a ∧ a ≤ 255) (hb : 0 ≤ b ∧ b ≤ 255) (hl : hs.length = 24) (hu : ∀ x ∈ hs, 0 ≤ x ∧ x ≤ 255) {fi th most : Nat} (hfi : 1 ≤ fi ∧ fi ≤ 4) (hth : th ≤ 6) (hmo : most ≤ 20) :
    FS C 46 [.agg (heapV a b hs).toArray, .int .i64 (fi : Int), .int .i64 (th : Int), .int .i64 (most : Int)] H (fun e H' => ∃ ws Mo Mi n', OwnR 23 1 e ws Mo ∧ RowsN (Mi ++ M) ws (madeVs a b hs fi th most) ∧ n0 ≤ n' ∧ hasH (Mo ++ (Mi ++ M)) n' H') := by
  have hone := heap_one a b hs
  refine FS.intro (pf := pf46) rfl rfl rfl ?_
  repeat' (first | refine zP ?_ | refine zA ?_ | (refine zM ?_; intro _ _) | refine zX ?_ | (refine zC ?_; intro _ _ _ _) | (refine zS ?_; intro _ _))
  rename_i H1 hH1
  refine WR.op (by first | exact gN | exact gS rfl) rfl (OpV.conv u8k i64k rfl (c := b) (IntWalk.i64_in _ (by omega))) ?_
  obtain ⟨an, rfl⟩ : ∃ an : Nat, a = an := ⟨a.toNat, by omega⟩
  obtain ⟨bn, rfl⟩ : ∃ bn : Nat, b = bn := ⟨b.toNat, by omega⟩
  have hmod := Nat.mod_lt an (show 0 < fi by omega)
  have hmodb := Nat.mod_lt bn (show 0 < th + 1 by omega)
  repeat' (first | refine zP ?_ | refine zA ?_ | (refine zM ?_; intro _ _) | refine zX ?_ | (refine zC ?_; intro _ _ _ _) | (refine zS ?_; intro _ _) | (apply Ws <;> intro hg))
  rw [show (bn : Int) % ((th : Int) + 1) = ((bn % (th + 1) : Nat) : Int) by simp]
  obtain ⟨m, hm⟩ : ∃ m, bn % (th + 1) = m := ⟨_, rfl⟩
  rw [hm] at hmodb ⊢
  repeat' (first | refine zP ?_ | refine zA ?_ | (refine zM ?_; intro _ _) | refine zX ?_ | (refine zC ?_; intro _ _ _ _) | (refine zS ?_; intro _ _) | (apply Ws <;> intro hg))
  refine WR.op (by first | exact gN | exact gS rfl) rfl (OpV.conv u8k i64k rfl (c := (an : Int)) (IntWalk.i64_in _ (by omega))) ?_
  repeat' (first | refine zP ?_ | refine zA ?_ | (refine zM ?_; intro _ _) | refine zX ?_ | (refine zC ?_; intro _ _ _ _) | (refine zS ?_; intro _ _) | (apply Ws <;> intro hg))
  rw [show (an : Int) % (fi : Int) = ((an % fi : Nat) : Int) by simp]
  obtain ⟨r, hr⟩ : ∃ r, an % fi = r := ⟨_, rfl⟩
  rw [hr] at hmod ⊢
  repeat' (first | refine zP ?_ | refine zA ?_ | (refine zM ?_; intro _ _) | refine zX ?_ | (refine zC ?_; intro _ _ _ _) | (refine zS ?_; intro _ _) | (apply Ws <;> intro hg))
  rw [show (1 : Int) + (r : Int) = ((1 + r : Nat) : Int) by omega]
  obtain ⟨N, hN⟩ : ∃ N, 1 + r = N := ⟨_, rfl⟩
  have hvs : madeVs an bn hs fi th most = (List.range N).map fun i => madeRow hs i m most := by
    unfold madeVs
    rw [Int.toNat_natCast, Int.toNat_natCast, hr, hm, hN]
  rw [hvs]
  have hN4 : 1 ≤ N ∧ N ≤ 4 := by omega
  rw [hN]
  refine WR.op (by first | exact gN | exact gS rfl) rfl (OpV.slAh rfl rfl (by omega) (by decide)) ?_
  repeat' (first | refine zP ?_ | refine zA ?_ | (refine zM ?_; intro _ _) | refine zX ?_ | (refine zC ?_; intro _ _ _ _) | (refine zS ?_; intro _ _) | (apply Ws <;> intro hg))
  refine WC.loopX [(1, _), (2, _), (3, _), (4, _), (10, _), (29, _), (30, _)] (fun s : KW => [(9, s.v), (31, .int .i64 (s.k : Int))]) []
    (fun s H' => s.k ≤ N ∧ n0 + 1 ≤ s.n ∧ ((s.k = 0 ∧ s.v = .slice none 0 0 ∧ s.ws = [] ∧ s.Mo = []) ∨ OwnR 23 1 s.v s.ws s.Mo) ∧ RowsN (s.Mi ++ M) s.ws ((List.range s.k).map fun i => madeRow hs i m most) ∧ hasH ((n0, .row 49 0 0 (heapV an bn hs)) :: (s.Mo ++ (s.Mi ++ M))) s.n H') (fun s => N - s.k) ⟨0, .slice none 0 0, [], [], [], n0 + 1⟩ (by repeat' (first | exact .nil | refine .cons rfl ?_)) rfl
    ⟨Nat.zero_le _, Nat.le_refl _, .inl ⟨rfl, rfl, rfl, rfl⟩, ⟨rfl, fun i h => absurd h (Nat.not_lt_zero _)⟩, hH1⟩ ?_
  clear hH1
  rintro ⟨k, v, ws, Mo, Mi, n1⟩ H2 ⟨hk, hn1, hO, hR, hH2⟩
  simp only at hk hn1 hO hR hH2
  have hOwn : Own 23 1 v ws Mo := by
    rcases hO with ⟨_, rfl, rfl, rfl⟩ | h
    · exact .nil
    · exact h.own
  have hwl : ws.length = k := by rw [hR.1]; simp
  dsimp only [List.cons_append, List.nil_append]
  repeat' (first | refine zP ?_ | refine zA ?_ | (refine zM ?_; intro _ _) | refine zX ?_ | (refine zC ?_; intro _ _ _ _) | (refine zS ?_; intro _ _) | (apply Ws <;> intro hg))
  refine WC.condP rfl (fun hlt => ?_) (fun hlt => ?_)
  · have hk' : k < N := by omega
    repeat' (first | refine zP ?_ | refine zA ?_ | (refine zM ?_; intro _ _) | refine zX ?_ | (refine zC ?_; intro _ _ _ _) | (refine zS ?_; intro _ _) | (apply Ws <;> intro hg))
    have hdl : (heapV an bn hs).length = 26 := by simp [heapV, hl]
    obtain ⟨row, hrow⟩ : ∃ row : List Nat, row = ((hs.drop (k * 6)).take 6).map Int.toNat := ⟨_, rfl⟩
    have hrl : row.length = 6 := by rw [hrow, List.length_map, List.length_take, List.length_drop, hl]; omega
    have hrv : bytesV ((hs.drop (k * 6)).take 6) = numsK .u8 row := by
      rw [hrow, bytesV, numsK, List.map_map]
      refine List.map_congr_left fun x hx => ?_
      have := (hu x (List.mem_of_mem_drop (List.mem_of_mem_take hx))).1
      show Value.int .u8 x = Value.int .u8 (x.toNat : Nat)
      rw [Int.toNat_of_nonneg this]
    have hrg : ∀ j, j < 6 → row.getD j 0 = (hs.getD (k * 6 + j) 0).toNat := fun j hj => by
      rw [hrow, map_getD (a := 0) (by rw [List.length_take, List.length_drop, hl]; omega), getD_take hj, getD_eq (by rw [List.length_drop, hl]; omega), List.getElem_drop, getD_eq (by omega)]
    have hrb : ∀ j, j < 6 → row.getD j 0 ≤ 255 := fun j hj => by
      rw [hrg j hj]
      have := hu _ (getD_mem (a := 0) (show k * 6 + j < hs.length by omega))
      omega
    have hrone : (numsK .u8 row).all one = true := by rw [← hrv]; exact bytes_one _
    refine WR.op (by first | exact gN | exact gS rfl) rfl (OpV.loadN (l := numsK .u8 row) rfl hH2 (.head _) (.row _ _ _ _) (Nat.zero_le _) (by rw [hdl]; omega) (by rw [Nat.sub_zero, heap_drop, ← hrv, bytesV, bytesV, List.map_take])) ?_
    repeat' (first | refine zP ?_ | refine zA ?_ | (refine zM ?_; intro _ _) | refine zX ?_ | (refine zC ?_; intro _ _ _ _) | (refine zS ?_; intro _ _) | (apply Ws <;> intro hg))
    rename_i H3 hH3
    refine WR.storeAll (by first | exact gN | exact gS rfl) hH3 rfl rfl (ls := numsK .u8 row) (by simp [Value.cells]) (by simp [hrl]) .here hrone (by simp [hrl]) fun H4 hH4 => ?_
    clear hH2 hH3
    repeat' (first | refine zP ?_ | refine zA ?_ | (refine zM ?_; intro _ _) | refine zX ?_ | (refine zC ?_; intro _ _ _ _) | (refine zS ?_; intro _ _) | (apply Ws <;> intro hg))
    refine WR.op (by first | exact gN | exact gS rfl) rfl (OpV.slAh rfl rfl (show m ≤ 6 by omega) (by decide)) ?_
    repeat' (first | refine zP ?_ | refine zA ?_ | (refine zM ?_; intro _ _) | refine zX ?_ | (refine zC ?_; intro _ _ _ _) | (refine zS ?_; intro _ _) | (apply Ws <;> intro hg))
    refine WC.loopX [(1, _), (2, _), (3, _), (4, _), (9, _), (10, _), (29, _), (30, _), (31, _), (36, _), (37, _)] (fun s : KV => [(13, s.v), (38, .int .i64 (s.k : Int))]) []
      (fun s H' => s.k ≤ m ∧ n0 + 1 ≤ s.n ∧ Own 3 1 s.v (nodes (madeRow hs k s.k most)) s.Mx ∧ hasH ((n1, .row 46 0 0 (numsK .u8 row)) :: (s.Mx ++ ((n0, .row 49 0 0 (heapV an bn hs)) :: (Mo ++ (Mi ++ M))))) s.n H') (fun s => m - s.k) ⟨0, .slice none 0 0, [], n1 + 1⟩ (by repeat' (first | exact .nil | refine .cons rfl ?_)) rfl
      ⟨Nat.zero_le _, by simp only; omega, .nil, hH4⟩ ?_
    clear hH4
    rintro ⟨j, u, Mr, n2⟩ H5 ⟨hj, hn2, hOr, hH5⟩
    simp only at hj hn2 hOr hH5
    dsimp only [List.cons_append, List.nil_append]
    repeat' (first | refine zP ?_ | refine zA ?_ | (refine zM ?_; intro _ _) | refine zX ?_ | (refine zC ?_; intro _ _ _ _) | (refine zS ?_; intro _ _) | (apply Ws <;> intro hg))
    refine WC.condP rfl (fun hlt2 => ?_) (fun hlt2 => ?_)
    · have hj' : j < m := by omega
      have hxb := hrb j (by omega)
      repeat' (first | refine zP ?_ | refine zA ?_ | (refine zM ?_; intro _ _) | refine zX ?_ | (refine zC ?_; intro _ _ _ _) | (refine zS ?_; intro _ _) | (apply Ws <;> intro hg))
      refine WR.op (by first | exact gN | exact gS rfl) rfl (OpV.conv u8k i64k rfl (c := (row.getD j 0 : Int)) (IntWalk.i64_in _ (by omega))) ?_
      repeat' (first | refine zP ?_ | refine zA ?_ | (refine zM ?_; intro _ _) | refine zX ?_ | (refine zC ?_; intro _ _ _ _) | (refine zS ?_; intro _ _) | (apply Ws <;> intro hg))
      rw [show ((row.getD j 0 : Nat) : Int) % ((most : Int) + 1) = ((row.getD j 0 % (most + 1) : Nat) : Int) by simp]
      refine WR.append1F [(n1, .row 46 0 0 (numsK .u8 row))] Mr ((n0, .row 49 0 0 (heapV an bn hs)) :: (Mo ++ (Mi ++ M))) rfl rfl rfl rfl hOr hH5 (new := [.int .i64 (row.getD j 0 % (most + 1) : Nat)]) (by rfl) rfl rfl (Nat.le_refl _) (by omega) (by simp [madeRow]; omega) fun v3 M3 n3 H6 hO3 hH6 hn3 => ?_
      repeat' (first | refine zP ?_ | refine zA ?_ | (refine zM ?_; intro _ _) | refine zX ?_ | (refine zC ?_; intro _ _ _ _) | (refine zS ?_; intro _ _) | (apply Ws <;> intro hg))
      rw [show (j : Int) + 1 = ((j + 1 : Nat) : Int) by omega]
      refine Ends.loop ⟨j + 1, v3, M3, n3⟩ (by simp only; omega) (by repeat' (first | exact .nil | refine .cons rfl ?_)) rfl ⟨hj', by simp only; omega, ?_, hH6⟩
      simp only
      rw [row_succ, ← hrg j (by omega)]
      simpa [nodes] using hO3
    · have hjm : j = m := by omega
      subst hjm
      have hu1 := (hOr.sl M).one_
      repeat' (first | refine zP ?_ | refine zA ?_ | (refine zM ?_; intro _ _) | refine zX ?_ | (refine zC ?_; intro _ _ _ _) | (refine zS ?_; intro _ _) | (apply Ws <;> intro hg))
      refine WR.append1RF (Mr ++ [(n0, .row 49 0 0 (heapV an bn hs))]) Mo (Mi ++ M) rfl rfl rfl rfl hOwn (by have := hH5.tail; rw [List.append_assoc]; exact this) (new := [u]) (fill1 hu1) (by simp [hu1]) rfl (Nat.le_refl _) (by omega) (by simp; omega) fun v3 M3 n3 H6 hO3 hH6 hn3 => ?_
      repeat' (first | refine zP ?_ | refine zA ?_ | (refine zM ?_; intro _ _) | refine zX ?_ | (refine zC ?_; intro _ _ _ _) | (refine zS ?_; intro _ _) | (apply Ws <;> intro hg))
      rw [show (k : Int) + 1 = ((k + 1 : Nat) : Int) by omega]
      refine Ends.loop ⟨k + 1, v3, ws ++ [u], M3, Mr ++ Mi, n3⟩ (by simp only; omega) (by repeat' (first | exact .nil | refine .cons rfl ?_)) rfl ⟨hk', by simp only; omega, .inr hO3, ?_, hH6.perm ?_⟩
      · simp only
        rw [List.range_succ, List.map_append]
        exact rowsN_snoc hR (hOr.sl M)
      · simp only
        refine List.Perm.trans (l₂ := (n0, .row 49 0 0 (heapV an bn hs)) :: (Mr ++ (M3 ++ (Mi ++ M)))) ?_ (List.Perm.cons _ ?_)
        · rw [List.append_assoc]
          exact List.perm_middle
        · rw [← List.append_assoc, ← List.append_assoc, ← List.append_assoc, ← List.append_assoc]
          exact (List.perm_append_comm.append_right _).append_right _
  · have hkN : k = N := by omega
    subst hkN
    rcases hO with ⟨h, _⟩ | hO
    · omega
    repeat' (first | refine zP ?_ | refine zA ?_ | (refine zM ?_; intro _ _) | refine zX ?_ | (refine zC ?_; intro _ _ _ _) | (refine zS ?_; intro _ _) | (apply Ws <;> intro hg))
    exact Ends.ret1 rfl ⟨ws, Mo, Mi, n1, hO, hR, by omega, hH2.tail⟩
end
end Go.Proofs.Ytaipmdhnhffckaa.Sh

/- All finders have the same values: the law. -/
namespace Go.Proofs.Ytaipmdhnhffckaa.Sh
open Go Go.Abs Go.Mth
set_option linter.unusedVariables false
set_option linter.unusedSimpArgs false
/-- All pairs before a place. -/
def twoAll (q : Nat → Nat → Bool) (n i j : Nat) : Bool := (List.range i).all (fun a => (List.range n).all (q a)) && (List.range j).all (q i)
/-- The greatest thing of a share. -/
def topTo (f : List Nat) (s : Nat) : Nat → Nat
  | 0 => 0
  | k + 1 => max (topTo f s k) (if s.testBit k then f.getD k 0 else 0)
def topN (f : List Nat) (s : Nat) : Nat := topTo f s f.length
/-- Owners by numbers. -/
def byL (bs : List Nat) (n m : Nat) : List Nat := (List.range m).map fun k => bs.getD k 0 % n
theorem byL_len (bs : List Nat) (n m : Nat) : (byL bs n m).length = m := by simp [byL]
theorem byL_succ (bs : List Nat) (n k : Nat) : byL bs n (k + 1) = byL bs n k ++ [bs.getD k 0 % n] := by simp [byL, List.range_succ]
theorem byL_lt {bs : List Nat} {n m : Nat} (h : 1 ≤ n) : ∀ x ∈ byL bs n m, x < n := fun x hx => by
  obtain ⟨k, _, rfl⟩ := List.mem_map.1 hx
  exact Nat.mod_lt _ (by omega)
theorem okd_of {o : List Nat} {n m : Nat} (h : o.length = m) (hb : ∀ x ∈ o, x < n) : OKD (IL o) n m := ⟨by simp [h], fun x hx => by
  obtain ⟨y, hy, rfl⟩ := List.mem_map.1 hx
  have := hb y hy
  omega⟩
theorem bytes_nat {hs : List Int} (h : ∀ x ∈ hs, 0 ≤ x ∧ x ≤ 255) : bytesV hs = numsK .u8 (hs.map Int.toNat) := by
  rw [bytesV, numsK, List.map_map]
  refine List.map_congr_left fun x hx => ?_
  have := (h x hx).1
  show Value.int .u8 x = Value.int .u8 (x.toNat : Nat)
  rw [Int.toNat_of_nonneg this]
theorem nat_le {hs : List Int} (h : ∀ x ∈ hs, 0 ≤ x ∧ x ≤ 255) : ∀ x ∈ hs.map Int.toNat, x ≤ 255 := fun x hx => by
  obtain ⟨y, hy, rfl⟩ := List.mem_map.1 hx
  have := h y hy
  omega
theorem Sl.asInts {M : HL} {v : Value} {l : List Nat} (h : Sl M 1 v (nodes l)) : Sl M 1 v (ints (IL l)) := by rw [← nodesI]; exact h
structure KST where
  k : Nat
  S : List Nat
  T : List Nat
end Go.Proofs.Ytaipmdhnhffckaa.Sh

namespace Go.Proofs.Ytaipmdhnhffckaa.Sh
open Go Go.Abs Go.Mth
set_option linter.unusedVariables false
set_option linter.unusedSimpArgs false
theorem sl_row {M : HL} {e b u o N : Nat} {ws : List Value} (hl : ws.length = N) : Sl ((b, .row e u o ws) :: M) 1 (.slice (some ⟨b, o, some u⟩) N 2) ws := by
  subst hl
  exact .row (.head _) (.row _ _ _ _) (Nat.le_refl _) (by omega) (by rw [Nat.sub_self, List.drop_zero, List.take_length]) (by omega) (.inl (.inl rfl))
theorem nodes_rep (n : Nat) : (List.replicate n [Value.int .i64 0]).flatten = nodes (List.replicate n 0) := by
  induction n with
  | zero => rfl
  | succ n ih => simp [List.replicate_succ, ih]
attribute [local irreducible] gOK WS WC WR WD Ends FS YS OpV seqK blockK loopK midK retK rdK asgK rangeEnd sat Cell
section
variable {M : HL} {n0 : Nat} {H : Heap}
end
end Go.Proofs.Ytaipmdhnhffckaa.Sh

namespace Go.Abs
set_option linter.unusedSectionVars false
variable [Globs]
open Go
section
variable {L : Env} {H : Heap}
end
end Go.Abs
namespace Go.Proofs.Ytaipmdhnhffckaa.Sh
open Go Go.Abs Go.Mth
set_option linter.unusedVariables false
set_option linter.unusedSimpArgs false
/-- What all shares are worth to all. -/
def worM (vs : List (List Nat)) (ss : List Nat) : List (List Nat) := vs.map fun f => ss.map (wor f)
theorem worM_get {vs : List (List Nat)} {ss : List Nat} {i : Nat} (h : i < vs.length) : (worM vs ss).getD i [] = ss.map (wor (vs.getD i [])) := map_getD h
theorem worM_at {vs : List (List Nat)} {ss : List Nat} {i j : Nat} (h : i < vs.length) (hj : j < ss.length) : ((worM vs ss).getD i []).getD j 0 = wor (vs.getD i []) (ss.getD j 0) := by rw [worM_get h, map_getD hj]
/-- Owners, some of them nobody. -/
structure OKP (o : List Int) (n m : Nat) : Prop where
  len : o.length = m
  bd : ∀ x ∈ o, -1 ≤ x ∧ x < (n : Int)
theorem OKD.part {o : List Int} {n m : Nat} (h : OKD o n m) : OKP o n m := ⟨h.len, fun x hx => by have := h.bd x hx; omega⟩
theorem shs_none {n : Nat} {o : List Int} {w : Int} (hw : w < 0) : shs n (o ++ [w]) = shs n o := by
  refine ext_getD (a := 0) (by simp [shs]) fun i hi => ?_
  rw [shs_len] at hi
  rw [shs_get _ hi, shs_get _ hi, shr_snoc, if_neg (by omega)]
structure KU where
  k : Nat
  us : List Value
  Mi : HL
  n : Nat
structure KL2 where
  k : Nat
  l : List Nat
/-- Pairs that have been seen. -/
def doneP (p : Nat → Nat → Bool) (n i j : Nat) : List (Nat × Nat) := (List.range i).flatMap (rowL p n) ++ ((List.range j).filter (p i)).map fun b => (i, b)
def fairOf (e mu : List (Nat × Nat)) : Nat := if mu = [] then (if e = [] then 2 else 1) else 0
/-- Things of a share, one by one. -/
def allTo (o : List Int) (f : List Nat) (j : Nat) (x y k : Nat) : Bool := (List.range k).all fun i => !decide (o.getD i (-1) = (j : Int)) || decide (x + f.getD i 0 < y)
attribute [local irreducible] gOK WS WC WR WD Ends FS YS OpV seqK blockK loopK midK retK rdK asgK rangeEnd sat Cell
section
variable {M : HL} {n0 : Nat} {H : Heap} {v w : Value} {vs : List (List Nat)} {n m : Nat} {o : List Int}
set_option maxHeartbeats 2000000 in
theorem worths_fs (hH : hasH M n0 H) (hV : OKV vs n m) (hR : ValsN M v vs) (hO : Sl M 1 w (ints o)) (ho : OKP o n m) :
    FS C 61 [v, w] H (fun e H' => ∃ us Mi n', e = .slice (some ⟨n0, 0, some 0⟩) n (2 * n + 1) ∧ RowsN (Mi ++ M) us (worM vs (shs n o)) ∧ n0 < n' ∧ hasH ((n0, .row 23 0 0 us) :: (Mi ++ M)) n' H') := by
  obtain ⟨ws, hW, hwl, hws⟩ := hR.ex
  have hvl := hV.len
  have hn4 := hV.n4
  have hm6 := hV.m6
  have hol := ho.len
  refine FS.intro (pf := pf61) rfl rfl rfl ?_
  repeat' (first | refine zP ?_ | refine zA ?_ | (refine zM ?_; intro _ _) | refine zX ?_ | (refine zC ?_; intro _ _ _ _) | (refine zS ?_; intro _ _) | (apply Ws <;> intro hg))
  rw [hwl, hvl]
  refine WR.mkS (by first | exact gN | exact gS rfl) rfl hH rfl rfl (by omega) rfl fun H1 hH1 => ?_
  repeat' (first | refine zP ?_ | refine zA ?_ | (refine zM ?_; intro _ _) | refine zX ?_ | (refine zC ?_; intro _ _ _ _) | (refine zS ?_; intro _ _) | (apply Ws <;> intro hg))
  refine WC.loopX [(0, _), (1, _), (5, _), (6, _), (14, _), (15, _)] (fun s : KU => [(16, .int .i64 (s.k : Int))]) []
    (fun s H' => s.k ≤ n ∧ n0 < s.n ∧ s.us.length = n ∧ (∀ i, i < s.k → Sl (s.Mi ++ M) 1 (s.us.getD i undef) (nodes ((shs n o).map (wor (vs.getD i []))))) ∧ hasH ((n0, .row 23 0 0 s.us) :: (s.Mi ++ M)) s.n H') (fun s => n - s.k) ⟨0, List.replicate n (.slice none 0 0), [], n0 + 1⟩ (by repeat' (first | exact .nil | refine .cons rfl ?_)) rfl
    ⟨Nat.zero_le _, by simp only; omega, by simp, fun i h => absurd h (Nat.not_lt_zero _), hH1⟩ ?_
  clear hH1
  rintro ⟨k, us, Mi, n1⟩ H2 ⟨hk, hn1, hul, hus, hH2⟩
  simp only at hk hn1 hul hus hH2
  dsimp only [List.cons_append, List.nil_append]
  repeat' (first | refine zP ?_ | refine zA ?_ | (refine zM ?_; intro _ _) | refine zX ?_ | (refine zC ?_; intro _ _ _ _) | (refine zS ?_; intro _ _) | (apply Ws <;> intro hg))
  refine WC.condP rfl (fun hlt => ?_) (fun hlt => ?_)
  · have hk' : k < n := by omega
    repeat' (first | refine zP ?_ | refine zA ?_ | (refine zM ?_; intro _ _) | refine zX ?_ | (refine zC ?_; intro _ _ _ _) | (refine zS ?_; intro _ _) | (apply Ws <;> intro hg))
    refine WR.mkSL (by first | exact gN | exact gS rfl) rfl hH2 rfl rfl (by omega) rfl fun H3 hH3 => ?_
    rw [nodes_rep] at hH3
    clear hH2
    obtain ⟨us2, hus2⟩ : ∃ us2, us2 = us.set k (.slice (some ⟨n1, 0, some 0⟩) n (2 * n + 1)) := ⟨_, rfl⟩
    have hul2 : us2.length = n := by rw [hus2, List.length_set]; exact hul
    refine WR.op (by first | exact gN | exact gS rfl) rfl (OpV.idxS rfl rfl rfl hk' (addr01 _ _ _)) ?_
    refine WR.store1 (cs' := us2) (by first | exact gN | exact gS rfl) hH3 rfl rfl rfl (.there .here) (Nat.zero_le _) (by omega) hus2 fun H4 hH4 => ?_
    clear hH3
    have hg2 : us2[k]? = some (.slice (some ⟨n1, 0, some 0⟩) n (2 * n + 1)) := by rw [hus2, List.getElem?_set_self (by omega)]
    have hf := hws k (by omega)
    have c4 : ∀ {l : List Nat}, Sl ((n1, .row 3 0 0 (nodes l)) :: (n0, .row 23 0 0 us2) :: (Mi ++ M)) 1 w (ints o) ∧ Sl ((n1, .row 3 0 0 (nodes l)) :: (n0, .row 23 0 0 us2) :: (Mi ++ M)) 1 v ws ∧ Sl ((n1, .row 3 0 0 (nodes l)) :: (n0, .row 23 0 0 us2) :: (Mi ++ M)) 1 (ws.getD k undef) (nodes (vs.getD k [])) := fun {l} =>
      ⟨((hO.mono fun q hq => List.mem_append_right _ hq).cons).cons, ((hW.mono fun q hq => List.mem_append_right _ hq).cons).cons, ((hf.mono fun q hq => List.mem_append_right _ hq).cons).cons⟩
    have c5 := (c4 (l := List.replicate n 0)).1
    repeat' (first | refine zP ?_ | refine zA ?_ | (refine zM ?_; intro _ _) | refine zX ?_ | (refine zC ?_; intro _ _ _ _) | (refine zS ?_; intro _ _) | (apply Ws <;> intro hg))
    rw [hol]
    clear c5
    refine WC.loopX [(0, _), (1, _), (5, _), (6, _), (7, _), (14, _), (15, _), (16, _), (24, _), (25, _)] (fun s : KL2 => [(26, .int .i64 (s.k : Int))]) []
      (fun s H' => s.k ≤ m ∧ s.l = (shs n (o.take s.k)).map (wor (vs.getD k [])) ∧ hasH ((n1, .row 3 0 0 (nodes s.l)) :: (n0, .row 23 0 0 us2) :: (Mi ++ M)) (n1 + 1) H') (fun s => m - s.k) ⟨0, List.replicate n 0⟩ (by repeat' (first | exact .nil | refine .cons rfl ?_)) rfl
      ⟨Nat.zero_le _, by simp [shs_nil, wor_zero], hH4⟩ ?_
    clear hH4
    rintro ⟨t, l⟩ H5 ⟨ht, hl, hH5⟩
    simp only at ht hl hH5
    obtain ⟨d1', d2', d3'⟩ := c4 (l := l)
    have hll : l.length = n := by rw [hl, List.length_map, shs_len]
    dsimp only [List.cons_append, List.nil_append]
    repeat' (first | refine zP ?_ | refine zA ?_ | (refine zM ?_; intro _ _) | refine zX ?_ | (refine zC ?_; intro _ _ _ _) | (refine zS ?_; intro _ _) | (apply Ws <;> intro hg))
    refine WC.condP rfl (fun hlt2 => ?_) (fun hlt2 => ?_)
    · have ht' : t < m := by omega
      have hx := ho.bd _ (getD_mem (a := 0) (show t < o.length by omega))
      have hts := take_snoc (o := o) (k := t) (by omega)
      have hrl := hV.rowLen hk'
      repeat' (first | refine zP ?_ | refine zA ?_ | (refine zM ?_; intro _ _) | refine zX ?_ | (refine zC ?_; intro _ _ _ _) | (refine zS ?_; intro _ _) | (apply Ws <;> intro hg))
      refine WC.condP rfl (fun hge => ?_) (fun hge => ?_)
      · obtain ⟨x, hxe⟩ : ∃ x : Nat, o.getD t 0 = x := ⟨(o.getD t 0).toNat, by omega⟩
        rw [hxe] at hx hts
        have hxn : x < n := by omega
        have hstep := shs_snoc (n := n) (o := o.take t) hxn
        rw [← hts, List.length_take, Nat.min_eq_left (by omega)] at hstep
        have hbit : ((shs n (o.take t)).getD x 0).testBit t = false := by
          rw [shs_get _ hxn]
          exact Nat.testBit_lt_two_pow (Nat.lt_of_lt_of_le (shr_lt _ _) (Nat.pow_le_pow_right (by omega) (by rw [List.length_take]; omega)))
        have hwo := wor_or (f := vs.getD k []) hbit (by omega)
        have hlx : l.getD x 0 = wor (vs.getD k []) ((shs n (o.take t)).getD x 0) := by rw [hl]; exact map_getD (by rw [shs_len]; exact hxn)
        have hw1 := hV.wor (s := (shs n (o.take t)).getD x 0) hk'
        have hfk := getD_le (hV.rowBd hk') t
        repeat' (first | refine zP ?_ | refine zA ?_ | (refine zM ?_; intro _ _) | refine zX ?_ | (refine zC ?_; intro _ _ _ _) | (refine zS ?_; intro _ _) | (apply Ws <;> intro hg))
        refine WR.op (by first | exact gN | exact gS rfl) rfl (OpV.load1 (v := .slice (some ⟨n1, 0, some 0⟩) n (2 * n + 1)) rfl hH5 (.tail _ (.head _)) (.row _ _ _ _) (Nat.zero_le _) (by rw [Nat.sub_zero]; exact hg2)) ?_
        rw [hxe]
        repeat' (first | refine zP ?_ | refine zA ?_ | (refine zM ?_; intro _ _) | refine zX ?_ | (refine zC ?_; intro _ _ _ _) | (refine zS ?_; intro _ _) | (apply Ws <;> intro hg))
        rw [show ((l.getD x 0 : Nat) : Int) + (((vs.getD k []).getD t 0 : Nat) : Int) = ((l.getD x 0 + (vs.getD k []).getD t 0 : Nat) : Int) by omega]
        repeat' (first | refine zP ?_ | refine zA ?_ | (refine zM ?_; intro _ _) | refine zX ?_ | (refine zC ?_; intro _ _ _ _) | (refine zS ?_; intro _ _) | (apply Ws <;> intro hg))
        rename_i H6 hH6
        rw [show (t : Int) + 1 = ((t + 1 : Nat) : Int) by omega]
        refine Ends.loop ⟨t + 1, l.set x (l.getD x 0 + (vs.getD k []).getD t 0)⟩ (by simp only; omega) (by repeat' (first | exact .nil | refine .cons rfl ?_)) rfl ⟨ht', ?_, hH6⟩
        simp only
        rw [hstep, List.map_set, hwo, ← hl, hlx]
      · have hstep := shs_none (n := n) (o := o.take t) (w := o.getD t 0) (by omega)
        rw [← hts] at hstep
        repeat' (first | refine zP ?_ | refine zA ?_ | (refine zM ?_; intro _ _) | refine zX ?_ | (refine zC ?_; intro _ _ _ _) | (refine zS ?_; intro _ _) | (apply Ws <;> intro hg))
        rw [show (t : Int) + 1 = ((t + 1 : Nat) : Int) by omega]
        exact Ends.loop ⟨t + 1, l⟩ (by simp only; omega) (by repeat' (first | exact .nil | refine .cons rfl ?_)) rfl ⟨ht', by simp only; rw [hstep]; exact hl, hH5⟩
    · have htm : t = m := by omega
      rw [htm, List.take_of_length_le (by omega)] at hl
      repeat' (first | refine zP ?_ | refine zA ?_ | (refine zM ?_; intro _ _) | refine zX ?_ | (refine zC ?_; intro _ _ _ _) | (refine zS ?_; intro _ _) | (apply Ws <;> intro hg))
      rw [show (k : Int) + 1 = ((k + 1 : Nat) : Int) by omega]
      refine Ends.loop ⟨k + 1, us2, (n1, .row 3 0 0 (nodes l)) :: Mi, n1 + 1⟩ (by simp only; omega) (by repeat' (first | exact .nil | refine .cons rfl ?_)) rfl ⟨hk', by simp only; omega, hul2, fun i hi => ?_, hH5.swap⟩
      simp only at hi ⊢
      by_cases e : i = k
      · subst e
        rw [← hl, List.getD_eq_getElem?_getD, hg2]
        exact Sl.mkd (by simp [hll])
      · rw [hus2, getD_set' (by omega), if_neg e]
        exact (hus i (by omega)).cons
  · have hkn : k = n := by omega
    subst hkn
    repeat' (first | refine zP ?_ | refine zA ?_ | (refine zM ?_; intro _ _) | refine zX ?_ | (refine zC ?_; intro _ _ _ _) | (refine zS ?_; intro _ _) | (apply Ws <;> intro hg))
    refine Ends.ret1 rfl ⟨us, Mi, n1, rfl, ⟨by simp [worM, hul, hvl], fun i hi => ?_⟩, hn1, hH2⟩
    have hi' : i < vs.length := by simpa [worM] using hi
    rw [worM_get hi']
    exact hus i (by omega)
end
end Go.Proofs.Ytaipmdhnhffckaa.Sh

namespace Go.Proofs.Ytaipmdhnhffckaa.Sh
open Go Go.Abs Go.Mth
set_option linter.unusedVariables false
set_option linter.unusedSimpArgs false
structure KJ where
  k : Nat
  n : Nat
attribute [local irreducible] gOK WS WC WR WD Ends FS YS OpV seqK blockK loopK midK retK rdK asgK rangeEnd sat Cell
section
variable {M : HL} {n0 : Nat} {H : Heap} {v w : Value} {vs : List (List Nat)} {n m : Nat} {o : List Int}
end
end Go.Proofs.Ytaipmdhnhffckaa.Sh

/- Functions of the library. -/
namespace Go.Abs
set_option linter.unusedSectionVars false
variable [Globs]
open Go
section
variable {C : CW} {nt : Nat} {L : Env} {D : List Nat} {H : Heap} {K : St → Prop} {M M' : HL} {n : Nat} {gd : Option (Tmp × Bool)} {lo : List Nat} {l : List POp}
end
end Go.Abs
namespace Go.Proofs.Ytaipmdhnhffckaa.Sh
open Go Go.Abs Go.Mth
set_option linter.unusedVariables false
set_option linter.unusedSimpArgs false
theorem splice_get {cs l : List Int} {i : Nat} (h : i + l.length ≤ cs.length) (j : Nat) : (cs.take i ++ l ++ cs.drop (i + l.length)).getD j 0 = if j < i then cs.getD j 0 else if j < i + l.length then l.getD (j - i) 0 else cs.getD j 0 := by
  simp only [List.getD_eq_getElem?_getD]
  by_cases h1 : j < i
  · rw [if_pos h1, List.append_assoc, List.getElem?_append_left (by simp; omega), List.getElem?_take_of_lt h1]
  · rw [if_neg h1]
    by_cases h2 : j < i + l.length
    · rw [if_pos h2, List.getElem?_append_left (by simp; omega), List.getElem?_append_right (by simp; omega)]
      congr 2; simp; omega
    · rw [if_neg h2, List.getElem?_append_right (by simp; omega), List.getElem?_drop]
      congr 2; simp; omega
theorem nodes_one' (l : List Nat) : (nodes l).all one = true := by
  rw [List.all_eq_true]; intro q hq; obtain ⟨z, _, rfl⟩ := List.mem_map.1 hq; rfl
structure KR where
  k : Nat
  ys : List Int
attribute [local irreducible] gOK WS WC WR WD Ends FS YS OpV seqK blockK loopK midK retK rdK asgK rangeEnd sat Cell
section
variable {M : HL} {n0 : Nat} {H : Heap} {v w : Value}
end
end Go.Proofs.Ytaipmdhnhffckaa.Sh

/- By turns: what each one takes, and who envies whom. -/
namespace Go.Proofs.Ytaipmdhnhffckaa.Sh
open Go Go.Abs Go.Mth
set_option linter.unusedVariables false
set_option linter.unusedSimpArgs false
theorem nodup_inj {l : List Nat} (h : l.Nodup) {i j : Nat} (hi : i < l.length) (hj : j < l.length) (e : l[i] = l[j]) : i = j := by
  have h' := List.pairwise_iff_getElem.1 h
  rcases Nat.lt_trichotomy i j with h1 | h1 | h1
  · exact absurd e (h' i j hi hj h1)
  · exact h1
  · exact absurd e.symm (h' j i hj hi h1)
/-- What the turns of one place are worth together. -/
def turnS (x : Nat → Nat) (n c T : Nat) : Nat := sumN (fun t => if t % n = c then x t else 0) T
/-- The first of those that are there that is worth most: or -1. -/
def dearTo (f : List Nat) (av : Nat → Bool) : Nat → Int
  | 0 => -1
  | k + 1 => if av k = true ∧ (dearTo f av k < 0 ∨ f.getD (dearTo f av k).toNat 0 < f.getD k 0) then (k : Int) else dearTo f av k
/-- Things without an owner have -1. -/
def freeO (o : List Int) (k : Nat) : Bool := decide (o.getD k (-1) < 0)
def pickO (f : List Nat) (o : List Int) : Nat := (dearTo f (freeO o) o.length).toNat
def turnsO (vs : List (List Nat)) (ord : List Nat) (m : Nat) : Nat → List Int
  | 0 => List.replicate m (-1)
  | t + 1 => (turnsO vs ord m t).set (pickO (vs.getD (ord.getD (t % ord.length) 0) []) (turnsO vs ord m t)) ((ord.getD (t % ord.length) 0 : Nat) : Int)
/-- How many have no owner. -/
def cntF (o : List Int) (k : Nat) : Nat := sumN (fun i => if freeO o i = true then 1 else 0) k
section
variable {vs : List (List Nat)} {ord : List Nat} {n m : Nat}
/-- An order of n finders. -/
structure OKO (ord : List Nat) (n : Nat) : Prop where
  len : ord.length = n
  lt : ∀ x ∈ ord, x < n
  nd : ord.Nodup
/-- The thing of a turn. -/
def pickT (vs : List (List Nat)) (ord : List Nat) (m t : Nat) : Nat := pickO (vs.getD (ord.getD (t % ord.length) 0) []) (turnsO vs ord m t)
end
end Go.Proofs.Ytaipmdhnhffckaa.Sh

/- One after the other, rings turned. -/
namespace Go.Proofs.Ytaipmdhnhffckaa.Sh
open Go Go.Abs Go.Mth
set_option linter.unusedVariables false
set_option linter.unusedSimpArgs false

/-- The first number of which something holds, or -1. -/
def firstN (p : Nat → Bool) : Nat → Int
  | 0 => -1
  | k + 1 => if firstN p k < 0 ∧ p k = true then (k : Int) else firstN p k
theorem first_none {p : Nat → Bool} : ∀ {n : Nat}, firstN p n < 0 ↔ ∀ i, i < n → p i = false
  | 0 => ⟨fun _ i h => absurd h (Nat.not_lt_zero _), fun _ => by simp [firstN]⟩
  | n + 1 => by
    have ih := @first_none p n
    unfold firstN
    split
    · rename_i h
      constructor
      · intro h2; omega
      · intro h2; rw [h2 n (by omega)] at h; cases h.2
    · rename_i h
      constructor
      · intro h2 i hi
        by_cases e : i = n
        · subst e
          cases hp : p i with
          | false => rfl
          | true => exact absurd ⟨h2, hp⟩ h
        · exact ih.1 h2 i (by omega)
      · exact fun h2 => ih.2 fun i hi => h2 i (by omega)
theorem first_at {p : Nat → Bool} {k : Nat} : ∀ {n : Nat}, k < n → p k = true → (∀ i, i < k → p i = false) → firstN p n = (k : Int)
  | 0, h, _, _ => absurd h (Nat.not_lt_zero _)
  | n + 1, h, hp, hb => by
    unfold firstN
    by_cases e : k = n
    · subst e; rw [if_pos ⟨first_none.2 hb, hp⟩]
    · have := first_at (n := n) (by omega) hp hb
      rw [if_neg (by rw [this]; omega), this]
theorem first_some {p : Nat → Bool} {n : Nat} (h : 0 ≤ firstN p n) : (firstN p n).toNat < n ∧ p (firstN p n).toNat = true ∧ ∀ i, i < (firstN p n).toNat → p i = false := by
  have hex : ∃ i, i < n ∧ p i = true := Classical.byContradiction fun hn => by
    have := (first_none (p := p) (n := n)).2 fun i hi => by
      cases hp : p i with
      | false => rfl
      | true => exact absurd ⟨i, hi, hp⟩ hn
    omega
  obtain ⟨i, hi, hp⟩ := hex
  -- least
  have : ∃ k, k < n ∧ p k = true ∧ ∀ i, i < k → p i = false := by
    clear h
    induction i using Nat.strongRecOn with
    | ind i ih =>
      by_cases h2 : ∃ j, j < i ∧ p j = true
      · obtain ⟨j, hj, hpj⟩ := h2; exact ih j hj (by omega) hpj
      · exact ⟨i, hi, hp, fun j hj => by
          cases hpj : p j with
          | false => rfl
          | true => exact absurd ⟨j, hj, hpj⟩ h2⟩
  obtain ⟨k, hk, hpk, hb⟩ := this
  rw [first_at hk hpk hb]
  simp only [Int.toNat_natCast]
  exact ⟨hk, hpk, hb⟩
/-- The smallest one who envies another one, and the smallest one whom nobody envies. -/
def enP (vs : List (List Nat)) (ss : List Nat) (j : Nat) : Int := firstN (fun i => envP vs ss i j) vs.length
def calmP (vs : List (List Nat)) (ss : List Nat) : Int := firstN (fun j => decide (enP vs ss j < 0)) vs.length
/-- The way from finder 0. -/
def posW (vs : List (List Nat)) (ss : List Nat) : Nat → Nat
  | 0 => 0
  | t + 1 => (enP vs ss (posW vs ss t)).toNat
def wayL (vs : List (List Nat)) (ss : List Nat) (t : Nat) : List Nat := (List.range t).map (posW vs ss)
def RingR (vs : List (List Nat)) (ss : List Nat) (r : List Nat) : Prop := ∃ s t, s < t ∧ (wayL vs ss t).Nodup ∧ posW vs ss s = posW vs ss t ∧ r = (wayL vs ss t).drop s
theorem way_len (vs : List (List Nat)) (ss : List Nat) (t : Nat) : (wayL vs ss t).length = t := by simp [wayL]
theorem way_get {vs : List (List Nat)} {ss : List Nat} {i t : Nat} (h : i < t) : (wayL vs ss t).getD i 0 = posW vs ss i := by rw [getD_eq (by rw [way_len]; exact h)]; simp [wayL]
theorem way_mem {vs : List (List Nat)} {ss : List Nat} {x t : Nat} : x ∈ wayL vs ss t ↔ ∃ i, i < t ∧ posW vs ss i = x := by simp [wayL]
theorem way_inj {vs : List (List Nat)} {ss : List Nat} {t i j : Nat} (h : (wayL vs ss t).Nodup) (hi : i < t) (hj : j < t) (e : posW vs ss i = posW vs ss j) : i = j := by
  have h1 : i < (wayL vs ss t).length := by rw [way_len]; exact hi
  have h2 : j < (wayL vs ss t).length := by rw [way_len]; exact hj
  exact nodup_inj h h1 h2 (by simpa [wayL] using e)
theorem ring_one {vs : List (List Nat)} {ss : List Nat} {r r' : List Nat} (h : RingR vs ss r) (h' : RingR vs ss r') : r = r' := by
  obtain ⟨s, t, h1, h2, h3, rfl⟩ := h
  obtain ⟨s', t', g1, g2, g3, rfl⟩ := h'
  have : t = t' := by
    rcases Nat.lt_trichotomy t t' with h | h | h
    · have := way_inj g2 (by omega) h h3; omega
    · exact h
    · have := way_inj h2 (by omega) h g3; omega
  subst this
  have : s = s' := way_inj h2 h1 g1 (by rw [h3, g3])
  subst this; rfl
/-- A division with its ring turned. -/
def RotR (r ss ss' : List Nat) : Prop := ss'.length = ss.length ∧ (∀ q, q < r.length → ss'.getD (r.getD ((q + 1) % r.length) 0) 0 = ss.getD (r.getD q 0) 0) ∧ ∀ j, j ∉ r → ss'.getD j 0 = ss.getD j 0
theorem mod_pred {l q : Nat} (h : q < l) : ((q + (l - 1)) % l + 1) % l = q := by
  rw [Nat.add_mod, Nat.mod_mod, ← Nat.add_mod, show q + (l - 1) + 1 = q + l by omega, Nat.add_mod_right, Nat.mod_eq_of_lt h]
theorem mem_pred {r : List Nat} {j : Nat} (h : j ∈ r) : ∃ q, q < r.length ∧ r.getD ((q + 1) % r.length) 0 = j := by
  obtain ⟨i, hi, rfl⟩ := List.mem_iff_getElem.1 h
  refine ⟨(i + (r.length - 1)) % r.length, Nat.mod_lt _ (by omega), ?_⟩
  rw [mod_pred hi, getD_eq hi]
theorem rot_one {r ss a b : List Nat} (h : RotR r ss a) (h' : RotR r ss b) : a = b := ext_getD (a := 0) (by rw [h.1, h'.1]) fun j hj => by
  by_cases hm : j ∈ r
  · obtain ⟨q, hq, rfl⟩ := mem_pred hm
    rw [h.2.1 q hq, h'.2.1 q hq]
  · rw [h.2.2 j hm, h'.2.2 j hm]
/-- One turn, several, and all that are needed. -/
def TurnR (vs : List (List Nat)) (ss ss' : List Nat) : Prop := ∃ r, RingR vs ss r ∧ RotR r ss ss'
inductive TurnsR (vs : List (List Nat)) : List Nat → List Nat → Prop
  | refl (ss : List Nat) : TurnsR vs ss ss
  | snoc {a b c : List Nat} (h : TurnsR vs a b) (hc : calmP vs b < 0) (ht : TurnR vs b c) : TurnsR vs a c
theorem TurnR.one {vs : List (List Nat)} {ss a b : List Nat} (h : TurnR vs ss a) (h' : TurnR vs ss b) : a = b := by
  obtain ⟨r, h1, h2⟩ := h
  obtain ⟨r', g1, g2⟩ := h'
  obtain rfl := ring_one h1 g1
  exact rot_one h2 g2
theorem TurnsR.head {vs : List (List Nat)} {a c : List Nat} (h : TurnsR vs a c) : a = c ∨ (calmP vs a < 0 ∧ ∃ b, TurnR vs a b ∧ TurnsR vs b c) := by
  induction h with
  | refl => exact .inl rfl
  | snoc h hc ht ih =>
    rename_i x y
    right
    rcases ih with rfl | ⟨h1, b, h2, h3⟩
    · exact ⟨hc, _, ht, .refl _⟩
    · exact ⟨h1, b, h2, .snoc h3 hc ht⟩
theorem TurnsR.cons {vs : List (List Nat)} {a b c : List Nat} (hc : calmP vs a < 0) (ht : TurnR vs a b) (h : TurnsR vs b c) : TurnsR vs a c := by
  induction h with
  | refl => exact .snoc (.refl _) hc ht
  | snoc h1 h2 h3 ih => exact .snoc ih h2 h3
theorem TurnsR.one {vs : List (List Nat)} {a c d : List Nat} (h : TurnsR vs a c) (hc : 0 ≤ calmP vs c) (h' : TurnsR vs a d) (hd : 0 ≤ calmP vs d) : c = d := by
  induction h generalizing d with
  | refl =>
    rcases h'.head with h | ⟨h1, _⟩
    · exact h
    · omega
  | snoc h1 h2 h3 ih =>

    -- compare by the head
    have hx := TurnsR.snoc h1 h2 h3
    clear ih h1 h2 h3
    have key : ∀ {p q : List Nat}, TurnsR vs p q → 0 ≤ calmP vs q → ∀ {e}, TurnsR vs p e → ∃ b, TurnsR vs e b ∧ b = q := by
      intro p q hpq hq e hpe
      induction hpe with
      | refl => exact ⟨q, hpq, rfl⟩
      | snoc g1 g2 g3 ih =>
        obtain ⟨b, hb, rfl⟩ := ih
        rcases hb.head with h | ⟨k1, b2, k2, k3⟩
        · subst h; omega
        · obtain rfl := k2.one g3
          exact ⟨_, k3, rfl⟩
    obtain ⟨b, hb, rfl⟩ := key hx hc h'
    rcases hb.head with h | ⟨k1, _⟩
    · exact h.symm
    · omega
/-- What is given after so many things. -/
inductive GiveR (vs : List (List Nat)) (n : Nat) : Nat → List Nat → Prop
  | zero : GiveR vs n 0 (List.replicate n 0)
  | succ {k j : Nat} {a b : List Nat} (h : GiveR vs n k a) (ht : TurnsR vs a b) (hc : calmP vs b = (j : Int)) : GiveR vs n (k + 1) (b.set j (b.getD j 0 ||| 2 ^ k))
theorem GiveR.one {vs : List (List Nat)} {n k : Nat} {a : List Nat} (h : GiveR vs n k a) : ∀ {b : List Nat}, GiveR vs n k b → a = b := by
  induction h with
  | zero => intro b h'; cases h'; rfl
  | succ h ht hc ih =>
    intro b h'
    cases h' with
    | succ g1 g2 g3 =>
      obtain rfl := ih g1
      obtain rfl := ht.one (by omega) g2 (by omega)
      rw [hc] at g3
      obtain rfl := Int.ofNat.inj g3
      rfl

section
variable {vs : List (List Nat)} {n m : Nat} {ss : List Nat}
theorem all_envied (hc : calmP vs ss < 0) {j : Nat} (hj : j < vs.length) : 0 ≤ enP vs ss j := by
  have := first_none.1 hc j hj
  simp only [decide_eq_false_iff_not, Int.not_lt] at this
  exact this
theorem pos_lt (hn : 1 ≤ vs.length) (hc : calmP vs ss < 0) : ∀ t, posW vs ss t < vs.length
  | 0 => hn
  | t + 1 => by
    have h1 := all_envied hc (pos_lt hn hc t)
    exact (first_some h1).1
theorem pos_envies (hn : 1 ≤ vs.length) (hc : calmP vs ss < 0) (t : Nat) : envP vs ss (posW vs ss (t + 1)) (posW vs ss t) = true :=
  (first_some (all_envied hc (pos_lt hn hc t))).2.1
theorem ring_props (hn : 1 ≤ vs.length) (hc : calmP vs ss < 0) {r : List Nat} (h : RingR vs ss r) : 1 ≤ r.length ∧ r.Nodup ∧ (∀ x ∈ r, x < vs.length) ∧ ∀ q, q < r.length → envP vs ss (r.getD ((q + 1) % r.length) 0) (r.getD q 0) = true := by
  obtain ⟨s, t, h1, h2, h3, rfl⟩ := h
  have hl : ((wayL vs ss t).drop s).length = t - s := by rw [List.length_drop, way_len]
  have hg : ∀ q, q < t - s → ((wayL vs ss t).drop s).getD q 0 = posW vs ss (s + q) := fun q hq => by
    rw [getD_eq (by rw [hl]; exact hq), List.getElem_drop, ← getD_eq (a := 0), way_get (by omega)]
  refine ⟨by omega, h2.sublist (List.drop_sublist _ _), fun x hx => ?_, fun q hq => ?_⟩
  · obtain ⟨i, _, rfl⟩ := way_mem.1 (List.mem_of_mem_drop hx)
    exact pos_lt hn hc i
  · rw [hl] at hq ⊢
    rw [hg q hq]
    by_cases e : q + 1 = t - s
    · rw [e, Nat.mod_self, hg 0 (by omega), Nat.add_zero, h3, show t = (s + q) + 1 by omega]
      exact pos_envies hn hc _
    · rw [Nat.mod_eq_of_lt (by omega), hg (q + 1) (by omega), ← Nat.add_assoc]
      exact pos_envies hn hc _
theorem rot_own (hn : 1 ≤ vs.length) (hc : calmP vs ss < 0) {ss' : List Nat} (h : TurnR vs ss ss') :
    ss'.length = ss.length ∧ (∀ j, ∃ j', (j < vs.length → j' < vs.length) ∧ ss'.getD j 0 = ss.getD j' 0) ∧ (∀ i, i < vs.length → wor (vs.getD i []) (ss.getD i 0) ≤ wor (vs.getD i []) (ss'.getD i 0)) ∧ ∃ i, i < vs.length ∧ wor (vs.getD i []) (ss.getD i 0) < wor (vs.getD i []) (ss'.getD i 0) := by
  obtain ⟨r, h1, h2, h3, h4⟩ := h
  obtain ⟨p1, p2, p3, p4⟩ := ring_props hn hc h1
  have hgrow : ∀ q, q < r.length → r.getD ((q + 1) % r.length) 0 < vs.length ∧ wor (vs.getD (r.getD ((q + 1) % r.length) 0) []) (ss.getD (r.getD ((q + 1) % r.length) 0) 0) < wor (vs.getD (r.getD ((q + 1) % r.length) 0) []) (ss'.getD (r.getD ((q + 1) % r.length) 0) 0) := fun q hq => by
    have := p4 q hq
    rw [h3 q hq]
    exact ⟨p3 _ (getD_mem (Nat.mod_lt _ (by omega))), of_decide_eq_true this⟩
  refine ⟨h2, fun j => ?_, fun i hi => ?_, ?_⟩
  · by_cases hm : j ∈ r
    · obtain ⟨q, hq, rfl⟩ := mem_pred hm
      exact ⟨_, fun _ => p3 _ (getD_mem hq), h3 q hq⟩
    · exact ⟨j, fun h => h, h4 j hm⟩
  · by_cases hm : i ∈ r
    · obtain ⟨q, hq, rfl⟩ := mem_pred hm
      exact Nat.le_of_lt (hgrow q hq).2
    · rw [h4 i hm]; exact Nat.le_refl _
  · exact ⟨_, hgrow 0 p1⟩
/-- The sum of own shares, which grows. -/
def ownS (vs : List (List Nat)) (ss : List Nat) : Nat := sumN (fun i => wor (vs.getD i []) (ss.getD i 0)) vs.length
/-- Nobody envies anybody by more than one thing. -/
def EF (vs : List (List Nat)) (ss : List Nat) : Prop := ∀ a b, a < vs.length → b < vs.length → muchP vs ss a b = false
theorem much_mono {f : List Nat} {a a' b : Nat} (h : muchB f a b = false) (hle : wor f a ≤ wor f a') : muchB f a' b = false := by
  rw [not_much] at h ⊢
  rcases h with h | ⟨k, h1, h2, h3⟩
  · exact .inl (by omega)
  · exact .inr ⟨k, h1, h2, by omega⟩
theorem EF.turn (hn : 1 ≤ vs.length) (hc : calmP vs ss < 0) {ss' : List Nat} (h : TurnR vs ss ss') (he : EF vs ss) : EF vs ss' := fun a b ha hb => by
  obtain ⟨_, h2, h3, _⟩ := rot_own hn hc h
  obtain ⟨b', hb', e⟩ := h2 b
  unfold muchP
  rw [e]
  exact much_mono (he a b' ha (hb' hb)) (h3 a ha)
theorem EF.turns (hn : 1 ≤ vs.length) {a b : List Nat} (h : TurnsR vs a b) (he : EF vs a) : EF vs b := by
  induction h with
  | refl => exact he
  | snoc _ hc ht ih => exact EF.turn hn hc ht ih
theorem TurnsR.lt (hn : 1 ≤ vs.length) {a b : List Nat} {x : Nat} (h : TurnsR vs a b) (hb : ∀ i, i < vs.length → a.getD i 0 < x) : ∀ i, i < vs.length → b.getD i 0 < x := by
  induction h with
  | refl => exact hb
  | snoc _ hc ht ih =>
    intro i hi
    obtain ⟨_, h2, _⟩ := rot_own hn hc ht
    obtain ⟨j, hj, e⟩ := h2 i
    rw [e]; exact ih j (hj hi)
theorem TurnsR.len (hn : 1 ≤ vs.length) {a b : List Nat} (h : TurnsR vs a b) : b.length = a.length := by
  induction h with
  | refl => rfl
  | snoc _ hc ht ih => rw [(rot_own hn hc ht).1, ih]
theorem EF.give (hV : OKV vs n m) {k j : Nat} (hk : k < m) (hc : calmP vs ss = (j : Int)) (hl : ss.length = vs.length) (hb : ∀ i, i < vs.length → ss.getD i 0 < 2 ^ k) (he : EF vs ss) : EF vs (ss.set j (ss.getD j 0 ||| 2 ^ k)) := fun a b ha hb' => by
  have hj := (first_some (p := fun j => decide (enP vs ss j < 0)) (n := vs.length) (by show 0 ≤ calmP vs ss; omega))
  rw [show firstN (fun j => decide (enP vs ss j < 0)) vs.length = (j : Int) from hc, Int.toNat_natCast] at hj
  obtain ⟨hj1, hj2, _⟩ := hj
  have hjn : ∀ i, i < vs.length → envP vs ss i j = false := first_none.1 (of_decide_eq_true hj2)
  have hfree : ∀ i, i < vs.length → (ss.getD i 0).testBit k = false := fun i hi => Nat.testBit_lt_two_pow (hb i hi)
  have hrow : ∀ i, i < vs.length → k < (vs.getD i []).length := fun i hi => by rw [hV.rowLen (by rw [← hV.len]; exact hi)]; exact hk
  unfold muchP
  rw [getD_set' (by omega), getD_set' (by omega)]
  by_cases e1 : b = j
  · rw [if_pos e1]
    by_cases e2 : a = j
    · rw [if_pos e2]; exact much_self _ _
    · rw [if_neg e2]
      have h1 := hjn a ha
      have h2 := wor_or (f := vs.getD a []) (hfree j hj1) (hrow a ha)
      have h3 : ¬ wor (vs.getD a []) (ss.getD a 0) < wor (vs.getD a []) (ss.getD j 0) := of_decide_eq_false h1
      refine not_much.2 (.inr ⟨k, by have := hV.m6; omega, ?_, by omega⟩)
      rw [Nat.testBit_or, Nat.testBit_two_pow]; simp
  · rw [if_neg e1]
    by_cases e2 : a = j
    · rw [if_pos e2]
      subst e2
      refine much_mono (he a b ha hb') ?_
      rw [wor_or (hfree a hj1) (hrow a ha)]; omega
    · rw [if_neg e2]; exact he a b ha hb'
end
end Go.Proofs.Ytaipmdhnhffckaa.Sh

namespace Go.Proofs.Ytaipmdhnhffckaa.Sh
open Go Go.Abs Go.Mth
set_option linter.unusedVariables false
set_option linter.unusedSimpArgs false
/-- Who has each thing, told from shares. -/
def ownN (ss : List Nat) (k : Nat) : Int := firstN (fun j => (ss.getD j 0).testBit k) ss.length
/-- Things without an owner, as bits. -/
def leftN (o : List Int) (m : Nat) : Nat := maskN ((List.range m).filter (freeO o))
structure KX where
  k : Nat
  l : List Int
  n : Nat
attribute [local irreducible] gOK WS WC WR WD Ends FS YS OpV seqK blockK loopK midK retK rdK asgK rangeEnd sat Cell
section
variable {M : HL} {n0 : Nat} {H : Heap} {v w : Value} {vs : List (List Nat)} {n m : Nat}
end
end Go.Proofs.Ytaipmdhnhffckaa.Sh

namespace Go.Proofs.Ytaipmdhnhffckaa.Sh
open Go Go.Abs Go.Mth
set_option linter.unusedVariables false
set_option linter.unusedSimpArgs false
/-- The error of an order. -/
def ordAt (n : Nat) (o : List Int) (i : Nat) : Int := if ¬ (0 ≤ o.getD i 0 ∧ o.getD i 0 < (n : Int)) then 2 else if o.getD i 0 ∈ o.take i then 6 else 0
def turnE (fs : List (List Int)) (o : List Int) : Int := if valsE fs ≠ 0 then valsE fs else if o.length ≠ fs.length then 5 else firstE (ordAt fs.length o) o.length
attribute [local irreducible] gOK WS WC WR WD Ends FS YS OpV seqK blockK loopK midK retK rdK asgK rangeEnd sat Cell
section
variable {M : HL} {n0 : Nat} {H : Heap} {v w : Value} {vs : List (List Nat)} {n m : Nat}
end
end Go.Proofs.Ytaipmdhnhffckaa.Sh

namespace Go.Proofs.Ytaipmdhnhffckaa.Sh
open Go Go.Abs Go.Mth
set_option linter.unusedVariables false
set_option linter.unusedSimpArgs false
structure KC where
  k : Nat
  n : Nat
attribute [local irreducible] gOK WS WC WR WD Ends FS YS OpV seqK blockK loopK midK retK rdK asgK rangeEnd sat Cell
section
variable {M : HL} {n0 : Nat} {H : Heap} {v w : Value}
theorem sameI_fs (hH : hasH M n0 H) {xs ys : List Int} (hS : Sl M 1 v (ints xs)) (hU : Sl M 1 w (ints ys)) (hx : xs.length ≤ 1000) (hy : ys.length ≤ 1000) :
    FS C 37 [v, w] H (fun e H' => e = .bool (decide (xs = ys)) ∧ H' = H) := by
  refine FS.intro (pf := pf37) rfl rfl rfl ?_
  repeat' (first | refine zP ?_ | refine zA ?_ | (refine zM ?_; intro _ _) | refine zX ?_ | (refine zC ?_; intro _ _ _ _) | (refine zS ?_; intro _ _) | (apply Ws <;> intro hg))
  refine WC.condP rfl (fun hne => ?_) (fun hne => ?_)
  · repeat' (first | refine zP ?_ | refine zA ?_ | (refine zM ?_; intro _ _) | refine zX ?_ | (refine zC ?_; intro _ _ _ _) | (refine zS ?_; intro _ _) | (apply Ws <;> intro hg))
    exact Ends.ret1 rfl ⟨by rw [decide_eq_false (fun h => hne (by rw [h]))], rfl⟩
  have hle : xs.length = ys.length := by omega
  repeat' (first | refine zP ?_ | refine zA ?_ | (refine zM ?_; intro _ _) | refine zX ?_ | (refine zC ?_; intro _ _ _ _) | (refine zS ?_; intro _ _) | (apply Ws <;> intro hg))
  refine WC.loopX [(0, _), (1, _)] (fun k : Nat => [(5, .int .i64 (k : Int))]) [] (fun k H' => H' = H ∧ k ≤ xs.length ∧ ∀ j, j < k → xs.getD j 0 = ys.getD j 0) (fun k => xs.length - k) 0 (by repeat' (first | exact .nil | refine .cons rfl ?_)) rfl ⟨rfl, Nat.zero_le _, fun j h => absurd h (Nat.not_lt_zero _)⟩ ?_
  rintro k H' ⟨rfl, hk, hno⟩
  dsimp only [List.cons_append, List.nil_append]
  repeat' (first | refine zP ?_ | refine zA ?_ | (refine zM ?_; intro _ _) | refine zX ?_ | (refine zC ?_; intro _ _ _ _) | (refine zS ?_; intro _ _) | (apply Ws <;> intro hg))
  refine WC.condP rfl (fun hlt => ?_) (fun hlt => ?_)
  · have hk' : k < xs.length := by omega
    have hk2 : k < ys.length := by omega
    repeat' (first | refine zP ?_ | refine zA ?_ | (refine zM ?_; intro _ _) | refine zX ?_ | (refine zC ?_; intro _ _ _ _) | (refine zS ?_; intro _ _) | (apply Ws <;> intro hg))
    refine WC.condP rfl (fun hd => ?_) (fun hd => ?_)
    · repeat' (first | refine zP ?_ | refine zA ?_ | (refine zM ?_; intro _ _) | refine zX ?_ | (refine zC ?_; intro _ _ _ _) | (refine zS ?_; intro _ _) | (apply Ws <;> intro hg))
      exact Ends.ret1 rfl ⟨by rw [decide_eq_false (fun h => hd (by rw [h]))], rfl⟩
    · repeat' (first | refine zP ?_ | refine zA ?_ | (refine zM ?_; intro _ _) | refine zX ?_ | (refine zC ?_; intro _ _ _ _) | (refine zS ?_; intro _ _) | (apply Ws <;> intro hg))
      refine Ends.loop (k + 1) (by omega) (by repeat' (first | exact .nil | refine .cons rfl ?_)) rfl ⟨rfl, hk', fun j hj => ?_⟩
      rcases Nat.lt_or_ge j k with h | h
      · exact hno j h
      · have : j = k := by omega
        subst this; omega
  · repeat' (first | refine zP ?_ | refine zA ?_ | (refine zM ?_; intro _ _) | refine zX ?_ | (refine zC ?_; intro _ _ _ _) | (refine zS ?_; intro _ _) | (apply Ws <;> intro hg))
    exact Ends.ret1 rfl ⟨by rw [decide_eq_true (ext_getD (a := 0) hle fun i hi => hno i (by omega))], rfl⟩
theorem proper1_fs {nc n : Nat} {ws : List Value} (hH : hasH M n0 H) (hW : Sl M 1 v ws) (hwl : ws.length = n) {x : Int} (hx : 0 ≤ x ∧ x < (n : Int)) (hm : (nc, Ch.row 22 0 0 [v]) ∈ M) :
    FS C 103 [.int .i64 x, .pointer (some ⟨nc, 0, some 0⟩)] H (fun e H' => e = .bool false ∧ H' = H) := by
  refine FS.intro (pf := pf103) rfl rfl rfl ?_
  repeat' (first | refine zP ?_ | refine zA ?_ | (refine zM ?_; intro _ _) | refine zX ?_ | (refine zC ?_; intro _ _ _ _) | (refine zS ?_; intro _ _) | refine zO ?_ | (apply Ws <;> intro hg))
  refine Ends.ret1 rfl ⟨?_, rfl⟩
  congr 1
  exact decide_eq_false (by omega)
theorem indexF_none_fs (hH : hasH M n0 H) {xs : List Int} (hS : Sl M 1 v (ints xs)) (hx : xs.length ≤ 1000) {g : FuncId} {vb : List Value} (hq : ∀ {H' x}, hasH M n0 H' → x ∈ xs → FS C g ([] ++ [.int .i64 x] ++ vb) H' (fun e H2 => e = .bool false ∧ H2 = H')) :
    FS C 127 [v, .func (.func g) [].toArray vb.toArray] H (fun e H' => e = .int .i64 (-1) ∧ H' = H) := by
  refine FS.intro (pf := pf127) rfl rfl rfl ?_
  repeat' (first | refine zP ?_ | refine zA ?_ | (refine zM ?_; intro _ _) | refine zX ?_ | (refine zC ?_; intro _ _ _ _) | (refine zS ?_; intro _ _) | (apply Ws <;> intro hg))
  refine WC.loopX [(0, _), (1, _), (6, _), (7, _)] (fun k : Nat => [(8, .int .i64 (k : Int))]) [] (fun k H' => H' = H ∧ k ≤ xs.length) (fun k => xs.length - k) 0 (by repeat' (first | exact .nil | refine .cons rfl ?_)) rfl ⟨rfl, Nat.zero_le _⟩ ?_
  rintro k H' ⟨rfl, hk⟩
  dsimp only [List.cons_append, List.nil_append]
  repeat' (first | refine zP ?_ | refine zA ?_ | (refine zM ?_; intro _ _) | refine zX ?_ | (refine zC ?_; intro _ _ _ _) | (refine zS ?_; intro _ _) | (apply Ws <;> intro hg))
  refine WC.condP rfl (fun hlt => ?_) (fun hlt => ?_)
  · have hk' : k < xs.length := by omega
    repeat' (first | refine zP ?_ | refine zA ?_ | (refine zM ?_; intro _ _) | refine zX ?_ | (refine zC ?_; intro _ _ _ _) | (refine zS ?_; intro _ _) | (apply Ws <;> intro hg))
    refine WR.callV (va := []) (by first | exact gN | exact gS rfl) rfl rfl rfl (hq hH (getD_mem (a := 0) hk')) ?_
    rintro _ _ ⟨rfl, rfl⟩
    repeat' (first | refine zP ?_ | refine zA ?_ | (refine zM ?_; intro _ _) | refine zX ?_ | (refine zC ?_; intro _ _ _ _) | (refine zS ?_; intro _ _) | (apply Ws <;> intro hg))
    rw [show (k : Int) + 1 = ((k + 1 : Nat) : Int) by omega]
    exact Ends.loop (k + 1) (by omega) (by repeat' (first | exact .nil | refine .cons rfl ?_)) rfl ⟨rfl, hk'⟩
  · repeat' (first | refine zP ?_ | refine zA ?_ | (refine zM ?_; intro _ _) | refine zX ?_ | (refine zC ?_; intro _ _ _ _) | (refine zS ?_; intro _ _) | (apply Ws <;> intro hg))
    exact Ends.ret1 rfl ⟨rfl, rfl⟩
theorem proper_fs {vs : List (List Nat)} {n m : Nat} {o : List Int} (hH : hasH M n0 H) (hV : OKV vs n m) (hR : ValsN M v vs) (hO : Sl M 1 w (ints o)) (ho : OKD o n m) :
    FS C 57 [v, w] H (fun e H' => e = .bool true ∧ ∃ n', n0 ≤ n' ∧ hasH M n' H') := by
  have hv1 := hR.one_
  obtain ⟨ws, hW, hwl, hws⟩ := hR.ex
  have hvl := hV.len
  have hn1 := hV.pos
  have hm6 := hV.m6
  have hol := ho.len
  have hrl := hV.rowLen hn1
  have h0 := (hws 0 (by omega)).cons (p := (n0, .row 22 0 0 [v]))
  have hW1 := hW.cons (p := (n0, .row 22 0 0 [v]))
  have hO1 := hO.cons (p := (n0, .row 22 0 0 [v]))
  refine FS.intro (pf := pf57) rfl rfl rfl ?_
  repeat' (first | refine zP ?_ | refine zA ?_ | (refine zM ?_; intro _ _) | refine zX ?_ | (refine zC ?_; intro _ _ _ _) | (refine zS ?_; intro _ _) | (apply Ws <;> intro hg))
  refine WR.box1 (by first | exact gN | exact gS rfl) rfl hH rfl hv1 fun H1 hH1 => ?_
  repeat' (first | refine zP ?_ | refine zA ?_ | (refine zM ?_; intro _ _) | refine zX ?_ | (refine zC ?_; intro _ _ _ _) | (refine zS ?_; intro _ _) | refine zO ?_ | (apply Ws <;> intro hg))
  refine WR.call (by first | exact gN | exact gS rfl) rfl rfl (FS.intro (pf := pf102) rfl rfl rfl (R := fun e H' => e = .bool false ∧ H' = H1) ?_) ?_
  · repeat' (first | refine zP ?_ | refine zA ?_ | (refine zM ?_; intro _ _) | refine zX ?_ | (refine zC ?_; intro _ _ _ _) | (refine zS ?_; intro _ _) | (apply Ws <;> intro hg))
    refine WR.call (by first | exact gN | exact gS rfl) rfl rfl (indexF_none_fs hH1 hO1 (by omega) (g := 103) (vb := [.pointer (some ⟨n0, 0, some 0⟩)]) fun {H' x} hH' hx => proper1_fs hH' hW1 (by omega) (ho.bd x hx) (.head _)) ?_
    rintro _ _ ⟨rfl, rfl⟩
    repeat' (first | refine zP ?_ | refine zA ?_ | (refine zM ?_; intro _ _) | refine zX ?_ | (refine zC ?_; intro _ _ _ _) | (refine zS ?_; intro _ _) | refine zO ?_ | (apply Ws <;> intro hg))
    exact Ends.ret1 rfl ⟨rfl, rfl⟩
  · rintro _ _ ⟨rfl, rfl⟩
    repeat' (first | refine zP ?_ | refine zA ?_ | (refine zM ?_; intro _ _) | refine zX ?_ | (refine zC ?_; intro _ _ _ _) | (refine zS ?_; intro _ _) | (apply Ws <;> intro hg))
    exact Ends.ret1 rfl ⟨rfl, n0 + 1, by omega, hH1.tail⟩
end
end Go.Proofs.Ytaipmdhnhffckaa.Sh

/- Rings, turned: the program's side. -/
namespace Go.Proofs.Ytaipmdhnhffckaa.Sh
open Go Go.Abs Go.Mth
set_option linter.unusedVariables false
set_option linter.unusedSimpArgs false
structure KW2 where
  t : Nat
  v : Value
  Mx : HL
  n : Nat
structure KT where
  q : Nat
  l : List Nat
  b : Nat
attribute [local irreducible] gOK WS WC WR WD Ends FS YS OpV seqK blockK loopK midK retK rdK asgK rangeEnd sat Cell
section
variable {M : HL} {n0 : Nat} {H : Heap} {vv sv : Value} {vs : List (List Nat)} {ss : List Nat} {n m : Nat}
end
end Go.Proofs.Ytaipmdhnhffckaa.Sh

namespace Go.Proofs.Ytaipmdhnhffckaa.Sh
open Go Go.Abs Go.Mth
set_option linter.unusedVariables false
set_option linter.unusedSimpArgs false
/-- A ring is turned one by one. -/
def rotTo (r ss : List Nat) : Nat → List Nat
  | 0 => ss
  | q + 1 => (rotTo r ss q).set (r.getD q 0) (ss.getD (r.getD ((q + (r.length - 1)) % r.length) 0) 0)
structure KG where
  k : Nat
  ss : List Nat
  n : Nat
attribute [local irreducible] gOK WS WC WR WD Ends FS YS OpV seqK blockK loopK midK retK rdK asgK rangeEnd sat Cell
section
variable {M : HL} {n0 : Nat} {H : Heap} {vv sv : Value} {vs : List (List Nat)} {ss : List Nat} {n m : Nat}
end
end Go.Proofs.Ytaipmdhnhffckaa.Sh

namespace Go.Proofs.Ytaipmdhnhffckaa.Sh
open Go Go.Abs Go.Mth
set_option linter.unusedVariables false
set_option linter.unusedSimpArgs false
structure KS where
  ss : List Nat
  n : Nat
attribute [local irreducible] gOK WS WC WR WD Ends FS YS OpV seqK blockK loopK midK retK rdK asgK rangeEnd sat Cell
section
variable {M : HL} {n0 : Nat} {H : Heap} {v : Value} {vs : List (List Nat)} {n m : Nat}
end
end Go.Proofs.Ytaipmdhnhffckaa.Sh
