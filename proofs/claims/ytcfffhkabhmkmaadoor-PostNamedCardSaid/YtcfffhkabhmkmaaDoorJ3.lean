/- Texts of the law, joined. -/
import Derived.Test.YtcfffhkabhmkmaaDoorJ2
import Derived.Test.YtcfffhkabhmkmaaDoorPerm
import Derived.Test.YtcfffhkabhmkmaaDoorPsP
import Derived.Test.YtcfffhkabhmkmaaDoorSymX
/- Comparisons of numbers and of lists. -/
namespace Go.Mth
set_option linter.unusedVariables false
def cmpI (a b : Int) : Int := if a < b then -1 else if b < a then 1 else 0
def lexC : List Int → List Int → Int
  | [], [] => 0
  | [], _ :: _ => -1
  | _ :: _, [] => 1
  | a :: l, b :: m => if cmpI a b ≠ 0 then cmpI a b else lexC l m
theorem cmp_zero {a b : Int} : cmpI a b = 0 ↔ a = b := by unfold cmpI; split <;> (try split) <;> omega
theorem cmp_lt {a b : Int} : cmpI a b < 0 ↔ a < b := by unfold cmpI; split <;> (try split) <;> omega
theorem lex_trans : ∀ a b c : List Int, lexC a b < 0 → lexC b c < 0 → lexC a c < 0
  | [], [], _, h, _ => by simp [lexC] at h
  | [], _ :: _, [], _, h => by simp [lexC] at h
  | [], _ :: _, _ :: _, _, _ => by simp [lexC]
  | _ :: _, [], _, h, _ => by simp [lexC] at h
  | _ :: _, _ :: _, [], _, h => by simp [lexC] at h
  | a :: l, b :: m, c :: k, h1, h2 => by
    have e1 := cmp_zero (a := a) (b := b)
    have e2 := cmp_zero (a := b) (b := c)
    have e3 := cmp_zero (a := a) (b := c)
    have f1 := cmp_lt (a := a) (b := b)
    have f2 := cmp_lt (a := b) (b := c)
    have f3 := cmp_lt (a := a) (b := c)
    have h3 := lex_trans l m k
    simp only [lexC] at h1 h2 ⊢
    split at h1 <;> split at h2 <;> split <;> first | omega | exact h3 (by omega) (by omega)
end Go.Mth

/- Lists of places in ascending order: all of them, in their order. -/
namespace Go.Proofs.YtcfffhkabhmkmaaDoor.Ps
open Go Go.Abs Go.Mth
set_option linter.unusedVariables false
set_option linter.unusedSimpArgs false
theorem snoc_at {l : List Nat} {x : Nat} : (l ++ [x]).getD l.length 0 = x := getD_snoc
def lexN : List Nat → List Nat → Prop
  | [], [] => False
  | [], _ :: _ => True
  | _ :: _, [] => False
  | a :: l, b :: m => a < b ∨ (a = b ∧ lexN l m)
theorem lexN_irr : ∀ l : List Nat, ¬ lexN l l
  | [] => fun h => h
  | a :: l => fun h => by
    rcases h with h | ⟨_, h⟩
    · exact absurd h (Nat.lt_irrefl _)
    · exact lexN_irr l h
theorem lexN_asym : ∀ {l m : List Nat}, lexN l m → ¬ lexN m l
  | [], [], h, _ => h
  | [], _ :: _, _, k => k
  | _ :: _, [], h, _ => h
  | a :: l, b :: m, h, k => by
    rcases h with h | ⟨h1, h2⟩ <;> rcases k with k | ⟨k1, k2⟩
    · omega
    · omega
    · omega
    · exact lexN_asym h2 k2
theorem lexN_tri : ∀ {l m : List Nat}, l ≠ m → lexN l m ∨ lexN m l
  | [], [], h => absurd rfl h
  | [], _ :: _, _ => .inl trivial
  | _ :: _, [], _ => .inr trivial
  | a :: l, b :: m, hne => by
    rcases Nat.lt_trichotomy a b with e | e | e
    · exact .inl (.inl e)
    · subst e
      rcases lexN_tri (l := l) (m := m) (fun e => hne (by rw [e])) with h1 | h1
      · exact .inl (.inr ⟨rfl, h1⟩)
      · exact .inr (.inr ⟨rfl, h1⟩)
    · exact .inr (.inl e)
abbrev IL (l : List Nat) : List Int := l.map fun (x : Nat) => (x : Int)
theorem IL_len (l : List Nat) : (IL l).length = l.length := by simp [IL]
theorem IL_get {l : List Nat} {i : Nat} (h : i < l.length) : (IL l).getD i 0 = ((l.getD i 0 : Nat) : Int) := by
  rw [getD_eq (by rw [IL_len]; exact h), getD_eq h]; simp [IL]
theorem lexN_C : ∀ {l m : List Nat}, lexC (IL l) (IL m) < 0 ↔ lexN l m
  | [], [] => by simp [IL, lexC, lexN]
  | [], _ :: _ => by simp [IL, lexC, lexN]
  | _ :: _, [] => by simp [IL, lexC, lexN]
  | a :: l, b :: m => by
    have ih := lexN_C (l := l) (m := m)
    have e1 := cmp_zero (a := (a : Int)) (b := (b : Int))
    have e2 := cmp_lt (a := (a : Int)) (b := (b : Int))
    show (if cmpI (a : Int) (b : Int) ≠ 0 then cmpI (a : Int) (b : Int) else lexC (IL l) (IL m)) < 0 ↔ (a < b ∨ (a = b ∧ lexN l m))
    by_cases h : a = b
    · have : cmpI (a : Int) (b : Int) = 0 := e1.2 (by omega)
      rw [if_neg (fun h => h this), ih]
      constructor
      · exact fun k => .inr ⟨h, k⟩
      · rintro (k | ⟨_, k⟩)
        · omega
        · exact k
    · have : cmpI (a : Int) (b : Int) ≠ 0 := fun k => h (by have := e1.1 k; omega)
      rw [if_pos this, e2]
      constructor
      · exact fun k => .inl (by omega)
      · rintro (k | ⟨k, _⟩)
        · omega
        · exact absurd k h
instance lexN_dec : ∀ l m : List Nat, Decidable (lexN l m) := fun l m => decidable_of_iff _ (lexN_C (l := l) (m := m))
theorem lexN_app : ∀ {b l m : List Nat}, lexN (b ++ l) (b ++ m) ↔ lexN l m
  | [], _, _ => Iff.rfl
  | a :: b, l, m => by
    show (a < a ∨ (a = a ∧ lexN (b ++ l) (b ++ m))) ↔ _
    rw [lexN_app (b := b)]
    simp
theorem lexN_pre {b r : List Nat} (h : r ≠ []) : lexN b (b ++ r) := by
  have := lexN_app (b := b) (l := []) (m := r)
  rw [List.append_nil] at this
  refine this.2 ?_
  cases r with
  | nil => exact absurd rfl h
  | cons => trivial
def T (n : Nat) : Nat → List Nat → List (List Nat)
  | 0, _ => []
  | m + 1, b => (b ++ [n - (m + 1)]) :: (T n m (b ++ [n - (m + 1)]) ++ T n m b)
def allA (n : Nat) : List (List Nat) := [] :: T n n []
structure AscN (n : Nat) (l : List Nat) : Prop where
  asc : l.Pairwise (· < ·)
  lt : ∀ x ∈ l, x < n
theorem mem_T {n : Nat} : ∀ {m : Nat} {b z : List Nat}, m ≤ n → (z ∈ T n m b ↔ ∃ r, r ≠ [] ∧ z = b ++ r ∧ r.Pairwise (· < ·) ∧ ∀ x ∈ r, n - m ≤ x ∧ x < n)
  | 0, b, z, h => by
    simp only [T, List.not_mem_nil, false_iff]
    rintro ⟨r, h1, _, _, h4⟩
    cases r with
    | nil => exact h1 rfl
    | cons x r => have := h4 x (by simp); omega
  | m + 1, b, z, h => by
    rw [T, List.mem_cons, List.mem_append, mem_T (by omega), mem_T (by omega)]
    constructor
    · rintro (rfl | ⟨r, h1, rfl, h3, h4⟩ | ⟨r, h1, rfl, h3, h4⟩)
      · exact ⟨[n - (m + 1)], by simp, rfl, by simp, fun x hx => by rw [List.mem_singleton.1 hx]; omega⟩
      · refine ⟨(n - (m + 1)) :: r, by simp, by simp, List.pairwise_cons.2 ⟨fun a ha => by have := h4 a ha; omega, h3⟩, fun x hx => ?_⟩
        rcases List.mem_cons.1 hx with rfl | hx
        · omega
        · have := h4 x hx; omega
      · exact ⟨r, h1, rfl, h3, fun x hx => by have := h4 x hx; omega⟩
    · rintro ⟨r, h1, rfl, h3, h4⟩
      cases r with
      | nil => exact absurd rfl h1
      | cons x r =>
        have hx := h4 x (by simp)
        obtain ⟨h5, h6⟩ := List.pairwise_cons.1 h3
        by_cases e : x = n - (m + 1)
        · subst e
          by_cases e2 : r = []
          · subst e2; exact .inl rfl
          · exact .inr (.inl ⟨r, e2, by simp, h6, fun y hy => by have := h5 y hy; have := h4 y (by simp [hy]); omega⟩)
        · refine .inr (.inr ⟨x :: r, by simp, rfl, h3, fun y hy => ?_⟩)
          have := h4 y hy
          rcases List.mem_cons.1 hy with rfl | hy
          · omega
          · have := h5 y hy; omega
theorem mem_allA {n : Nat} {z : List Nat} : z ∈ allA n ↔ AscN n z := by
  rw [allA, List.mem_cons, mem_T (Nat.le_refl _)]
  constructor
  · rintro (rfl | ⟨r, _, rfl, h3, h4⟩)
    · exact ⟨by simp, by simp⟩
    · exact ⟨by simpa using h3, fun x hx => (h4 x (by simpa using hx)).2⟩
  · rintro ⟨h1, h2⟩
    by_cases e : z = []
    · exact .inl e
    · exact .inr ⟨z, e, by simp, h1, fun x hx => ⟨by omega, h2 x hx⟩⟩
theorem T_sorted {n : Nat} : ∀ {m : Nat} {b : List Nat}, m ≤ n → (T n m b).Pairwise lexN
  | 0, b, h => by simp [T]
  | m + 1, b, h => by
    rw [T, List.pairwise_cons, List.pairwise_append]
    refine ⟨fun z hz => ?_, T_sorted (by omega), T_sorted (by omega), fun z hz y hy => ?_⟩
    · rcases List.mem_append.1 hz with hz | hz
      · obtain ⟨r, h1, rfl, h3, h4⟩ := (mem_T (by omega)).1 hz
        exact lexN_pre h1
      · obtain ⟨r, h1, rfl, h3, h4⟩ := (mem_T (by omega)).1 hz
        rw [lexN_app]
        cases r with
        | nil => exact absurd rfl h1
        | cons x r => exact .inl (by have := h4 x (by simp); omega)
    · obtain ⟨r, h1, rfl, h3, h4⟩ := (mem_T (by omega)).1 hz
      obtain ⟨q, k1, rfl, k3, k4⟩ := (mem_T (by omega)).1 hy
      rw [List.append_assoc, lexN_app]
      cases q with
      | nil => exact absurd rfl k1
      | cons x q => exact .inl (by have := k4 x (by simp); omega)
theorem allA_sorted (n : Nat) : (allA n).Pairwise lexN := by
  rw [allA, List.pairwise_cons]
  refine ⟨fun z hz => ?_, T_sorted (Nat.le_refl _)⟩
  obtain ⟨r, h1, h2, _⟩ := (mem_T (Nat.le_refl _)).1 hz
  rw [List.nil_append] at h2
  subst h2
  cases z with
  | nil => exact absurd rfl h1
  | cons => trivial
/-! The next list. -/
def aftA (n : Nat) : List Nat → List (List Nat)
  | [] => []
  | x :: r => T n (n - 1 - x) r.reverse ++ aftA n r
def restA (n : Nat) : List Nat → List (List Nat)
  | [] => T n n []
  | x :: r => T n (n - 1 - x) (x :: r).reverse ++ aftA n (x :: r)
def bump : List Nat → List Nat
  | [] => []
  | y :: r => (y + 1) :: r
def nextA (n : Nat) : List Nat → List Nat
  | [] => [0]
  | x :: r => if x + 1 < n then (x + 1) :: x :: r else bump r
theorem next_rest {n : Nat} (hn : 1 ≤ n) : ∀ {q : List Nat}, q.Pairwise (· > ·) → (∀ x ∈ q, x < n) →
    (nextA n q = [] ∧ q ≠ [] ∧ restA n q = []) ∨ (nextA n q ≠ [] ∧ restA n q = (nextA n q).reverse :: restA n (nextA n q) ∧ (nextA n q).Pairwise (· > ·) ∧ ∀ x ∈ nextA n q, x < n)
  | [], _, _ => by
    refine .inr ⟨by simp [nextA], ?_, by simp [nextA], by simp [nextA]; omega⟩
    obtain ⟨m, rfl⟩ : ∃ m, n = m + 1 := ⟨n - 1, by omega⟩
    simp [nextA, restA, aftA, T]
  | x :: r, hp, hl => by
    have hx := hl x (by simp)
    obtain ⟨h5, h6⟩ := List.pairwise_cons.1 hp
    by_cases h : x + 1 < n
    · have e : nextA n (x :: r) = (x + 1) :: x :: r := by rw [nextA, if_pos h]
      rw [e]
      obtain ⟨m, hm⟩ : ∃ m, n - 1 - x = m + 1 := ⟨n - 1 - x - 1, by omega⟩
      refine .inr ⟨by simp, ?_, List.pairwise_cons.2 ⟨fun a ha => ?_, hp⟩, fun y hy => ?_⟩
      · simp only [restA, aftA, hm, T, show n - (m + 1) = x + 1 by omega, show n - 1 - (x + 1) = m by omega]
        simp [List.append_assoc]
      · rcases List.mem_cons.1 ha with rfl | ha
        · omega
        · have := h5 a ha; omega
      · rcases List.mem_cons.1 hy with rfl | hy
        · exact h
        · exact hl y hy
    · have h0 : n - 1 - x = 0 := by omega
      cases r with
      | nil =>
        refine .inl ⟨by rw [nextA, if_neg h]; rfl, by simp, ?_⟩
        simp [restA, aftA, h0, T]
      | cons y r =>
        have hy := h5 y (by simp)
        obtain ⟨h7, h8⟩ := List.pairwise_cons.1 h6
        have e : nextA n (x :: y :: r) = (y + 1) :: r := by rw [nextA, if_neg h]; rfl
        rw [e]
        obtain ⟨m, hm⟩ : ∃ m, n - 1 - y = m + 1 := ⟨n - 1 - y - 1, by omega⟩
        refine .inr ⟨by simp, ?_, List.pairwise_cons.2 ⟨fun a ha => ?_, h8⟩, fun z hz => ?_⟩
        · simp only [restA, aftA, h0, hm, T, show n - (m + 1) = y + 1 by omega, show n - 1 - (y + 1) = m by omega]
          simp [List.append_assoc]
        · have := h7 a ha; omega
        · rcases List.mem_cons.1 hz with rfl | hz
          · omega
          · exact hl z (by simp [hz])
theorem desc_asc {n : Nat} {q : List Nat} (h1 : q.Pairwise (· > ·)) (h2 : ∀ x ∈ q, x < n) : AscN n q.reverse := ⟨by rw [List.pairwise_reverse]; exact h1, fun x hx => h2 x (by simpa using hx)⟩
theorem AscN.nodup {n : Nat} {l : List Nat} (h : AscN n l) : l.Nodup := h.asc.imp fun h => Nat.ne_of_lt h
theorem AscN.len {n : Nat} {l : List Nat} (h : AscN n l) : l.length ≤ n := nodup_le n l h.nodup h.lt
theorem allA_nodup (n : Nat) : (allA n).Nodup := by
  refine List.Pairwise.imp ?_ (allA_sorted n)
  intro a b h e
  rw [e] at h
  exact lexN_irr _ h
end Go.Proofs.YtcfffhkabhmkmaaDoor.Ps

/- Shores: errors, what is at hand, what guards, what is apart. -/
namespace Go.Proofs.YtcfffhkabhmkmaaDoor.Ps
open Go Go.Abs Go.Mth
set_option linter.unusedVariables false
set_option linter.unusedSimpArgs false
def errB (xs : List Int) (k : Nat) : Int := if k = 0 then (if xs.getD 0 0 = -1 then 0 else 2) else if 0 ≤ xs.getD k 0 ∧ xs.getD k 0 < k then 0 else 2
def errS (xs : List Int) : Int := if xs.length = 0 then 4 else if 10 < xs.length then 3 else firstE (errB xs) xs.length
structure OKS (xs : List Int) : Prop where
  one : 1 ≤ xs.length
  most : xs.length ≤ 10
  root : xs.getD 0 0 = -1
  par : ∀ k, 1 ≤ k → k < xs.length → 0 ≤ xs.getD k 0 ∧ xs.getD k 0 < k
theorem errS_zero {xs : List Int} : errS xs = 0 ↔ OKS xs := by
  unfold errS
  by_cases h0 : xs.length = 0
  · rw [if_pos h0]; exact ⟨fun h => absurd h (by decide), fun h => by have := h.one; omega⟩
  · rw [if_neg h0]
    by_cases h1 : 10 < xs.length
    · rw [if_pos h1]; exact ⟨fun h => absurd h (by decide), fun h => by have := h.most; omega⟩
    · rw [if_neg h1, firstE_zero]
      constructor
      · intro h
        refine ⟨by omega, by omega, ?_, fun k hk hl => ?_⟩
        · have := h 0 (by omega)
          unfold errB at this
          rw [if_pos rfl] at this
          split at this
          · assumption
          · cases this
        · have := h k hl
          unfold errB at this
          rw [if_neg (by omega)] at this
          split at this
          · assumption
          · cases this
      · intro h k hk
        unfold errB
        by_cases e : k = 0
        · rw [if_pos e, if_pos h.root]
        · rw [if_neg e, if_pos (h.par k (by omega) hk)]
def adj (xs : List Int) (i j : Nat) : Bool := decide (i = j ∨ xs.getD i 0 = (j : Int) ∨ xs.getD j 0 = (i : Int))
theorem adj_iff {xs : List Int} {i j : Nat} : adj xs i j = true ↔ i = j ∨ xs.getD i 0 = (j : Int) ∨ xs.getD j 0 = (i : Int) := by simp [adj]
theorem adj_comm (xs : List Int) (i j : Nat) : adj xs i j = adj xs j i := by
  rw [Bool.eq_iff_iff, adj_iff, adj_iff]
  constructor
  · rintro (h | h | h)
    · exact .inl h.symm
    · exact .inr (.inr h)
    · exact .inr (.inl h)
  · rintro (h | h | h)
    · exact .inl h.symm
    · exact .inr (.inr h)
    · exact .inr (.inl h)
theorem adj_self (xs : List Int) (i : Nat) : adj xs i i = true := by simp [adj]
def hndL (xs : List Int) (i : Nat) : List Nat := (List.range xs.length).filter (adj xs i)
def hmTo (xs : List Int) (k i : Nat) : Nat := maskN ((List.range k).filter fun j => decide (i < k) && adj xs i j)
def hm (xs : List Int) (i : Nat) : Nat := maskN (hndL xs i)
theorem hmTo_bit {xs : List Int} {k i j : Nat} : (hmTo xs k i).testBit j = true ↔ i < k ∧ j < k ∧ adj xs i j = true := by
  unfold hmTo
  rw [mask_bit]
  simp only [List.mem_filter, List.mem_range, Bool.and_eq_true, decide_eq_true_eq]
  constructor
  · rintro ⟨h1, h2, h3⟩; exact ⟨h2, h1, h3⟩
  · rintro ⟨h1, h2, h3⟩; exact ⟨h2, h1, h3⟩
theorem hm_bit {xs : List Int} {i j : Nat} : (hm xs i).testBit j = true ↔ j < xs.length ∧ adj xs i j = true := by
  unfold hm hndL
  rw [mask_bit]
  simp only [List.mem_filter, List.mem_range]
theorem bits_ext {a b : Nat} (h : ∀ j, a.testBit j = true ↔ b.testBit j = true) : a = b :=
  Nat.eq_of_testBit_eq fun j => Bool.eq_iff_iff.2 (h j)
theorem hmTo_all {xs : List Int} {i : Nat} (hi : i < xs.length) : hmTo xs xs.length i = hm xs i := by
  refine bits_ext fun j => ?_
  rw [hmTo_bit, hm_bit]
  exact ⟨fun h => h.2, fun h => ⟨hi, h⟩⟩
theorem hm_lt (xs : List Int) (i : Nat) : hm xs i < 2 ^ xs.length := mask_lt fun x hx => List.mem_range.1 (List.mem_filter.1 hx).1
theorem hmTo_lt {xs : List Int} {k : Nat} (i : Nat) (h : k ≤ 10) : hmTo xs k i < 1024 := Nat.lt_of_lt_of_le (mask_lt fun x hx => List.mem_range.1 (List.mem_filter.1 hx).1) (by show 2 ^ k ≤ 2 ^ 10; exact Nat.pow_le_pow_right (by omega) h)
theorem hm_lt10 {xs : List Int} (h : xs.length ≤ 10) (i : Nat) : hm xs i < 1024 := Nat.lt_of_lt_of_le (hm_lt xs i) (by show 2 ^ xs.length ≤ 2 ^ 10; exact Nat.pow_le_pow_right (by omega) h)
theorem or_bit {a b j : Nat} : (a ||| b).testBit j = true ↔ a.testBit j = true ∨ b.testBit j = true := by rw [Nat.testBit_or, Bool.or_eq_true]
theorem pow_bit {k j : Nat} : (2 ^ k).testBit j = true ↔ k = j := by rw [Nat.testBit_two_pow]; simp
theorem hm_zero {xs : List Int} {k i : Nat} (h : k ≤ i) : hmTo xs k i = 0 := by
  refine bits_ext fun j => ?_
  rw [hmTo_bit, Nat.zero_testBit]
  exact ⟨fun h' => by omega, fun h' => by cases h'⟩
theorem hm_root {xs : List Int} (h : OKS xs) {l : List Nat} (hl : l.length = xs.length) (hv : ∀ i, i < xs.length → l.getD i 0 = hmTo xs 0 i) : ∀ i, i < xs.length → (l.set 0 (l.getD 0 0 ||| 2 ^ 0)).getD i 0 = hmTo xs 1 i := by
  intro i hi
  have h1 := h.one
  rw [getD_set' (by omega)]
  by_cases e : i = 0
  · subst e
    rw [if_pos rfl, hv 0 (by omega)]
    refine bits_ext fun j => ?_
    rw [or_bit, hmTo_bit, hmTo_bit, pow_bit]
    constructor
    · rintro (h2 | h2)
      · omega
      · subst h2; exact ⟨by omega, by omega, adj_self _ _⟩
    · rintro ⟨_, h3, _⟩; exact .inr (by omega)
  · rw [if_neg e, hv i hi, hm_zero (by omega), hm_zero (by omega)]
theorem hm_step {xs : List Int} (h : OKS xs) {k p : Nat} (hk : k < xs.length) (hp : xs.getD k 0 = (p : Int)) (hpk : p < k) {l : List Nat} (hl : l.length = xs.length) (hv : ∀ i, i < xs.length → l.getD i 0 = hmTo xs k i) :
    ∀ i, i < xs.length → (((l.set k (l.getD k 0 ||| 2 ^ k)).set k ((l.set k (l.getD k 0 ||| 2 ^ k)).getD k 0 ||| 2 ^ p)).set p (((l.set k (l.getD k 0 ||| 2 ^ k)).set k ((l.set k (l.getD k 0 ||| 2 ^ k)).getD k 0 ||| 2 ^ p)).getD p 0 ||| 2 ^ k)).getD i 0 = hmTo xs (k + 1) i := by
  have hadj : ∀ j, j < k → (adj xs k j = true ↔ j = p) := by
    intro j hj
    rw [adj_iff, hp]
    constructor
    · rintro (h1 | h1 | h1)
      · omega
      · omega
      · by_cases e : j = 0
        · subst e; rw [h.root] at h1; omega
        · have := (h.par j (by omega) (by omega)).2; omega
    · intro e; subst e; exact .inr (.inl rfl)
  intro i hi
  have hkl : k < l.length := by omega
  have g1 := fun z => getD_set' (z := z) (v := l.getD k 0 ||| 2 ^ k) (a := 0) hkl
  have n1 : (l.set k (l.getD k 0 ||| 2 ^ k)).length = xs.length := by simp [hl]
  generalize l.set k (l.getD k 0 ||| 2 ^ k) = l1 at g1 n1 ⊢
  have g2 := fun z => getD_set' (l := l1) (y := k) (z := z) (v := l1.getD k 0 ||| 2 ^ p) (a := 0) (by omega)
  have n2 : (l1.set k (l1.getD k 0 ||| 2 ^ p)).length = xs.length := by simp [n1]
  generalize l1.set k (l1.getD k 0 ||| 2 ^ p) = l2 at g2 n2 ⊢
  have hpne : ¬ p = k := by omega
  rw [getD_set' (by omega), g2 p, if_neg hpne, g1 p, if_neg hpne, hv p (by omega)]
  by_cases e1 : i = p
  · subst e1
    rw [if_pos rfl]
    refine bits_ext fun j => ?_
    rw [or_bit, hmTo_bit, hmTo_bit, pow_bit]
    constructor
    · rintro (⟨h1, h2, h3⟩ | h1)
      · exact ⟨by omega, by omega, h3⟩
      · subst h1; exact ⟨by omega, by omega, by rw [adj_comm]; exact (hadj i hpk).2 rfl⟩
    · rintro ⟨h1, h2, h3⟩
      by_cases e : j = k
      · exact .inr e.symm
      · exact .inl ⟨hpk, by omega, h3⟩
  · rw [if_neg e1]
    by_cases e2 : i = k
    · subst e2
      rw [g2, if_pos rfl, g1, if_pos rfl, hv i hi, hm_zero (Nat.le_refl _)]
      refine bits_ext fun j => ?_
      rw [or_bit, or_bit, hmTo_bit, pow_bit, pow_bit, Nat.zero_testBit]
      constructor
      · rintro ((h1 | h1) | h1)
        · cases h1
        · subst h1; exact ⟨by omega, by omega, adj_self _ _⟩
        · subst h1; exact ⟨by omega, by omega, (hadj p hpk).2 rfl⟩
      · rintro ⟨h1, h2, h3⟩
        by_cases e : j = i
        · exact .inl (.inr e.symm)
        · exact .inr ((hadj j (by omega)).1 h3).symm
    · rw [g2, if_neg e2, g1, if_neg e2, hv i hi]
      refine bits_ext fun j => ?_
      rw [hmTo_bit, hmTo_bit]
      constructor
      · rintro ⟨h1, h2, h3⟩; exact ⟨by omega, by omega, h3⟩
      · rintro ⟨h1, h2, h3⟩
        have hik : i < k := by omega
        refine ⟨hik, ?_, h3⟩
        by_cases e : j = k
        · subst e
          rw [adj_comm] at h3
          exact absurd ((hadj i hik).1 h3) e1
        · omega
/-! What guards, and what is apart. -/
def hsL (xs : List Int) : List Nat := (List.range xs.length).map (hm xs)
theorem hsL_len (xs : List Int) : (hsL xs).length = xs.length := by simp [hsL]
theorem hsL_get {xs : List Int} {i : Nat} (h : i < xs.length) : (hsL xs).getD i 0 = hm xs i := by
  rw [getD_eq (by rw [hsL_len]; exact h)]; simp [hsL]
def orM (xs : List Int) (l : List Nat) : Nat := l.foldl (fun a p => a ||| hm xs p) 0
theorem orM_snoc (xs : List Int) (l : List Nat) (p : Nat) : orM xs (l ++ [p]) = orM xs l ||| hm xs p := by simp [orM]
theorem orM_from (xs : List Int) : ∀ (l : List Nat) (a j : Nat), (l.foldl (fun a p => a ||| hm xs p) a).testBit j = true ↔ a.testBit j = true ∨ ∃ p ∈ l, (hm xs p).testBit j = true
  | [], a, j => by simp
  | p :: l, a, j => by
    rw [List.foldl_cons, orM_from xs l, or_bit]
    simp only [List.mem_cons, exists_eq_or_imp, or_assoc]
theorem orM_bit {xs : List Int} {l : List Nat} {j : Nat} : (orM xs l).testBit j = true ↔ ∃ p ∈ l, (hm xs p).testBit j = true := by
  rw [orM, orM_from, Nat.zero_testBit]
  simp
theorem orM_lt {xs : List Int} (h : xs.length ≤ 10) (l : List Nat) : orM xs l < 1024 := by
  refine Nat.lt_of_not_le fun hc => ?_
  obtain ⟨j, hj, hb⟩ := Nat.exists_ge_and_testBit_of_ge_two_pow (n := 10) hc
  obtain ⟨p, _, hb2⟩ := orM_bit.1 hb
  have := (hm_bit.1 hb2).1
  omega
def grd (xs : List Int) (l : List Nat) : Bool := (List.range xs.length).all fun i => l.any fun p => adj xs p i
theorem grd_iff {xs : List Int} {l : List Nat} : grd xs l = true ↔ ∀ i, i < xs.length → ∃ p ∈ l, adj xs p i = true := by
  simp [grd]
theorem orM_full {xs : List Int} {l : List Nat} : orM xs l = 2 ^ xs.length - 1 ↔ grd xs l = true := by
  rw [grd_iff]
  constructor
  · intro h i hi
    have : (orM xs l).testBit i = true := by rw [h, Nat.testBit_two_pow_sub_one]; simpa using hi
    obtain ⟨p, hp, hb⟩ := orM_bit.1 this
    exact ⟨p, hp, (hm_bit.1 hb).2⟩
  · intro h
    refine bits_ext fun j => ?_
    rw [orM_bit, Nat.testBit_two_pow_sub_one]
    simp only [decide_eq_true_eq]
    constructor
    · rintro ⟨p, _, hb⟩; exact (hm_bit.1 hb).1
    · intro hj
      obtain ⟨p, hp, hb⟩ := h j hj
      exact ⟨p, hp, hm_bit.2 ⟨hj, hb⟩⟩
def apt (xs : List Int) (l : List Nat) : Bool := decide (l.Pairwise fun a b => hm xs a &&& hm xs b = 0)
theorem and_zero {a b : Nat} : a &&& b = 0 ↔ ∀ j, ¬ (a.testBit j = true ∧ b.testBit j = true) := by
  constructor
  · intro h j hj
    have : (a &&& b).testBit j = true := by rw [Nat.testBit_and, hj.1, hj.2]; rfl
    rw [h, Nat.zero_testBit] at this
    cases this
  · intro h
    refine bits_ext fun j => ?_
    rw [Nat.testBit_and, Bool.and_eq_true, Nat.zero_testBit]
    exact ⟨fun hj => absurd hj (h j), fun hj => (by cases hj)⟩
theorem orM_and {xs : List Int} {l : List Nat} {m : Nat} : orM xs l &&& m = 0 ↔ ∀ p ∈ l, hm xs p &&& m = 0 := by
  rw [and_zero]
  constructor
  · intro h p hp
    rw [and_zero]
    exact fun j hj => h j ⟨orM_bit.2 ⟨p, hp, hj.1⟩, hj.2⟩
  · rintro h j ⟨h1, h2⟩
    obtain ⟨p, hp, hb⟩ := orM_bit.1 h1
    exact and_zero.1 (h p hp) j ⟨hb, h2⟩
theorem apt_snoc {xs : List Int} {l : List Nat} {x : Nat} : (l ++ [x]).Pairwise (fun a b => hm xs a &&& hm xs b = 0) ↔ l.Pairwise (fun a b => hm xs a &&& hm xs b = 0) ∧ orM xs l &&& hm xs x = 0 := by
  rw [List.pairwise_append, orM_and]
  simp
end Go.Proofs.YtcfffhkabhmkmaaDoor.Ps

/- Slices that have at least so much room: cut, appended to within it, cleared. -/
namespace Go.Abs
set_option linter.unusedSectionVars false
variable [Globs]
open Go Go.Mth
set_option linter.unusedVariables false
set_option linter.unusedSimpArgs false
attribute [local irreducible] gOK WS WC WR WD Ends FS YS seqK blockK loopK midK retK rdK asgK rangeEnd sat

/-- The room that is sure. -/
def capR (cp len R : Nat) : Prop := (cp = 2 * 1 ∧ R = len) ∨ (cp = roomCode 1 R ∧ len ≤ R)
theorem capR.le {cp len R : Nat} (h : capR cp len R) : len ≤ R := by rcases h with ⟨_, h⟩ | ⟨_, h⟩ <;> omega

section
variable {C : CW} {nt : Nat} {L : Env} {D : List Nat} {H : Heap} {K : St → Prop} {M M' : HL} {n i d : Nat} {gd : Option (Tmp × Bool)} {lo' : List Nat} {l : List POp}
/-- One element more for a slice of one's own: it can be written then. -/
theorem WR.append1R {j d2 : Nat} {e sz : Nat} {z : List Value} {s x : Operand} {v y : Value} {cs new : List Value} {Mx T : HL} (hd : Nat.blt d nt = true) (hd2 : Nat.blt d2 nt = true)
    (hx : ev L x = some y) (hs : ev ((d, .slice (some ⟨n, 0, some 0⟩) 1 (2 * 1 + 1)) :: L) s = some v) (hO : Own e sz v cs Mx) (hH : hasH (Mx ++ T) n H)
    (hc : Instr.fill (fun j => some (j * sz, sz)) z.toArray [(0, y)] = some new.toArray) (hone : new.all one = true) (hl : new.length = sz) (hs1 : 1 ≤ sz) (hs2 : sz ≤ 1000) (hsm : cs.length + new.length ≤ 100000)
    (kk : ∀ v' Mx' n' H', OwnR e sz v' (cs ++ new) Mx' → hasH (Mx' ++ T) n' H' → n ≤ n' → WR C nt l ((d2, v') :: (d, .slice (some ⟨n, 0, some 0⟩) 1 (2 * 1 + 1)) :: L) D H' K) :
    WR C nt (⟨i, some d, .bldS e sz z 1 [(0, x)], none, []⟩ :: ⟨j, some d2, .append e sz s (.tmp d), none, lo'⟩ :: l) L D H K := by
  refine WR.bldS gN hd hH (vs := [(0, y)]) (by simp only [evp, hx]) hc hone fun H1 hH1 => ?_
  have hx2 : srcCells H1 sz 1 (.slice (some ⟨n, 0, some 0⟩) 1 (2 * 1 + 1)) = some new := by
    have := hH1.readN (b := n) (u := 0) (lo := 0) (o := 0) (k := 1 * sz) (ch := .row e 0 0 new) (cs := new) (by simp) (.row _ _ _ _) (Nat.le_refl _) (by omega)
    have hk : (new.drop (0 - 0)).take (1 * sz) = new := by rw [Nat.one_mul, ← hl]; simp
    simp only [srcCells, this, hk]
  obtain ⟨v', Mx', n', H', q1, q2, q3, q4⟩ := append_ownR (P := C.c.P) hO hH1.tail rfl hx2 (by omega) (Nat.le_refl _) hone hs1 hs2 hsm
  have hy : ev ((d, .slice (some ⟨n, 0, some 0⟩) 1 (2 * 1 + 1)) :: L) (.tmp d) = some (.slice (some ⟨n, 0, some 0⟩) 1 (2 * 1 + 1)) := by simp [ev, Env.get]
  refine WR.op gN hd2 (H' := H') (v := v') (fun t ht => ?_) (kk v' Mx' n' H' q2 q3 (by omega))
  simp only [opA, ev_ok ht hs, ev_ok ht hy, q1]

theorem WR.append1RF {j d2 : Nat} {e sz : Nat} {z : List Value} {s x : Operand} {v y : Value} {cs new : List Value} (F Mx T : HL) (hd : Nat.blt d nt = true) (hd2 : Nat.blt d2 nt = true)
    (hx : ev L x = some y) (hs : ev ((d, .slice (some ⟨n, 0, some 0⟩) 1 (2 * 1 + 1)) :: L) s = some v) (hO : Own e sz v cs Mx) (hH : hasH (F ++ (Mx ++ T)) n H)
    (hc : Instr.fill (fun j => some (j * sz, sz)) z.toArray [(0, y)] = some new.toArray) (hone : new.all one = true) (hl : new.length = sz) (hs1 : 1 ≤ sz) (hs2 : sz ≤ 1000) (hsm : cs.length + new.length ≤ 100000)
    (kk : ∀ v' Mx' n' H', OwnR e sz v' (cs ++ new) Mx' → hasH (F ++ (Mx' ++ T)) n' H' → n ≤ n' → WR C nt l ((d2, v') :: (d, .slice (some ⟨n, 0, some 0⟩) 1 (2 * 1 + 1)) :: L) D H' K) :
    WR C nt (⟨i, some d, .bldS e sz z 1 [(0, x)], none, []⟩ :: ⟨j, some d2, .append e sz s (.tmp d), none, lo'⟩ :: l) L D H K :=
  WR.append1R hd hd2 hx hs hO hH.pull hc hone hl hs1 hs2 hsm fun v' Mx' n' H' q1 q2 q3 => kk v' Mx' n' H' q1 q2.push q3
end
end Go.Abs

/- Appending to a slice that is read again afterwards. -/
namespace Go.Abs
set_option linter.unusedSectionVars false
variable [Globs]
open Go
set_option linter.unusedVariables false
theorem Upd.self {b : Nat} {ch : Ch} : ∀ {M : HL}, (b, ch) ∈ M → Upd M b ch ch M
  | [], h => by cases h
  | p :: M, h => by
    rcases List.mem_cons.1 h with h | h
    · subst h; exact .here
    · exact .there (Upd.self h)
section
variable {C : CW} {nt : Nat} {L : Env} {D : List Nat} {H : Heap} {K : St → Prop} {M M' : HL} {n i d : Nat} {gd : Option (Tmp × Bool)} {lo : List Nat} {l : List POp} {rs : List Rd}
theorem WD.bldS {e sz k : Nat} {z : List Value} {ps : List (Nat × Operand)} {vs : List (Nat × Value)} {cs : List Value} (hg : gOK L gd) (hd : Nat.blt d nt = true) (hH : hasH M n H) (hp : evp L ps = some vs)
    (hc : Instr.fill (fun j => some (j * sz, sz)) z.toArray vs = some cs.toArray) (hz : cs.all one = true)
    (hs : ∀ H', hasH ((n, .row e 0 0 cs) :: M) (n + 1) H' → stands H' lo rs = true)
    (kk : ∀ H', hasH ((n, .row e 0 0 cs) :: M) (n + 1) H' → WD C nt l rs ((d, .slice (some ⟨n, 0, some 0⟩) k (2 * k + 1)) :: L) D H' K) : WD C nt (⟨i, some d, .bldS e sz z k ps, gd, lo⟩ :: l) rs L D H K := by
  have h2 := hH.row e hz
  refine WD.op hg hd (H' := H.row e cs) (v := .slice (some ⟨n, 0, some 0⟩) k (2 * k + 1)) (fun t ht => ?_) rfl (hs _ h2) (kk _ h2)
  simp only [opA, evp_ok ht hp, hc, oBldS, newAddr, hH.next]
end
section
variable {C : CW} {nt : Nat} {L : Env} {D : List Nat} {H : Heap} {K : St → Prop} {M M' : HL} {n i d : Nat} {gd : Option (Tmp × Bool)} {lo : List Nat} {l : List POp} {rs : List Rd}
end
attribute [local irreducible] gOK WS WC WR WD Ends FS YS OpV seqK blockK loopK midK retK rdK asgK rangeEnd sat Cell
end Go.Abs

/- Stacks: slices that are appended to and cut short. -/
namespace Go.Abs
set_option linter.unusedSectionVars false
variable [Globs]
open Go Go.Mth
set_option linter.unusedVariables false
set_option linter.unusedSimpArgs false
attribute [local irreducible] gOK WS WC WR WD Ends FS YS seqK blockK loopK midK retK rdK asgK rangeEnd sat

/-- A stack: nothing, or the first cells of a row of one's own. -/
inductive StkO (e : Nat) : Value → List Value → HL → Prop where
  | nil : StkO e (.slice none 0 0) [] []
  | mk {b u o len cp : Nat} {S cs : List Value} (hl : S.length = len) (hS : S = cs.take len) (hc : capR cp len cs.length) (hb : cs.length ≤ 10000) : StkO e (.slice (some ⟨b, o, some u⟩) len cp) S [(b, .row e u o cs)]

theorem capR.cap {cp len R : Nat} (h : capR cp len R) : cp = 2 * 1 ∨ ∃ r, cp = roomCode 1 r ∧ len ≤ r := by
  rcases h with ⟨h, _⟩ | ⟨h, h2⟩
  · exact .inl h
  · exact .inr ⟨R, h, h2⟩
theorem StkO.sl {e : Nat} {v : Value} {S : List Value} {Mx : HL} (h : StkO e v S Mx) (M : HL) : Sl (Mx ++ M) 1 v S := by
  cases h with
  | nil => exact .nil 0
  | mk hl hS hc hb =>
    rename_i b u o len cp cs
    have := hc.le
    refine .row (ch := .row e u o cs) (cs := cs) (.head _) (.row _ _ _ _) (Nat.le_refl _) (by omega) ?_ (by omega) (.inl hc.cap)
    rw [Nat.sub_self, List.drop_zero, hl]; exact hS.symm
theorem StkO.one_ {e : Nat} {v : Value} {S : List Value} {Mx : HL} (h : StkO e v S Mx) : one v = true := (h.sl []).one_
theorem Own.stk {e : Nat} {v : Value} {S : List Value} {Mx : HL} (h : OwnR e 1 v S Mx) (hb : S.length ≤ 10000) : StkO e v S Mx := by
  cases h with
  | mk hl => rw [Nat.mul_one] at hl; exact .mk hl (by rw [← hl, List.take_length]) (.inl ⟨rfl, hl⟩) hb
section
variable {C : CW} {nt : Nat} {L : Env} {D : List Nat} {H : Heap} {K : St → Prop} {M M' : HL} {n i d : Nat} {gd : Option (Tmp × Bool)} {lo' : List Nat} {l : List POp}
/-- A row that is full is turned, whatever is known of its room. -/
theorem app_room {e len : Nat} {a : Addr} {x : Value} {H : Heap} (h1 : srcLen x = some 1) : appendA e 1 H (.slice (some a) len (roomCode 1 len)) x = appendA e 1 H (.slice (some a) len (2 * 1)) x := by
  have hb : Nat.ble (len + 1) len = false := by
    cases hb : Nat.ble (len + 1) len with
    | false => rfl
    | true => have := Nat.le_of_ble_eq_true hb; omega
  have hb0 : Nat.beq 1 0 = false := rfl
  simp only [appendA, h1]
  cases srcCells H 1 1 x with
  | none => rfl
  | some new =>
    simp only [appWith, capOf_room a (show 1 ≤ 1000 by decide), capOf_open a (show 1 ≤ 1000 by decide), Nat.beq_refl, cond_true, hb, hb0, cond_false]
theorem stk_push {P : Program} {e n : Nat} {v x y : Value} {S : List Value} {Mx M : HL} {H : Heap} (hO : StkO e v S Mx) (hH : hasH (Mx ++ M) n H) (hk : srcLen x = some 1) (hx : srcCells H 1 1 x = some [y]) (hone : one y = true) (hsm : S.length ≤ 9000) :
    ∃ v' Mx' n' H', appendA e 1 H v x = .val v' H' ∧ StkO e v' (S ++ [y]) Mx' ∧ hasH (Mx' ++ M) n' H' ∧ n ≤ n' := by
  have h1 : [y].all one = true := by simp [hone]
  cases hO with
  | nil =>
    obtain ⟨v', Mx', n', H', q1, q2, q3, q4⟩ := append_ownR (P := P) (Own.nil (e := e) (sz := 1)) hH hk hx rfl (Nat.le_refl _) h1 (Nat.le_refl _) (by decide) (by simp)
    exact ⟨v', Mx', n', H', q1, Own.stk q2 (by simp), q3, q4⟩
  | mk hl hS hc hb =>
    rename_i b u o len cp cs
    have hle := hc.le
    by_cases hf : len = cs.length
    · have hSc : S = cs := by rw [hS, hf, List.take_length]
      subst hSc
      obtain ⟨v', Mx', n', H', q1, q2, q3, q4⟩ := append_ownR (P := P) (Own.row (e := e) (b := b) (u := u) (o := o) (len := len) (sz := 1) (cs := S) (by omega)) hH hk hx rfl (Nat.le_refl _) h1 (Nat.le_refl _) (by decide) (by simp; omega)
      refine ⟨v', Mx', n', H', ?_, Own.stk q2 (by simp; omega), q3, q4⟩
      rcases hc with ⟨rfl, _⟩ | ⟨rfl, _⟩
      · exact q1
      · rw [← hf, app_room hk]; exact q1
    · have hlt : len < cs.length := by omega
      rcases hc with ⟨_, h2⟩ | ⟨rfl, _⟩
      · omega
      · have hcs : cs.set len y = splice cs (o + len - o) [y] := by
          rw [show o + len - o = len by omega, splice_one hlt]
        have hH2 : hasH ((b, .row e u o cs) :: M) n H := hH
        obtain ⟨H', h5, h6⟩ := hH2.writeN (M' := (b, .row e u o (cs.set len y)) :: M) (l := [y]) .here h1 (Nat.le_add_right o len) (by simp; omega) hcs
        refine ⟨.slice (some ⟨b, o, some u⟩) (len + 1) (roomCode 1 cs.length), [(b, .row e u o (cs.set len y))], n, H', ?_, ?_, h6, Nat.le_refl _⟩
        · have hb2 : Nat.ble (len + 1) cs.length = true := Nat.ble_eq_true_of_le hlt
          have hb0 : Nat.beq 1 0 = false := rfl
          simp only [appendA, hk, hx, appWith, capOf_room _ (show 1 ≤ 1000 by decide), Nat.beq_refl, cond_true, hb0, hb2, cond_false, appIn, Addr.plus, Nat.mul_one, h5]
        · refine .mk (by simp [hl]) ?_ (.inr ⟨by rw [List.length_set], by rw [List.length_set]; omega⟩) (by rw [List.length_set]; exact hb)
          rw [hS]
          refine List.ext_getElem (by simp; omega) fun j hj1 hj2 => ?_
          simp only [List.length_append, List.length_take, List.length_singleton] at hj1
          rw [List.getElem_take, List.getElem_set]
          by_cases hj : j = len
          · subst hj
            rw [List.getElem_append_right (by simp; omega)]; simp
          · rw [List.getElem_append_left (by simp; omega), List.getElem_take, if_neg fun h => hj h.symm]
/-- One more on top. -/
theorem WR.push {j d2 e : Nat} {z : List Value} {s x : Operand} {v y : Value} {S : List Value} (F Mx T : HL) (hd : Nat.blt d nt = true) (hd2 : Nat.blt d2 nt = true)
    (hx : ev L x = some y) (hs : ev ((d, .slice (some ⟨n, 0, some 0⟩) 1 (2 * 1 + 1)) :: L) s = some v) (hO : StkO e v S Mx) (hH : hasH (F ++ (Mx ++ T)) n H)
    (hc : Instr.fill (fun j => some (j * 1, 1)) z.toArray [(0, y)] = some [y].toArray) (hone : one y = true) (hsm : S.length ≤ 9000)
    (kk : ∀ v' Mx' n' H', StkO e v' (S ++ [y]) Mx' → hasH (F ++ (Mx' ++ T)) n' H' → n ≤ n' → WR C nt l ((d2, v') :: (d, .slice (some ⟨n, 0, some 0⟩) 1 (2 * 1 + 1)) :: L) D H' K) :
    WR C nt (⟨i, some d, .bldS e 1 z 1 [(0, x)], none, []⟩ :: ⟨j, some d2, .append e 1 s (.tmp d), none, lo'⟩ :: l) L D H K := by
  have hH := hH.pull
  have h1 : [y].all one = true := by simp [hone]
  refine WR.bldS gN hd hH (vs := [(0, y)]) (by simp only [evp, hx]) hc h1 fun H1 hH1 => ?_
  have hx2 : srcCells H1 1 1 (.slice (some ⟨n, 0, some 0⟩) 1 (2 * 1 + 1)) = some [y] := by
    have := hH1.readN (b := n) (u := 0) (lo := 0) (o := 0) (k := 1 * 1) (ch := .row e 0 0 [y]) (cs := [y]) (by simp) (.row _ _ _ _) (Nat.le_refl _) (by simp)
    simp only [srcCells, this]; rfl
  obtain ⟨v', Mx', n', H', q1, q2, q3, q4⟩ := stk_push (P := C.c.P) hO hH1.tail rfl hx2 hone hsm
  have hy : ev ((d, .slice (some ⟨n, 0, some 0⟩) 1 (2 * 1 + 1)) :: L) (.tmp d) = some (.slice (some ⟨n, 0, some 0⟩) 1 (2 * 1 + 1)) := by simp [ev, Env.get]
  refine WR.op gN hd2 (H' := H') (v := v') (fun t ht => ?_) (kk v' Mx' n' H' q2 q3.push (by omega))
  simp only [opA, ev_ok ht hs, ev_ok ht hy, q1]
end
end Go.Abs

/- Operations under a guard in regions that draw; sums of numbers that are not negative. -/
namespace Go.Abs
set_option linter.unusedSectionVars false
variable [Globs]
open Go
set_option linter.unusedVariables false
section
variable {C : CW} {nt : Nat} {L : Env} {D : List Nat} {H : Heap} {K : St → Prop} {M M' : HL} {n i d : Nat} {gd : Option (Tmp × Bool)} {lo : List Nat} {l : List POp} {rs : List Rd}
theorem WD.guardF {g : Nat} {q : Bool} {op : AOp} (hg : Env.get L g = some (.bool (!q))) (hd : Nat.blt d nt = true) (hs : stands H lo rs = true) (k : WD C nt l rs ((d, undef) :: L) D H K) :
    WD C nt (⟨i, some d, op, some (g, q), lo⟩ :: l) rs L D H K := by
  intro t ht
  obtain ⟨m, s', h1, h2⟩ := k _ (ht.put d undef)
  have hw : wantedA t ⟨i, some d, op, some (g, q), lo⟩ = false := by cases q <;> simp [wantedA, ht g _ hg]
  exact ⟨m, s', by simp only [stepOpsD, doOp, noteRd, hw, cond_false, putT, hd, cond_true, stOf, hs]; exact h1, h2⟩
theorem WD.guardU {g : Nat} {q : Bool} {op : AOp} (hg : Env.get L g = some undef) (hd : Nat.blt d nt = true) (hs : stands H lo rs = true) (k : WD C nt l rs ((d, undef) :: L) D H K) :
    WD C nt (⟨i, some d, op, some (g, q), lo⟩ :: l) rs L D H K := by
  intro t ht
  obtain ⟨m, s', h1, h2⟩ := k _ (ht.put d undef)
  have hw : wantedA t ⟨i, some d, op, some (g, q), lo⟩ = false := by simp only [wantedA, ht g _ hg]; rfl
  exact ⟨m, s', by simp only [stepOpsD, doOp, noteRd, hw, cond_false, putT, hd, cond_true, stOf, hs]; exact h1, h2⟩
end
end Go.Abs

/- Functions of the library; a shore's check, and that of places. -/
namespace Go.Proofs.YtcfffhkabhmkmaaDoor.Ps
open Go Go.Abs Go.Mth
set_option linter.unusedVariables false
set_option linter.unusedSimpArgs false
theorem nodes_IL (l : List Nat) : nodes l = ints (IL l) := by simp [nodes, ints, IL]
attribute [local irreducible] gOK WS WC WR WD Ends FS YS OpV seqK blockK loopK midK retK rdK asgK rangeEnd sat Cell
section
variable {M : HL} {n0 : Nat} {H : Heap} {v w : Value}
theorem Index_fs (hH : hasH M n0 H) {xs : List Int} (hS : Sl M 1 v (ints xs)) (hx : xs.length ≤ 100000) (a : Int) :
    FS C 52 [v, .int .i64 a] H (fun e H' => H' = H ∧ ((∃ k, k < xs.length ∧ xs.getD k 0 = a ∧ (∀ j, j < k → xs.getD j 0 ≠ a) ∧ e = .int .i64 (k : Int)) ∨ (a ∉ xs ∧ e = .int .i64 (-1)))) := by
  refine FS.intro (pf := pf52) rfl rfl rfl ?_
  repeat' (first | refine zP ?_ | refine zA ?_ | (refine zM ?_; intro _ _) | refine zX ?_ | (refine zC ?_; intro _ _ _ _) | (refine zS ?_; intro _ _) | (apply Ws <;> intro hg))
  refine WC.loopX [(0, _), (1, _), (6, _), (7, _)] (fun k : Nat => [(8, .int .i64 (k : Int))]) [] (fun k H' => H' = H ∧ k ≤ xs.length ∧ ∀ j, j < k → xs.getD j 0 ≠ a) (fun k => xs.length - k) 0 (by repeat' (first | exact .nil | refine .cons rfl ?_)) rfl ⟨rfl, Nat.zero_le _, fun j h => absurd h (Nat.not_lt_zero _)⟩ ?_
  rintro k H' ⟨rfl, hk, hno⟩
  dsimp only [List.cons_append, List.nil_append]
  repeat' (first | refine zP ?_ | refine zA ?_ | (refine zM ?_; intro _ _) | refine zX ?_ | (refine zC ?_; intro _ _ _ _) | (refine zS ?_; intro _ _) | (apply Ws <;> intro hg))
  refine WC.condP rfl (fun hlt => ?_) (fun hlt => ?_)
  · have hk' : k < xs.length := by omega
    repeat' (first | refine zP ?_ | refine zA ?_ | (refine zM ?_; intro _ _) | refine zX ?_ | (refine zC ?_; intro _ _ _ _) | (refine zS ?_; intro _ _) | (apply Ws <;> intro hg))
    refine WC.condP rfl (fun h => ?_) (fun h => ?_)
    · repeat' (first | refine zP ?_ | refine zA ?_ | (refine zM ?_; intro _ _) | refine zX ?_ | (refine zC ?_; intro _ _ _ _) | (refine zS ?_; intro _ _) | (apply Ws <;> intro hg))
      exact Ends.ret1 rfl ⟨rfl, .inl ⟨k, hk', h.symm, hno, rfl⟩⟩
    · repeat' (first | refine zP ?_ | refine zA ?_ | (refine zM ?_; intro _ _) | refine zX ?_ | (refine zC ?_; intro _ _ _ _) | (refine zS ?_; intro _ _) | (apply Ws <;> intro hg))
      refine Ends.loop (k + 1) (by omega) (by repeat' (first | exact .nil | refine .cons rfl ?_)) rfl ⟨rfl, hk', fun j hj => ?_⟩
      rcases Nat.lt_or_ge j k with h2 | h2
      · exact hno j h2
      · have : j = k := by omega
        subst this
        exact fun e => h e.symm
  · repeat' (first | refine zP ?_ | refine zA ?_ | (refine zM ?_; intro _ _) | refine zX ?_ | (refine zC ?_; intro _ _ _ _) | (refine zS ?_; intro _ _) | (apply Ws <;> intro hg))
    refine Ends.ret1 rfl ⟨rfl, .inr ⟨fun hm => ?_, rfl⟩⟩
    obtain ⟨j, hj, he⟩ := List.mem_iff_getElem.1 hm
    exact hno j (by omega) (by rw [getD_eq hj]; exact he)
theorem Contains_fs (hH : hasH M n0 H) {xs : List Int} (hS : Sl M 1 v (ints xs)) (hx : xs.length ≤ 100000) (a : Int) :
    FS C 29 [v, .int .i64 a] H (fun e H' => H' = H ∧ e = .bool (decide (a ∈ xs))) := by
  refine FS.intro (pf := pf29) rfl rfl rfl ?_
  repeat' (first | refine zP ?_ | refine zA ?_ | (refine zM ?_; intro _ _) | refine zX ?_ | (refine zC ?_; intro _ _ _ _) | (refine zS ?_; intro _ _) | (apply Ws <;> intro hg))
  refine WR.call (by first | exact gN | exact gS rfl) rfl rfl (Index_fs hH hS hx a) ?_
  rintro _ _ ⟨rfl, ⟨k, hk, he, _, rfl⟩ | ⟨hn, rfl⟩⟩
  · repeat' (first | refine zP ?_ | refine zA ?_ | (refine zM ?_; intro _ _) | refine zX ?_ | (refine zC ?_; intro _ _ _ _) | (refine zS ?_; intro _ _) | (apply Ws <;> intro hg))
    refine Ends.ret1 rfl ⟨rfl, ?_⟩
    have hm : a ∈ xs := by rw [← he]; exact getD_mem hk
    rw [decide_eq_true hm, decide_eq_true (by omega)]
  · repeat' (first | refine zP ?_ | refine zA ?_ | (refine zM ?_; intro _ _) | refine zX ?_ | (refine zC ?_; intro _ _ _ _) | (refine zS ?_; intro _ _) | (apply Ws <;> intro hg))
    refine Ends.ret1 rfl ⟨rfl, ?_⟩
    rw [decide_eq_false hn, decide_eq_false (by omega)]
theorem isBehind_fs (a : Int) (k : Nat) (H : Heap) :
    FS C 57 [.int .i64 a, .int .i64 (k : Int)] H (fun e H' => H' = H ∧ e = .bool (decide ((k = 0 ∧ a = -1) ∨ (k ≠ 0 ∧ 0 ≤ a ∧ a < k)))) := by
  refine FS.intro (pf := pf57) rfl rfl rfl ?_
  repeat' (first | refine zP ?_ | refine zA ?_ | (refine zM ?_; intro _ _) | refine zX ?_ | (refine zC ?_; intro _ _ _ _) | (refine zS ?_; intro _ _) | (apply Ws <;> intro hg))
  refine WC.condP rfl (fun h0 => ?_) (fun h0 => ?_)
  · repeat' (first | refine zP ?_ | refine zA ?_ | (refine zM ?_; intro _ _) | refine zX ?_ | (refine zC ?_; intro _ _ _ _) | (refine zS ?_; intro _ _) | (apply Ws <;> intro hg))
    exact Ends.ret1 rfl ⟨rfl, by congr 1; rw [decide_eq_decide]; omega⟩
  · repeat' (first | refine zP ?_ | refine zA ?_ | (refine zM ?_; intro _ _) | refine zX ?_ | (refine zC ?_; intro _ _ _ _) | (refine zS ?_; intro _ _) | (apply Ws <;> intro hg))
    · exact Ends.ret1 rfl ⟨rfl, by congr 1; rw [decide_eq_decide]; omega⟩
    · exact Ends.ret1 rfl ⟨rfl, by rw [decide_eq_false (by omega)]⟩
theorem Check_fs (hH : hasH M n0 H) {xs : List Int} (hS : Sl M 1 v (ints xs)) (hx : xs.length ≤ 100000) :
    FS C 34 [v] H (fun e H' => H' = H ∧ e = .int .i64 (errS xs)) := by
  have hv := hS.one_
  refine FS.intro (pf := pf34) rfl rfl rfl ?_
  repeat' (first | refine zP ?_ | refine zA ?_ | (refine zM ?_; intro _ _) | refine zX ?_ | (refine zC ?_; intro _ _ _ _) | (refine zS ?_; intro _ _) | (apply Ws <;> intro hg))
  refine WC.condP rfl (fun h0 => ?_) (fun h0 => ?_)
  · repeat' (first | refine zP ?_ | refine zA ?_ | (refine zM ?_; intro _ _) | refine zX ?_ | (refine zC ?_; intro _ _ _ _) | (refine zS ?_; intro _ _) | (apply Ws <;> intro hg))
    refine Ends.ret1 rfl ⟨rfl, ?_⟩
    unfold errS; rw [if_pos (by omega)]
  · repeat' (first | refine zP ?_ | refine zA ?_ | (refine zM ?_; intro _ _) | refine zX ?_ | (refine zC ?_; intro _ _ _ _) | (refine zS ?_; intro _ _) | (apply Ws <;> intro hg))
    refine WC.condP rfl (fun h7 => ?_) (fun h7 => ?_)
    · repeat' (first | refine zP ?_ | refine zA ?_ | (refine zM ?_; intro _ _) | refine zX ?_ | (refine zC ?_; intro _ _ _ _) | (refine zS ?_; intro _ _) | (apply Ws <;> intro hg))
      refine Ends.ret1 rfl ⟨rfl, ?_⟩
      unfold errS; rw [if_neg (by omega), if_pos (by omega)]
    · repeat' (first | refine zP ?_ | refine zA ?_ | (refine zM ?_; intro _ _) | refine zX ?_ | (refine zC ?_; intro _ _ _ _) | (refine zS ?_; intro _ _) | (apply Ws <;> intro hg))
      refine WC.loopX [(0, v), (10, v), (11, .int .i64 (xs.length : Int))] (fun k : Nat => [(12, .int .i64 (k : Int))]) [] (fun k H' => H' = H ∧ k ≤ xs.length ∧ firstE (errB xs) k = 0) (fun k => xs.length - k) 0 (by repeat' (first | exact .nil | refine .cons rfl ?_)) rfl ⟨rfl, Nat.zero_le _, rfl⟩ ?_
      rintro k H' ⟨rfl, hk, hz⟩
      dsimp only [List.cons_append, List.nil_append]
      repeat' (first | refine zP ?_ | refine zA ?_ | (refine zM ?_; intro _ _) | refine zX ?_ | (refine zC ?_; intro _ _ _ _) | (refine zS ?_; intro _ _) | (apply Ws <;> intro hg))
      refine WC.condP rfl (fun hlt => ?_) (fun hlt => ?_)
      · have hk' : k < xs.length := by omega
        repeat' (first | refine zP ?_ | refine zA ?_ | (refine zM ?_; intro _ _) | refine zX ?_ | (refine zC ?_; intro _ _ _ _) | (refine zS ?_; intro _ _) | (apply Ws <;> intro hg))
        refine WR.call (by first | exact gN | exact gS rfl) rfl rfl (isBehind_fs _ _ _) ?_
        rintro _ _ ⟨rfl, rfl⟩
        repeat' (first | refine zP ?_ | refine zA ?_ | (refine zM ?_; intro _ _) | refine zX ?_ | (refine zC ?_; intro _ _ _ _) | (refine zS ?_; intro _ _) | (apply Ws <;> intro hg))
        refine WC.condP rfl (fun hp => ?_) (fun hp => ?_)
        · repeat' (first | refine zP ?_ | refine zA ?_ | (refine zM ?_; intro _ _) | refine zX ?_ | (refine zC ?_; intro _ _ _ _) | (refine zS ?_; intro _ _) | (apply Ws <;> intro hg))
          refine Ends.ret1 rfl ⟨rfl, ?_⟩
          have h1 : errB xs k = 2 := by
            unfold errB
            by_cases e : k = 0
            · subst e; rw [if_pos rfl, if_neg (by omega)]
            · rw [if_neg e, if_neg (by omega)]
          unfold errS; rw [if_neg (by omega), if_neg (by omega), firstE_at hz (by rw [h1]; decide) hk', h1]
        · repeat' (first | refine zP ?_ | refine zA ?_ | (refine zM ?_; intro _ _) | refine zX ?_ | (refine zC ?_; intro _ _ _ _) | (refine zS ?_; intro _ _) | (apply Ws <;> intro hg))
          refine Ends.loop (k + 1) (by omega) (by repeat' (first | exact .nil | refine .cons rfl ?_)) rfl ⟨rfl, hk', firstE_succ hz ?_⟩
          unfold errB
          by_cases e : k = 0
          · subst e; rw [if_pos rfl, if_pos (by omega)]
          · rw [if_neg e, if_pos (by omega)]
      · have hkn : k = xs.length := by omega
        subst hkn
        repeat' (first | refine zP ?_ | refine zA ?_ | (refine zM ?_; intro _ _) | refine zX ?_ | (refine zC ?_; intro _ _ _ _) | (refine zS ?_; intro _ _) | (apply Ws <;> intro hg))
        refine Ends.ret1 rfl ⟨rfl, ?_⟩
        unfold errS; rw [if_neg (by omega), if_neg (by omega), hz]
end
end Go.Proofs.YtcfffhkabhmkmaaDoor.Ps

/- What is at hand of each place; what guards, what is apart. -/
namespace Go.Proofs.YtcfffhkabhmkmaaDoor.Ps
open Go Go.Abs Go.Mth
set_option linter.unusedVariables false
set_option linter.unusedSimpArgs false
theorem lt16 {a : Nat} (h : a < 1024) : a < capK .u16 := Nat.lt_of_lt_of_le h (by decide)
theorem rep16 (m : Nat) : (List.replicate m [Value.int .u16 0]).flatten = numsK .u16 (List.replicate m 0) := by
  induction m with
  | zero => rfl
  | succ m ih => simp only [List.replicate_succ, List.flatten_cons, ih, numsK, List.map_cons]; rfl
theorem numsK_one {k : IntKind} (l : List Nat) : (numsK k l).all one = true := by
  rw [List.all_eq_true]; intro q hq; obtain ⟨z, _, rfl⟩ := List.mem_map.1 hq; rfl
def HndV (M : HL) (xs : List Int) (v : Value) : Prop := Sl M 1 v (numsK .u16 (hsL xs))
attribute [local irreducible] gOK WS WC WR WD Ends FS YS OpV seqK blockK loopK midK retK rdK asgK rangeEnd sat Cell
section
variable {M : HL} {n0 : Nat} {H : Heap} {v w : Value}
theorem only_fs (x : Nat) (hx : x < 16) (H : Heap) : FS C 62 [.int .i64 (x : Int)] H (fun e H' => e = .int .u16 ((2 ^ x : Nat) : Int) ∧ H' = H) := by
  refine FS.intro (pf := pf62) rfl rfl rfl ?_
  repeat' (first | refine zP ?_ | refine zA ?_ | (refine zM ?_; intro _ _) | refine zX ?_ | (refine zC ?_; intro _ _ _ _) | (refine zS ?_; intro _ _) | (apply Ws <;> intro hg))
  refine WR.op (by first | exact gN | exact gS rfl) rfl (OpV.shl1 rfl rfl (by show x ≤ 16; omega) (by show 2 ^ x < 2 ^ 16; exact Nat.pow_lt_pow_right (by omega) hx)) ?_
  repeat' (first | refine zP ?_ | refine zA ?_ | (refine zM ?_; intro _ _) | refine zX ?_ | (refine zC ?_; intro _ _ _ _) | (refine zS ?_; intro _ _) | (apply Ws <;> intro hg))
  exact Ends.ret1 rfl ⟨rfl, rfl⟩
theorem firsts_fs (x : Nat) (hx : x < 16) (H : Heap) : FS C 63 [.int .i64 (x : Int)] H (fun e H' => e = .int .u16 ((2 ^ x - 1 : Nat) : Int) ∧ H' = H) := by
  refine FS.intro (pf := pf63) rfl rfl rfl ?_
  repeat' (first | refine zP ?_ | refine zA ?_ | (refine zM ?_; intro _ _) | refine zX ?_ | (refine zC ?_; intro _ _ _ _) | (refine zS ?_; intro _ _) | (apply Ws <;> intro hg))
  refine WR.call (by first | exact gN | exact gS rfl) rfl rfl (only_fs x hx _) ?_
  rintro _ _ ⟨rfl, rfl⟩
  repeat' (first | refine zP ?_ | refine zA ?_ | (refine zM ?_; intro _ _) | refine zX ?_ | (refine zC ?_; intro _ _ _ _) | (refine zS ?_; intro _ _) | (apply Ws <;> intro hg))
  have hp := Nat.pow_lt_pow_right (show 1 < 2 by omega) hx
  have hp0 : 0 < 2 ^ x := Nat.pow_pos (by omega)
  refine WR.op (by first | exact gN | exact gS rfl) rfl (OpV.subK rfl rfl (c := ((2 ^ x - 1 : Nat) : Int)) (by
    have h1 := wrap_cap (k := .u16) (r := 2 ^ x - 1) (by show 2 ^ x - 1 < 2 ^ 16; omega)
    have h2 : ((2 ^ x : Nat) : Int) - 1 = ((2 ^ x - 1 : Nat) : Int) := by omega
    rw [h2]; exact h1)) ?_
  repeat' (first | refine zP ?_ | refine zA ?_ | (refine zM ?_; intro _ _) | refine zX ?_ | (refine zC ?_; intro _ _ _ _) | (refine zS ?_; intro _ _) | (apply Ws <;> intro hg))
  exact Ends.ret1 rfl ⟨rfl, rfl⟩
set_option maxHeartbeats 2000000 in
theorem handsOf_fs (hH : hasH M n0 H) {xs : List Int} (hS : Sl M 1 v (ints xs)) (hx : OKS xs) :
    FS C 39 [v] H (fun e H' => e = .slice (some ⟨n0, 0, some 0⟩) xs.length (2 * xs.length + 1) ∧ hasH ((n0, .row 68 0 0 (numsK .u16 (hsL xs))) :: M) (n0 + 1) H') := by
  have h1 := hx.one
  have h10 := hx.most
  have hv := hS.one_
  refine FS.intro (pf := pf39) rfl rfl rfl ?_
  repeat' (first | refine zP ?_ | refine zA ?_ | (refine zM ?_; intro _ _) | refine zX ?_ | (refine zC ?_; intro _ _ _ _) | (refine zS ?_; intro _ _) | (apply Ws <;> intro hg))
  refine WR.mkSL (by first | exact gN | exact gS rfl) rfl hH rfl rfl (by omega) rfl fun H2 hH2 => ?_
  rw [rep16] at hH2
  repeat' (first | refine zP ?_ | refine zA ?_ | (refine zM ?_; intro _ _) | refine zX ?_ | (refine zC ?_; intro _ _ _ _) | (refine zS ?_; intro _ _) | (apply Ws <;> intro hg))
  have hSl : ∀ l : List Nat, Sl ((n0, .row 68 0 0 (numsK .u16 l)) :: M) 1 v (ints xs) := fun l => hS.cons
  refine WC.loopX [(0, _), (3, _), (9, _), (10, _)] (fun s : Nat × List Nat => [(11, .int .i64 (s.1 : Int))]) []
    (fun s H => s.1 ≤ xs.length ∧ s.2.length = xs.length ∧ hasH ((n0, .row 68 0 0 (numsK .u16 s.2)) :: M) (n0 + 1) H ∧ ∀ i, i < xs.length → s.2.getD i 0 = hmTo xs s.1 i)
    (fun s => xs.length - s.1) (0, List.replicate xs.length 0) (by repeat' (first | exact .nil | refine .cons rfl ?_)) rfl ⟨Nat.zero_le _, by simp, hH2, fun i hi => by rw [hm_zero (Nat.zero_le _)]; simp [List.getD_eq_getElem?_getD, hi]⟩ ?_
  clear hH2 hH
  rintro ⟨k, ms⟩ H3 ⟨hk, hml, hH, hms⟩
  simp only at hk hml hH hms
  have hS3 := hSl ms
  dsimp only [List.cons_append, List.nil_append]
  repeat' (first | refine zP ?_ | refine zA ?_ | (refine zM ?_; intro _ _) | refine zX ?_ | (refine zC ?_; intro _ _ _ _) | (refine zS ?_; intro _ _) | (apply Ws <;> intro hg))
  refine WC.condP rfl (fun hlt => ?_) (fun hlt => ?_)
  · have hk' : k < xs.length := by omega
    have hb1 : ms.getD k 0 < 1024 := by rw [hms k hk']; exact hmTo_lt k (by omega)
    repeat' (first | refine zP ?_ | refine zA ?_ | (refine zM ?_; intro _ _) | refine zX ?_ | (refine zC ?_; intro _ _ _ _) | (refine zS ?_; intro _ _) | (apply Ws <;> intro hg))
    refine WC.regionD ?_
    repeat' (first | refine zD ?_ | (refine zE ?_; intro _ _ _ _))
    refine WD.call (by first | exact gN | exact gS rfl) rfl rfl (only_fs k (by omega) _) ?_
    rintro _ H5 ⟨rfl, rfl⟩
    refine ⟨zSt, ?_⟩
    have hp16 : 2 ^ k < 1024 := by show 2 ^ k < 2 ^ 10; exact Nat.pow_lt_pow_right (by omega) (by omega)
    refine WD.op (by first | exact gN | exact gS rfl) rfl (OpV.orN rfl rfl (lt16 hb1) (lt16 hp16)) rfl (stands_nil _ _) ?_
    refine WD.toWR rfl ?_
    repeat' (first | refine zP ?_ | refine zA ?_ | (refine zM ?_; intro _ _) | refine zX ?_ | (refine zC ?_; intro _ _ _ _) | (refine zS ?_; intro _ _) | (apply Ws <;> intro hg))
    rename_i H6 hH6
    clear hH
    rcases Nat.eq_zero_or_pos k with rfl | hk0
    · repeat' (first | refine zP ?_ | refine zA ?_ | (refine zM ?_; intro _ _) | refine zX ?_ | (refine zC ?_; intro _ _ _ _) | (refine zS ?_; intro _ _) | refine zO ?_ | (apply Ws <;> intro hg))
      exact Ends.loop (1, ms.set 0 (ms.getD 0 0 ||| 2 ^ 0)) (by simp only; omega) (by repeat' (first | exact .nil | refine .cons rfl ?_)) rfl ⟨by simp only; omega, by simpa using hml, hH6, hm_root hx hml hms⟩
    · obtain ⟨hpar0, hpark⟩ := hx.par k (by omega) hk'
      obtain ⟨p, hp⟩ : ∃ p : Nat, xs.getD k 0 = (p : Int) := ⟨(xs.getD k 0).toNat, by omega⟩
      have hpk : p < k := by omega
      have hstep := hm_step hx hk' hp hpk hml hms
      have n1 : (ms.set k (ms.getD k 0 ||| 2 ^ k)).length = xs.length := by simp [hml]
      have hb2 : (ms.set k (ms.getD k 0 ||| 2 ^ k)).getD k 0 < 1024 := by
        rw [getD_set' (by omega), if_pos rfl]
        exact Nat.or_lt_two_pow (n := 10) hb1 hp16
      have hbp : ms.getD p 0 < 1024 := by rw [hms p (by omega)]; exact hmTo_lt p (by omega)
      have hb3 : (ms.set k (ms.getD k 0 ||| 2 ^ k)).getD p 0 < 1024 := by
        rw [getD_set' (by omega), if_neg (by omega)]; exact hbp
      have hS4 := hSl (ms.set k (ms.getD k 0 ||| 2 ^ k))
      generalize ms.set k (ms.getD k 0 ||| 2 ^ k) = l1 at hH6 hstep n1 hb2 hb3 hS4
      have hpp16 : 2 ^ p < 1024 := by show 2 ^ p < 2 ^ 10; exact Nat.pow_lt_pow_right (by omega) (by omega)
      repeat' (first | refine zP ?_ | refine zA ?_ | (refine zM ?_; intro _ _) | refine zX ?_ | (refine zC ?_; intro _ _ _ _) | (refine zS ?_; intro _ _) | refine zO ?_ | (apply Ws <;> intro hg))
      rw [hp]
      refine WC.regionD ?_
      repeat' (first | refine zD ?_ | (refine zE ?_; intro _ _ _ _))
      refine WD.call (by first | exact gN | exact gS rfl) rfl rfl (only_fs p (by omega) _) ?_
      rintro _ H7 ⟨rfl, rfl⟩
      refine ⟨zSt, ?_⟩
      refine WD.op (by first | exact gN | exact gS rfl) rfl (OpV.orN rfl rfl (lt16 hb2) (lt16 hpp16)) rfl (stands_nil _ _) ?_
      refine WD.toWR rfl ?_
      repeat' (first | refine zP ?_ | refine zA ?_ | (refine zM ?_; intro _ _) | refine zX ?_ | (refine zC ?_; intro _ _ _ _) | (refine zS ?_; intro _ _) | (apply Ws <;> intro hg))
      rename_i H8 hH8
      clear hH6
      have n2 : (l1.set k (l1.getD k 0 ||| 2 ^ p)).length = xs.length := by simp [n1]
      have hb4 : (l1.set k (l1.getD k 0 ||| 2 ^ p)).getD p 0 < 1024 := by rw [getD_set' (by omega), if_neg (by omega)]; exact hb3
      generalize l1.set k (l1.getD k 0 ||| 2 ^ p) = l2 at hH8 hstep n2 hb4
      refine WC.regionD ?_
      repeat' (first | refine zD ?_ | (refine zE ?_; intro _ _ _ _))
      refine WD.call (by first | exact gN | exact gS rfl) rfl rfl (only_fs k (by omega) _) ?_
      rintro _ H9 ⟨rfl, rfl⟩
      refine ⟨zSt, ?_⟩
      refine WD.op (by first | exact gN | exact gS rfl) rfl (OpV.orN rfl rfl (lt16 hb4) (lt16 hp16)) rfl (stands_nil _ _) ?_
      refine WD.toWR rfl ?_
      repeat' (first | refine zP ?_ | refine zA ?_ | (refine zM ?_; intro _ _) | refine zX ?_ | (refine zC ?_; intro _ _ _ _) | (refine zS ?_; intro _ _) | (apply Ws <;> intro hg))
      rename_i H10 hH10
      exact Ends.loop (k + 1, l2.set p (l2.getD p 0 ||| 2 ^ k)) (by simp only; omega) (by repeat' (first | exact .nil | refine .cons rfl ?_)) rfl ⟨hk', by simpa using n2, hH10, hstep⟩
  · have hkn : k = xs.length := by omega
    subst hkn
    have hme : ms = hsL xs := by
      refine ext_getD (a := 0) (by rw [hsL_len, hml]) fun i hi => ?_
      rw [hms i (by omega), hsL_get (by omega), hmTo_all (by omega)]
    subst hme
    repeat' (first | refine zP ?_ | refine zA ?_ | (refine zM ?_; intro _ _) | refine zX ?_ | (refine zC ?_; intro _ _ _ _) | (refine zS ?_; intro _ _) | (apply Ws <;> intro hg))
    exact Ends.ret1 rfl ⟨rfl, hH⟩
theorem guarded_fs (hH : hasH M n0 H) {xs : List Int} (hx : OKS xs) (hV : HndV M xs v) {l : List Nat} (hS : Sl M 1 w (nodes l)) (hl : ∀ x ∈ l, x < xs.length) (hll : l.length ≤ 1000) :
    FS C 40 [v, w] H (fun e H' => e = .bool (grd xs l) ∧ H' = H) := by
  unfold HndV at hV
  have h10 := hx.most
  have hv := hV.one_
  have hw := hS.one_
  have hlen := hsL_len xs
  refine FS.intro (pf := pf40) rfl rfl rfl ?_
  repeat' (first | refine zP ?_ | refine zA ?_ | (refine zM ?_; intro _ _) | refine zX ?_ | (refine zC ?_; intro _ _ _ _) | (refine zS ?_; intro _ _) | (apply Ws <;> intro hg))
  refine WC.loopX [(0, v), (1, w), (8, w), (9, _)] (fun k : Nat => [(10, .int .i64 (k : Int)), (5, .int .u16 (orM xs (l.take k) : Nat))]) [] (fun k H' => H' = H ∧ k ≤ l.length) (fun k => l.length - k) 0 (by repeat' (first | exact .nil | refine .cons rfl ?_)) rfl ⟨rfl, Nat.zero_le _⟩ ?_
  rintro k H' ⟨rfl, hk⟩
  have hor := orM_lt (xs := xs) h10 (l.take k)
  dsimp only [List.cons_append, List.nil_append]
  repeat' (first | refine zP ?_ | refine zA ?_ | (refine zM ?_; intro _ _) | refine zX ?_ | (refine zC ?_; intro _ _ _ _) | (refine zS ?_; intro _ _) | (apply Ws <;> intro hg))
  refine WC.condP rfl (fun hlt => ?_) (fun hlt => ?_)
  · have hk' : k < l.length := by omega
    have hmx := hl _ (getD_mem (a := 0) hk')
    have hg : (hsL xs).getD (l.getD k 0) 0 = hm xs (l.getD k 0) := hsL_get hmx
    have hb := hm_lt10 h10 (l.getD k 0)
    repeat' (first | refine zP ?_ | refine zA ?_ | (refine zM ?_; intro _ _) | refine zX ?_ | (refine zC ?_; intro _ _ _ _) | (refine zS ?_; intro _ _) | (apply Ws <;> intro hg))
    rw [hg]
    refine WR.op (by first | exact gN | exact gS rfl) rfl (OpV.orN rfl rfl (lt16 hor) (lt16 hb)) ?_
    repeat' (first | refine zP ?_ | refine zA ?_ | (refine zM ?_; intro _ _) | refine zX ?_ | (refine zC ?_; intro _ _ _ _) | (refine zS ?_; intro _ _) | (apply Ws <;> intro hg))
    refine Ends.loop (k + 1) (by omega) (by rw [List.take_succ_eq_append_getElem hk', orM_snoc, ← getD_eq (a := 0)]; exact (by repeat' (first | exact .nil | refine .cons rfl ?_))) rfl ⟨rfl, hk'⟩
  · have hkl : k = l.length := by omega
    subst hkl
    rw [List.take_length]
    rw [List.take_length] at hor
    repeat' (first | refine zP ?_ | refine zA ?_ | (refine zM ?_; intro _ _) | refine zX ?_ | (refine zC ?_; intro _ _ _ _) | (refine zS ?_; intro _ _) | (apply Ws <;> intro hg))
    rw [hlen]
    refine WR.call (by first | exact gN | exact gS rfl) rfl rfl (firsts_fs xs.length (by omega) _) ?_
    rintro _ _ ⟨rfl, rfl⟩
    repeat' (first | refine zP ?_ | refine zA ?_ | (refine zM ?_; intro _ _) | refine zX ?_ | (refine zC ?_; intro _ _ _ _) | (refine zS ?_; intro _ _) | (apply Ws <;> intro hg))
    refine Ends.ret1 rfl ⟨?_, rfl⟩
    congr 1
    rw [Bool.eq_iff_iff, ← orM_full, decide_eq_true_eq]
    omega
theorem apart_fs (hH : hasH M n0 H) {xs : List Int} (hx : OKS xs) (hV : HndV M xs v) {l : List Nat} (hS : Sl M 1 w (nodes l)) (hl : ∀ x ∈ l, x < xs.length) (hll : l.length ≤ 1000) :
    FS C 41 [v, w] H (fun e H' => e = .bool (apt xs l) ∧ H' = H) := by
  unfold HndV at hV
  have h10 := hx.most
  have hv := hV.one_
  have hw := hS.one_
  have hlen := hsL_len xs
  refine FS.intro (pf := pf41) rfl rfl rfl ?_
  repeat' (first | refine zP ?_ | refine zA ?_ | (refine zM ?_; intro _ _) | refine zX ?_ | (refine zC ?_; intro _ _ _ _) | (refine zS ?_; intro _ _) | (apply Ws <;> intro hg))
  refine WC.loopX [(0, v), (1, w), (8, w), (9, _)] (fun k : Nat => [(10, .int .i64 (k : Int)), (5, .int .u16 (orM xs (l.take k) : Nat))]) [] (fun k H' => H' = H ∧ k ≤ l.length ∧ (l.take k).Pairwise (fun a b => hm xs a &&& hm xs b = 0)) (fun k => l.length - k) 0 (by repeat' (first | exact .nil | refine .cons rfl ?_)) rfl ⟨rfl, Nat.zero_le _, by simp⟩ ?_
  rintro k H' ⟨rfl, hk, hpw⟩
  have hor := orM_lt (xs := xs) h10 (l.take k)
  dsimp only [List.cons_append, List.nil_append]
  repeat' (first | refine zP ?_ | refine zA ?_ | (refine zM ?_; intro _ _) | refine zX ?_ | (refine zC ?_; intro _ _ _ _) | (refine zS ?_; intro _ _) | (apply Ws <;> intro hg))
  refine WC.condP rfl (fun hlt => ?_) (fun hlt => ?_)
  · have hk' : k < l.length := by omega
    have hmx := hl _ (getD_mem (a := 0) hk')
    have hg : (hsL xs).getD (l.getD k 0) 0 = hm xs (l.getD k 0) := hsL_get hmx
    have hb := hm_lt10 h10 (l.getD k 0)
    have htk : l.take (k + 1) = l.take k ++ [l.getD k 0] := by rw [List.take_succ_eq_append_getElem hk', ← getD_eq (a := 0)]
    have hsn := apt_snoc (xs := xs) (l := l.take k) (x := l.getD k 0)
    rw [← htk] at hsn
    repeat' (first | refine zP ?_ | refine zA ?_ | (refine zM ?_; intro _ _) | refine zX ?_ | (refine zC ?_; intro _ _ _ _) | (refine zS ?_; intro _ _) | (apply Ws <;> intro hg))
    rw [hg]
    refine WR.op (by first | exact gN | exact gS rfl) rfl (OpV.andN rfl rfl (lt16 hor) (lt16 hb)) ?_
    repeat' (first | refine zP ?_ | refine zA ?_ | (refine zM ?_; intro _ _) | refine zX ?_ | (refine zC ?_; intro _ _ _ _) | (refine zS ?_; intro _ _) | (apply Ws <;> intro hg))
    refine WC.condP rfl (fun hne => ?_) (fun hne => ?_)
    · repeat' (first | refine zP ?_ | refine zA ?_ | (refine zM ?_; intro _ _) | refine zX ?_ | (refine zC ?_; intro _ _ _ _) | (refine zS ?_; intro _ _) | (apply Ws <;> intro hg))
      refine Ends.ret1 rfl ⟨?_, rfl⟩
      congr 1
      refine (decide_eq_false fun hc => ?_).symm
      have h2 : (l.take (k + 1)).Pairwise (fun a b => hm xs a &&& hm xs b = 0) := hc.sublist (List.take_sublist _ _)
      have := (hsn.1 h2).2
      omega
    · repeat' (first | refine zP ?_ | refine zA ?_ | (refine zM ?_; intro _ _) | refine zX ?_ | (refine zC ?_; intro _ _ _ _) | (refine zS ?_; intro _ _) | (apply Ws <;> intro hg))
      rw [hg]
      refine WR.op (by first | exact gN | exact gS rfl) rfl (OpV.orN rfl rfl (lt16 hor) (lt16 hb)) ?_
      repeat' (first | refine zP ?_ | refine zA ?_ | (refine zM ?_; intro _ _) | refine zX ?_ | (refine zC ?_; intro _ _ _ _) | (refine zS ?_; intro _ _) | (apply Ws <;> intro hg))
      refine Ends.loop (k + 1) (by omega) (by rw [htk, orM_snoc]; exact (by repeat' (first | exact .nil | refine .cons rfl ?_))) rfl ⟨rfl, hk', hsn.2 ⟨hpw, by omega⟩⟩
  · have hkl : k = l.length := by omega
    subst hkl
    rw [List.take_length] at hpw
    repeat' (first | refine zP ?_ | refine zA ?_ | (refine zM ?_; intro _ _) | refine zX ?_ | (refine zC ?_; intro _ _ _ _) | (refine zS ?_; intro _ _) | (apply Ws <;> intro hg))
    refine Ends.ret1 rfl ⟨?_, rfl⟩
    congr 1
    exact (decide_eq_true hpw).symm
end
end Go.Proofs.YtcfffhkabhmkmaaDoor.Ps

/- Lists that are cut to their length and appended to: the old row stays. -/
namespace Go.Abs
set_option linter.unusedSectionVars false
variable [Globs]
open Go Go.Mth
set_option linter.unusedVariables false
set_option linter.unusedSimpArgs false
attribute [local irreducible] gOK WS WC WR WD Ends FS YS seqK blockK loopK midK retK rdK asgK rangeEnd sat
section
variable {C : CW} {nt : Nat} {L : Env} {D : List Nat} {H : Heap} {K : St → Prop} {M M' : HL} {n i d : Nat} {gd : Option (Tmp × Bool)} {lo : List Nat} {l : List POp} {rs : List Rd}
/-- A list, in whatever row. -/
def LstW (M : HL) (v : Value) (cs : List Value) : Prop := (cs = [] ∧ v = .slice none 0 0) ∨ ∃ b o u cap, v = .slice (some ⟨b, o, some u⟩) cs.length cap ∧ KCell M b o u cs ∧
  ((cap = 2 * 1 ∧ cs ≠ []) ∨ (∃ R, cap = roomCode 1 R ∧ cs.length ≤ R) ∨ ∃ c, cap = 2 * c + 1 ∧ cs.length ≤ c)
/-- One that is full. -/
def ClipW (M : HL) (v : Value) (cs : List Value) : Prop := (cs = [] ∧ v = .slice none 0 0) ∨ ∃ b o u, v = .slice (some ⟨b, o, some u⟩) cs.length (2 * cs.length + 1) ∧ KCell M b o u cs
theorem LstW.mono {v : Value} {cs : List Value} (h : LstW M v cs) (k : ∀ q ∈ M, q ∈ M') : LstW M' v cs := by
  rcases h with h | ⟨b, o, u, cap, h1, h2, h3⟩
  · exact .inl h
  · exact .inr ⟨b, o, u, cap, h1, h2.mono k, h3⟩
theorem ClipW.mono {v : Value} {cs : List Value} (h : ClipW M v cs) (k : ∀ q ∈ M, q ∈ M') : ClipW M' v cs := by
  rcases h with h | ⟨b, o, u, h1, h2⟩
  · exact .inl h
  · exact .inr ⟨b, o, u, h1, h2.mono k⟩
theorem LstW.sl {v : Value} {cs : List Value} (h : LstW M v cs) : Sl M 1 v cs := by
  rcases h with ⟨rfl, rfl⟩ | ⟨b, o, u, cap, rfl, ⟨ch, lo, cells, h1, h2, h3, h4, h5⟩, h6⟩
  · exact .nil 0
  · refine .row h1 h2 h3 (by simp) h5 h4 ?_
    rcases h6 with ⟨rfl, _⟩ | ⟨R, rfl, h7⟩ | ⟨c, rfl, h7⟩
    · exact .inl (.inl rfl)
    · exact .inl (.inr ⟨R, rfl, h7⟩)
    · exact .inr ⟨_, rfl, h7⟩
theorem LstW.one_ {v : Value} {cs : List Value} (h : LstW M v cs) : one v = true := h.sl.one_
theorem LstW.none (M : HL) : LstW M (.slice none 0 0) [] := .inl ⟨rfl, rfl⟩
theorem LstW.row {b e len : Nat} {cs : List Value} (hm : (b, Ch.row e 0 0 cs) ∈ M) (hl : cs.length = len) (h0 : cs ≠ []) : LstW M (.slice (some ⟨b, 0, some 0⟩) len (2 * 1)) cs := by
  subst hl
  exact .inr ⟨b, 0, 0, 2 * 1, rfl, ⟨_, 0, cs, hm, .row _ _ _ _, Nat.le_refl _, by simp, by simp⟩, .inl ⟨rfl, h0⟩⟩
end
end Go.Abs

/- Lists that are copied behind an empty one. -/
namespace Go.Abs
set_option linter.unusedSectionVars false
variable [Globs]
open Go Go.Mth
set_option linter.unusedVariables false
set_option linter.unusedSimpArgs false
attribute [local irreducible] gOK WS WC WR WD Ends FS YS seqK blockK loopK midK retK rdK asgK rangeEnd sat
section
variable {C : CW} {nt : Nat} {L : Env} {D : List Nat} {H : Heap} {K : St → Prop} {M M' : HL} {n i d : Nat} {gd : Option (Tmp × Bool)} {lo : List Nat} {l : List POp}
/-- Numbers in a row of one's own; none: an empty row. -/
def OwnZ (e : Nat) (v : Value) (xs : List Nat) (Mx : HL) : Prop := (xs = [] ∧ ∃ b, v = .slice (some ⟨b, 0, some 0⟩) 0 (2 * 0 + 1) ∧ Mx = [(b, Ch.row e 0 0 [])]) ∨ (xs ≠ [] ∧ OwnR e 1 v (nodes xs) Mx)
theorem OwnZ.sl {e : Nat} {v : Value} {xs : List Nat} {Mx T : HL} (h : OwnZ e v xs Mx) (k : ∀ q ∈ Mx, q ∈ T) : Sl T 1 v (nodes xs) := by
  rcases h with ⟨rfl, b, rfl, rfl⟩ | ⟨_, h⟩
  · refine .row (lo := 0) (cs := []) (k _ (.head _)) (.row _ _ _ _) (Nat.le_refl _) rfl rfl (by simp) (.inr ⟨0, rfl, Nat.le_refl _⟩)
  · exact (h.own.sl []).mono fun q hq => k q (by simpa using hq)
theorem OwnZ.empty {e b : Nat} : OwnZ e (.slice (some ⟨b, 0, some 0⟩) 0 (2 * 0 + 1)) [] [(b, Ch.row e 0 0 [])] := .inl ⟨rfl, b, rfl, rfl⟩
theorem nodes_all (xs : List Nat) : (nodes xs).all one = true := by
  rw [List.all_eq_true]; intro q hq; obtain ⟨z, _, rfl⟩ := List.mem_map.1 hq; rfl
end
end Go.Abs

/- Pairs of numbers that are compared. -/
namespace Go.Abs
set_option linter.unusedSectionVars false
variable [Globs]
open Go
set_option linter.unusedSimpArgs false
section
variable {C : CW} {L : Env} {H : Heap}
end
section
variable {C : CW} {L : Env} {H : Heap}
end
end Go.Abs

/- Strings: their length, their bytes, whether two are equal; bytes that become one. -/
namespace Go.Abs
set_option linter.unusedSectionVars false
variable [Globs]
open Go Go.Mth
set_option linter.unusedVariables false
set_option linter.unusedSimpArgs false
attribute [local irreducible] gOK WS WC WR WD Ends FS YS seqK blockK loopK midK retK rdK asgK rangeEnd sat
section
variable {C : CW} {nt : Nat} {L : Env} {D : List Nat} {H : Heap} {K : St → Prop} {M M' : HL} {n i d : Nat} {gd : Option (Tmp × Bool)} {lo : List Nat} {l : List POp}
/-- A string of these bytes. -/
def strB (l : List Nat) : ByteArray := ⟨(l.map UInt8.ofNat).toArray⟩
theorem strB_push (a : List Nat) (b : Nat) : (strB a).push (UInt8.ofNat b) = strB (a ++ [b]) := by
  apply ByteArray.ext
  simp [strB, ByteArray.push]
theorem catS_bytes (l a : List Nat) : catS 0 (numsK .u8 l) (strB a) = some (.string (strB (a ++ l))) := by
  induction l generalizing a with
  | nil => simp [numsK, catS]
  | cons x l ih =>
    show catS 0 (.int .u8 (x : Int) :: numsK .u8 l) (strB a) = _
    have e : (((x : Int)).toNat) = x := rfl
    simp only [catS, e, strB_push, ih, List.append_assoc, List.singleton_append]
    rfl
theorem OpV.cts {x : Operand} {v : Value} {bs : List Nat} (hx : ev L x = some v) (hS : Sl M 1 v (numsK .u8 bs)) (h0 : bs ≠ []) (hH : hasH M n H) : OpV C (.cts 0 x) L H (.string (strB bs)) H := by
  intro t ht
  simp only [opA, ev_ok ht hx]
  have hne : numsK .u8 bs ≠ [] := by intro e; exact h0 (by simpa [numsK] using e)
  have hc2 : catS 0 (numsK .u8 bs) ByteArray.empty = some (.string (strB bs)) := catS_bytes bs []
  generalize numsK .u8 bs = q at hS hne hc2
  cases hS with
  | nil c => exact absurd rfl hne
  | emp a => exact absurd rfl hne
  | row hm hc hlo hl hv hin hp =>
    rename_i b o u lo len cap ch cs
    have e1 : len = q.length := by omega
    have := hH.readN hm hc hlo (show o - lo + len ≤ cs.length by omega)
    simp only [oCts, this]
    have h2 : (cs.drop (o - lo)).take len = q := by rw [e1]; exact hv
    rw [h2, hc2]; rfl
theorem StkO.src {e : Nat} {v : Value} {S : List Value} {Mx T : HL} (h : StkO e v S Mx) (hH : hasH (Mx ++ T) n H) : srcLen v = some S.length ∧ srcCells H 1 S.length v = some S := by
  cases h with
  | nil => exact ⟨rfl, rfl⟩
  | mk hl hS hc hb =>
    rename_i b u o len cp cs
    have hle := hc.le
    have := hH.readN (b := b) (u := u) (lo := o) (o := o) (k := len) (ch := .row e u o cs) (cs := cs) (by simp) (.row _ _ _ _) (Nat.le_refl _) (by omega)
    rw [Nat.sub_self, List.drop_zero, ← hS] at this
    exact ⟨by rw [hl]; rfl, by simp only [srcCells, Nat.mul_one]; rw [hl]; exact this⟩
/-- What is appended to an empty row is a copy. -/
theorem OpV.copyZ {e b : Nat} {s x : Operand} {v : Value} {S : List Nat} {T : HL} (hs : ev L s = some (.slice (some ⟨b, 0, some 0⟩) 0 (2 * 0 + 1))) (hy : ev L x = some v) (hk : srcLen v = some S.length) (hx : srcCells H 1 S.length v = some (nodes S))
    (hH : hasH ((b, Ch.row e 0 0 []) :: T) n H) (hl : S.length ≤ 1000) : ∃ v' Mz n' H', OpV C (.append e 1 s x) L H v' H' ∧ OwnZ e v' S Mz ∧ hasH (Mz ++ T) n' H' ∧ n ≤ n' := by
  by_cases hne : S = []
  · subst hne
    obtain ⟨H', h5, h6⟩ := hH.writeN (o := 0) (l := []) (Upd.self (.head _)) rfl (Nat.le_refl _) (by simp) (by simp [splice])
    refine ⟨_, _, n, H', fun t ht => ?_, .empty, h6, Nat.le_refl _⟩
    have hk0 : srcLen v = some 0 := hk
    have hx0 : srcCells H 1 0 v = some [] := hx
    have hcap : capOf (some ⟨b, 0, some 0⟩) (2 * 0 + 1) = .known 0 := rfl
    have hb : Nat.ble (0 + 0) 0 = true := rfl
    have hp : Addr.plus ⟨b, 0, some 0⟩ (0 * 1) = ⟨b, 0, some 0⟩ := rfl
    simp only [opA, ev_ok ht hs, ev_ok ht hy, appendA, hk0, hx0, appWith, hcap, hb, cond_true, appIn, hp, h5, Nat.add_zero]
  · have hl0 := List.length_pos_iff.2 hne
    have hone := nodes_all S
    refine ⟨.slice (some ⟨n, 0, some 0⟩) S.length (2 * 1), [(n, .row e 0 0 (nodes S))], n + 1, H.row e (nodes S), fun t ht => ?_, .inr ⟨hne, .mk (by simp)⟩, (hH.row e hone).sub (.cons_cons _ (List.sublist_cons_self _ _)), Nat.le_succ _⟩
    have hb : Nat.ble (0 + S.length) 0 = false := by
      cases hb : Nat.ble (0 + S.length) 0 with
      | false => rfl
      | true => have := Nat.le_of_ble_eq_true hb; omega
    have hr := hH.readN (b := b) (u := 0) (lo := 0) (o := 0) (k := 0 * 1) (.head _) (.row _ _ _ _) (Nat.le_refl _) (by simp)
    rw [Nat.zero_mul, List.take_zero] at hr
    have hs0 : srcCells H 1 0 (.slice (some ⟨b, 0, some 0⟩) 0 (2 * 0 + 1)) = some [] := by simp only [srcCells, Nat.zero_mul]; exact hr
    have hsm' : small 1 (0 + S.length) = true := by simp only [small, Bool.and_eq_true]; exact ⟨⟨Nat.ble_eq_true_of_le (by omega), Nat.ble_eq_true_of_le (by decide)⟩, Nat.ble_eq_true_of_le (by decide)⟩
    have hq : Nat.beq (0 + (nodes S).length) ((0 + S.length) * 1) = true := by rw [show (nodes S).length = S.length by simp [nodes], Nat.mul_one]; exact Nat.beq_refl _
    simp only [opA, ev_ok ht hs, ev_ok ht hy, appendA, hk, hx, appWith, capOf_known, hb, cond_false, hs0, appNew, hsm', List.all_nil, hone, Bool.true_and, List.length_nil, cond_true, List.nil_append, newAddr, hH.next, Nat.zero_add]
    rw [Nat.zero_add] at hb hsm'
    rw [Nat.zero_add, Nat.zero_add] at hq
    simp only [hb, cond_false, hsm', hq, Bool.and_self, cond_true]
theorem WD.copyZ {rs : List Rd} {e b : Nat} {s x : Operand} {v : Value} {S : List Nat} {T : HL} (hg : gOK L gd) (hd : Nat.blt d nt = true) (hs : ev L s = some (.slice (some ⟨b, 0, some 0⟩) 0 (2 * 0 + 1))) (hy : ev L x = some v) (hk : srcLen v = some S.length) (hx : srcCells H 1 S.length v = some (nodes S))
    (hH : hasH ((b, Ch.row e 0 0 []) :: T) n H) (hl : S.length ≤ 1000)
    (kk : ∀ v' Mz n' H', OwnZ e v' S Mz → hasH (Mz ++ T) n' H' → n ≤ n' → stands H' lo rs = true ∧ WD C nt l rs ((d, v') :: L) D H' K) : WD C nt (⟨i, some d, .append e 1 s x, gd, lo⟩ :: l) rs L D H K := by
  obtain ⟨v', Mz, n', H', h1, h2, h3, h4⟩ := OpV.copyZ (C := C) hs hy hk hx hH hl
  obtain ⟨k1, k2⟩ := kk v' Mz n' H' h2 h3 h4
  exact WD.op hg hd h1 rfl k1 k2
end
end Go.Abs

/- Slices with a room that is known: they are appended to, and cut, where they are. -/
namespace Go.Abs
set_option linter.unusedSectionVars false
variable [Globs]
open Go Go.Mth
set_option linter.unusedVariables false
set_option linter.unusedSimpArgs false
attribute [local irreducible] gOK WS WC WR WD Ends FS YS seqK blockK loopK midK retK rdK asgK rangeEnd sat
section
variable {C : CW} {nt : Nat} {L : Env} {D : List Nat} {H : Heap} {K : St → Prop} {M M' : HL} {n i d : Nat} {gd : Option (Tmp × Bool)} {lo' : List Nat} {l : List POp}
theorem WR.mkK {e m : Nat} {z : Value} {x y : Operand} {kd kd2 : IntKind} (hg : gOK L gd) (hd : Nat.blt d nt = true) (hH : hasH M n H) (hx : ev L x = some (.int kd 0)) (hy : ev L y = some (.int kd2 (m : Int)))
    (hm : m ≤ 100000) (hz : one z = true)
    (kk : ∀ H', hasH ((n, .row e 0 0 (List.replicate m z)) :: M) (n + 1) H' → WR C nt l ((d, .slice (some ⟨n, 0, some 0⟩) 0 (2 * m + 1)) :: L) D H' K) : WR C nt (⟨i, some d, .mkS e [z] x y, gd, lo'⟩ :: l) L D H K := by
  have e1 : natOf (.int kd 0) = some 0 := rfl
  have e2 : natOf (.int kd2 (m : Int)) = some m := rfl
  have e3 : (List.replicate m [z]).flatten = List.replicate m z := by
    clear hy hm kk e2
    induction m with
    | zero => rfl
    | succ m ih => rw [List.replicate_succ, List.replicate_succ, List.flatten_cons, ih]; rfl
  refine WR.op hg hd (H' := H.row e (List.replicate m [z]).flatten) (v := .slice (some ⟨n, 0, some 0⟩) 0 (2 * m + 1)) (fun t ht => ?_) (kk _ ?_)
  · simp only [opA, ev_ok ht hx, ev_ok ht hy, oMkS, e1, e2, newAddr, hH.next]
    have b1 : Nat.ble 0 m = true := Nat.ble_eq_true_of_le (Nat.zero_le _)
    have b2 : Nat.ble m 100000 = true := Nat.ble_eq_true_of_le hm
    rw [b1, b2]; rfl
  · rw [e3]
    refine hH.row e ?_
    rw [List.all_eq_true]; intro q hq
    rw [(List.mem_replicate.1 hq).2]; exact hz
theorem WR.pushK {j d2 e c len b : Nat} {s x : Operand} {a : Int} {ys : List Int} {T : HL} (hd : Nat.blt d nt = true) (hd2 : Nat.blt d2 nt = true)
    (hx : ev L x = some (.int .i64 a)) (hs : ev ((d, .slice (some ⟨n, 0, some 0⟩) 1 (2 * 1 + 1)) :: L) s = some (.slice (some ⟨b, 0, some 0⟩) len (2 * c + 1))) (hH : hasH ((b, .row e 0 0 (ints ys)) :: T) n H)
    (hly : len < ys.length) (hlc : len < c)
    (kk : ∀ H', hasH ((b, .row e 0 0 (ints (ys.set len a))) :: T) (n + 1) H' → WR C nt l ((d2, .slice (some ⟨b, 0, some 0⟩) (len + 1) (2 * c + 1)) :: (d, .slice (some ⟨n, 0, some 0⟩) 1 (2 * 1 + 1)) :: L) D H' K) :
    WR C nt (⟨i, some d, .bldS e 1 [.int .i64 0] 1 [(0, x)], none, []⟩ :: ⟨j, some d2, .append e 1 s (.tmp d), none, lo'⟩ :: l) L D H K := by
  refine WR.bldS gN hd hH (vs := [(0, .int .i64 a)]) (by simp only [evp, hx]) (cs := [.int .i64 a]) (by rfl) rfl fun H1 hH1 => ?_
  have hx2 : srcCells H1 1 1 (.slice (some ⟨n, 0, some 0⟩) 1 (2 * 1 + 1)) = some [.int .i64 a] := by
    have := hH1.readN (b := n) (u := 0) (lo := 0) (o := 0) (k := 1 * 1) (ch := .row e 0 0 [.int .i64 a]) (cs := [.int .i64 a]) (by simp) (.row _ _ _ _) (Nat.le_refl _) (by simp)
    simp only [srcCells, this]; rfl
  have hy : ev ((d, .slice (some ⟨n, 0, some 0⟩) 1 (2 * 1 + 1)) :: L) (.tmp d) = some (.slice (some ⟨n, 0, some 0⟩) 1 (2 * 1 + 1)) := by simp [ev, Env.get]
  obtain ⟨H', h5, h6⟩ := hH1.tail.writeN (b := b) (e := e) (u := 0) (lo := 0) (o := len) (l := [.int .i64 a]) (cs := ints ys) (cs' := ints (ys.set len a)) .here (by rfl) (Nat.zero_le _) (by simp; omega) (by
    rw [Nat.sub_zero, splice_one (by simpa using hly)]; simp [ints])
  have hb : Nat.ble (len + 1) c = true := Nat.ble_eq_true_of_le hlc
  refine WR.op gN hd2 (H' := H') (v := .slice (some ⟨b, 0, some 0⟩) (len + 1) (2 * c + 1)) (fun t ht => ?_) (kk H' h6)
  simp only [opA, ev_ok ht hs, ev_ok ht hy, appendA, srcLen, hx2, appWith, capOf_known, hb, cond_true, appIn, Addr.plus, Nat.mul_one, Nat.zero_add, h5]
theorem OpV.cutK {x hi : Operand} {b len c m : Nat} {kd : IntKind} (hx : ev L x = some (.slice (some ⟨b, 0, some 0⟩) len (2 * c + 1))) (hh : ev L hi = some (.int kd (m : Int))) (hm : m ≤ c) (hc : 1 ≤ c) :
    OpV C (.slS x 1 none (some hi) none) L H (.slice (some ⟨b, 0, some 0⟩) m (2 * c + 1)) H := fun t ht => by
  have e1 : natOf (.int kd (m : Int)) = some m := rfl
  have h1 : Nat.beq c 0 = false := by cases hb : Nat.beq c 0 with | false => rfl | true => have := Nat.eq_of_beq_eq_true hb; omega
  have h2 : Nat.ble m c = true := Nat.ble_eq_true_of_le hm
  have h3 : Nat.ble 0 m = true := Nat.ble_eq_true_of_le (Nat.zero_le _)
  simp only [opA, ev_ok ht hx, Option.map_none, Option.map_some, ev_ok ht hh, oSlS, sliceA, loOf, hiOf, e1, Option.isSome_none, Bool.false_and, cond_false, capOf_known, sliceTo, h2, h3, Bool.and_self, cond_true, cutKnown, h1, Addr.plus, asVal, Nat.zero_mul, Nat.add_zero, Nat.sub_zero]
end
theorem slK {M : HL} {b e len c : Nat} {ys : List Int} {l : List Nat} (hm : (b, Ch.row e 0 0 (ints ys)) ∈ M) (hl : l.length = len) (hc : len ≤ c) (hy : ys.take len = l.map fun (x : Nat) => (x : Int)) : Sl M 1 (.slice (some ⟨b, 0, some 0⟩) len (2 * c + 1)) (nodes l) := by
  have hly : len ≤ ys.length := by have := congrArg List.length hy; simp at this; omega
  refine .row hm (.row _ _ _ _) (Nat.le_refl _) (by simp [hl]) ?_ (by simp; omega) (.inr ⟨c, rfl, hc⟩)
  rw [nodesI, ← hy]
  simp [ints, List.map_take]
/-- A list in memory, with a room that is known. -/
def KL (M : HL) (u : Value) (z : List Nat) : Prop := ∃ (b e c : Nat) (ys : List Int), u = .slice (some ⟨b, 0, some 0⟩) z.length (2 * c + 1) ∧ (b, Ch.row e 0 0 (ints ys)) ∈ M ∧ z.length ≤ c ∧ ys.take z.length = z.map fun (x : Nat) => (x : Int)
theorem KL.mono {M M' : HL} {u : Value} {z : List Nat} (h : KL M u z) (k : ∀ q ∈ M, q ∈ M') : KL M' u z := by
  obtain ⟨b, e, c, ys, h1, h2, h3⟩ := h
  exact ⟨b, e, c, ys, h1, k _ h2, h3⟩
theorem KL.sl {M : HL} {u : Value} {z : List Nat} (h : KL M u z) : Sl M 1 u (nodes z) := by
  obtain ⟨b, e, c, ys, rfl, h2, h3, h4⟩ := h
  exact slK h2 rfl h3 h4
theorem KL.src {M : HL} {n : Nat} {H : Heap} {u : Value} {z : List Nat} (h : KL M u z) (hH : hasH M n H) : srcLen u = some z.length ∧ srcCells H 1 z.length u = some (nodes z) := by
  obtain ⟨b, e, c, ys, rfl, h2, h3, h4⟩ := h
  have hly : z.length ≤ ys.length := by have := congrArg List.length h4; simp at this; omega
  have := hH.readN (b := b) (u := 0) (lo := 0) (o := 0) (k := z.length * 1) h2 (.row _ _ _ _) (Nat.le_refl _) (by simp; omega)
  refine ⟨rfl, ?_⟩
  show H.readN ⟨b, 0, some 0⟩ (z.length * 1) = _
  rw [this, nodesI, ← h4]
  simp [ints, List.map_take]
section
variable {C : CW} {nt : Nat} {L : Env} {D : List Nat} {H H' : Heap} {K : St → Prop} {M M' : HL} {n i d : Nat} {gd : Option (Tmp × Bool)} {lo : List Nat} {l : List POp} {rs : List Rd}
theorem WD.append {e sz : Nat} {s x : Operand} {v y : Value} {cs : List Value} {Mx M0 : HL} {k : Nat} {new : List Value} (hg : gOK L gd) (hd : Nat.blt d nt = true) (hs : ev L s = some v) (hy : ev L x = some y)
    (hO : Own e sz v cs Mx) (hH : hasH M n H) (hM : M'.Sublist M) (hp : M'.Perm (Mx ++ M0)) (hk : srcLen y = some k) (hx : srcCells H sz k y = some new) (hl : new.length = k * sz) (h1 : 1 ≤ k) (hone : new.all one = true) (hs1 : 1 ≤ sz) (hs2 : sz ≤ 1000)
    (hsm : cs.length + new.length ≤ 100000) (kk : ∀ v' Mx' n' H', OwnR e sz v' (cs ++ new) Mx' → hasH (Mx' ++ M0) n' H' → n ≤ n' → stands H' lo rs = true ∧ WD C nt l rs ((d, v') :: L) D H' K) :
    WD C nt (⟨i, some d, .append e sz s x, gd, lo⟩ :: l) rs L D H K := by
  obtain ⟨v', Mx', n', H', q1, q2, q3, q4⟩ := append_ownR (P := C.c.P) hO ((hH.sub hM).perm hp) hk hx hl h1 hone hs1 hs2 hsm
  obtain ⟨k1, k2⟩ := kk v' Mx' n' H' q2 q3 q4
  refine WD.op hg hd (H' := H') (v := v') (fun t ht => ?_) rfl k1 k2
  simp only [opA, ev_ok ht hs, ev_ok ht hy, q1]
/-- One element more, what was read before may be read after. -/
theorem WD.append1F {j d2 : Nat} {e : Nat} {z : List Value} {s x : Operand} {lo2 : List Nat} {v y : Value} {cs : List Value} {new : Value} (F Mx T : HL) (hd : Nat.blt d nt = true) (hd2 : Nat.blt d2 nt = true)
    (hx : ev L x = some y) (hs : ev ((d, .slice (some ⟨n, 0, some 0⟩) 1 (2 * 1 + 1)) :: L) s = some v) (hO : Own e 1 v cs Mx) (hH : hasH (F ++ (Mx ++ T)) n H)
    (hc : Instr.fill (fun j => some (j * 1, 1)) z.toArray [(0, y)] = some [new].toArray) (hone : one new = true) (hsm : cs.length + 1 ≤ 100000)
    (hst : ∀ H', hasH ((n, .row e 0 0 [new]) :: (F ++ (Mx ++ T))) (n + 1) H' → stands H' lo rs = true)
    (kk : ∀ v' Mx' n' H', OwnR e 1 v' (cs ++ [new]) Mx' → hasH (F ++ (Mx' ++ T)) n' H' → n ≤ n' → stands H' lo2 rs = true ∧ WD C nt l rs ((d2, v') :: (d, .slice (some ⟨n, 0, some 0⟩) 1 (2 * 1 + 1)) :: L) D H' K) :
    WD C nt (⟨i, some d, .bldS e 1 z 1 [(0, x)], none, lo⟩ :: ⟨j, some d2, .append e 1 s (.tmp d), none, lo2⟩ :: l) rs L D H K := by
  refine WD.bldS gN hd hH (vs := [(0, y)]) (by simp only [evp, hx]) hc (by simp [hone]) hst fun H1 hH1 => ?_
  have hx2 : srcCells H1 1 1 (.slice (some ⟨n, 0, some 0⟩) 1 (2 * 1 + 1)) = some [new] := by
    have := hH1.readN (b := n) (u := 0) (lo := 0) (o := 0) (k := 1 * 1) (ch := .row e 0 0 [new]) (cs := [new]) (by simp) (.row _ _ _ _) (Nat.le_refl _) (by simp)
    simpa [srcCells] using this
  have hy : ev ((d, .slice (some ⟨n, 0, some 0⟩) 1 (2 * 1 + 1)) :: L) (.tmp d) = some (.slice (some ⟨n, 0, some 0⟩) 1 (2 * 1 + 1)) := by simp [ev, Env.get]
  refine WD.append gN hd2 hs hy hO hH1 (M' := F ++ (Mx ++ T)) (List.sublist_cons_self _ _) (M0 := F ++ T) (List.perm_append_comm_assoc F Mx T) rfl hx2 (by simp) (Nat.le_refl _) (by simp [hone]) (Nat.le_refl _) (by omega) (by simpa using hsm) fun v' Mx' n' H' q1 q2 q3 => ?_
  exact kk v' Mx' n' H' q1 (q2.perm (List.perm_append_comm_assoc Mx' F T)) (by omega)
end
end Go.Abs

/- All lists of places, one after the other. -/
namespace Go.Proofs.YtcfffhkabhmkmaaDoor.Ps
open Go Go.Abs Go.Mth
set_option linter.unusedVariables false
set_option linter.unusedSimpArgs false
theorem take_set_snoc {ys : List Int} {l : List Nat} {a : Nat} (h : l.length < ys.length) (hy : ys.take l.length = IL l) : (ys.set l.length (a : Int)).take (l.length + 1) = IL (l ++ [a]) := by
  rw [List.take_succ_eq_append_getElem (by simpa using h), List.take_set_of_le (Nat.le_refl _), hy]
  simp [IL]
abbrev ptrO (b o : Nat) : Value := .pointer (some ⟨b, o, some 0⟩)
structure LN where
  q : List Nat
  ys : List Int
  M : HL
  n : Nat
attribute [local irreducible] gOK WS WC WR WD Ends FS YS OpV seqK blockK loopK midK retK rdK asgK rangeEnd sat Cell
section
variable {M : HL} {n0 : Nat} {H : Heap} {v w : Value}
theorem Clone_fs (hH : hasH M n0 H) {l : List Nat} (hK : KL M v l) (hl : l.length ≤ 1000) :
    FS C 60 [v] H (fun e H' => ∃ Mz n', OwnZ 3 e l Mz ∧ n0 ≤ n' ∧ hasH (Mz ++ M) n' H') := by
  obtain ⟨b, e, c, ys, hv, _⟩ := id hK
  refine FS.intro (pf := pf60) rfl rfl rfl ?_
  subst hv
  repeat' (first | refine zP ?_ | refine zA ?_ | (refine zM ?_; intro _ _) | refine zX ?_ | (refine zC ?_; intro _ _ _ _) | (refine zS ?_; intro _ _) | (apply Ws <;> intro hg))
  refine WR.bldS (by first | exact gN | exact gS rfl) rfl hH (vs := []) rfl (cs := []) (by rfl) rfl fun H3 hH3 => ?_
  repeat' (first | refine zP ?_ | refine zA ?_ | (refine zM ?_; intro _ _) | refine zX ?_ | (refine zC ?_; intro _ _ _ _) | (refine zS ?_; intro _ _) | (apply Ws <;> intro hg))
  obtain ⟨hk, hsr⟩ := (hK.mono (fun q hq => List.mem_cons_of_mem _ hq)).src hH3
  obtain ⟨v', Mz, n', H', h1, h2, h3, h4⟩ := OpV.copyZ (C := C) (L := (6, .slice (some ⟨b, 0, some 0⟩) l.length (2 * c + 1)) :: (5, .slice (some ⟨n0, 0, some 0⟩) 0 (2 * 0 + 1)) :: []) (s := .tmp 5) (x := .tmp 6) rfl rfl hk hsr hH3 hl
  refine WR.op (by first | exact gN | exact gS rfl) rfl (h1.weaken (by repeat' (first | exact .nil | refine .cons rfl ?_))) ?_
  repeat' (first | refine zP ?_ | refine zA ?_ | (refine zM ?_; intro _ _) | refine zX ?_ | (refine zC ?_; intro _ _ _ _) | (refine zS ?_; intro _ _) | (apply Ws <;> intro hg))
  exact Ends.ret1 rfl ⟨Mz, n', h2, by omega, h3⟩
set_option maxHeartbeats 1000000 in
theorem next_fs {b n : Nat} {ys : List Int} {q : List Nat} (hH : hasH ((b, .row 3 0 0 (ints ys)) :: M) n0 H) (hn1 : 1 ≤ n) (hn : n ≤ 10) (hys : ys.length = n) (h1 : q.Pairwise (· > ·)) (h2 : ∀ x ∈ q, x < n) (hy : ys.take q.reverse.length = IL q.reverse) :
    FS C 69 [.slice (some ⟨b, 0, some 0⟩) q.reverse.length (2 * n + 1), .int .i64 (n : Int)] H (fun e H' => ∃ ys' n', e = .slice (some ⟨b, 0, some 0⟩) (nextA n q).reverse.length (2 * n + 1) ∧ n0 ≤ n' ∧ hasH ((b, .row 3 0 0 (ints ys')) :: M) n' H' ∧ ys'.length = n ∧ ys'.take (nextA n q).reverse.length = IL (nextA n q).reverse) := by
  have hlq := (desc_asc h1 h2).len
  have hS : Sl ((b, .row 3 0 0 (ints ys)) :: M) 1 (.slice (some ⟨b, 0, some 0⟩) q.reverse.length (2 * n + 1)) (nodes q.reverse) := slK (.head _) rfl hlq hy
  refine FS.intro (pf := pf69) rfl rfl rfl ?_
  cases q with
  | nil =>
    simp only [List.reverse_nil, List.length_nil] at hS hy ⊢
    repeat' (first | refine zP ?_ | refine zA ?_ | (refine zM ?_; intro _ _) | refine zX ?_ | (refine zC ?_; intro _ _ _ _) | (refine zS ?_; intro _ _) | (apply Ws <;> intro hg))
    refine WR.pushK (a := 0) rfl rfl rfl rfl hH (by omega) (by omega) fun H' hH' => ?_
    repeat' (first | refine zP ?_ | refine zA ?_ | (refine zM ?_; intro _ _) | refine zX ?_ | (refine zC ?_; intro _ _ _ _) | (refine zS ?_; intro _ _) | (apply Ws <;> intro hg))
    have hts := take_set_snoc (l := []) (a := 0) (ys := ys) (by simp; omega) (by simp)
    exact Ends.ret1 rfl ⟨_, _, rfl, by omega, hH', by simpa using hys, hts⟩
  | cons x r =>
    have hx := h2 x (by simp)
    have hlen : (x :: r).reverse.length = r.length + 1 := by simp
    have hget : (x :: r).reverse.getD r.length 0 = x := by
      rw [List.reverse_cons, show r.length = r.reverse.length by simp]; exact snoc_at
    rw [hlen] at hS hy hlq ⊢
    have hgy : ys.getD (r.length + 1 - 1) 0 = (x : Int) := by
      have e1 : (ys.take (r.length + 1)).getD r.length 0 = ys.getD r.length 0 := getD_take (by omega)
      rw [Nat.add_sub_cancel, ← e1, hy, IL_get (by omega), hget]
    repeat' (first | refine zP ?_ | refine zA ?_ | (refine zM ?_; intro _ _) | refine zX ?_ | (refine zC ?_; intro _ _ _ _) | (refine zS ?_; intro _ _) | (apply Ws <;> intro hg))
    rw [hgy]
    repeat' (first | refine zP ?_ | refine zA ?_ | (refine zM ?_; intro _ _) | refine zX ?_ | (refine zC ?_; intro _ _ _ _) | (refine zS ?_; intro _ _) | (apply Ws <;> intro hg))
    refine WC.condP rfl (fun hlt => ?_) (fun hlt => ?_)
    · have hlt' : x + 1 < n := by omega
      have hnx : nextA n (x :: r) = (x + 1) :: x :: r := by rw [nextA, if_pos hlt']
      have hcons : ((x + 1) :: x :: r).reverse = (x :: r).reverse ++ [x + 1] := List.reverse_cons
      have hlr := (desc_asc (n := n) (q := (x + 1) :: x :: r) (List.pairwise_cons.2 ⟨fun a ha => by
        rcases List.mem_cons.1 ha with rfl | ha
        · omega
        · have := (List.pairwise_cons.1 h1).1 a ha; omega, h1⟩) (fun y hy => by
        rcases List.mem_cons.1 hy with rfl | hy
        · exact hlt'
        · exact h2 y hy)).len
      rw [hcons, List.length_append, List.length_singleton, hlen] at hlr
      rw [hnx, hcons]
      generalize (x :: r).reverse = z at *
      repeat' (first | refine zP ?_ | refine zA ?_ | (refine zM ?_; intro _ _) | refine zX ?_ | (refine zC ?_; intro _ _ _ _) | (refine zS ?_; intro _ _) | (apply Ws <;> intro hg))
      rw [show (x : Int) + 1 = ((x + 1 : Nat) : Int) by omega]
      refine WR.pushK (a := ((x + 1 : Nat) : Int)) rfl rfl rfl rfl hH (by omega) (by omega) fun H' hH' => ?_
      repeat' (first | refine zP ?_ | refine zA ?_ | (refine zM ?_; intro _ _) | refine zX ?_ | (refine zC ?_; intro _ _ _ _) | (refine zS ?_; intro _ _) | (apply Ws <;> intro hg))
      have hts := take_set_snoc (l := z) (a := x + 1) (ys := ys) (by omega) (by rw [hlen]; exact hy)
      rw [hlen] at hts
      exact Ends.ret1 rfl ⟨_, _, by rw [List.length_append, List.length_singleton, hlen], by omega, hH', by simpa using hys, by rw [List.length_append, List.length_singleton, hlen]; exact hts⟩
    · have hnlt : ¬ x + 1 < n := by omega
      have hnx : nextA n (x :: r) = bump r := by rw [nextA, if_neg hnlt]
      rw [hnx]
      repeat' (first | refine zP ?_ | refine zA ?_ | (refine zM ?_; intro _ _) | refine zX ?_ | (refine zC ?_; intro _ _ _ _) | (refine zS ?_; intro _ _) | (apply Ws <;> intro hg))
      rw [show ((r.length + 1 : Nat) : Int) - 1 = ((r.length : Nat) : Int) by omega]
      refine WR.op (by first | exact gN | exact gS rfl) rfl (OpV.cutK rfl rfl (by omega) (by omega)) ?_
      have hS2 : Sl ((b, .row 3 0 0 (ints ys)) :: M) 1 (.slice (some ⟨b, 0, some 0⟩) r.length (2 * n + 1)) (nodes r.reverse) := slK (.head _) (by simp) (by omega) (by
        have := congrArg (List.take r.length) hy
        rw [List.take_take, Nat.min_eq_left (by omega)] at this
        rw [this, List.reverse_cons]
        simp [IL])
      have hy2 : ys.take r.length = IL r.reverse := by
        have := congrArg (List.take r.length) hy
        rw [List.take_take, Nat.min_eq_left (by omega)] at this
        rw [this, List.reverse_cons]
        simp [IL]
      cases r with
      | nil =>
        repeat' (first | refine zP ?_ | refine zA ?_ | (refine zM ?_; intro _ _) | refine zX ?_ | (refine zC ?_; intro _ _ _ _) | (refine zS ?_; intro _ _) | refine zO ?_ | (apply Ws <;> intro hg))
        exact Ends.ret1 rfl ⟨_, _, rfl, Nat.le_refl _, hH, hys, by simp [bump]⟩
      | cons y r =>
        have hyx := (List.pairwise_cons.1 h1).1 y (by simp)
        simp only [List.length_cons] at hy hS hlen hget hgy hlq hS2 hy2 ⊢
        have hgy2 : ys.getD (r.length + 1 - 1) 0 = (y : Int) := by
          have e1 : (ys.take (r.length + 1)).getD r.length 0 = ys.getD r.length 0 := getD_take (by omega)
          rw [Nat.add_sub_cancel, ← e1, hy2, IL_get (by simp)]
          rw [List.reverse_cons, show r.length = r.reverse.length by simp, snoc_at]
        repeat' (first | refine zP ?_ | refine zA ?_ | (refine zM ?_; intro _ _) | refine zX ?_ | (refine zC ?_; intro _ _ _ _) | (refine zS ?_; intro _ _) | refine zO ?_ | (apply Ws <;> intro hg))
        rename_i H9 hH9
        have e2 : r.length + 1 - 1 = r.reverse.length := by simp
        have hb : (bump (y :: r)).reverse = r.reverse ++ [y + 1] := by rw [bump, List.reverse_cons]
        have hy3 : ys.take r.reverse.length = IL r.reverse := by
          have := congrArg (List.take r.length) hy2
          rw [List.take_take, Nat.min_eq_left (by omega), List.reverse_cons] at this
          rw [List.length_reverse, this]
          simp [IL]
        have hts := take_set_snoc (l := r.reverse) (a := y + 1) (ys := ys) (by simp; omega) hy3
        rw [hb]
        refine Ends.ret1 rfl ⟨ys.set r.reverse.length ((y + 1 : Nat) : Int), n0, by simp, Nat.le_refl _, ?_, by simpa using hys, by rw [List.length_append, List.length_singleton]; exact hts⟩
        rw [hgy2, e2] at hH9
        exact hH9
set_option maxHeartbeats 1000000 in
theorem allIt_fs {l bn n : Nat} {B : HL} {J : List (List Nat) → HL → Prop} (hn1 : 1 ≤ n) (hn : n ≤ 10) (hH : hasH M n0 H) (hmn : (bn, Ch.row 3 0 0 [.int .i64 (n : Int)]) ∈ B)
    (hB : ∀ zs Mc, J zs Mc → ∀ p ∈ B, p ∈ Mc) (hJ : J (allA n) M)
    (hy : ∀ z zs Mc T u n' H', n0 ≤ n' → J (z :: zs) Mc → AscN n z → KL T u z → hasH (Mc ++ T) n' H' → YS C l [u] H'
      (fun r H2 => ∃ M2 n2, n' ≤ n2 ∧ hasH (M2 ++ T) n2 H2 ∧ r = .bool true ∧ J zs M2)) :
    FS C 68 [.func (.yield l) #[] #[], ptrO bn 0] H (fun _ H' => ∃ M2 T n2, n0 ≤ n2 ∧ hasH (M2 ++ T) n2 H' ∧ J [] M2) := by
  refine FS.intro (pf := pf68) rfl rfl rfl ?_
  have m0 := hB _ _ hJ _ hmn
  repeat' (first | refine zP ?_ | refine zA ?_ | (refine zM ?_; intro _ _) | refine zX ?_ | (refine zC ?_; intro _ _ _ _) | (refine zS ?_; intro _ _) | (apply Ws <;> intro hg))
  refine WR.mkK (by first | exact gN | exact gS rfl) rfl hH rfl rfl (by omega) rfl fun H1 hH1 => ?_
  clear hH m0
  repeat' (first | refine zP ?_ | refine zA ?_ | (refine zM ?_; intro _ _) | refine zX ?_ | (refine zC ?_; intro _ _ _ _) | (refine zS ?_; intro _ _) | (apply Ws <;> intro hg))
  refine WC.loopX [(0, _), (1, _)] (fun z : LN => [(3, .slice (some ⟨n0, 0, some 0⟩) z.q.reverse.length (2 * n + 1))]) []
    (fun z H' => n0 ≤ z.n ∧ z.q.Pairwise (· > ·) ∧ (∀ x ∈ z.q, x < n) ∧ z.ys.length = n ∧ z.ys.take z.q.reverse.length = IL z.q.reverse ∧ J (z.q.reverse :: restA n z.q) z.M ∧ hasH (z.M ++ [(n0, .row 3 0 0 (ints z.ys))]) z.n H') (fun z => (restA n z.q).length)
    ⟨[], List.replicate n 0, M, n0 + 1⟩ (by repeat' (first | exact .nil | refine .cons rfl ?_)) rfl ⟨by simp only; omega, by simp, by simp, by simp, by simp, hJ, ?_⟩ ?_
  · have e : ints (List.replicate n 0) = List.replicate n (Value.int .i64 0) := by simp [ints]
    rw [e]
    exact hH1.perm (List.perm_append_comm (l₁ := [_]))
  clear hH1 hJ
  rintro ⟨q, ys, Mc, n1⟩ H2 ⟨hn1', hq1, hq2, hys, hyt, hJ, hH⟩
  simp only at hn1' hq1 hq2 hys hyt hJ hH
  dsimp only [List.cons_append, List.nil_append]
  repeat' (first | refine zP ?_ | refine zA ?_ | (refine zM ?_; intro _ _) | refine zX ?_ | (refine zC ?_; intro _ _ _ _) | (refine zS ?_; intro _ _) | (apply Ws <;> intro hg))
  have hasc := desc_asc hq1 hq2
  have hK : KL [(n0, Ch.row 3 0 0 (ints ys))] (.slice (some ⟨n0, 0, some 0⟩) q.reverse.length (2 * n + 1)) q.reverse := ⟨n0, _, n, ys, rfl, .head _, hasc.len, hyt⟩
  refine WR.yield (by first | exact gN | exact gS rfl) rfl rfl rfl (hy q.reverse _ Mc _ _ n1 H2 hn1' hJ hasc hK hH) ?_
  rintro _ H3 ⟨Mc2, n3, hn3, hH3, rfl, hJ3⟩
  clear hH hJ
  repeat' (first | refine zP ?_ | refine zA ?_ | (refine zM ?_; intro _ _) | refine zX ?_ | (refine zC ?_; intro _ _ _ _) | (refine zS ?_; intro _ _) | refine zO ?_ | (apply Ws <;> intro hg))
  have m3 := List.mem_append_left [(n0, Ch.row 3 0 0 (ints ys))] (hB _ _ hJ3 _ hmn)
  repeat' (first | refine zP ?_ | refine zA ?_ | (refine zM ?_; intro _ _) | refine zX ?_ | (refine zC ?_; intro _ _ _ _) | (refine zS ?_; intro _ _) | (apply Ws <;> intro hg))
  have hH4 : hasH ((n0, Ch.row 3 0 0 (ints ys)) :: Mc2) n3 H3 := hH3.perm (List.perm_append_comm (l₂ := [_]))
  clear hH3 m3
  refine WR.call (by first | exact gN | exact gS rfl) rfl rfl (next_fs hH4 hn1 hn hys hq1 hq2 hyt) ?_
  rintro _ H5 ⟨ys2, n5, rfl, hn5, hH5, hys2, hyt2⟩
  rcases next_rest hn1 hq1 hq2 with ⟨h1, h2, h3⟩ | ⟨h1, h2, h3, h4⟩
  · rw [h1]
    rw [h3] at hJ3
    repeat' (first | refine zP ?_ | refine zA ?_ | (refine zM ?_; intro _ _) | refine zX ?_ | (refine zC ?_; intro _ _ _ _) | (refine zS ?_; intro _ _) | refine zO ?_ | (apply Ws <;> intro hg))
    exact Ends.ret0 ⟨Mc2, _, n5, by omega, hH5.perm (List.perm_append_comm (l₁ := [_])), hJ3⟩
  · have hpos : 0 < (nextA n q).reverse.length := by rw [List.length_reverse]; exact List.length_pos_iff.2 h1
    rw [h2] at hJ3
    have hlen : (restA n q).length = (restA n (nextA n q)).length + 1 := by rw [h2]; simp
    generalize nextA n q = q2 at *
    repeat' (first | refine zP ?_ | refine zA ?_ | (refine zM ?_; intro _ _) | refine zX ?_ | (refine zC ?_; intro _ _ _ _) | (refine zS ?_; intro _ _) | refine zO ?_ | (apply Ws <;> intro hg))
    exact Ends.loop ⟨q2, ys2, Mc2, n5⟩ (by simp only; omega) (by repeat' (first | exact .nil | refine .cons rfl ?_)) rfl ⟨by simp only; omega, h3, h4, hys2, hyt2, hJ3, hH5.perm (List.perm_append_comm (l₁ := [_]))⟩
theorem allLists_fs (hH : hasH M n0 H) (n : Nat) :
    FS C 65 [.int .i64 (n : Int)] H (fun e H' => e = .func (.func 68) [].toArray [ptrO n0 0].toArray ∧ hasH ((n0, .row 3 0 0 [.int .i64 (n : Int)]) :: M) (n0 + 1) H') := by
  refine FS.intro (pf := pf65) rfl rfl rfl ?_
  repeat' (first | refine zP ?_ | refine zA ?_ | (refine zM ?_; intro _ _) | refine zX ?_ | (refine zC ?_; intro _ _ _ _) | (refine zS ?_; intro _ _) | (apply Ws <;> intro hg))
  rename_i H1 hH1
  exact Ends.ret1 rfl ⟨rfl, hH1⟩
end
end Go.Proofs.YtcfffhkabhmkmaaDoor.Ps

/- Lists that are good, one after the other. -/
namespace Go.Proofs.YtcfffhkabhmkmaaDoor.Ps
open Go Go.Abs Go.Mth
set_option linter.unusedVariables false
set_option linter.unusedSimpArgs false
abbrev rtV (n : Nat) (gf : Nat) (gv : List Value) (cf : Nat) (cv : List Value) : List Value := [.int .i64 (n : Int), .func (.func gf) gv.toArray [].toArray, .func (.func cf) [].toArray cv.toArray]
abbrev RtC (n gf : Nat) (gv : List Value) (cf : Nat) (cv : List Value) : Ch := .row 61 0 0 (rtV n gf gv cf cv)
def GoodF (G : HL) (n gf : Nat) (gv : List Value) (good : List Nat → Bool) : Prop := ∀ {T : HL} {k : Nat} {H : Heap} {u : Value} {z : List Nat}, hasH T k H → (∀ p ∈ G, p ∈ T) → KL T u z → AscN n z → FS C gf (gv ++ [u] ++ []) H (fun e H' => e = .bool (good z) ∧ H' = H)
attribute [local irreducible] gOK WS WC WR WD Ends FS YS OpV seqK blockK loopK midK retK rdK asgK rangeEnd sat Cell
section
variable {M : HL} {n0 : Nat} {H : Heap} {v w : Value}
theorem rated_fs (hH : hasH M n0 H) {n gf : Nat} {gv : List Value} {cf : Nat} {cv : List Value} :
    FS C 49 [.agg (rtV n gf gv cf cv).toArray] H (fun e H' => e = .func (.func 64) [].toArray [ptrO n0 0].toArray ∧ hasH ((n0, RtC n gf gv cf cv) :: M) (n0 + 1) H') := by
  refine FS.intro (pf := pf49) rfl rfl rfl ?_
  refine WC.seq ?_
  refine WC.region ?_
  refine WR.boxA (cs := rtV n gf gv cf cv) (by first | exact gN | exact gS rfl) rfl hH rfl (by rfl) fun H1 hH1 => ?_
  repeat' (first | refine zP ?_ | refine zA ?_ | (refine zM ?_; intro _ _) | refine zX ?_ | (refine zC ?_; intro _ _ _ _) | (refine zS ?_; intro _ _) | (apply Ws <;> intro hg))
  exact Ends.ret1 rfl ⟨rfl, hH1⟩
set_option maxHeartbeats 2000000 in
theorem ratedIt_fs {l b1 n gf : Nat} {gv : List Value} {cf : Nat} {cv : List Value} {good : List Nat → Bool} {B : HL} {J : List (List Nat) → HL → Prop} (hn1 : 1 ≤ n) (hn : n ≤ 10) (hH : hasH M n0 H) (hm1 : (b1, RtC n gf gv cf cv) ∈ B)
    (hB : ∀ zs Mc, J zs Mc → ∀ p ∈ B, p ∈ Mc) (hJ : J ((allA n).filter good) M) (hg : GoodF B n gf gv good)
    (hy : ∀ z zs Mc T u n' H', n0 ≤ n' → J (z :: zs) Mc → AscN n z → KL T u z → hasH (Mc ++ T) n' H' → YS C l [u] H'
      (fun r H2 => ∃ M2 n2, n' ≤ n2 ∧ hasH (M2 ++ T) n2 H2 ∧ r = .bool true ∧ J zs M2)) :
    FS C 64 [.func (.yield l) #[] #[], ptrO b1 0] H (fun _ H' => ∃ M2 T n2, n0 ≤ n2 ∧ hasH (M2 ++ T) n2 H' ∧ J [] M2) := by
  refine FS.intro (pf := pf64) rfl rfl rfl ?_
  have m0 := hB _ _ hJ _ hm1
  repeat' (first | refine zP ?_ | refine zA ?_ | (refine zM ?_; intro _ _) | refine zX ?_ | (refine zC ?_; intro _ _ _ _) | (refine zS ?_; intro _ _) | (apply Ws <;> intro hg))
  rename_i H1 hH1
  clear hH
  have m1 : (b1, RtC n gf gv cf cv) ∈ (n0, Ch.row 58 0 0 [.func (.yield l) #[] #[]]) :: M := .tail _ m0
  repeat' (first | refine zP ?_ | refine zA ?_ | (refine zM ?_; intro _ _) | refine zX ?_ | (refine zC ?_; intro _ _ _ _) | (refine zS ?_; intro _ _) | (apply Ws <;> intro hg))
  refine WR.call (by first | exact gN | exact gS rfl) rfl rfl (allLists_fs hH1 n) ?_
  rintro _ H5 ⟨rfl, hH5⟩
  clear hH1 m0 m1
  repeat' (first | refine zP ?_ | refine zA ?_ | (refine zM ?_; intro _ _) | refine zX ?_ | (refine zC ?_; intro _ _ _ _) | (refine zS ?_; intro _ _) | (apply Ws <;> intro hg))
  refine WC.range0 (va := []) (vb := [ptrO (n0 + 1) 0]) rfl hH5 fun t ht H6 hH6 => ?_
  generalize hRR : ({ state := .ready, pending := none, fn := 64, tmps := t, params := [7], assign := _, body := _, nt := _ } : LoopE) = R at hH6
  obtain ⟨nn, hnn, hnn0⟩ : ∃ nn, n0 + 1 + 1 + 2 = nn ∧ n0 ≤ nn := ⟨_, rfl, by omega⟩
  rw [hnn] at hH6
  generalize n0 + 1 + 1 + 1 = lp at hH6 ⊢
  generalize n0 + 1 + 1 = df at hH6 ⊢
  generalize n0 + 1 = bn at hH6 ⊢
  clear hH5 hnn
  refine FS.mono (allIt_fs (l := lp) (bn := bn) (n := n) (B := [(bn, .row 3 0 0 [.int .i64 (n : Int)])])
    (J := fun zs Mc => ∃ M', Mc = (lp, .loop R) :: (df, .defd false) :: (bn, .row 3 0 0 [.int .i64 (n : Int)]) :: (n0, .row 58 0 0 [.func (.yield l) #[] #[]]) :: M' ∧ J (zs.filter good) M')
    hn1 hn hH6 (.head _) ?_ ⟨M, rfl, hJ⟩ ?_) ?_
  · rintro zs Mc ⟨M', rfl, _⟩ p hp
    rw [List.mem_singleton.1 hp]; simp
  · rintro z zs Mc T0 u n' H7 hn' ⟨M', rfl, hJ⟩ hasc hK hH7
    simp only [List.cons_append] at hH7
    refine YS.intro hH7 (.head _) (by rw [← hRR]) (by rw [← hRR]) (by rw [← hRR]; rfl) (by rw [← hRR]; exact ht) ?_
    subst hRR
    dsimp only
    repeat' (first | refine zA ?_ | (refine zM ?_; intro _ _) | (apply Ws <;> intro hg))
    refine Ends.asg hH7 .here fun H8 hH8 => ?_
    dsimp only
    clear hH7
    generalize hRb : ({ state := .busy, pending := none, fn := 64, tmps := t, params := [7], assign := _, body := _, nt := _ } : LoopE) = Rb at hH8
    have hBM : ∀ p ∈ B, p ∈ (lp, Ch.loop Rb) :: (df, .defd false) :: (bn, .row 3 0 0 [.int .i64 (n : Int)]) :: (n0, .row 58 0 0 [.func (.yield l) #[] #[]]) :: (M' ++ T0) := fun p hp => .tail _ (.tail _ (.tail _ (.tail _ (List.mem_append_left _ (hB _ _ hJ p hp)))))
    have m1 := hBM _ hm1
    have hK8 : KL ((lp, Ch.loop Rb) :: (df, .defd false) :: (bn, .row 3 0 0 [.int .i64 (n : Int)]) :: (n0, .row 58 0 0 [.func (.yield l) #[] #[]]) :: (M' ++ T0)) u z := hK.mono fun q hq => .tail _ (.tail _ (.tail _ (.tail _ (List.mem_append_right _ hq))))
    repeat' (first | refine zP ?_ | refine zA ?_ | (refine zM ?_; intro _ _) | refine zX ?_ | (refine zC ?_; intro _ _ _ _) | (refine zS ?_; intro _ _) | (apply Ws <;> intro hg))
    refine WR.callV (by first | exact gN | exact gS rfl) rfl rfl rfl (hg hH8 hBM hK8 hasc) ?_
    rintro _ H9 ⟨rfl, rfl⟩
    cases hgz : good z with
    | false =>
      rw [List.filter_cons_of_neg (by rw [hgz]; decide)] at hJ
      subst hRb
      repeat' (first | refine zP ?_ | refine zA ?_ | (refine zM ?_; intro _ _) | refine zX ?_ | (refine zC ?_; intro _ _ _ _) | (refine zS ?_; intro _ _) | (apply Ws <;> intro hg))
      exact Ends.rd rfl rfl rfl hH8 .here fun H' h' => ⟨_ :: _ :: _ :: _ :: M', n', Nat.le_refl _, h', rfl, M', rfl, hJ⟩
    | true =>
      rw [List.filter_cons_of_pos hgz] at hJ
      repeat' (first | refine zP ?_ | refine zA ?_ | (refine zM ?_; intro _ _) | refine zX ?_ | (refine zC ?_; intro _ _ _ _) | (refine zS ?_; intro _ _) | (apply Ws <;> intro hg))
      refine WR.yield (by first | exact gN | exact gS rfl) rfl rfl rfl (hy z (zs.filter good) M' ((lp, Ch.loop Rb) :: (df, .defd false) :: (bn, .row 3 0 0 [.int .i64 (n : Int)]) :: (n0, .row 58 0 0 [.func (.yield l) #[] #[]]) :: T0) u n' H9 (by omega) hJ hasc (hK.mono fun q hq => .tail _ (.tail _ (.tail _ (.tail _ hq)))) (hH8.perm (by classical exact List.perm_iff_count.2 (fun a => by simp only [defds, List.map_cons, List.map_nil, List.count_append, List.count_cons, List.count_nil, List.cons_append, List.nil_append, List.append_nil]; omega)))) ?_
      rintro _ H10 ⟨M2, n2, hn2, hH10, rfl, hJ2⟩
      replace hH10 : hasH ((lp, Ch.loop Rb) :: (df, .defd false) :: (bn, .row 3 0 0 [.int .i64 (n : Int)]) :: (n0, .row 58 0 0 [.func (.yield l) #[] #[]]) :: (M2 ++ T0)) n2 H10 := hH10.perm (by classical exact List.perm_iff_count.2 (fun a => by simp only [defds, List.map_cons, List.map_nil, List.count_append, List.count_cons, List.count_nil, List.cons_append, List.nil_append, List.append_nil]; omega))
      clear hH8 m1 hBM hK8
      subst hRb
      repeat' (first | refine zP ?_ | refine zA ?_ | (refine zM ?_; intro _ _) | refine zX ?_ | (refine zC ?_; intro _ _ _ _) | (refine zS ?_; intro _ _) | (apply Ws <;> intro hg))
      exact Ends.rd rfl rfl rfl hH10 .here fun H' h' => ⟨_ :: _ :: _ :: _ :: M2, n2, hn2, h', rfl, M2, rfl, hJ2⟩
  · rintro _ H7 ⟨_, T0, n7, hn7, hH7, M', rfl, hJ⟩
    simp only [List.cons_append] at hH7
    refine rangeEnd_of hH7 .here (by rw [← hRR]; simp) (by rw [← hRR]; rfl) fun H8 hH8 => ?_
    repeat' (first | refine zP ?_ | refine zA ?_ | (refine zM ?_; intro _ _) | refine zX ?_ | (refine zC ?_; intro _ _ _ _) | (refine zS ?_; intro _ _) | (apply Ws <;> intro hg))
    exact Ends.ret0D trivial hH8 (.cons _ (List.Sublist.refl _)) (List.Perm.refl _) fun H' h' => ⟨M', (bn, .row 3 0 0 [.int .i64 (n : Int)]) :: (n0, .row 58 0 0 [.func (.yield l) #[] #[]]) :: T0, n7, by omega, h'.perm (by classical exact List.perm_iff_count.2 (fun a => by simp only [defds, List.map_cons, List.map_nil, List.count_append, List.count_cons, List.count_nil, List.cons_append, List.nil_append, List.append_nil]; omega)), hJ⟩
end
end Go.Proofs.YtcfffhkabhmkmaaDoor.Ps

/- The good lists that cost the least. -/
namespace Go.Proofs.YtcfffhkabhmkmaaDoor.Ps
open Go Go.Abs Go.Mth
set_option linter.unusedVariables false
set_option linter.unusedSimpArgs false
theorem fill1 {v : Value} (h : one v = true) : Instr.fill (fun j => some (j * 1, 1)) [Value.slice none 0 0].toArray [(0, v)] = some [v].toArray := by
  cases v <;> first | rfl | cases h
def sumZ (c : Nat → Int) (z : List Nat) : Int := (z.map c).sum
theorem sumZ_snoc (c : Nat → Int) (z : List Nat) (x : Nat) : sumZ c (z ++ [x]) = sumZ c z + c x := by simp [sumZ]
theorem sumZ_bd {c : Nat → Int} : ∀ {z : List Nat}, (∀ x ∈ z, -20 ≤ c x ∧ c x ≤ 20) → -(20 * (z.length : Int)) ≤ sumZ c z ∧ sumZ c z ≤ 20 * (z.length : Int)
  | [], _ => by simp [sumZ]
  | x :: z, h => by
    have h1 := h x (by simp)
    have h2 := sumZ_bd (c := c) (z := z) fun y hy => h y (by simp [hy])
    have h3 : sumZ c (x :: z) = c x + sumZ c z := by simp [sumZ]
    rw [h3, List.length_cons]
    omega
def bestS (c : List Nat → Int) (s : List (List Nat) × Int) (z : List Nat) : List (List Nat) × Int := if s.1 = [] ∨ c z < s.2 then ([z], c z) else if c z = s.2 then (s.1 ++ [z], s.2) else s
def bestF (c : List Nat → Int) (zs : List (List Nat)) : List (List Nat) × Int := zs.foldl (bestS c) ([], 0)
theorem bestF_snoc (c : List Nat → Int) (zs : List (List Nat)) (z : List Nat) : bestF c (zs ++ [z]) = bestS c (bestF c zs) z := by simp [bestF]
theorem bestF_len (c : List Nat → Int) (zs : List (List Nat)) : (bestF c zs).1.length ≤ zs.length := by
  have key : ∀ (zs : List (List Nat)) (s : List (List Nat) × Int), (zs.foldl (bestS c) s).1.length ≤ s.1.length + zs.length := by
    intro zs
    induction zs with
    | nil => intro s; simp
    | cons z zs ih =>
      intro s
      rw [List.foldl_cons, List.length_cons]
      refine Nat.le_trans (ih _) ?_
      have : (bestS c s z).1.length ≤ s.1.length + 1 := by
        unfold bestS
        split
        · simp
        · split <;> simp
      omega
  have := key zs ([], 0)
  simpa [bestF] using this
def RowsB (M : HL) (ws : List Value) (zs : List (List Nat)) : Prop := ws.length = zs.length ∧ ∀ i, i < zs.length → Sl M 1 (ws.getD i undef) (nodes (zs.getD i []))
theorem RowsB.mono {M M' : HL} {ws : List Value} {zs : List (List Nat)} (h : RowsB M ws zs) (k : ∀ p ∈ M, p ∈ M') : RowsB M' ws zs := ⟨h.1, fun i hi => (h.2 i hi).mono k⟩
theorem RowsB.nil (M : HL) : RowsB M [] [] := ⟨rfl, fun i h => absurd h (Nat.not_lt_zero _)⟩
theorem RowsB.snoc {M : HL} {ws : List Value} {w : Value} {zs : List (List Nat)} {z : List Nat} (h : RowsB M ws zs) (hw : Sl M 1 w (nodes z)) : RowsB M (ws ++ [w]) (zs ++ [z]) := by
  refine ⟨by simp [h.1], fun i hi => ?_⟩
  rw [List.length_append, List.length_singleton] at hi
  by_cases e : i < zs.length
  · rw [getD_app_l (by rw [h.1]; exact e), getD_app_l e]; exact h.2 i e
  · have : i = zs.length := by omega
    subst this
    rw [getD_snoc, show zs.length = ws.length from h.1.symm, getD_snoc]; exact hw
def CostF (B : HL) (n cf : Nat) (cv : List Value) (cost : Nat → Int) : Prop := ∀ {T : HL} {k : Nat} {H : Heap} {x : Nat}, hasH T k H → (∀ p ∈ B, p ∈ T) → x < n → FS C cf ([] ++ [.int .i64 (x : Int)] ++ cv) H (fun e H' => e = .int .i64 (cost x) ∧ H' = H)
theorem GoodF.mono {B B' : HL} {n gf : Nat} {gv : List Value} {good : List Nat → Bool} (h : GoodF B n gf gv good) (k : ∀ p ∈ B, p ∈ B') : GoodF B' n gf gv good := fun h1 h2 h3 h4 => h h1 (fun p hp => h2 p (k p hp)) h3 h4
theorem six {n : Nat} {H : Heap} {a b c d e f : Nat × Ch} {X Y : HL} (h : hasH (a :: b :: c :: d :: e :: f :: X) n H) (p : X.Perm Y) : hasH (a :: b :: c :: d :: e :: f :: Y) n H := h.perm (((((((p.cons _).cons _).cons _).cons _).cons _).cons _))
attribute [local irreducible] gOK WS WC WR WD Ends FS YS OpV seqK blockK loopK midK retK rdK asgK rangeEnd sat Cell
section
variable {M : HL} {n0 : Nat} {H : Heap} {v w : Value}
theorem sum_fs {n gf : Nat} {gv : List Value} {cf : Nat} {cv : List Value} {B : HL} {cost : Nat → Int} (hH : hasH M n0 H) (hB : ∀ p ∈ B, p ∈ M) (hc : CostF B n cf cv cost) (hcb : ∀ x, x < n → -20 ≤ cost x ∧ cost x ≤ 20) {z : List Nat} (hS : Sl M 1 v (nodes z)) (hz : AscN n z) (hn : n ≤ 10) :
    FS C 59 [.agg (rtV n gf gv cf cv).toArray, v] H (fun e H' => e = .int .i64 (sumZ cost z) ∧ hasH M (n0 + 1) H') := by
  have hv := hS.one_
  have hzl := hz.len
  refine FS.intro (pf := pf59) rfl rfl rfl ?_
  refine WC.seq ?_
  refine WC.region ?_
  refine WR.boxA (cs := rtV n gf gv cf cv) (by first | exact gN | exact gS rfl) rfl hH rfl (by rfl) fun H1 hH1 => ?_
  clear hH
  have hS1 : Sl ((n0, RtC n gf gv cf cv) :: M) 1 v (nodes z) := hS.cons
  have hB1 : ∀ p ∈ B, p ∈ (n0, RtC n gf gv cf cv) :: M := fun p hp => .tail _ (hB p hp)
  repeat' (first | refine zP ?_ | refine zA ?_ | (refine zM ?_; intro _ _) | refine zX ?_ | (refine zC ?_; intro _ _ _ _) | (refine zS ?_; intro _ _) | (apply Ws <;> intro hg))
  refine WC.loopX [(0, _), (1, v), (2, _), (8, v), (9, _)] (fun k : Nat => [(10, .int .i64 (k : Int)), (5, .int .i64 (sumZ cost (z.take k)))]) [] (fun k H' => k ≤ z.length ∧ H' = H1) (fun k => z.length - k) 0 (by repeat' (first | exact .nil | refine .cons rfl ?_)) rfl ⟨Nat.zero_le _, rfl⟩ ?_
  rintro k H' ⟨hk, rfl⟩
  have hbd := sumZ_bd (c := cost) (z := z.take k) fun x hx => hcb x (hz.lt x (List.mem_of_mem_take hx))
  have htl : (z.take k).length ≤ 10 := by simp; omega
  dsimp only [List.cons_append, List.nil_append]
  repeat' (first | refine zP ?_ | refine zA ?_ | (refine zM ?_; intro _ _) | refine zX ?_ | (refine zC ?_; intro _ _ _ _) | (refine zS ?_; intro _ _) | (apply Ws <;> intro hg))
  refine WC.condP rfl (fun hlt => ?_) (fun hlt => ?_)
  · have hk' : k < z.length := by omega
    have hx := hz.lt _ (getD_mem (a := 0) hk')
    have htk : z.take (k + 1) = z.take k ++ [z.getD k 0] := by rw [List.take_succ_eq_append_getElem hk', ← getD_eq (a := 0)]
    have hcx := hcb _ hx
    repeat' (first | refine zP ?_ | refine zA ?_ | (refine zM ?_; intro _ _) | refine zX ?_ | (refine zC ?_; intro _ _ _ _) | (refine zS ?_; intro _ _) | (apply Ws <;> intro hg))
    refine WR.callV (by first | exact gN | exact gS rfl) rfl rfl rfl (hc hH1 hB1 hx) ?_
    rintro _ _ ⟨rfl, rfl⟩
    repeat' (first | refine zP ?_ | refine zA ?_ | (refine zM ?_; intro _ _) | refine zX ?_ | (refine zC ?_; intro _ _ _ _) | (refine zS ?_; intro _ _) | (apply Ws <;> intro hg))
    exact Ends.loop (k + 1) (by omega) (by rw [htk, sumZ_snoc]; exact (by repeat' (first | exact .nil | refine .cons rfl ?_))) rfl ⟨hk', rfl⟩
  · have hkl : k = z.length := by omega
    subst hkl
    rw [List.take_length]
    repeat' (first | refine zP ?_ | refine zA ?_ | (refine zM ?_; intro _ _) | refine zX ?_ | (refine zC ?_; intro _ _ _ _) | (refine zS ?_; intro _ _) | (apply Ws <;> intro hg))
    exact Ends.ret1 rfl ⟨rfl, hH1.tail⟩
set_option maxHeartbeats 4000000 in
theorem best_fs {n gf : Nat} {gv : List Value} {cf : Nat} {cv : List Value} {B : HL} {good : List Nat → Bool} {cost : Nat → Int} (hn1 : 1 ≤ n) (hn : n ≤ 10) (hH : hasH M n0 H) (hB : ∀ p ∈ B, p ∈ M) (hg : GoodF B n gf gv good) (hc : CostF B n cf cv cost) (hcb : ∀ x, x < n → -20 ≤ cost x ∧ cost x ≤ 20) (hfew : (allA n).length ≤ 5000) :
    FS C 36 [.agg (rtV n gf gv cf cv).toArray] H (fun e H' => ∃ ws M2 n', Sl (M2 ++ M) 1 e ws ∧ RowsB (M2 ++ M) ws (bestF (sumZ cost) ((allA n).filter good)).1 ∧ n0 ≤ n' ∧ hasH (M2 ++ M) n' H') := by
  obtain ⟨ZS, hZS⟩ : ∃ ZS, (allA n).filter good = ZS := ⟨_, rfl⟩
  have hZl : ZS.length ≤ 5000 := by rw [← hZS]; exact Nat.le_trans (List.length_filter_le _ _) hfew
  rw [hZS]
  refine FS.intro (pf := pf36) rfl rfl rfl ?_
  refine WC.seq ?_
  refine WC.region ?_
  refine WR.boxA (cs := rtV n gf gv cf cv) (by first | exact gN | exact gS rfl) rfl hH rfl (by rfl) fun H1 hH1 => ?_
  clear hH
  repeat' (first | refine zP ?_ | refine zA ?_ | (refine zM ?_; intro _ _) | refine zX ?_ | (refine zC ?_; intro _ _ _ _) | (refine zS ?_; intro _ _) | (apply Ws <;> intro hg))
  rename_i H2 hH2 H3 hH3
  clear hH1 hH2
  repeat' (first | refine zP ?_ | refine zA ?_ | (refine zM ?_; intro _ _) | refine zX ?_ | (refine zC ?_; intro _ _ _ _) | (refine zS ?_; intro _ _) | (apply Ws <;> intro hg))
  refine WR.call (by first | exact gN | exact gS rfl) rfl rfl (rated_fs hH3) ?_
  rintro _ H5 ⟨rfl, hH5⟩
  clear hH3
  repeat' (first | refine zP ?_ | refine zA ?_ | (refine zM ?_; intro _ _) | refine zX ?_ | (refine zC ?_; intro _ _ _ _) | (refine zS ?_; intro _ _) | (apply Ws <;> intro hg))
  refine WC.range0 (va := []) (vb := [ptrO (n0 + 1 + 1 + 1) 0]) rfl hH5 fun t ht H6 hH6 => ?_
  generalize hRR : ({ state := .ready, pending := none, fn := 36, tmps := t, params := [9], assign := _, body := _, nt := _ } : LoopE) = R at hH6
  obtain ⟨nn, hnn, hnn0⟩ : ∃ nn, n0 + 1 + 1 + 1 + 1 + 2 = nn ∧ n0 ≤ nn := ⟨_, rfl, by omega⟩
  rw [hnn] at hH6
  generalize n0 + 1 + 1 + 1 + 1 + 1 = lp at hH6 ⊢
  generalize n0 + 1 + 1 + 1 + 1 = df at hH6 ⊢
  generalize n0 + 1 + 1 + 1 = nr at hH6 ⊢
  generalize n0 + 1 + 1 = b4 at hH6 hRR ht ⊢
  generalize n0 + 1 = b3 at hH6 hRR ht ⊢
  clear hH5 hnn
  have hg2 : GoodF ((nr, RtC n gf gv cf cv) :: B) n gf gv good := hg.mono fun p hp => .tail _ hp
  refine FS.mono (ratedIt_fs (l := lp) (b1 := nr) (n := n) (gf := gf) (gv := gv) (cf := cf) (cv := cv) (good := good) (B := (nr, RtC n gf gv cf cv) :: B)
    (J := fun zs Mc => ∃ ds v ws Mo Mi, ds ++ zs = ZS ∧ Own 25 1 v ws Mo ∧ RowsB Mi ws (bestF (sumZ cost) ds).1 ∧ Mc = (lp, .loop R) :: (df, .defd false) :: (nr, RtC n gf gv cf cv) :: (b4, .row 3 0 0 [.int .i64 (bestF (sumZ cost) ds).2]) :: (b3, .row 57 0 0 [v]) :: (n0, RtC n gf gv cf cv) :: (Mo ++ (Mi ++ M)))
    hn1 hn hH6 (.head _) ?_ ⟨[], .slice none 0 0, [], [], [], by rw [hZS]; rfl, .nil, RowsB.nil _, rfl⟩ hg2 ?_) ?_
  · rintro zs Mc ⟨ds, v, ws, Mo, Mi, _, _, _, rfl⟩ p hp
    rcases List.mem_cons.1 hp with rfl | hp
    · exact .tail _ (.tail _ (.head _))
    · exact .tail _ (.tail _ (.tail _ (.tail _ (.tail _ (.tail _ (List.mem_append_right _ (List.mem_append_right _ (hB p hp))))))))
  · rintro z zs Mc T0 u n' H7 hn' ⟨ds, v, ws, Mo, Mi, hds, hO, hR, rfl⟩ hasc hK hH7
    simp only [List.cons_append, List.append_assoc] at hH7
    have hzl := hasc.len
    have hbl : (bestF (sumZ cost) ds).1.length ≤ 5000 := by
      refine Nat.le_trans (bestF_len _ _) ?_
      have := congrArg List.length hds
      rw [List.length_append] at this
      omega
    have hwl := hR.1
    have hcz := sumZ_bd (c := cost) (z := z) fun x hx => hcb x (hasc.lt x hx)
    refine YS.intro hH7 (.head _) (by rw [← hRR]) (by rw [← hRR]) (by rw [← hRR]; rfl) (by rw [← hRR]; exact ht) ?_
    subst hRR
    dsimp only
    repeat' (first | refine zA ?_ | (refine zM ?_; intro _ _) | (apply Ws <;> intro hg))
    refine Ends.asg hH7 .here fun H8 hH8 => ?_
    dsimp only
    clear hH7
    generalize hRb : ({ state := .busy, pending := none, fn := 36, tmps := t, params := [9], assign := _, body := _, nt := _ } : LoopE) = Rb at hH8
    obtain ⟨X, hX⟩ : ∃ X, Mo ++ (Mi ++ (M ++ T0)) = X := ⟨_, rfl⟩
    have hKX : KL X u z := hK.mono fun q hq => by rw [← hX]; simp [hq]
    have hBX : ∀ p ∈ B, p ∈ X := fun p hp => by rw [← hX]; simp [hB p hp]
    have hOX : Sl X 1 v ws := (hO.sl (Mi ++ (M ++ T0))).mono fun q hq => by rw [← hX]; exact hq
    have hv1 := hOX.one_
    rw [hX] at hH8
    have hK8 := hKX.mono fun q hq => show q ∈ (lp, Ch.loop Rb) :: (df, .defd false) :: (nr, RtC n gf gv cf cv) :: (b4, .row 3 0 0 [.int .i64 (bestF (sumZ cost) ds).2]) :: (b3, .row 57 0 0 [v]) :: (n0, RtC n gf gv cf cv) :: X from .tail _ (.tail _ (.tail _ (.tail _ (.tail _ (.tail _ hq)))))
    have hB8 : ∀ p ∈ B, p ∈ (lp, Ch.loop Rb) :: (df, .defd false) :: (nr, RtC n gf gv cf cv) :: (b4, .row 3 0 0 [.int .i64 (bestF (sumZ cost) ds).2]) :: (b3, .row 57 0 0 [v]) :: (n0, RtC n gf gv cf cv) :: X := fun p hp => .tail _ (.tail _ (.tail _ (.tail _ (.tail _ (.tail _ (hBX p hp))))))
    have hO8 := hOX.mono fun q hq => show q ∈ (lp, Ch.loop Rb) :: (df, .defd false) :: (nr, RtC n gf gv cf cv) :: (b4, .row 3 0 0 [.int .i64 (bestF (sumZ cost) ds).2]) :: (b3, .row 57 0 0 [v]) :: (n0, RtC n gf gv cf cv) :: X from .tail _ (.tail _ (.tail _ (.tail _ (.tail _ (.tail _ hq)))))
    have m6 : (n0, RtC n gf gv cf cv) ∈ (lp, Ch.loop Rb) :: (df, .defd false) :: (nr, RtC n gf gv cf cv) :: (b4, .row 3 0 0 [.int .i64 (bestF (sumZ cost) ds).2]) :: (b3, .row 57 0 0 [v]) :: (n0, RtC n gf gv cf cv) :: X := by simp
    repeat' (first | refine zP ?_ | refine zA ?_ | (refine zM ?_; intro _ _) | refine zX ?_ | (refine zC ?_; intro _ _ _ _) | (refine zS ?_; intro _ _) | (apply Ws <;> intro hg))
    refine WR.call (by first | exact gN | exact gS rfl) rfl rfl (sum_fs hH8 hB8 hc hcb hK8.sl hasc hn) ?_
    rintro _ H9 ⟨rfl, hH9⟩
    clear hH8
    have hbs := bestF_snoc (sumZ cost) ds z
    obtain ⟨Bs, m, hbm⟩ : ∃ Bs m, bestF (sumZ cost) ds = (Bs, m) := ⟨_, _, rfl⟩
    rw [hbm] at hR hbl hwl hH9 hB8 hO8 m6 hK8 hbs
    simp only at hR hbl hwl hH9 hB8 hO8 m6 hK8
    have hds2 : (ds ++ [z]) ++ zs = ZS := by rw [← hds]; simp
    unfold bestS at hbs
    simp only at hbs
    generalize sumZ cost z = c at hcz hbs ⊢
    have hl0 : Bs = [] ↔ ws.length = 0 := by rw [hwl]; exact List.length_eq_zero_iff.symm
    by_cases hB0 : Bs = []
    · rw [if_pos (.inl hB0)] at hbs
      have hwl0 := hl0.1 hB0
      repeat' (first | refine zP ?_ | refine zA ?_ | (refine zM ?_; intro _ _) | refine zX ?_ | (refine zC ?_; intro _ _ _ _) | (refine zS ?_; intro _ _) | refine zO ?_ | (apply Ws <;> intro hg))
      refine WR.storeBox (by first | exact gN | exact gS rfl) hH9 rfl rfl rfl (.there (.there (.there (.there .here)))) fun H10 hH10 => ?_
      refine WR.storeBox (by first | exact gN | exact gS rfl) hH10 rfl rfl rfl (.there (.there (.there .here))) fun H11 hH11 => ?_
      repeat' (first | refine zP ?_ | refine zA ?_ | (refine zM ?_; intro _ _) | refine zX ?_ | (refine zC ?_; intro _ _ _ _) | (refine zS ?_; intro _ _) | refine zO ?_ | (apply Ws <;> intro hg))
      clear hH9 hH10
      replace hK8 := hKX.mono fun q hq => show q ∈ (lp, Ch.loop Rb) :: (df, .defd false) :: (nr, RtC n gf gv cf cv) :: (b4, .row 3 0 0 [.int .i64 c]) :: (b3, .row 57 0 0 [.slice none 0 0]) :: (n0, RtC n gf gv cf cv) :: X from .tail _ (.tail _ (.tail _ (.tail _ (.tail _ (.tail _ hq)))))
      have mC : (b3, Ch.row 57 0 0 [.slice none 0 0]) ∈ (lp, Ch.loop Rb) :: (df, .defd false) :: (nr, RtC n gf gv cf cv) :: (b4, .row 3 0 0 [.int .i64 c]) :: (b3, .row 57 0 0 [.slice none 0 0]) :: (n0, RtC n gf gv cf cv) :: X := by simp
      refine WC.regionD ?_
      repeat' (first | refine zD ?_ | (refine zE ?_; intro _ _ _ _))
      refine WD.call (by first | exact gN | exact gS rfl) rfl rfl (Clone_fs hH11 hK8 (by omega)) ?_
      rintro e12 H12 ⟨Mz, n12, hOz, hn12, hH12⟩
      clear hH11
      refine ⟨stands_cons (.inr (holds_at (hH12.read (List.mem_append_right _ mC) (.row _ _ _ _) (Nat.zero_le _) rfl) rfl)) stands_nil', ?_⟩
      have he12 := (hOz.sl (T := Mz) fun q hq => hq).one_
      subst hX
      refine WD.append1F (new := e12) ((lp, Ch.loop Rb) :: (df, .defd false) :: (nr, RtC n gf gv cf cv) :: (b4, .row 3 0 0 [.int .i64 c]) :: (b3, .row 57 0 0 [.slice none 0 0]) :: [(n0, RtC n gf gv cf cv)]) [] (Mz ++ (Mo ++ (Mi ++ (M ++ T0)))) rfl rfl rfl rfl (.nil (e := 25) (sz := 1)) (hH12.perm (by classical exact List.perm_iff_count.2 (fun a => by simp only [defds, List.map_cons, List.map_nil, List.count_append, List.count_cons, List.count_nil, List.cons_append, List.nil_append, List.append_nil]; omega))) (fill1 he12) he12 (by simp)
        (fun H13 hH13 => stands_cons (.inr (holds_at (hH13.read (.tail _ (List.mem_append_left _ (.tail _ (.tail _ (.tail _ (.tail _ (.head _))))))) (.row _ _ _ _) (Nat.zero_le _) rfl) rfl)) stands_nil') fun v2 My n14 H14 hO14 hH14 hn14 => ⟨stands_cons (.inr (holds_at (hH14.read (List.mem_append_left _ (.tail _ (.tail _ (.tail _ (.tail _ (.head _)))))) (.row _ _ _ _) (Nat.zero_le _) rfl) rfl)) stands_nil', ?_⟩
      have hv2 := (hO14.own.sl []).one_
      clear hH12
      refine WD.toWR rfl ?_
      subst hRb
      refine WR.storeBox (by first | exact gN | exact gS rfl) hH14 rfl rfl hv2 (.there (.there (.there (.there .here)))) fun H15 hH15 => ?_
      repeat' (first | refine zP ?_ | refine zA ?_ | (refine zM ?_; intro _ _) | refine zX ?_ | (refine zC ?_; intro _ _ _ _) | (refine zS ?_; intro _ _) | (apply Ws <;> intro hg))
      have hq15 := six (X := My ++ (Mz ++ (Mo ++ (Mi ++ (M ++ T0))))) (Y := ((My ++ ((Mz ++ (Mo ++ Mi)) ++ M)) ++ T0)) hH15 (by classical exact List.perm_iff_count.2 (fun a => by simp only [defds, List.map_cons, List.map_nil, List.count_append, List.count_cons, List.count_nil, List.cons_append, List.nil_append, List.append_nil]; omega))
      exact Ends.rd rfl rfl rfl hq15 .here fun H' h' => ⟨_ :: _ :: _ :: _ :: _ :: _ :: (My ++ ((Mz ++ (Mo ++ Mi)) ++ M)), n14, by omega, h', rfl, ds ++ [z], v2, _, My, Mz ++ (Mo ++ Mi), hds2, hO14.own, by rw [hbs]; exact RowsB.snoc (RowsB.nil _) (hOz.sl fun q hq => List.mem_append_left _ hq), by rw [hbs]; rfl⟩
    · have hwl0 : ws.length ≠ 0 := fun h => hB0 (hl0.2 h)
      by_cases hcm : c < m
      · rw [if_pos (.inr hcm)] at hbs
        repeat' (first | refine zP ?_ | refine zA ?_ | (refine zM ?_; intro _ _) | refine zX ?_ | (refine zC ?_; intro _ _ _ _) | (refine zS ?_; intro _ _) | refine zO ?_ | (apply Ws <;> intro hg))
        refine WR.storeBox (by first | exact gN | exact gS rfl) hH9 rfl rfl rfl (.there (.there (.there (.there .here)))) fun H10 hH10 => ?_
        refine WR.storeBox (by first | exact gN | exact gS rfl) hH10 rfl rfl rfl (.there (.there (.there .here))) fun H11 hH11 => ?_
        repeat' (first | refine zP ?_ | refine zA ?_ | (refine zM ?_; intro _ _) | refine zX ?_ | (refine zC ?_; intro _ _ _ _) | (refine zS ?_; intro _ _) | refine zO ?_ | (apply Ws <;> intro hg))
        clear hH9 hH10
        replace hK8 := hKX.mono fun q hq => show q ∈ (lp, Ch.loop Rb) :: (df, .defd false) :: (nr, RtC n gf gv cf cv) :: (b4, .row 3 0 0 [.int .i64 c]) :: (b3, .row 57 0 0 [.slice none 0 0]) :: (n0, RtC n gf gv cf cv) :: X from .tail _ (.tail _ (.tail _ (.tail _ (.tail _ (.tail _ hq)))))
        have mC : (b3, Ch.row 57 0 0 [.slice none 0 0]) ∈ (lp, Ch.loop Rb) :: (df, .defd false) :: (nr, RtC n gf gv cf cv) :: (b4, .row 3 0 0 [.int .i64 c]) :: (b3, .row 57 0 0 [.slice none 0 0]) :: (n0, RtC n gf gv cf cv) :: X := by simp
        refine WC.regionD ?_
        repeat' (first | refine zD ?_ | (refine zE ?_; intro _ _ _ _))
        refine WD.call (by first | exact gN | exact gS rfl) rfl rfl (Clone_fs hH11 hK8 (by omega)) ?_
        rintro e12 H12 ⟨Mz, n12, hOz, hn12, hH12⟩
        clear hH11
        refine ⟨stands_cons (.inr (holds_at (hH12.read (List.mem_append_right _ mC) (.row _ _ _ _) (Nat.zero_le _) rfl) rfl)) stands_nil', ?_⟩
        have he12 := (hOz.sl (T := Mz) fun q hq => hq).one_
        subst hX
        refine WD.append1F (new := e12) ((lp, Ch.loop Rb) :: (df, .defd false) :: (nr, RtC n gf gv cf cv) :: (b4, .row 3 0 0 [.int .i64 c]) :: (b3, .row 57 0 0 [.slice none 0 0]) :: [(n0, RtC n gf gv cf cv)]) [] (Mz ++ (Mo ++ (Mi ++ (M ++ T0)))) rfl rfl rfl rfl (.nil (e := 25) (sz := 1)) (hH12.perm (by classical exact List.perm_iff_count.2 (fun a => by simp only [defds, List.map_cons, List.map_nil, List.count_append, List.count_cons, List.count_nil, List.cons_append, List.nil_append, List.append_nil]; omega))) (fill1 he12) he12 (by simp)
          (fun H13 hH13 => stands_cons (.inr (holds_at (hH13.read (.tail _ (List.mem_append_left _ (.tail _ (.tail _ (.tail _ (.tail _ (.head _))))))) (.row _ _ _ _) (Nat.zero_le _) rfl) rfl)) stands_nil') fun v2 My n14 H14 hO14 hH14 hn14 => ⟨stands_cons (.inr (holds_at (hH14.read (List.mem_append_left _ (.tail _ (.tail _ (.tail _ (.tail _ (.head _)))))) (.row _ _ _ _) (Nat.zero_le _) rfl) rfl)) stands_nil', ?_⟩
        have hv2 := (hO14.own.sl []).one_
        clear hH12
        refine WD.toWR rfl ?_
        subst hRb
        refine WR.storeBox (by first | exact gN | exact gS rfl) hH14 rfl rfl hv2 (.there (.there (.there (.there .here)))) fun H15 hH15 => ?_
        repeat' (first | refine zP ?_ | refine zA ?_ | (refine zM ?_; intro _ _) | refine zX ?_ | (refine zC ?_; intro _ _ _ _) | (refine zS ?_; intro _ _) | (apply Ws <;> intro hg))
        have hq15 := six (X := My ++ (Mz ++ (Mo ++ (Mi ++ (M ++ T0))))) (Y := ((My ++ ((Mz ++ (Mo ++ Mi)) ++ M)) ++ T0)) hH15 (by classical exact List.perm_iff_count.2 (fun a => by simp only [defds, List.map_cons, List.map_nil, List.count_append, List.count_cons, List.count_nil, List.cons_append, List.nil_append, List.append_nil]; omega))
        exact Ends.rd rfl rfl rfl hq15 .here fun H' h' => ⟨_ :: _ :: _ :: _ :: _ :: _ :: (My ++ ((Mz ++ (Mo ++ Mi)) ++ M)), n14, by omega, h', rfl, ds ++ [z], v2, _, My, Mz ++ (Mo ++ Mi), hds2, hO14.own, by rw [hbs]; exact RowsB.snoc (RowsB.nil _) (hOz.sl fun q hq => List.mem_append_left _ hq), by rw [hbs]; rfl⟩
      · rw [if_neg (by rintro (h | h); exact hB0 h; exact hcm h)] at hbs
        by_cases hce : c = m
        · subst hce
          rw [if_pos rfl] at hbs
          repeat' (first | refine zP ?_ | refine zA ?_ | (refine zM ?_; intro _ _) | refine zX ?_ | (refine zC ?_; intro _ _ _ _) | (refine zS ?_; intro _ _) | refine zO ?_ | (apply Ws <;> intro hg))
          have hH11 := hH9
          clear hH9
          replace hK8 := hKX.mono fun q hq => show q ∈ (lp, Ch.loop Rb) :: (df, .defd false) :: (nr, RtC n gf gv cf cv) :: (b4, .row 3 0 0 [.int .i64 c]) :: (b3, .row 57 0 0 [v]) :: (n0, RtC n gf gv cf cv) :: X from .tail _ (.tail _ (.tail _ (.tail _ (.tail _ (.tail _ hq)))))
          have mC : (b3, Ch.row 57 0 0 [v]) ∈ (lp, Ch.loop Rb) :: (df, .defd false) :: (nr, RtC n gf gv cf cv) :: (b4, .row 3 0 0 [.int .i64 c]) :: (b3, .row 57 0 0 [v]) :: (n0, RtC n gf gv cf cv) :: X := by simp
          refine WC.regionD ?_
          repeat' (first | refine zD ?_ | (refine zE ?_; intro _ _ _ _))
          refine WD.call (by first | exact gN | exact gS rfl) rfl rfl (Clone_fs hH11 hK8 (by omega)) ?_
          rintro e12 H12 ⟨Mz, n12, hOz, hn12, hH12⟩
          clear hH11
          refine ⟨stands_cons (.inr (holds_at (hH12.read (List.mem_append_right _ mC) (.row _ _ _ _) (Nat.zero_le _) rfl) hOX.same)) stands_nil', ?_⟩
          have he12 := (hOz.sl (T := Mz) fun q hq => hq).one_
          subst hX
          refine WD.append1F (new := e12) ((lp, Ch.loop Rb) :: (df, .defd false) :: (nr, RtC n gf gv cf cv) :: (b4, .row 3 0 0 [.int .i64 c]) :: (b3, .row 57 0 0 [v]) :: [(n0, RtC n gf gv cf cv)]) Mo (Mz ++ (Mi ++ (M ++ T0))) rfl rfl rfl rfl hO (hH12.perm (by classical exact List.perm_iff_count.2 (fun a => by simp only [defds, List.map_cons, List.map_nil, List.count_append, List.count_cons, List.count_nil, List.cons_append, List.nil_append, List.append_nil]; omega))) (fill1 he12) he12 (by omega)
            (fun H13 hH13 => stands_cons (.inr (holds_at (hH13.read (.tail _ (List.mem_append_left _ (.tail _ (.tail _ (.tail _ (.tail _ (.head _))))))) (.row _ _ _ _) (Nat.zero_le _) rfl) hOX.same)) stands_nil') fun v2 My n14 H14 hO14 hH14 hn14 => ⟨stands_cons (.inr (holds_at (hH14.read (List.mem_append_left _ (.tail _ (.tail _ (.tail _ (.tail _ (.head _)))))) (.row _ _ _ _) (Nat.zero_le _) rfl) hOX.same)) stands_nil', ?_⟩
          have hv2 := (hO14.own.sl []).one_
          clear hH12
          refine WD.toWR rfl ?_
          subst hRb
          refine WR.storeBox (by first | exact gN | exact gS rfl) hH14 rfl rfl hv2 (.there (.there (.there (.there .here)))) fun H15 hH15 => ?_
          repeat' (first | refine zP ?_ | refine zA ?_ | (refine zM ?_; intro _ _) | refine zX ?_ | (refine zC ?_; intro _ _ _ _) | (refine zS ?_; intro _ _) | (apply Ws <;> intro hg))
          have hq15 := six (X := My ++ (Mz ++ (Mi ++ (M ++ T0)))) (Y := ((My ++ ((Mz ++ Mi) ++ M)) ++ T0)) hH15 (by classical exact List.perm_iff_count.2 (fun a => by simp only [defds, List.map_cons, List.map_nil, List.count_append, List.count_cons, List.count_nil, List.cons_append, List.nil_append, List.append_nil]; omega))
          exact Ends.rd rfl rfl rfl hq15 .here fun H' h' => ⟨_ :: _ :: _ :: _ :: _ :: _ :: (My ++ ((Mz ++ Mi) ++ M)), n14, by omega, h', rfl, ds ++ [z], v2, _, My, Mz ++ Mi, hds2, hO14.own, by rw [hbs]; exact RowsB.snoc (hR.mono fun q hq => List.mem_append_right _ hq) (hOz.sl fun q hq => List.mem_append_left _ hq), by rw [hbs]; rfl⟩
        · rw [if_neg hce] at hbs
          repeat' (first | refine zP ?_ | refine zA ?_ | (refine zM ?_; intro _ _) | refine zX ?_ | (refine zC ?_; intro _ _ _ _) | (refine zS ?_; intro _ _) | refine zO ?_ | (apply Ws <;> intro hg))
          subst hRb
          subst hX
          have hq9 := six (X := Mo ++ (Mi ++ (M ++ T0))) (Y := ((Mo ++ (Mi ++ M)) ++ T0)) hH9 (by classical exact List.perm_iff_count.2 (fun a => by simp only [defds, List.map_cons, List.map_nil, List.count_append, List.count_cons, List.count_nil, List.cons_append, List.nil_append, List.append_nil]; omega))
          exact Ends.rd rfl rfl rfl hq9 .here fun H' h' => ⟨_ :: _ :: _ :: _ :: _ :: _ :: (Mo ++ (Mi ++ M)), n' + 1, by omega, h', rfl, ds ++ [z], v, ws, Mo, Mi, hds2, hO, by rw [hbs]; exact hR, by rw [hbs]; rfl⟩
  · rintro _ H7 ⟨_, T0, n7, hn7, hH7, ds, v, ws, Mo, Mi, hds, hO, hR, rfl⟩
    rw [List.append_nil] at hds
    subst hds
    simp only [List.cons_append, List.append_assoc] at hH7
    refine rangeEnd_of hH7 .here (by rw [← hRR]; simp) (by rw [← hRR]; rfl) fun H8 hH8 => ?_
    have mC : (b3, Ch.row 57 0 0 [v]) ∈ (lp, Ch.loop { R with state := .exhausted }) :: (df, .defd false) :: (nr, RtC n gf gv cf cv) :: (b4, .row 3 0 0 [.int .i64 (bestF (sumZ cost) ds).2]) :: (b3, .row 57 0 0 [v]) :: (n0, RtC n gf gv cf cv) :: (Mo ++ (Mi ++ (M ++ T0))) := by simp
    repeat' (first | refine zP ?_ | refine zA ?_ | (refine zM ?_; intro _ _) | refine zX ?_ | (refine zC ?_; intro _ _ _ _) | (refine zS ?_; intro _ _) | (apply Ws <;> intro hg))
    exact Ends.ret1D rfl hH8 (.cons _ (List.Sublist.refl _)) (List.Perm.refl _) fun H' h' => ⟨ws, (nr, RtC n gf gv cf cv) :: (b4, .row 3 0 0 [.int .i64 (bestF (sumZ cost) ds).2]) :: (b3, .row 57 0 0 [v]) :: (n0, RtC n gf gv cf cv) :: (Mo ++ (Mi ++ T0)), n7, (hO.sl []).mono fun q hq => by rw [List.append_nil] at hq; simp [hq], hR.mono fun q hq => by simp [hq], by omega, h'.perm (by classical exact List.perm_iff_count.2 (fun a => by simp only [defds, List.map_cons, List.map_nil, List.count_append, List.count_cons, List.count_nil, List.cons_append, List.nil_append, List.append_nil]; omega))⟩
end
end Go.Proofs.YtcfffhkabhmkmaaDoor.Ps

/- Ratings; the fewest posts, the most places that are apart, the ways. -/
namespace Go.Proofs.YtcfffhkabhmkmaaDoor.Ps
open Go Go.Abs Go.Mth
set_option linter.unusedVariables false
set_option linter.unusedSimpArgs false
theorem T_len (n : Nat) : ∀ (m : Nat) (b : List Nat), (T n m b).length + 1 = 2 ^ m
  | 0, b => rfl
  | m + 1, b => by
    have h1 := T_len n m (b ++ [n - (m + 1)])
    have h2 := T_len n m b
    rw [T, List.length_cons, List.length_append, Nat.pow_succ]
    omega
theorem allA_len (n : Nat) : (allA n).length = 2 ^ n := by rw [allA, List.length_cons, T_len]
theorem allA_few {n : Nat} (h : n ≤ 10) : (allA n).length ≤ 5000 := by
  rw [allA_len]
  exact Nat.le_trans (Nat.pow_le_pow_right (n := 2) (by omega) h) (by decide)
theorem bestS_ne (c : List Nat → Int) (s : List (List Nat) × Int) (z : List Nat) : (bestS c s z).1 ≠ [] := by
  unfold bestS
  split
  · simp
  · rename_i h
    split
    · simp
    · exact fun h2 => h (.inl h2)
theorem bestF_ne {c : List Nat → Int} {zs : List (List Nat)} (h : zs ≠ []) : (bestF c zs).1 ≠ [] := by
  obtain ⟨ys, y, rfl⟩ : ∃ ys y, zs = ys ++ [y] := ⟨zs.dropLast, zs.getLast h, (List.dropLast_concat_getLast h).symm⟩
  rw [bestF_snoc]; exact bestS_ne _ _ _
theorem grd_all {xs : List Int} : List.range xs.length ∈ (allA xs.length).filter (grd xs) := by
  rw [List.mem_filter, mem_allA, grd_iff]
  exact ⟨⟨List.pairwise_lt_range, fun x hx => List.mem_range.1 hx⟩, fun i hi => ⟨i, List.mem_range.2 hi, adj_self _ _⟩⟩
theorem apt_nil {xs : List Int} : [] ∈ (allA xs.length).filter (apt xs) := by
  rw [List.mem_filter, mem_allA]
  exact ⟨⟨by simp, by simp⟩, by simp [apt]⟩
def grdL (xs : List Int) : List (List Nat) := (allA xs.length).filter (grd xs)
def aptL (xs : List Int) : List (List Nat) := (allA xs.length).filter (apt xs)
theorem grdL_ne (xs : List Int) : grdL xs ≠ [] := fun h => by have := grd_all (xs := xs); unfold grdL at h; rw [h] at this; cases this
theorem aptL_ne (xs : List Int) : aptL xs ≠ [] := fun h => by have := apt_nil (xs := xs); unfold aptL at h; rw [h] at this; cases this
def fewB (xs : List Int) : List (List Nat) := (bestF (sumZ fun _ => 1) (grdL xs)).1
def aptB (xs : List Int) : List (List Nat) := (bestF (sumZ fun _ => -1) (aptL xs)).1
theorem fewB_ne (xs : List Int) : fewB xs ≠ [] := bestF_ne (grdL_ne xs)
theorem aptB_ne (xs : List Int) : aptB xs ≠ [] := bestF_ne (aptL_ne xs)
theorem HndV.mono {M M' : HL} {xs : List Int} {v : Value} (h : HndV M xs v) (k : ∀ p ∈ M, p ∈ M') : HndV M' xs v := Sl.mono h k
attribute [local irreducible] gOK WS WC WR WD Ends FS YS OpV seqK blockK loopK midK retK rdK asgK rangeEnd sat Cell
section
variable {M : HL} {n0 : Nat} {H : Heap} {v w : Value}
theorem good_grd {B : HL} {xs : List Int} (hx : OKS xs) (hV : HndV B xs v) : GoodF B xs.length 40 [v] (grd xs) := fun {T k H u z} h1 h2 h3 h4 =>
  guarded_fs h1 hx (hV.mono h2) h3.sl h4.lt (by have := h4.len; have := hx.most; omega)
theorem good_apt {B : HL} {xs : List Int} (hx : OKS xs) (hV : HndV B xs v) : GoodF B xs.length 41 [v] (apt xs) := fun {T k H u z} h1 h2 h3 h4 =>
  apart_fs h1 hx (hV.mono h2) h3.sl h4.lt (by have := h4.len; have := hx.most; omega)
theorem cost_one (B : HL) (n : Nat) : CostF B n 58 [] (fun _ => 1) := fun {T k H x} h1 h2 h3 => by
  refine FS.intro (pf := pf58) rfl rfl rfl ?_
  repeat' (first | refine zP ?_ | refine zA ?_ | (refine zM ?_; intro _ _) | refine zX ?_ | (refine zC ?_; intro _ _ _ _) | (refine zS ?_; intro _ _) | (apply Ws <;> intro hg))
  exact Ends.ret1 rfl ⟨rfl, rfl⟩
theorem cost_neg (B : HL) (n : Nat) : CostF B n 61 [] (fun _ => -1) := fun {T k H x} h1 h2 h3 => by
  refine FS.intro (pf := pf61) rfl rfl rfl ?_
  repeat' (first | refine zP ?_ | refine zA ?_ | (refine zM ?_; intro _ _) | refine zX ?_ | (refine zC ?_; intro _ _ _ _) | (refine zS ?_; intro _ _) | (apply Ws <;> intro hg))
  exact Ends.ret1 rfl ⟨rfl, rfl⟩
theorem hnd_row {b : Nat} {xs : List Int} {T : HL} : HndV ((b, .row 68 0 0 (numsK .u16 (hsL xs))) :: T) xs (.slice (some ⟨b, 0, some 0⟩) xs.length (2 * xs.length + 1)) := by
  refine .row (.head _) (.row _ _ _ _) (Nat.le_refl _) (by simp [hsL_len]) ?_ (by simp [hsL_len]) (.inr ⟨_, rfl, Nat.le_refl _⟩)
  rw [Nat.sub_self, List.drop_zero, List.take_of_length_le (by simp [hsL_len])]
theorem byNumber_fs (hH : hasH M n0 H) {xs : List Int} (hS : Sl M 1 v (ints xs)) (hx : OKS xs) :
    FS C 35 [v] H (fun e H' => ∃ hv M2 n', e = .agg (rtV xs.length 40 [hv] 58 []).toArray ∧ HndV M2 xs hv ∧ n0 ≤ n' ∧ hasH (M2 ++ M) n' H') := by
  refine FS.intro (pf := pf35) rfl rfl rfl ?_
  have h10 := hx.most
  repeat' (first | refine zP ?_ | refine zA ?_ | (refine zM ?_; intro _ _) | refine zX ?_ | (refine zC ?_; intro _ _ _ _) | (refine zS ?_; intro _ _) | (apply Ws <;> intro hg))
  rename_i H1 hH1
  clear hH
  have hS1 := hS.cons (p := (n0, Ch.row 61 0 0 [.int .i64 0, .nilFunc, .nilFunc]))
  repeat' (first | refine zP ?_ | refine zA ?_ | (refine zM ?_; intro _ _) | refine zX ?_ | (refine zC ?_; intro _ _ _ _) | (refine zS ?_; intro _ _) | (apply Ws <;> intro hg))
  refine WR.call (by first | exact gN | exact gS rfl) rfl rfl (handsOf_fs hH1 hS1 hx) ?_
  rintro _ H2 ⟨rfl, hH2⟩
  clear hH1
  repeat' (first | refine zP ?_ | refine zA ?_ | (refine zM ?_; intro _ _) | refine zX ?_ | (refine zC ?_; intro _ _ _ _) | (refine zS ?_; intro _ _) | (apply Ws <;> intro hg))
  refine WR.op (by first | exact gN | exact gS rfl) rfl (OpV.bldT (vs := [(0, .int .i64 (xs.length : Int)), (1, .func (.func 40) #[.slice (some ⟨n0 + 1, 0, some 0⟩) xs.length (2 * xs.length + 1)] #[]), (2, .func (.func 58) #[] #[])]) rfl (cs := (rtV xs.length 40 [.slice (some ⟨n0 + 1, 0, some 0⟩) xs.length (2 * xs.length + 1)] 58 []).toArray) (by rfl)) ?_
  refine WR.storeAll (by first | exact gN | exact gS rfl) hH2 rfl rfl (ls := rtV xs.length 40 [.slice (some ⟨n0 + 1, 0, some 0⟩) xs.length (2 * xs.length + 1)] 58 []) rfl rfl (.there .here) rfl rfl fun H3 hH3 => ?_
  clear hH2
  repeat' (first | refine zP ?_ | refine zA ?_ | (refine zM ?_; intro _ _) | refine zX ?_ | (refine zC ?_; intro _ _ _ _) | (refine zS ?_; intro _ _) | (apply Ws <;> intro hg))
  exact Ends.retCN rfl (by have := hH3.readN (b := n0) (u := 0) (lo := 0) (o := 0) (k := 3) (.tail _ (.head _)) (.row _ _ _ _) (Nat.le_refl _) (Nat.le_refl _); simpa using this) ⟨_, [(n0 + 1, .row 68 0 0 (numsK .u16 (hsL xs)))], n0 + 1 + 1, rfl, hnd_row, by omega, hH3.swap.tail⟩
theorem byDistance_fs (hH : hasH M n0 H) {xs : List Int} (hS : Sl M 1 v (ints xs)) (hx : OKS xs) :
    FS C 37 [v] H (fun e H' => ∃ hv M2 n', e = .agg (rtV xs.length 41 [hv] 61 []).toArray ∧ HndV M2 xs hv ∧ n0 ≤ n' ∧ hasH (M2 ++ M) n' H') := by
  refine FS.intro (pf := pf37) rfl rfl rfl ?_
  have h10 := hx.most
  repeat' (first | refine zP ?_ | refine zA ?_ | (refine zM ?_; intro _ _) | refine zX ?_ | (refine zC ?_; intro _ _ _ _) | (refine zS ?_; intro _ _) | (apply Ws <;> intro hg))
  rename_i H1 hH1
  clear hH
  have hS1 := hS.cons (p := (n0, Ch.row 61 0 0 [.int .i64 0, .nilFunc, .nilFunc]))
  repeat' (first | refine zP ?_ | refine zA ?_ | (refine zM ?_; intro _ _) | refine zX ?_ | (refine zC ?_; intro _ _ _ _) | (refine zS ?_; intro _ _) | (apply Ws <;> intro hg))
  refine WR.call (by first | exact gN | exact gS rfl) rfl rfl (handsOf_fs hH1 hS1 hx) ?_
  rintro _ H2 ⟨rfl, hH2⟩
  clear hH1
  repeat' (first | refine zP ?_ | refine zA ?_ | (refine zM ?_; intro _ _) | refine zX ?_ | (refine zC ?_; intro _ _ _ _) | (refine zS ?_; intro _ _) | (apply Ws <;> intro hg))
  refine WR.op (by first | exact gN | exact gS rfl) rfl (OpV.bldT (vs := [(0, .int .i64 (xs.length : Int)), (1, .func (.func 41) #[.slice (some ⟨n0 + 1, 0, some 0⟩) xs.length (2 * xs.length + 1)] #[]), (2, .func (.func 61) #[] #[])]) rfl (cs := (rtV xs.length 41 [.slice (some ⟨n0 + 1, 0, some 0⟩) xs.length (2 * xs.length + 1)] 61 []).toArray) (by rfl)) ?_
  refine WR.storeAll (by first | exact gN | exact gS rfl) hH2 rfl rfl (ls := rtV xs.length 41 [.slice (some ⟨n0 + 1, 0, some 0⟩) xs.length (2 * xs.length + 1)] 61 []) rfl rfl (.there .here) rfl rfl fun H3 hH3 => ?_
  clear hH2
  repeat' (first | refine zP ?_ | refine zA ?_ | (refine zM ?_; intro _ _) | refine zX ?_ | (refine zC ?_; intro _ _ _ _) | (refine zS ?_; intro _ _) | (apply Ws <;> intro hg))
  exact Ends.retCN rfl (by have := hH3.readN (b := n0) (u := 0) (lo := 0) (o := 0) (k := 3) (.tail _ (.head _)) (.row _ _ _ _) (Nat.le_refl _) (Nat.le_refl _); simpa using this) ⟨_, [(n0 + 1, .row 68 0 0 (numsK .u16 (hsL xs)))], n0 + 1 + 1, rfl, hnd_row, by omega, hH3.swap.tail⟩
theorem Fewest_fs (hH : hasH M n0 H) {xs : List Int} (hS : Sl M 1 v (ints xs)) (hl : xs.length ≤ 100000) :
    FS C 14 [v] H (fun e H' => ∃ u M2 n', e = .tuple #[u, .int .i64 (errS xs)] ∧ Sl (M2 ++ M) 1 u (nodes (if errS xs = 0 then (fewB xs).getD 0 [] else [])) ∧ n0 ≤ n' ∧ hasH (M2 ++ M) n' H') := by
  refine FS.intro (pf := pf14) rfl rfl rfl ?_
  repeat' (first | refine zP ?_ | refine zA ?_ | (refine zM ?_; intro _ _) | refine zX ?_ | (refine zC ?_; intro _ _ _ _) | (refine zS ?_; intro _ _) | (apply Ws <;> intro hg))
  refine WR.call (by first | exact gN | exact gS rfl) rfl rfl (Check_fs hH hS hl) ?_
  rintro _ H1 ⟨rfl, rfl⟩
  repeat' (first | refine zP ?_ | refine zA ?_ | (refine zM ?_; intro _ _) | refine zX ?_ | (refine zC ?_; intro _ _ _ _) | (refine zS ?_; intro _ _) | (apply Ws <;> intro hg))
  refine WC.condP rfl (fun h0 => ?_) (fun h0 => ?_)
  · repeat' (first | refine zP ?_ | refine zA ?_ | (refine zM ?_; intro _ _) | refine zX ?_ | (refine zC ?_; intro _ _ _ _) | (refine zS ?_; intro _ _) | (apply Ws <;> intro hg))
    exact Ends.ret2 rfl rfl ⟨_, [], n0, rfl, by rw [if_neg h0]; exact .nil 0, Nat.le_refl _, hH⟩
  · have h00 : errS xs = 0 := by omega
    have hx := errS_zero.1 h00
    repeat' (first | refine zP ?_ | refine zA ?_ | (refine zM ?_; intro _ _) | refine zX ?_ | (refine zC ?_; intro _ _ _ _) | (refine zS ?_; intro _ _) | (apply Ws <;> intro hg))
    refine WR.call (by first | exact gN | exact gS rfl) rfl rfl (byNumber_fs hH hS hx) ?_
    rintro _ H2 ⟨hv, M2, n2, rfl, hV, hn2, hH2⟩
    refine WR.call (by first | exact gN | exact gS rfl) rfl rfl (best_fs (B := M2) hx.one hx.most hH2 (fun p hp => List.mem_append_left _ hp) (good_grd hx hV) (cost_one _ _) (fun x _ => by omega) (allA_few hx.most)) ?_
    rintro e3 H3 ⟨ws, M3, n3, hSe, hR, hn3, hH3⟩
    have hne := List.length_pos_iff.2 (fewB_ne xs)
    have hwl := hR.1
    have hR0 := hR.2 0 hne
    have hws : 0 < ws.length := by rw [hwl]; exact hne
    repeat' (first | refine zP ?_ | refine zA ?_ | (refine zM ?_; intro _ _) | refine zX ?_ | (refine zC ?_; intro _ _ _ _) | (refine zS ?_; intro _ _) | (apply Ws <;> intro hg))
    refine Ends.ret2 rfl rfl ⟨_, M3 ++ M2, n3, by rw [h00], ?_, by omega, by rw [List.append_assoc]; exact hH3⟩
    rw [if_pos h00, List.append_assoc]; exact hR0
end
end Go.Proofs.YtcfffhkabhmkmaaDoor.Ps
