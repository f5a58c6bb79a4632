/- Texts of the law, joined. -/
import Derived.Test.YtcfffhkabhmkmaaDoorJ2
import Derived.Test.YtcfffhkabhmkmaaDoorPerm
import Derived.Test.YtcfffhkabhmkmaaDoorPsP
import Derived.Test.YtcfffhkabhmkmaaDoorSymX
/- Comparisons of numbers and of lists. -/
namespace Go.Mth
set_option linter.unusedVariables false
def cmpI (a b : Int) : Int := if a < b then -1 else if b < a then 1 else 0
def lexC : List Int → List Int → Int
  | [], [] => 0
  | [], _ :: _ => -1
  | _ :: _, [] => 1
  | a :: l, b :: m => if cmpI a b ≠ 0 then cmpI a b else lexC l m
theorem cmp_zero {a b : Int} : cmpI a b = 0 ↔ a = b := by unfold cmpI; split <;> (try split) <;> omega
theorem cmp_lt {a b : Int} : cmpI a b < 0 ↔ a < b := by unfold cmpI; split <;> (try split) <;> omega
theorem lex_trans : ∀ a b c : List Int, lexC a b < 0 → lexC b c < 0 → lexC a c < 0
  | [], [], _, h, _ => by simp [lexC] at h
  | [], _ :: _, [], _, h => by simp [lexC] at h
  | [], _ :: _, _ :: _, _, _ => by simp [lexC]
  | _ :: _, [], _, h, _ => by simp [lexC] at h
  | _ :: _, _ :: _, [], _, h => by simp [lexC] at h
  | a :: l, b :: m, c :: k, h1, h2 => by
    have e1 := cmp_zero (a := a) (b := b)
    have e2 := cmp_zero (a := b) (b := c)
    have e3 := cmp_zero (a := a) (b := c)
    have f1 := cmp_lt (a := a) (b := b)
    have f2 := cmp_lt (a := b) (b := c)
    have f3 := cmp_lt (a := a) (b := c)
    have h3 := lex_trans l m k
    simp only [lexC] at h1 h2 ⊢
    split at h1 <;> split at h2 <;> split <;> first | omega | exact h3 (by omega) (by omega)
end Go.Mth

/- Lists of places in ascending order: all of them, in their order. -/
namespace Go.Proofs.YtcfffhkabhmkmaaDoor.Ps
open Go Go.Abs Go.Mth
set_option linter.unusedVariables false
set_option linter.unusedSimpArgs false
theorem snoc_at {l : List Nat} {x : Nat} : (l ++ [x]).getD l.length 0 = x := getD_snoc
def lexN : List Nat → List Nat → Prop
  | [], [] => False
  | [], _ :: _ => True
  | _ :: _, [] => False
  | a :: l, b :: m => a < b ∨ (a = b ∧ lexN l m)
theorem lexN_irr : ∀ l : List Nat, ¬ lexN l l
  | [] => fun h => h
  | a :: l => fun h => by
    rcases h with h | ⟨_, h⟩
    · exact absurd h (Nat.lt_irrefl _)
    · exact lexN_irr l h
theorem lexN_asym : ∀ {l m : List Nat}, lexN l m → ¬ lexN m l
  | [], [], h, _ => h
  | [], _ :: _, _, k => k
  | _ :: _, [], h, _ => h
  | a :: l, b :: m, h, k => by
    rcases h with h | ⟨h1, h2⟩ <;> rcases k with k | ⟨k1, k2⟩
    · omega
    · omega
    · omega
    · exact lexN_asym h2 k2
theorem lexN_tri : ∀ {l m : List Nat}, l ≠ m → lexN l m ∨ lexN m l
  | [], [], h => absurd rfl h
  | [], _ :: _, _ => .inl trivial
  | _ :: _, [], _ => .inr trivial
  | a :: l, b :: m, hne => by
    rcases Nat.lt_trichotomy a b with e | e | e
    · exact .inl (.inl e)
    · subst e
      rcases lexN_tri (l := l) (m := m) (fun e => hne (by rw [e])) with h1 | h1
      · exact .inl (.inr ⟨rfl, h1⟩)
      · exact .inr (.inr ⟨rfl, h1⟩)
    · exact .inr (.inl e)
abbrev IL (l : List Nat) : List Int := l.map fun (x : Nat) => (x : Int)
theorem IL_len (l : List Nat) : (IL l).length = l.length := by simp [IL]
theorem IL_get {l : List Nat} {i : Nat} (h : i < l.length) : (IL l).getD i 0 = ((l.getD i 0 : Nat) : Int) := by
  rw [getD_eq (by rw [IL_len]; exact h), getD_eq h]; simp [IL]
theorem lexN_C : ∀ {l m : List Nat}, lexC (IL l) (IL m) < 0 ↔ lexN l m
  | [], [] => by simp [IL, lexC, lexN]
  | [], _ :: _ => by simp [IL, lexC, lexN]
  | _ :: _, [] => by simp [IL, lexC, lexN]
  | a :: l, b :: m => by
    have ih := lexN_C (l := l) (m := m)
    have e1 := cmp_zero (a := (a : Int)) (b := (b : Int))
    have e2 := cmp_lt (a := (a : Int)) (b := (b : Int))
    show (if cmpI (a : Int) (b : Int) ≠ 0 then cmpI (a : Int) (b : Int) else lexC (IL l) (IL m)) < 0 ↔ (a < b ∨ (a = b ∧ lexN l m))
    by_cases h : a = b
    · have : cmpI (a : Int) (b : Int) = 0 := e1.2 (by omega)
      rw [if_neg (fun h => h this), ih]
      constructor
      · exact fun k => .inr ⟨h, k⟩
      · rintro (k | ⟨_, k⟩)
        · omega
        · exact k
    · have : cmpI (a : Int) (b : Int) ≠ 0 := fun k => h (by have := e1.1 k; omega)
      rw [if_pos this, e2]
      constructor
      · exact fun k => .inl (by omega)
      · rintro (k | ⟨k, _⟩)
        · omega
        · exact absurd k h
instance lexN_dec : ∀ l m : List Nat, Decidable (lexN l m) := fun l m => decidable_of_iff _ (lexN_C (l := l) (m := m))
theorem lexN_app : ∀ {b l m : List Nat}, lexN (b ++ l) (b ++ m) ↔ lexN l m
  | [], _, _ => Iff.rfl
  | a :: b, l, m => by
    show (a < a ∨ (a = a ∧ lexN (b ++ l) (b ++ m))) ↔ _
    rw [lexN_app (b := b)]
    simp
theorem lexN_pre {b r : List Nat} (h : r ≠ []) : lexN b (b ++ r) := by
  have := lexN_app (b := b) (l := []) (m := r)
  rw [List.append_nil] at this
  refine this.2 ?_
  cases r with
  | nil => exact absurd rfl h
  | cons => trivial
def T (n : Nat) : Nat → List Nat → List (List Nat)
  | 0, _ => []
  | m + 1, b => (b ++ [n - (m + 1)]) :: (T n m (b ++ [n - (m + 1)]) ++ T n m b)
def allA (n : Nat) : List (List Nat) := [] :: T n n []
structure AscN (n : Nat) (l : List Nat) : Prop where
  asc : l.Pairwise (· < ·)
  lt : ∀ x ∈ l, x < n
theorem mem_T {n : Nat} : ∀ {m : Nat} {b z : List Nat}, m ≤ n → (z ∈ T n m b ↔ ∃ r, r ≠ [] ∧ z = b ++ r ∧ r.Pairwise (· < ·) ∧ ∀ x ∈ r, n - m ≤ x ∧ x < n)
  | 0, b, z, h => by
    simp only [T, List.not_mem_nil, false_iff]
    rintro ⟨r, h1, _, _, h4⟩
    cases r with
    | nil => exact h1 rfl
    | cons x r => have := h4 x (by simp); omega
  | m + 1, b, z, h => by
    rw [T, List.mem_cons, List.mem_append, mem_T (by omega), mem_T (by omega)]
    constructor
    · rintro (rfl | ⟨r, h1, rfl, h3, h4⟩ | ⟨r, h1, rfl, h3, h4⟩)
      · exact ⟨[n - (m + 1)], by simp, rfl, by simp, fun x hx => by rw [List.mem_singleton.1 hx]; omega⟩
      · refine ⟨(n - (m + 1)) :: r, by simp, by simp, List.pairwise_cons.2 ⟨fun a ha => by have := h4 a ha; omega, h3⟩, fun x hx => ?_⟩
        rcases List.mem_cons.1 hx with rfl | hx
        · omega
        · have := h4 x hx; omega
      · exact ⟨r, h1, rfl, h3, fun x hx => by have := h4 x hx; omega⟩
    · rintro ⟨r, h1, rfl, h3, h4⟩
      cases r with
      | nil => exact absurd rfl h1
      | cons x r =>
        have hx := h4 x (by simp)
        obtain ⟨h5, h6⟩ := List.pairwise_cons.1 h3
        by_cases e : x = n - (m + 1)
        · subst e
          by_cases e2 : r = []
          · subst e2; exact .inl rfl
          · exact .inr (.inl ⟨r, e2, by simp, h6, fun y hy => by have := h5 y hy; have := h4 y (by simp [hy]); omega⟩)
        · refine .inr (.inr ⟨x :: r, by simp, rfl, h3, fun y hy => ?_⟩)
          have := h4 y hy
          rcases List.mem_cons.1 hy with rfl | hy
          · omega
          · have := h5 y hy; omega
theorem mem_allA {n : Nat} {z : List Nat} : z ∈ allA n ↔ AscN n z := by
  rw [allA, List.mem_cons, mem_T (Nat.le_refl _)]
  constructor
  · rintro (rfl | ⟨r, _, rfl, h3, h4⟩)
    · exact ⟨by simp, by simp⟩
    · exact ⟨by simpa using h3, fun x hx => (h4 x (by simpa using hx)).2⟩
  · rintro ⟨h1, h2⟩
    by_cases e : z = []
    · exact .inl e
    · exact .inr ⟨z, e, by simp, h1, fun x hx => ⟨by omega, h2 x hx⟩⟩
theorem T_sorted {n : Nat} : ∀ {m : Nat} {b : List Nat}, m ≤ n → (T n m b).Pairwise lexN
  | 0, b, h => by simp [T]
  | m + 1, b, h => by
    rw [T, List.pairwise_cons, List.pairwise_append]
    refine ⟨fun z hz => ?_, T_sorted (by omega), T_sorted (by omega), fun z hz y hy => ?_⟩
    · rcases List.mem_append.1 hz with hz | hz
      · obtain ⟨r, h1, rfl, h3, h4⟩ := (mem_T (by omega)).1 hz
        exact lexN_pre h1
      · obtain ⟨r, h1, rfl, h3, h4⟩ := (mem_T (by omega)).1 hz
        rw [lexN_app]
        cases r with
        | nil => exact absurd rfl h1
        | cons x r => exact .inl (by have := h4 x (by simp); omega)
    · obtain ⟨r, h1, rfl, h3, h4⟩ := (mem_T (by omega)).1 hz
      obtain ⟨q, k1, rfl, k3, k4⟩ := (mem_T (by omega)).1 hy
      rw [List.append_assoc, lexN_app]
      cases q with
      | nil => exact absurd rfl k1
      | cons x q => exact .inl (by have := k4 x (by simp); omega)
theorem allA_sorted (n : Nat) : (allA n).Pairwise lexN := by
  rw [allA, List.pairwise_cons]
  refine ⟨fun z hz => ?_, T_sorted (Nat.le_refl _)⟩
  obtain ⟨r, h1, h2, _⟩ := (mem_T (Nat.le_refl _)).1 hz
  rw [List.nil_append] at h2
  subst h2
  cases z with
  | nil => exact absurd rfl h1
  | cons => trivial
theorem AscN.nodup {n : Nat} {l : List Nat} (h : AscN n l) : l.Nodup := h.asc.imp fun h => Nat.ne_of_lt h
theorem AscN.len {n : Nat} {l : List Nat} (h : AscN n l) : l.length ≤ n := nodup_le n l h.nodup h.lt
end Go.Proofs.YtcfffhkabhmkmaaDoor.Ps

/- Shores: errors, what is at hand, what guards, what is apart. -/
namespace Go.Proofs.YtcfffhkabhmkmaaDoor.Ps
open Go Go.Abs Go.Mth
set_option linter.unusedVariables false
set_option linter.unusedSimpArgs false
def errB (xs : List Int) (k : Nat) : Int := if k = 0 then (if xs.getD 0 0 = -1 then 0 else 2) else if 0 ≤ xs.getD k 0 ∧ xs.getD k 0 < k then 0 else 2
def errS (xs : List Int) : Int := if xs.length = 0 then 4 else if 10 < xs.length then 3 else firstE (errB xs) xs.length
structure OKS (xs : List Int) : Prop where
  one : 1 ≤ xs.length
  most : xs.length ≤ 10
  root : xs.getD 0 0 = -1
  par : ∀ k, 1 ≤ k → k < xs.length → 0 ≤ xs.getD k 0 ∧ xs.getD k 0 < k
theorem errS_zero {xs : List Int} : errS xs = 0 ↔ OKS xs := by
  unfold errS
  by_cases h0 : xs.length = 0
  · rw [if_pos h0]; exact ⟨fun h => absurd h (by decide), fun h => by have := h.one; omega⟩
  · rw [if_neg h0]
    by_cases h1 : 10 < xs.length
    · rw [if_pos h1]; exact ⟨fun h => absurd h (by decide), fun h => by have := h.most; omega⟩
    · rw [if_neg h1, firstE_zero]
      constructor
      · intro h
        refine ⟨by omega, by omega, ?_, fun k hk hl => ?_⟩
        · have := h 0 (by omega)
          unfold errB at this
          rw [if_pos rfl] at this
          split at this
          · assumption
          · cases this
        · have := h k hl
          unfold errB at this
          rw [if_neg (by omega)] at this
          split at this
          · assumption
          · cases this
      · intro h k hk
        unfold errB
        by_cases e : k = 0
        · rw [if_pos e, if_pos h.root]
        · rw [if_neg e, if_pos (h.par k (by omega) hk)]
def adj (xs : List Int) (i j : Nat) : Bool := decide (i = j ∨ xs.getD i 0 = (j : Int) ∨ xs.getD j 0 = (i : Int))
theorem adj_iff {xs : List Int} {i j : Nat} : adj xs i j = true ↔ i = j ∨ xs.getD i 0 = (j : Int) ∨ xs.getD j 0 = (i : Int) := by simp [adj]
theorem adj_comm (xs : List Int) (i j : Nat) : adj xs i j = adj xs j i := by
  rw [Bool.eq_iff_iff, adj_iff, adj_iff]
  constructor
  · rintro (h | h | h)
    · exact .inl h.symm
    · exact .inr (.inr h)
    · exact .inr (.inl h)
  · rintro (h | h | h)
    · exact .inl h.symm
    · exact .inr (.inr h)
    · exact .inr (.inl h)
theorem adj_self (xs : List Int) (i : Nat) : adj xs i i = true := by simp [adj]
def hndL (xs : List Int) (i : Nat) : List Nat := (List.range xs.length).filter (adj xs i)
def hmTo (xs : List Int) (k i : Nat) : Nat := maskN ((List.range k).filter fun j => decide (i < k) && adj xs i j)
def hm (xs : List Int) (i : Nat) : Nat := maskN (hndL xs i)
theorem hmTo_bit {xs : List Int} {k i j : Nat} : (hmTo xs k i).testBit j = true ↔ i < k ∧ j < k ∧ adj xs i j = true := by
  unfold hmTo
  rw [mask_bit]
  simp only [List.mem_filter, List.mem_range, Bool.and_eq_true, decide_eq_true_eq]
  constructor
  · rintro ⟨h1, h2, h3⟩; exact ⟨h2, h1, h3⟩
  · rintro ⟨h1, h2, h3⟩; exact ⟨h2, h1, h3⟩
theorem hm_bit {xs : List Int} {i j : Nat} : (hm xs i).testBit j = true ↔ j < xs.length ∧ adj xs i j = true := by
  unfold hm hndL
  rw [mask_bit]
  simp only [List.mem_filter, List.mem_range]
theorem bits_ext {a b : Nat} (h : ∀ j, a.testBit j = true ↔ b.testBit j = true) : a = b :=
  Nat.eq_of_testBit_eq fun j => Bool.eq_iff_iff.2 (h j)
theorem hmTo_all {xs : List Int} {i : Nat} (hi : i < xs.length) : hmTo xs xs.length i = hm xs i := by
  refine bits_ext fun j => ?_
  rw [hmTo_bit, hm_bit]
  exact ⟨fun h => h.2, fun h => ⟨hi, h⟩⟩
theorem hm_lt (xs : List Int) (i : Nat) : hm xs i < 2 ^ xs.length := mask_lt fun x hx => List.mem_range.1 (List.mem_filter.1 hx).1
theorem hmTo_lt {xs : List Int} {k : Nat} (i : Nat) (h : k ≤ 10) : hmTo xs k i < 1024 := Nat.lt_of_lt_of_le (mask_lt fun x hx => List.mem_range.1 (List.mem_filter.1 hx).1) (by show 2 ^ k ≤ 2 ^ 10; exact Nat.pow_le_pow_right (by omega) h)
theorem hm_lt10 {xs : List Int} (h : xs.length ≤ 10) (i : Nat) : hm xs i < 1024 := Nat.lt_of_lt_of_le (hm_lt xs i) (by show 2 ^ xs.length ≤ 2 ^ 10; exact Nat.pow_le_pow_right (by omega) h)
theorem or_bit {a b j : Nat} : (a ||| b).testBit j = true ↔ a.testBit j = true ∨ b.testBit j = true := by rw [Nat.testBit_or, Bool.or_eq_true]
theorem pow_bit {k j : Nat} : (2 ^ k).testBit j = true ↔ k = j := by rw [Nat.testBit_two_pow]; simp
theorem hm_zero {xs : List Int} {k i : Nat} (h : k ≤ i) : hmTo xs k i = 0 := by
  refine bits_ext fun j => ?_
  rw [hmTo_bit, Nat.zero_testBit]
  exact ⟨fun h' => by omega, fun h' => by cases h'⟩
theorem hm_root {xs : List Int} (h : OKS xs) {l : List Nat} (hl : l.length = xs.length) (hv : ∀ i, i < xs.length → l.getD i 0 = hmTo xs 0 i) : ∀ i, i < xs.length → (l.set 0 (l.getD 0 0 ||| 2 ^ 0)).getD i 0 = hmTo xs 1 i := by
  intro i hi
  have h1 := h.one
  rw [getD_set' (by omega)]
  by_cases e : i = 0
  · subst e
    rw [if_pos rfl, hv 0 (by omega)]
    refine bits_ext fun j => ?_
    rw [or_bit, hmTo_bit, hmTo_bit, pow_bit]
    constructor
    · rintro (h2 | h2)
      · omega
      · subst h2; exact ⟨by omega, by omega, adj_self _ _⟩
    · rintro ⟨_, h3, _⟩; exact .inr (by omega)
  · rw [if_neg e, hv i hi, hm_zero (by omega), hm_zero (by omega)]
theorem hm_step {xs : List Int} (h : OKS xs) {k p : Nat} (hk : k < xs.length) (hp : xs.getD k 0 = (p : Int)) (hpk : p < k) {l : List Nat} (hl : l.length = xs.length) (hv : ∀ i, i < xs.length → l.getD i 0 = hmTo xs k i) :
    ∀ i, i < xs.length → (((l.set k (l.getD k 0 ||| 2 ^ k)).set k ((l.set k (l.getD k 0 ||| 2 ^ k)).getD k 0 ||| 2 ^ p)).set p (((l.set k (l.getD k 0 ||| 2 ^ k)).set k ((l.set k (l.getD k 0 ||| 2 ^ k)).getD k 0 ||| 2 ^ p)).getD p 0 ||| 2 ^ k)).getD i 0 = hmTo xs (k + 1) i := by
  have hadj : ∀ j, j < k → (adj xs k j = true ↔ j = p) := by
    intro j hj
    rw [adj_iff, hp]
    constructor
    · rintro (h1 | h1 | h1)
      · omega
      · omega
      · by_cases e : j = 0
        · subst e; rw [h.root] at h1; omega
        · have := (h.par j (by omega) (by omega)).2; omega
    · intro e; subst e; exact .inr (.inl rfl)
  intro i hi
  have hkl : k < l.length := by omega
  have g1 := fun z => getD_set' (z := z) (v := l.getD k 0 ||| 2 ^ k) (a := 0) hkl
  have n1 : (l.set k (l.getD k 0 ||| 2 ^ k)).length = xs.length := by simp [hl]
  generalize l.set k (l.getD k 0 ||| 2 ^ k) = l1 at g1 n1 ⊢
  have g2 := fun z => getD_set' (l := l1) (y := k) (z := z) (v := l1.getD k 0 ||| 2 ^ p) (a := 0) (by omega)
  have n2 : (l1.set k (l1.getD k 0 ||| 2 ^ p)).length = xs.length := by simp [n1]
  generalize l1.set k (l1.getD k 0 ||| 2 ^ p) = l2 at g2 n2 ⊢
  have hpne : ¬ p = k := by omega
  rw [getD_set' (by omega), g2 p, if_neg hpne, g1 p, if_neg hpne, hv p (by omega)]
  by_cases e1 : i = p
  · subst e1
    rw [if_pos rfl]
    refine bits_ext fun j => ?_
    rw [or_bit, hmTo_bit, hmTo_bit, pow_bit]
    constructor
    · rintro (⟨h1, h2, h3⟩ | h1)
      · exact ⟨by omega, by omega, h3⟩
      · subst h1; exact ⟨by omega, by omega, by rw [adj_comm]; exact (hadj i hpk).2 rfl⟩
    · rintro ⟨h1, h2, h3⟩
      by_cases e : j = k
      · exact .inr e.symm
      · exact .inl ⟨hpk, by omega, h3⟩
  · rw [if_neg e1]
    by_cases e2 : i = k
    · subst e2
      rw [g2, if_pos rfl, g1, if_pos rfl, hv i hi, hm_zero (Nat.le_refl _)]
      refine bits_ext fun j => ?_
      rw [or_bit, or_bit, hmTo_bit, pow_bit, pow_bit, Nat.zero_testBit]
      constructor
      · rintro ((h1 | h1) | h1)
        · cases h1
        · subst h1; exact ⟨by omega, by omega, adj_self _ _⟩
        · subst h1; exact ⟨by omega, by omega, (hadj p hpk).2 rfl⟩
      · rintro ⟨h1, h2, h3⟩
        by_cases e : j = i
        · exact .inl (.inr e.symm)
        · exact .inr ((hadj j (by omega)).1 h3).symm
    · rw [g2, if_neg e2, g1, if_neg e2, hv i hi]
      refine bits_ext fun j => ?_
      rw [hmTo_bit, hmTo_bit]
      constructor
      · rintro ⟨h1, h2, h3⟩; exact ⟨by omega, by omega, h3⟩
      · rintro ⟨h1, h2, h3⟩
        have hik : i < k := by omega
        refine ⟨hik, ?_, h3⟩
        by_cases e : j = k
        · subst e
          rw [adj_comm] at h3
          exact absurd ((hadj i hik).1 h3) e1
        · omega
/-! What guards, and what is apart. -/
def hsL (xs : List Int) : List Nat := (List.range xs.length).map (hm xs)
theorem hsL_len (xs : List Int) : (hsL xs).length = xs.length := by simp [hsL]
theorem hsL_get {xs : List Int} {i : Nat} (h : i < xs.length) : (hsL xs).getD i 0 = hm xs i := by
  rw [getD_eq (by rw [hsL_len]; exact h)]; simp [hsL]
def orM (xs : List Int) (l : List Nat) : Nat := l.foldl (fun a p => a ||| hm xs p) 0
theorem orM_snoc (xs : List Int) (l : List Nat) (p : Nat) : orM xs (l ++ [p]) = orM xs l ||| hm xs p := by simp [orM]
theorem orM_from (xs : List Int) : ∀ (l : List Nat) (a j : Nat), (l.foldl (fun a p => a ||| hm xs p) a).testBit j = true ↔ a.testBit j = true ∨ ∃ p ∈ l, (hm xs p).testBit j = true
  | [], a, j => by simp
  | p :: l, a, j => by
    rw [List.foldl_cons, orM_from xs l, or_bit]
    simp only [List.mem_cons, exists_eq_or_imp, or_assoc]
theorem orM_bit {xs : List Int} {l : List Nat} {j : Nat} : (orM xs l).testBit j = true ↔ ∃ p ∈ l, (hm xs p).testBit j = true := by
  rw [orM, orM_from, Nat.zero_testBit]
  simp
theorem orM_lt {xs : List Int} (h : xs.length ≤ 10) (l : List Nat) : orM xs l < 1024 := by
  refine Nat.lt_of_not_le fun hc => ?_
  obtain ⟨j, hj, hb⟩ := Nat.exists_ge_and_testBit_of_ge_two_pow (n := 10) hc
  obtain ⟨p, _, hb2⟩ := orM_bit.1 hb
  have := (hm_bit.1 hb2).1
  omega
def grd (xs : List Int) (l : List Nat) : Bool := (List.range xs.length).all fun i => l.any fun p => adj xs p i
theorem grd_iff {xs : List Int} {l : List Nat} : grd xs l = true ↔ ∀ i, i < xs.length → ∃ p ∈ l, adj xs p i = true := by
  simp [grd]
theorem orM_full {xs : List Int} {l : List Nat} : orM xs l = 2 ^ xs.length - 1 ↔ grd xs l = true := by
  rw [grd_iff]
  constructor
  · intro h i hi
    have : (orM xs l).testBit i = true := by rw [h, Nat.testBit_two_pow_sub_one]; simpa using hi
    obtain ⟨p, hp, hb⟩ := orM_bit.1 this
    exact ⟨p, hp, (hm_bit.1 hb).2⟩
  · intro h
    refine bits_ext fun j => ?_
    rw [orM_bit, Nat.testBit_two_pow_sub_one]
    simp only [decide_eq_true_eq]
    constructor
    · rintro ⟨p, _, hb⟩; exact (hm_bit.1 hb).1
    · intro hj
      obtain ⟨p, hp, hb⟩ := h j hj
      exact ⟨p, hp, hm_bit.2 ⟨hj, hb⟩⟩
def apt (xs : List Int) (l : List Nat) : Bool := decide (l.Pairwise fun a b => hm xs a &&& hm xs b = 0)
theorem and_zero {a b : Nat} : a &&& b = 0 ↔ ∀ j, ¬ (a.testBit j = true ∧ b.testBit j = true) := by
  constructor
  · intro h j hj
    have : (a &&& b).testBit j = true := by rw [Nat.testBit_and, hj.1, hj.2]; rfl
    rw [h, Nat.zero_testBit] at this
    cases this
  · intro h
    refine bits_ext fun j => ?_
    rw [Nat.testBit_and, Bool.and_eq_true, Nat.zero_testBit]
    exact ⟨fun hj => absurd hj (h j), fun hj => (by cases hj)⟩
theorem orM_and {xs : List Int} {l : List Nat} {m : Nat} : orM xs l &&& m = 0 ↔ ∀ p ∈ l, hm xs p &&& m = 0 := by
  rw [and_zero]
  constructor
  · intro h p hp
    rw [and_zero]
    exact fun j hj => h j ⟨orM_bit.2 ⟨p, hp, hj.1⟩, hj.2⟩
  · rintro h j ⟨h1, h2⟩
    obtain ⟨p, hp, hb⟩ := orM_bit.1 h1
    exact and_zero.1 (h p hp) j ⟨hb, h2⟩
theorem apt_snoc {xs : List Int} {l : List Nat} {x : Nat} : (l ++ [x]).Pairwise (fun a b => hm xs a &&& hm xs b = 0) ↔ l.Pairwise (fun a b => hm xs a &&& hm xs b = 0) ∧ orM xs l &&& hm xs x = 0 := by
  rw [List.pairwise_append, orM_and]
  simp
end Go.Proofs.YtcfffhkabhmkmaaDoor.Ps

/- Slices that have at least so much room: cut, appended to within it, cleared. -/
namespace Go.Abs
set_option linter.unusedSectionVars false
variable [Globs]
open Go Go.Mth
set_option linter.unusedVariables false
set_option linter.unusedSimpArgs false
attribute [local irreducible] gOK WS WC WR WD Ends FS YS seqK blockK loopK midK retK rdK asgK rangeEnd sat

/-- The room that is sure. -/
def capR (cp len R : Nat) : Prop := (cp = 2 * 1 ∧ R = len) ∨ (cp = roomCode 1 R ∧ len ≤ R)
theorem capR.le {cp len R : Nat} (h : capR cp len R) : len ≤ R := by rcases h with ⟨_, h⟩ | ⟨_, h⟩ <;> omega

section
variable {C : CW} {nt : Nat} {L : Env} {D : List Nat} {H : Heap} {K : St → Prop} {M M' : HL} {n i d : Nat} {gd : Option (Tmp × Bool)} {lo' : List Nat} {l : List POp}
/-- One element more for a slice of one's own: it can be written then. -/
theorem WR.append1R {j d2 : Nat} {e sz : Nat} {z : List Value} {s x : Operand} {v y : Value} {cs new : List Value} {Mx T : HL} (hd : Nat.blt d nt = true) (hd2 : Nat.blt d2 nt = true)
    (hx : ev L x = some y) (hs : ev ((d, .slice (some ⟨n, 0, some 0⟩) 1 (2 * 1 + 1)) :: L) s = some v) (hO : Own e sz v cs Mx) (hH : hasH (Mx ++ T) n H)
    (hc : Instr.fill (fun j => some (j * sz, sz)) z.toArray [(0, y)] = some new.toArray) (hone : new.all one = true) (hl : new.length = sz) (hs1 : 1 ≤ sz) (hs2 : sz ≤ 1000) (hsm : cs.length + new.length ≤ 100000)
    (kk : ∀ v' Mx' n' H', OwnR e sz v' (cs ++ new) Mx' → hasH (Mx' ++ T) n' H' → n ≤ n' → WR C nt l ((d2, v') :: (d, .slice (some ⟨n, 0, some 0⟩) 1 (2 * 1 + 1)) :: L) D H' K) :
    WR C nt (⟨i, some d, .bldS e sz z 1 [(0, x)], none, []⟩ :: ⟨j, some d2, .append e sz s (.tmp d), none, lo'⟩ :: l) L D H K := by
  refine WR.bldS gN hd hH (vs := [(0, y)]) (by simp only [evp, hx]) hc hone fun H1 hH1 => ?_
  have hx2 : srcCells H1 sz 1 (.slice (some ⟨n, 0, some 0⟩) 1 (2 * 1 + 1)) = some new := by
    have := hH1.readN (b := n) (u := 0) (lo := 0) (o := 0) (k := 1 * sz) (ch := .row e 0 0 new) (cs := new) (by simp) (.row _ _ _ _) (Nat.le_refl _) (by omega)
    have hk : (new.drop (0 - 0)).take (1 * sz) = new := by rw [Nat.one_mul, ← hl]; simp
    simp only [srcCells, this, hk]
  obtain ⟨v', Mx', n', H', q1, q2, q3, q4⟩ := append_ownR (P := C.c.P) hO hH1.tail rfl hx2 (by omega) (Nat.le_refl _) hone hs1 hs2 hsm
  have hy : ev ((d, .slice (some ⟨n, 0, some 0⟩) 1 (2 * 1 + 1)) :: L) (.tmp d) = some (.slice (some ⟨n, 0, some 0⟩) 1 (2 * 1 + 1)) := by simp [ev, Env.get]
  refine WR.op gN hd2 (H' := H') (v := v') (fun t ht => ?_) (kk v' Mx' n' H' q2 q3 (by omega))
  simp only [opA, ev_ok ht hs, ev_ok ht hy, q1]

theorem WR.append1RF {j d2 : Nat} {e sz : Nat} {z : List Value} {s x : Operand} {v y : Value} {cs new : List Value} (F Mx T : HL) (hd : Nat.blt d nt = true) (hd2 : Nat.blt d2 nt = true)
    (hx : ev L x = some y) (hs : ev ((d, .slice (some ⟨n, 0, some 0⟩) 1 (2 * 1 + 1)) :: L) s = some v) (hO : Own e sz v cs Mx) (hH : hasH (F ++ (Mx ++ T)) n H)
    (hc : Instr.fill (fun j => some (j * sz, sz)) z.toArray [(0, y)] = some new.toArray) (hone : new.all one = true) (hl : new.length = sz) (hs1 : 1 ≤ sz) (hs2 : sz ≤ 1000) (hsm : cs.length + new.length ≤ 100000)
    (kk : ∀ v' Mx' n' H', OwnR e sz v' (cs ++ new) Mx' → hasH (F ++ (Mx' ++ T)) n' H' → n ≤ n' → WR C nt l ((d2, v') :: (d, .slice (some ⟨n, 0, some 0⟩) 1 (2 * 1 + 1)) :: L) D H' K) :
    WR C nt (⟨i, some d, .bldS e sz z 1 [(0, x)], none, []⟩ :: ⟨j, some d2, .append e sz s (.tmp d), none, lo'⟩ :: l) L D H K :=
  WR.append1R hd hd2 hx hs hO hH.pull hc hone hl hs1 hs2 hsm fun v' Mx' n' H' q1 q2 q3 => kk v' Mx' n' H' q1 q2.push q3
end
end Go.Abs

/- Appending to a slice that is read again afterwards. -/
namespace Go.Abs
set_option linter.unusedSectionVars false
variable [Globs]
open Go
set_option linter.unusedVariables false
section
variable {C : CW} {nt : Nat} {L : Env} {D : List Nat} {H : Heap} {K : St → Prop} {M M' : HL} {n i d : Nat} {gd : Option (Tmp × Bool)} {lo : List Nat} {l : List POp} {rs : List Rd}
theorem WD.bldS {e sz k : Nat} {z : List Value} {ps : List (Nat × Operand)} {vs : List (Nat × Value)} {cs : List Value} (hg : gOK L gd) (hd : Nat.blt d nt = true) (hH : hasH M n H) (hp : evp L ps = some vs)
    (hc : Instr.fill (fun j => some (j * sz, sz)) z.toArray vs = some cs.toArray) (hz : cs.all one = true)
    (hs : ∀ H', hasH ((n, .row e 0 0 cs) :: M) (n + 1) H' → stands H' lo rs = true)
    (kk : ∀ H', hasH ((n, .row e 0 0 cs) :: M) (n + 1) H' → WD C nt l rs ((d, .slice (some ⟨n, 0, some 0⟩) k (2 * k + 1)) :: L) D H' K) : WD C nt (⟨i, some d, .bldS e sz z k ps, gd, lo⟩ :: l) rs L D H K := by
  have h2 := hH.row e hz
  refine WD.op hg hd (H' := H.row e cs) (v := .slice (some ⟨n, 0, some 0⟩) k (2 * k + 1)) (fun t ht => ?_) rfl (hs _ h2) (kk _ h2)
  simp only [opA, evp_ok ht hp, hc, oBldS, newAddr, hH.next]
end
section
variable {C : CW} {nt : Nat} {L : Env} {D : List Nat} {H : Heap} {K : St → Prop} {M M' : HL} {n i d : Nat} {gd : Option (Tmp × Bool)} {lo : List Nat} {l : List POp} {rs : List Rd}
end
attribute [local irreducible] gOK WS WC WR WD Ends FS YS OpV seqK blockK loopK midK retK rdK asgK rangeEnd sat Cell
end Go.Abs

/- Stacks: slices that are appended to and cut short. -/
namespace Go.Abs
set_option linter.unusedSectionVars false
variable [Globs]
open Go Go.Mth
set_option linter.unusedVariables false
set_option linter.unusedSimpArgs false
attribute [local irreducible] gOK WS WC WR WD Ends FS YS seqK blockK loopK midK retK rdK asgK rangeEnd sat

/-- A stack: nothing, or the first cells of a row of one's own. -/
inductive StkO (e : Nat) : Value → List Value → HL → Prop where
  | nil : StkO e (.slice none 0 0) [] []
  | mk {b u o len cp : Nat} {S cs : List Value} (hl : S.length = len) (hS : S = cs.take len) (hc : capR cp len cs.length) (hb : cs.length ≤ 10000) : StkO e (.slice (some ⟨b, o, some u⟩) len cp) S [(b, .row e u o cs)]

theorem capR.cap {cp len R : Nat} (h : capR cp len R) : cp = 2 * 1 ∨ ∃ r, cp = roomCode 1 r ∧ len ≤ r := by
  rcases h with ⟨h, _⟩ | ⟨h, h2⟩
  · exact .inl h
  · exact .inr ⟨R, h, h2⟩
theorem StkO.sl {e : Nat} {v : Value} {S : List Value} {Mx : HL} (h : StkO e v S Mx) (M : HL) : Sl (Mx ++ M) 1 v S := by
  cases h with
  | nil => exact .nil 0
  | mk hl hS hc hb =>
    rename_i b u o len cp cs
    have := hc.le
    refine .row (ch := .row e u o cs) (cs := cs) (.head _) (.row _ _ _ _) (Nat.le_refl _) (by omega) ?_ (by omega) (.inl hc.cap)
    rw [Nat.sub_self, List.drop_zero, hl]; exact hS.symm
theorem StkO.one_ {e : Nat} {v : Value} {S : List Value} {Mx : HL} (h : StkO e v S Mx) : one v = true := (h.sl []).one_
theorem Own.stk {e : Nat} {v : Value} {S : List Value} {Mx : HL} (h : OwnR e 1 v S Mx) (hb : S.length ≤ 10000) : StkO e v S Mx := by
  cases h with
  | mk hl => rw [Nat.mul_one] at hl; exact .mk hl (by rw [← hl, List.take_length]) (.inl ⟨rfl, hl⟩) hb
section
variable {C : CW} {nt : Nat} {L : Env} {D : List Nat} {H : Heap} {K : St → Prop} {M M' : HL} {n i d : Nat} {gd : Option (Tmp × Bool)} {lo' : List Nat} {l : List POp}
/-- A row that is full is turned, whatever is known of its room. -/
theorem app_room {e len : Nat} {a : Addr} {x : Value} {H : Heap} (h1 : srcLen x = some 1) : appendA e 1 H (.slice (some a) len (roomCode 1 len)) x = appendA e 1 H (.slice (some a) len (2 * 1)) x := by
  have hb : Nat.ble (len + 1) len = false := by
    cases hb : Nat.ble (len + 1) len with
    | false => rfl
    | true => have := Nat.le_of_ble_eq_true hb; omega
  have hb0 : Nat.beq 1 0 = false := rfl
  simp only [appendA, h1]
  cases srcCells H 1 1 x with
  | none => rfl
  | some new =>
    simp only [appWith, capOf_room a (show 1 ≤ 1000 by decide), capOf_open a (show 1 ≤ 1000 by decide), Nat.beq_refl, cond_true, hb, hb0, cond_false]
theorem stk_push {P : Program} {e n : Nat} {v x y : Value} {S : List Value} {Mx M : HL} {H : Heap} (hO : StkO e v S Mx) (hH : hasH (Mx ++ M) n H) (hk : srcLen x = some 1) (hx : srcCells H 1 1 x = some [y]) (hone : one y = true) (hsm : S.length ≤ 9000) :
    ∃ v' Mx' n' H', appendA e 1 H v x = .val v' H' ∧ StkO e v' (S ++ [y]) Mx' ∧ hasH (Mx' ++ M) n' H' ∧ n ≤ n' := by
  have h1 : [y].all one = true := by simp [hone]
  cases hO with
  | nil =>
    obtain ⟨v', Mx', n', H', q1, q2, q3, q4⟩ := append_ownR (P := P) (Own.nil (e := e) (sz := 1)) hH hk hx rfl (Nat.le_refl _) h1 (Nat.le_refl _) (by decide) (by simp)
    exact ⟨v', Mx', n', H', q1, Own.stk q2 (by simp), q3, q4⟩
  | mk hl hS hc hb =>
    rename_i b u o len cp cs
    have hle := hc.le
    by_cases hf : len = cs.length
    · have hSc : S = cs := by rw [hS, hf, List.take_length]
      subst hSc
      obtain ⟨v', Mx', n', H', q1, q2, q3, q4⟩ := append_ownR (P := P) (Own.row (e := e) (b := b) (u := u) (o := o) (len := len) (sz := 1) (cs := S) (by omega)) hH hk hx rfl (Nat.le_refl _) h1 (Nat.le_refl _) (by decide) (by simp; omega)
      refine ⟨v', Mx', n', H', ?_, Own.stk q2 (by simp; omega), q3, q4⟩
      rcases hc with ⟨rfl, _⟩ | ⟨rfl, _⟩
      · exact q1
      · rw [← hf, app_room hk]; exact q1
    · have hlt : len < cs.length := by omega
      rcases hc with ⟨_, h2⟩ | ⟨rfl, _⟩
      · omega
      · have hcs : cs.set len y = splice cs (o + len - o) [y] := by
          rw [show o + len - o = len by omega, splice_one hlt]
        have hH2 : hasH ((b, .row e u o cs) :: M) n H := hH
        obtain ⟨H', h5, h6⟩ := hH2.writeN (M' := (b, .row e u o (cs.set len y)) :: M) (l := [y]) .here h1 (Nat.le_add_right o len) (by simp; omega) hcs
        refine ⟨.slice (some ⟨b, o, some u⟩) (len + 1) (roomCode 1 cs.length), [(b, .row e u o (cs.set len y))], n, H', ?_, ?_, h6, Nat.le_refl _⟩
        · have hb2 : Nat.ble (len + 1) cs.length = true := Nat.ble_eq_true_of_le hlt
          have hb0 : Nat.beq 1 0 = false := rfl
          simp only [appendA, hk, hx, appWith, capOf_room _ (show 1 ≤ 1000 by decide), Nat.beq_refl, cond_true, hb0, hb2, cond_false, appIn, Addr.plus, Nat.mul_one, h5]
        · refine .mk (by simp [hl]) ?_ (.inr ⟨by rw [List.length_set], by rw [List.length_set]; omega⟩) (by rw [List.length_set]; exact hb)
          rw [hS]
          refine List.ext_getElem (by simp; omega) fun j hj1 hj2 => ?_
          simp only [List.length_append, List.length_take, List.length_singleton] at hj1
          rw [List.getElem_take, List.getElem_set]
          by_cases hj : j = len
          · subst hj
            rw [List.getElem_append_right (by simp; omega)]; simp
          · rw [List.getElem_append_left (by simp; omega), List.getElem_take, if_neg fun h => hj h.symm]
/-- One more on top. -/
theorem WR.push {j d2 e : Nat} {z : List Value} {s x : Operand} {v y : Value} {S : List Value} (F Mx T : HL) (hd : Nat.blt d nt = true) (hd2 : Nat.blt d2 nt = true)
    (hx : ev L x = some y) (hs : ev ((d, .slice (some ⟨n, 0, some 0⟩) 1 (2 * 1 + 1)) :: L) s = some v) (hO : StkO e v S Mx) (hH : hasH (F ++ (Mx ++ T)) n H)
    (hc : Instr.fill (fun j => some (j * 1, 1)) z.toArray [(0, y)] = some [y].toArray) (hone : one y = true) (hsm : S.length ≤ 9000)
    (kk : ∀ v' Mx' n' H', StkO e v' (S ++ [y]) Mx' → hasH (F ++ (Mx' ++ T)) n' H' → n ≤ n' → WR C nt l ((d2, v') :: (d, .slice (some ⟨n, 0, some 0⟩) 1 (2 * 1 + 1)) :: L) D H' K) :
    WR C nt (⟨i, some d, .bldS e 1 z 1 [(0, x)], none, []⟩ :: ⟨j, some d2, .append e 1 s (.tmp d), none, lo'⟩ :: l) L D H K := by
  have hH := hH.pull
  have h1 : [y].all one = true := by simp [hone]
  refine WR.bldS gN hd hH (vs := [(0, y)]) (by simp only [evp, hx]) hc h1 fun H1 hH1 => ?_
  have hx2 : srcCells H1 1 1 (.slice (some ⟨n, 0, some 0⟩) 1 (2 * 1 + 1)) = some [y] := by
    have := hH1.readN (b := n) (u := 0) (lo := 0) (o := 0) (k := 1 * 1) (ch := .row e 0 0 [y]) (cs := [y]) (by simp) (.row _ _ _ _) (Nat.le_refl _) (by simp)
    simp only [srcCells, this]; rfl
  obtain ⟨v', Mx', n', H', q1, q2, q3, q4⟩ := stk_push (P := C.c.P) hO hH1.tail rfl hx2 hone hsm
  have hy : ev ((d, .slice (some ⟨n, 0, some 0⟩) 1 (2 * 1 + 1)) :: L) (.tmp d) = some (.slice (some ⟨n, 0, some 0⟩) 1 (2 * 1 + 1)) := by simp [ev, Env.get]
  refine WR.op gN hd2 (H' := H') (v := v') (fun t ht => ?_) (kk v' Mx' n' H' q2 q3.push (by omega))
  simp only [opA, ev_ok ht hs, ev_ok ht hy, q1]
end
end Go.Abs

/- Operations under a guard in regions that draw; sums of numbers that are not negative. -/
namespace Go.Abs
set_option linter.unusedSectionVars false
variable [Globs]
open Go
set_option linter.unusedVariables false
section
variable {C : CW} {nt : Nat} {L : Env} {D : List Nat} {H : Heap} {K : St → Prop} {M M' : HL} {n i d : Nat} {gd : Option (Tmp × Bool)} {lo : List Nat} {l : List POp} {rs : List Rd}
theorem WD.guardF {g : Nat} {q : Bool} {op : AOp} (hg : Env.get L g = some (.bool (!q))) (hd : Nat.blt d nt = true) (hs : stands H lo rs = true) (k : WD C nt l rs ((d, undef) :: L) D H K) :
    WD C nt (⟨i, some d, op, some (g, q), lo⟩ :: l) rs L D H K := by
  intro t ht
  obtain ⟨m, s', h1, h2⟩ := k _ (ht.put d undef)
  have hw : wantedA t ⟨i, some d, op, some (g, q), lo⟩ = false := by cases q <;> simp [wantedA, ht g _ hg]
  exact ⟨m, s', by simp only [stepOpsD, doOp, noteRd, hw, cond_false, putT, hd, cond_true, stOf, hs]; exact h1, h2⟩
theorem WD.guardU {g : Nat} {q : Bool} {op : AOp} (hg : Env.get L g = some undef) (hd : Nat.blt d nt = true) (hs : stands H lo rs = true) (k : WD C nt l rs ((d, undef) :: L) D H K) :
    WD C nt (⟨i, some d, op, some (g, q), lo⟩ :: l) rs L D H K := by
  intro t ht
  obtain ⟨m, s', h1, h2⟩ := k _ (ht.put d undef)
  have hw : wantedA t ⟨i, some d, op, some (g, q), lo⟩ = false := by simp only [wantedA, ht g _ hg]; rfl
  exact ⟨m, s', by simp only [stepOpsD, doOp, noteRd, hw, cond_false, putT, hd, cond_true, stOf, hs]; exact h1, h2⟩
theorem OpV.addN {k : IntKind} {x y : Operand} {a b : Nat} (hx : ev L x = some (.int k (a : Int))) (hy : ev L y = some (.int k (b : Int))) (h : a + b < capK k) : OpV C (.ibin .add k x y) L H (.int k ((a + b : Nat) : Int)) H :=
  OpV.arith hx hy (by
    have := wrap_cap h
    rw [Int.natCast_add] at this
    simp only [ibinA, fitI_wrap, this, Int.natCast_add])
end
end Go.Abs

/- Functions of the library; a shore's check, and that of places. -/
namespace Go.Proofs.YtcfffhkabhmkmaaDoor.Ps
open Go Go.Abs Go.Mth
set_option linter.unusedVariables false
set_option linter.unusedSimpArgs false
theorem nodes_IL (l : List Nat) : nodes l = ints (IL l) := by simp [nodes, ints, IL]
def errP (n : Nat) (o : List Int) (k : Nat) : Int := if o.getD k 0 < 0 ∨ (n : Int) ≤ o.getD k 0 then 2 else if 0 < k ∧ o.getD k 0 ≤ o.getD (k - 1) 0 then 7 else 0
def errL (xs o : List Int) : Int := if errS xs ≠ 0 then errS xs else firstE (errP xs.length o) o.length
theorem errL_zero {xs o : List Int} : errL xs o = 0 ↔ OKS xs ∧ ∃ l : List Nat, o = IL l ∧ AscN xs.length l := by
  unfold errL
  by_cases h0 : errS xs = 0
  · rw [if_neg (by omega), firstE_zero]
    have hok := errS_zero.1 h0
    constructor
    · intro h
      have key : ∀ i, i < o.length → (0 ≤ o.getD i 0 ∧ o.getD i 0 < xs.length) ∧ (0 < i → o.getD (i - 1) 0 < o.getD i 0) := by
        intro i hi
        have := h i hi
        unfold errP at this
        split at this
        · cases this
        · split at this
          · cases this
          · exact ⟨by omega, by omega⟩
      refine ⟨hok, o.map Int.toNat, ?_, ?_, ?_⟩
      · refine List.ext_getElem (by simp [IL]) fun i hi h2 => ?_
        have := (key i hi).1
        rw [getD_eq hi] at this
        simp [IL]; omega
      · have mono : ∀ d i, i + d + 1 < o.length → o.getD i 0 < o.getD (i + d + 1) 0 := by
          intro d
          induction d with
          | zero => intro i hi; have := (key (i + 1) hi).2 (by omega); simpa using this
          | succ d ih => intro i hi; have := (key (i + (d + 1) + 1) hi).2 (by omega); have := ih i (by omega); simp only [Nat.add_sub_cancel] at *; rw [show i + (d + 1) = i + d + 1 by omega] at *; omega
        rw [List.pairwise_iff_getElem]
        intro i j hi hj hij
        simp only [List.length_map] at hi hj
        simp only [List.getElem_map]
        have h1 := mono (j - i - 1) i (by omega)
        rw [show i + (j - i - 1) + 1 = j by omega, getD_eq hi, getD_eq hj] at h1
        have h2 := (key i hi).1
        rw [getD_eq hi] at h2
        omega
      · intro x hx
        obtain ⟨y, hy, rfl⟩ := List.mem_map.1 hx
        obtain ⟨i, hi, rfl⟩ := List.mem_iff_getElem.1 hy
        have := (key i hi).1
        rw [getD_eq hi] at this
        omega
    · rintro ⟨_, l, rfl, hl⟩ i hi
      rw [IL_len] at hi
      have h1 := hl.lt _ (getD_mem (a := 0) hi)
      unfold errP
      rw [IL_get hi, if_neg (by omega), if_neg]
      rintro ⟨hp, hle⟩
      rw [IL_get (by omega)] at hle
      have := List.pairwise_iff_getElem.1 hl.asc (i - 1) i (by omega) hi (by omega)
      rw [getD_eq hi, getD_eq (by omega)] at hle
      omega
  · rw [if_pos h0]
    exact ⟨fun h => absurd h h0, fun h => absurd (errS_zero.2 h.1) h0⟩
attribute [local irreducible] gOK WS WC WR WD Ends FS YS OpV seqK blockK loopK midK retK rdK asgK rangeEnd sat Cell
section
variable {M : HL} {n0 : Nat} {H : Heap} {v w : Value}
theorem isPlace_fs (hH : hasH M n0 H) {xs : List Int} (hS : Sl M 1 v (ints xs)) (a : Int) :
    FS C 45 [v, .int .i64 a] H (fun e H' => H' = H ∧ e = .bool (decide (0 ≤ a ∧ a < xs.length))) := by
  refine FS.intro (pf := pf45) rfl rfl rfl ?_
  repeat' (first | refine zP ?_ | refine zA ?_ | (refine zM ?_; intro _ _) | refine zX ?_ | (refine zC ?_; intro _ _ _ _) | (refine zS ?_; intro _ _) | (apply Ws <;> intro hg))
  · exact Ends.ret1 rfl ⟨rfl, by congr 1; rw [decide_eq_decide]; omega⟩
  · exact Ends.ret1 rfl ⟨rfl, by rw [decide_eq_false (by omega)]⟩
theorem isBehind_fs (a : Int) (k : Nat) (H : Heap) :
    FS C 57 [.int .i64 a, .int .i64 (k : Int)] H (fun e H' => H' = H ∧ e = .bool (decide ((k = 0 ∧ a = -1) ∨ (k ≠ 0 ∧ 0 ≤ a ∧ a < k)))) := by
  refine FS.intro (pf := pf57) rfl rfl rfl ?_
  repeat' (first | refine zP ?_ | refine zA ?_ | (refine zM ?_; intro _ _) | refine zX ?_ | (refine zC ?_; intro _ _ _ _) | (refine zS ?_; intro _ _) | (apply Ws <;> intro hg))
  refine WC.condP rfl (fun h0 => ?_) (fun h0 => ?_)
  · repeat' (first | refine zP ?_ | refine zA ?_ | (refine zM ?_; intro _ _) | refine zX ?_ | (refine zC ?_; intro _ _ _ _) | (refine zS ?_; intro _ _) | (apply Ws <;> intro hg))
    exact Ends.ret1 rfl ⟨rfl, by congr 1; rw [decide_eq_decide]; omega⟩
  · repeat' (first | refine zP ?_ | refine zA ?_ | (refine zM ?_; intro _ _) | refine zX ?_ | (refine zC ?_; intro _ _ _ _) | (refine zS ?_; intro _ _) | (apply Ws <;> intro hg))
    · exact Ends.ret1 rfl ⟨rfl, by congr 1; rw [decide_eq_decide]; omega⟩
    · exact Ends.ret1 rfl ⟨rfl, by rw [decide_eq_false (by omega)]⟩
theorem Check_fs (hH : hasH M n0 H) {xs : List Int} (hS : Sl M 1 v (ints xs)) (hx : xs.length ≤ 100000) :
    FS C 34 [v] H (fun e H' => H' = H ∧ e = .int .i64 (errS xs)) := by
  have hv := hS.one_
  refine FS.intro (pf := pf34) rfl rfl rfl ?_
  repeat' (first | refine zP ?_ | refine zA ?_ | (refine zM ?_; intro _ _) | refine zX ?_ | (refine zC ?_; intro _ _ _ _) | (refine zS ?_; intro _ _) | (apply Ws <;> intro hg))
  refine WC.condP rfl (fun h0 => ?_) (fun h0 => ?_)
  · repeat' (first | refine zP ?_ | refine zA ?_ | (refine zM ?_; intro _ _) | refine zX ?_ | (refine zC ?_; intro _ _ _ _) | (refine zS ?_; intro _ _) | (apply Ws <;> intro hg))
    refine Ends.ret1 rfl ⟨rfl, ?_⟩
    unfold errS; rw [if_pos (by omega)]
  · repeat' (first | refine zP ?_ | refine zA ?_ | (refine zM ?_; intro _ _) | refine zX ?_ | (refine zC ?_; intro _ _ _ _) | (refine zS ?_; intro _ _) | (apply Ws <;> intro hg))
    refine WC.condP rfl (fun h7 => ?_) (fun h7 => ?_)
    · repeat' (first | refine zP ?_ | refine zA ?_ | (refine zM ?_; intro _ _) | refine zX ?_ | (refine zC ?_; intro _ _ _ _) | (refine zS ?_; intro _ _) | (apply Ws <;> intro hg))
      refine Ends.ret1 rfl ⟨rfl, ?_⟩
      unfold errS; rw [if_neg (by omega), if_pos (by omega)]
    · repeat' (first | refine zP ?_ | refine zA ?_ | (refine zM ?_; intro _ _) | refine zX ?_ | (refine zC ?_; intro _ _ _ _) | (refine zS ?_; intro _ _) | (apply Ws <;> intro hg))
      refine WC.loopX [(0, v), (10, v), (11, .int .i64 (xs.length : Int))] (fun k : Nat => [(12, .int .i64 (k : Int))]) [] (fun k H' => H' = H ∧ k ≤ xs.length ∧ firstE (errB xs) k = 0) (fun k => xs.length - k) 0 (by repeat' (first | exact .nil | refine .cons rfl ?_)) rfl ⟨rfl, Nat.zero_le _, rfl⟩ ?_
      rintro k H' ⟨rfl, hk, hz⟩
      dsimp only [List.cons_append, List.nil_append]
      repeat' (first | refine zP ?_ | refine zA ?_ | (refine zM ?_; intro _ _) | refine zX ?_ | (refine zC ?_; intro _ _ _ _) | (refine zS ?_; intro _ _) | (apply Ws <;> intro hg))
      refine WC.condP rfl (fun hlt => ?_) (fun hlt => ?_)
      · have hk' : k < xs.length := by omega
        repeat' (first | refine zP ?_ | refine zA ?_ | (refine zM ?_; intro _ _) | refine zX ?_ | (refine zC ?_; intro _ _ _ _) | (refine zS ?_; intro _ _) | (apply Ws <;> intro hg))
        refine WR.call (by first | exact gN | exact gS rfl) rfl rfl (isBehind_fs _ _ _) ?_
        rintro _ _ ⟨rfl, rfl⟩
        repeat' (first | refine zP ?_ | refine zA ?_ | (refine zM ?_; intro _ _) | refine zX ?_ | (refine zC ?_; intro _ _ _ _) | (refine zS ?_; intro _ _) | (apply Ws <;> intro hg))
        refine WC.condP rfl (fun hp => ?_) (fun hp => ?_)
        · repeat' (first | refine zP ?_ | refine zA ?_ | (refine zM ?_; intro _ _) | refine zX ?_ | (refine zC ?_; intro _ _ _ _) | (refine zS ?_; intro _ _) | (apply Ws <;> intro hg))
          refine Ends.ret1 rfl ⟨rfl, ?_⟩
          have h1 : errB xs k = 2 := by
            unfold errB
            by_cases e : k = 0
            · subst e; rw [if_pos rfl, if_neg (by omega)]
            · rw [if_neg e, if_neg (by omega)]
          unfold errS; rw [if_neg (by omega), if_neg (by omega), firstE_at hz (by rw [h1]; decide) hk', h1]
        · repeat' (first | refine zP ?_ | refine zA ?_ | (refine zM ?_; intro _ _) | refine zX ?_ | (refine zC ?_; intro _ _ _ _) | (refine zS ?_; intro _ _) | (apply Ws <;> intro hg))
          refine Ends.loop (k + 1) (by omega) (by repeat' (first | exact .nil | refine .cons rfl ?_)) rfl ⟨rfl, hk', firstE_succ hz ?_⟩
          unfold errB
          by_cases e : k = 0
          · subst e; rw [if_pos rfl, if_pos (by omega)]
          · rw [if_neg e, if_pos (by omega)]
      · have hkn : k = xs.length := by omega
        subst hkn
        repeat' (first | refine zP ?_ | refine zA ?_ | (refine zM ?_; intro _ _) | refine zX ?_ | (refine zC ?_; intro _ _ _ _) | (refine zS ?_; intro _ _) | (apply Ws <;> intro hg))
        refine Ends.ret1 rfl ⟨rfl, ?_⟩
        unfold errS; rw [if_neg (by omega), if_neg (by omega), hz]
theorem checkPlaces_fs (hH : hasH M n0 H) {xs o : List Int} (hS : Sl M 1 v (ints xs)) (hx : xs.length ≤ 100000) (hU : Sl M 1 w (ints o)) (ho : o.length ≤ 100000) :
    FS C 38 [v, w] H (fun e H' => H' = H ∧ e = .int .i64 (errL xs o)) := by
  have hv := hS.one_
  have hw := hU.one_
  refine FS.intro (pf := pf38) rfl rfl rfl ?_
  repeat' (first | refine zP ?_ | refine zA ?_ | (refine zM ?_; intro _ _) | refine zX ?_ | (refine zC ?_; intro _ _ _ _) | (refine zS ?_; intro _ _) | (apply Ws <;> intro hg))
  refine WR.call (by first | exact gN | exact gS rfl) rfl rfl (Check_fs hH hS hx) ?_
  rintro _ H1 ⟨rfl, rfl⟩
  repeat' (first | refine zP ?_ | refine zA ?_ | (refine zM ?_; intro _ _) | refine zX ?_ | (refine zC ?_; intro _ _ _ _) | (refine zS ?_; intro _ _) | (apply Ws <;> intro hg))
  refine WC.condP rfl (fun h0 => ?_) (fun h0 => ?_)
  · repeat' (first | refine zP ?_ | refine zA ?_ | (refine zM ?_; intro _ _) | refine zX ?_ | (refine zC ?_; intro _ _ _ _) | (refine zS ?_; intro _ _) | (apply Ws <;> intro hg))
    refine Ends.ret1 rfl ⟨rfl, ?_⟩
    unfold errL; rw [if_pos h0]
  · repeat' (first | refine zP ?_ | refine zA ?_ | (refine zM ?_; intro _ _) | refine zX ?_ | (refine zC ?_; intro _ _ _ _) | (refine zS ?_; intro _ _) | (apply Ws <;> intro hg))
    refine WC.loopX [(0, v), (1, w), (13, w), (14, .int .i64 (o.length : Int))] (fun k : Nat => [(15, .int .i64 (k : Int))]) [] (fun k H' => H' = H1 ∧ k ≤ o.length ∧ firstE (errP xs.length o) k = 0) (fun k => o.length - k) 0 (by repeat' (first | exact .nil | refine .cons rfl ?_)) rfl ⟨rfl, Nat.zero_le _, rfl⟩ ?_
    rintro k H' ⟨rfl, hk, hz⟩
    dsimp only [List.cons_append, List.nil_append]
    repeat' (first | refine zP ?_ | refine zA ?_ | (refine zM ?_; intro _ _) | refine zX ?_ | (refine zC ?_; intro _ _ _ _) | (refine zS ?_; intro _ _) | (apply Ws <;> intro hg))
    refine WC.condP rfl (fun hlt => ?_) (fun hlt => ?_)
    · have hk' : k < o.length := by omega
      repeat' (first | refine zP ?_ | refine zA ?_ | (refine zM ?_; intro _ _) | refine zX ?_ | (refine zC ?_; intro _ _ _ _) | (refine zS ?_; intro _ _) | (apply Ws <;> intro hg))
      refine WR.call (by first | exact gN | exact gS rfl) rfl rfl (isPlace_fs hH hS _) ?_
      rintro _ _ ⟨rfl, rfl⟩
      repeat' (first | refine zP ?_ | refine zA ?_ | (refine zM ?_; intro _ _) | refine zX ?_ | (refine zC ?_; intro _ _ _ _) | (refine zS ?_; intro _ _) | (apply Ws <;> intro hg))
      refine WC.condP rfl (fun hp => ?_) (fun hp => ?_)
      · repeat' (first | refine zP ?_ | refine zA ?_ | (refine zM ?_; intro _ _) | refine zX ?_ | (refine zC ?_; intro _ _ _ _) | (refine zS ?_; intro _ _) | (apply Ws <;> intro hg))
        refine Ends.ret1 rfl ⟨rfl, ?_⟩
        have h1 : errP xs.length o k = 2 := by unfold errP; rw [if_pos (by omega)]
        unfold errL; rw [if_neg h0, firstE_at hz (by rw [h1]; decide) hk', h1]
      · have hpl : ¬ (o.getD k 0 < 0 ∨ (xs.length : Int) ≤ o.getD k 0) := by omega
        rcases Nat.eq_zero_or_pos k with rfl | hk0
        · repeat' (first | refine zP ?_ | refine zA ?_ | (refine zM ?_; intro _ _) | refine zX ?_ | (refine zC ?_; intro _ _ _ _) | (refine zS ?_; intro _ _) | refine zO ?_ | (apply Ws <;> intro hg))
          refine Ends.loop 1 (by omega) (by repeat' (first | exact .nil | refine .cons rfl ?_)) rfl ⟨rfl, by omega, firstE_succ hz ?_⟩
          unfold errP; rw [if_neg hpl, if_neg (by omega)]
        · obtain ⟨j, rfl⟩ : ∃ j, k = j + 1 := ⟨k - 1, by omega⟩
          repeat' (first | refine zP ?_ | refine zA ?_ | (refine zM ?_; intro _ _) | refine zX ?_ | (refine zC ?_; intro _ _ _ _) | (refine zS ?_; intro _ _) | refine zO ?_ | (apply Ws <;> intro hg))
          have e1 : j + 1 - 1 = j := by omega
          refine WC.condP rfl (fun hle => ?_) (fun hle => ?_)
          · repeat' (first | refine zP ?_ | refine zA ?_ | (refine zM ?_; intro _ _) | refine zX ?_ | (refine zC ?_; intro _ _ _ _) | (refine zS ?_; intro _ _) | (apply Ws <;> intro hg))
            refine Ends.ret1 rfl ⟨rfl, ?_⟩
            have h1 : errP xs.length o (j + 1) = 7 := by unfold errP; rw [if_neg hpl, if_pos (by omega)]
            unfold errL; rw [if_neg h0, firstE_at hz (by rw [h1]; decide) hk', h1]
          · repeat' (first | refine zP ?_ | refine zA ?_ | (refine zM ?_; intro _ _) | refine zX ?_ | (refine zC ?_; intro _ _ _ _) | (refine zS ?_; intro _ _) | (apply Ws <;> intro hg))
            refine Ends.loop (j + 1 + 1) (by omega) (by repeat' (first | exact .nil | refine .cons rfl ?_)) rfl ⟨rfl, hk', firstE_succ hz ?_⟩
            unfold errP; rw [if_neg hpl, if_neg (by omega)]
    · have hkn : k = o.length := by omega
      subst hkn
      repeat' (first | refine zP ?_ | refine zA ?_ | (refine zM ?_; intro _ _) | refine zX ?_ | (refine zC ?_; intro _ _ _ _) | (refine zS ?_; intro _ _) | (apply Ws <;> intro hg))
      refine Ends.ret1 rfl ⟨rfl, ?_⟩
      unfold errL; rw [if_neg h0, hz]
end
end Go.Proofs.YtcfffhkabhmkmaaDoor.Ps

/- What is at hand of each place; what guards, what is apart. -/
namespace Go.Proofs.YtcfffhkabhmkmaaDoor.Ps
open Go Go.Abs Go.Mth
set_option linter.unusedVariables false
set_option linter.unusedSimpArgs false
theorem lt16 {a : Nat} (h : a < 1024) : a < capK .u16 := Nat.lt_of_lt_of_le h (by decide)
theorem rep16 (m : Nat) : (List.replicate m [Value.int .u16 0]).flatten = numsK .u16 (List.replicate m 0) := by
  induction m with
  | zero => rfl
  | succ m ih => simp only [List.replicate_succ, List.flatten_cons, ih, numsK, List.map_cons]; rfl
theorem numsK_one {k : IntKind} (l : List Nat) : (numsK k l).all one = true := by
  rw [List.all_eq_true]; intro q hq; obtain ⟨z, _, rfl⟩ := List.mem_map.1 hq; rfl
def HndV (M : HL) (xs : List Int) (v : Value) : Prop := Sl M 1 v (numsK .u16 (hsL xs))
attribute [local irreducible] gOK WS WC WR WD Ends FS YS OpV seqK blockK loopK midK retK rdK asgK rangeEnd sat Cell
section
variable {M : HL} {n0 : Nat} {H : Heap} {v w : Value}
theorem only_fs (x : Nat) (hx : x < 16) (H : Heap) : FS C 62 [.int .i64 (x : Int)] H (fun e H' => e = .int .u16 ((2 ^ x : Nat) : Int) ∧ H' = H) := by
  refine FS.intro (pf := pf62) rfl rfl rfl ?_
  repeat' (first | refine zP ?_ | refine zA ?_ | (refine zM ?_; intro _ _) | refine zX ?_ | (refine zC ?_; intro _ _ _ _) | (refine zS ?_; intro _ _) | (apply Ws <;> intro hg))
  refine WR.op (by first | exact gN | exact gS rfl) rfl (OpV.shl1 rfl rfl (by show x ≤ 16; omega) (by show 2 ^ x < 2 ^ 16; exact Nat.pow_lt_pow_right (by omega) hx)) ?_
  repeat' (first | refine zP ?_ | refine zA ?_ | (refine zM ?_; intro _ _) | refine zX ?_ | (refine zC ?_; intro _ _ _ _) | (refine zS ?_; intro _ _) | (apply Ws <;> intro hg))
  exact Ends.ret1 rfl ⟨rfl, rfl⟩
theorem firsts_fs (x : Nat) (hx : x < 16) (H : Heap) : FS C 63 [.int .i64 (x : Int)] H (fun e H' => e = .int .u16 ((2 ^ x - 1 : Nat) : Int) ∧ H' = H) := by
  refine FS.intro (pf := pf63) rfl rfl rfl ?_
  repeat' (first | refine zP ?_ | refine zA ?_ | (refine zM ?_; intro _ _) | refine zX ?_ | (refine zC ?_; intro _ _ _ _) | (refine zS ?_; intro _ _) | (apply Ws <;> intro hg))
  refine WR.call (by first | exact gN | exact gS rfl) rfl rfl (only_fs x hx _) ?_
  rintro _ _ ⟨rfl, rfl⟩
  repeat' (first | refine zP ?_ | refine zA ?_ | (refine zM ?_; intro _ _) | refine zX ?_ | (refine zC ?_; intro _ _ _ _) | (refine zS ?_; intro _ _) | (apply Ws <;> intro hg))
  have hp := Nat.pow_lt_pow_right (show 1 < 2 by omega) hx
  have hp0 : 0 < 2 ^ x := Nat.pow_pos (by omega)
  refine WR.op (by first | exact gN | exact gS rfl) rfl (OpV.subK rfl rfl (c := ((2 ^ x - 1 : Nat) : Int)) (by
    have h1 := wrap_cap (k := .u16) (r := 2 ^ x - 1) (by show 2 ^ x - 1 < 2 ^ 16; omega)
    have h2 : ((2 ^ x : Nat) : Int) - 1 = ((2 ^ x - 1 : Nat) : Int) := by omega
    rw [h2]; exact h1)) ?_
  repeat' (first | refine zP ?_ | refine zA ?_ | (refine zM ?_; intro _ _) | refine zX ?_ | (refine zC ?_; intro _ _ _ _) | (refine zS ?_; intro _ _) | (apply Ws <;> intro hg))
  exact Ends.ret1 rfl ⟨rfl, rfl⟩
set_option maxHeartbeats 2000000 in
theorem handsOf_fs (hH : hasH M n0 H) {xs : List Int} (hS : Sl M 1 v (ints xs)) (hx : OKS xs) :
    FS C 39 [v] H (fun e H' => e = .slice (some ⟨n0, 0, some 0⟩) xs.length (2 * xs.length + 1) ∧ hasH ((n0, .row 68 0 0 (numsK .u16 (hsL xs))) :: M) (n0 + 1) H') := by
  have h1 := hx.one
  have h10 := hx.most
  have hv := hS.one_
  refine FS.intro (pf := pf39) rfl rfl rfl ?_
  repeat' (first | refine zP ?_ | refine zA ?_ | (refine zM ?_; intro _ _) | refine zX ?_ | (refine zC ?_; intro _ _ _ _) | (refine zS ?_; intro _ _) | (apply Ws <;> intro hg))
  refine WR.mkSL (by first | exact gN | exact gS rfl) rfl hH rfl rfl (by omega) rfl fun H2 hH2 => ?_
  rw [rep16] at hH2
  repeat' (first | refine zP ?_ | refine zA ?_ | (refine zM ?_; intro _ _) | refine zX ?_ | (refine zC ?_; intro _ _ _ _) | (refine zS ?_; intro _ _) | (apply Ws <;> intro hg))
  have hSl : ∀ l : List Nat, Sl ((n0, .row 68 0 0 (numsK .u16 l)) :: M) 1 v (ints xs) := fun l => hS.cons
  refine WC.loopX [(0, _), (3, _), (9, _), (10, _)] (fun s : Nat × List Nat => [(11, .int .i64 (s.1 : Int))]) []
    (fun s H => s.1 ≤ xs.length ∧ s.2.length = xs.length ∧ hasH ((n0, .row 68 0 0 (numsK .u16 s.2)) :: M) (n0 + 1) H ∧ ∀ i, i < xs.length → s.2.getD i 0 = hmTo xs s.1 i)
    (fun s => xs.length - s.1) (0, List.replicate xs.length 0) (by repeat' (first | exact .nil | refine .cons rfl ?_)) rfl ⟨Nat.zero_le _, by simp, hH2, fun i hi => by rw [hm_zero (Nat.zero_le _)]; simp [List.getD_eq_getElem?_getD, hi]⟩ ?_
  clear hH2 hH
  rintro ⟨k, ms⟩ H3 ⟨hk, hml, hH, hms⟩
  simp only at hk hml hH hms
  have hS3 := hSl ms
  dsimp only [List.cons_append, List.nil_append]
  repeat' (first | refine zP ?_ | refine zA ?_ | (refine zM ?_; intro _ _) | refine zX ?_ | (refine zC ?_; intro _ _ _ _) | (refine zS ?_; intro _ _) | (apply Ws <;> intro hg))
  refine WC.condP rfl (fun hlt => ?_) (fun hlt => ?_)
  · have hk' : k < xs.length := by omega
    have hb1 : ms.getD k 0 < 1024 := by rw [hms k hk']; exact hmTo_lt k (by omega)
    repeat' (first | refine zP ?_ | refine zA ?_ | (refine zM ?_; intro _ _) | refine zX ?_ | (refine zC ?_; intro _ _ _ _) | (refine zS ?_; intro _ _) | (apply Ws <;> intro hg))
    refine WC.regionD ?_
    repeat' (first | refine zD ?_ | (refine zE ?_; intro _ _ _ _))
    refine WD.call (by first | exact gN | exact gS rfl) rfl rfl (only_fs k (by omega) _) ?_
    rintro _ H5 ⟨rfl, rfl⟩
    refine ⟨zSt, ?_⟩
    have hp16 : 2 ^ k < 1024 := by show 2 ^ k < 2 ^ 10; exact Nat.pow_lt_pow_right (by omega) (by omega)
    refine WD.op (by first | exact gN | exact gS rfl) rfl (OpV.orN rfl rfl (lt16 hb1) (lt16 hp16)) rfl (stands_nil _ _) ?_
    refine WD.toWR rfl ?_
    repeat' (first | refine zP ?_ | refine zA ?_ | (refine zM ?_; intro _ _) | refine zX ?_ | (refine zC ?_; intro _ _ _ _) | (refine zS ?_; intro _ _) | (apply Ws <;> intro hg))
    rename_i H6 hH6
    clear hH
    rcases Nat.eq_zero_or_pos k with rfl | hk0
    · repeat' (first | refine zP ?_ | refine zA ?_ | (refine zM ?_; intro _ _) | refine zX ?_ | (refine zC ?_; intro _ _ _ _) | (refine zS ?_; intro _ _) | refine zO ?_ | (apply Ws <;> intro hg))
      exact Ends.loop (1, ms.set 0 (ms.getD 0 0 ||| 2 ^ 0)) (by simp only; omega) (by repeat' (first | exact .nil | refine .cons rfl ?_)) rfl ⟨by simp only; omega, by simpa using hml, hH6, hm_root hx hml hms⟩
    · obtain ⟨hpar0, hpark⟩ := hx.par k (by omega) hk'
      obtain ⟨p, hp⟩ : ∃ p : Nat, xs.getD k 0 = (p : Int) := ⟨(xs.getD k 0).toNat, by omega⟩
      have hpk : p < k := by omega
      have hstep := hm_step hx hk' hp hpk hml hms
      have n1 : (ms.set k (ms.getD k 0 ||| 2 ^ k)).length = xs.length := by simp [hml]
      have hb2 : (ms.set k (ms.getD k 0 ||| 2 ^ k)).getD k 0 < 1024 := by
        rw [getD_set' (by omega), if_pos rfl]
        exact Nat.or_lt_two_pow (n := 10) hb1 hp16
      have hbp : ms.getD p 0 < 1024 := by rw [hms p (by omega)]; exact hmTo_lt p (by omega)
      have hb3 : (ms.set k (ms.getD k 0 ||| 2 ^ k)).getD p 0 < 1024 := by
        rw [getD_set' (by omega), if_neg (by omega)]; exact hbp
      have hS4 := hSl (ms.set k (ms.getD k 0 ||| 2 ^ k))
      generalize ms.set k (ms.getD k 0 ||| 2 ^ k) = l1 at hH6 hstep n1 hb2 hb3 hS4
      have hpp16 : 2 ^ p < 1024 := by show 2 ^ p < 2 ^ 10; exact Nat.pow_lt_pow_right (by omega) (by omega)
      repeat' (first | refine zP ?_ | refine zA ?_ | (refine zM ?_; intro _ _) | refine zX ?_ | (refine zC ?_; intro _ _ _ _) | (refine zS ?_; intro _ _) | refine zO ?_ | (apply Ws <;> intro hg))
      rw [hp]
      refine WC.regionD ?_
      repeat' (first | refine zD ?_ | (refine zE ?_; intro _ _ _ _))
      refine WD.call (by first | exact gN | exact gS rfl) rfl rfl (only_fs p (by omega) _) ?_
      rintro _ H7 ⟨rfl, rfl⟩
      refine ⟨zSt, ?_⟩
      refine WD.op (by first | exact gN | exact gS rfl) rfl (OpV.orN rfl rfl (lt16 hb2) (lt16 hpp16)) rfl (stands_nil _ _) ?_
      refine WD.toWR rfl ?_
      repeat' (first | refine zP ?_ | refine zA ?_ | (refine zM ?_; intro _ _) | refine zX ?_ | (refine zC ?_; intro _ _ _ _) | (refine zS ?_; intro _ _) | (apply Ws <;> intro hg))
      rename_i H8 hH8
      clear hH6
      have n2 : (l1.set k (l1.getD k 0 ||| 2 ^ p)).length = xs.length := by simp [n1]
      have hb4 : (l1.set k (l1.getD k 0 ||| 2 ^ p)).getD p 0 < 1024 := by rw [getD_set' (by omega), if_neg (by omega)]; exact hb3
      generalize l1.set k (l1.getD k 0 ||| 2 ^ p) = l2 at hH8 hstep n2 hb4
      refine WC.regionD ?_
      repeat' (first | refine zD ?_ | (refine zE ?_; intro _ _ _ _))
      refine WD.call (by first | exact gN | exact gS rfl) rfl rfl (only_fs k (by omega) _) ?_
      rintro _ H9 ⟨rfl, rfl⟩
      refine ⟨zSt, ?_⟩
      refine WD.op (by first | exact gN | exact gS rfl) rfl (OpV.orN rfl rfl (lt16 hb4) (lt16 hp16)) rfl (stands_nil _ _) ?_
      refine WD.toWR rfl ?_
      repeat' (first | refine zP ?_ | refine zA ?_ | (refine zM ?_; intro _ _) | refine zX ?_ | (refine zC ?_; intro _ _ _ _) | (refine zS ?_; intro _ _) | (apply Ws <;> intro hg))
      rename_i H10 hH10
      exact Ends.loop (k + 1, l2.set p (l2.getD p 0 ||| 2 ^ k)) (by simp only; omega) (by repeat' (first | exact .nil | refine .cons rfl ?_)) rfl ⟨hk', by simpa using n2, hH10, hstep⟩
  · have hkn : k = xs.length := by omega
    subst hkn
    have hme : ms = hsL xs := by
      refine ext_getD (a := 0) (by rw [hsL_len, hml]) fun i hi => ?_
      rw [hms i (by omega), hsL_get (by omega), hmTo_all (by omega)]
    subst hme
    repeat' (first | refine zP ?_ | refine zA ?_ | (refine zM ?_; intro _ _) | refine zX ?_ | (refine zC ?_; intro _ _ _ _) | (refine zS ?_; intro _ _) | (apply Ws <;> intro hg))
    exact Ends.ret1 rfl ⟨rfl, hH⟩
theorem guarded_fs (hH : hasH M n0 H) {xs : List Int} (hx : OKS xs) (hV : HndV M xs v) {l : List Nat} (hS : Sl M 1 w (nodes l)) (hl : ∀ x ∈ l, x < xs.length) (hll : l.length ≤ 1000) :
    FS C 40 [v, w] H (fun e H' => e = .bool (grd xs l) ∧ H' = H) := by
  unfold HndV at hV
  have h10 := hx.most
  have hv := hV.one_
  have hw := hS.one_
  have hlen := hsL_len xs
  refine FS.intro (pf := pf40) rfl rfl rfl ?_
  repeat' (first | refine zP ?_ | refine zA ?_ | (refine zM ?_; intro _ _) | refine zX ?_ | (refine zC ?_; intro _ _ _ _) | (refine zS ?_; intro _ _) | (apply Ws <;> intro hg))
  refine WC.loopX [(0, v), (1, w), (8, w), (9, _)] (fun k : Nat => [(10, .int .i64 (k : Int)), (5, .int .u16 (orM xs (l.take k) : Nat))]) [] (fun k H' => H' = H ∧ k ≤ l.length) (fun k => l.length - k) 0 (by repeat' (first | exact .nil | refine .cons rfl ?_)) rfl ⟨rfl, Nat.zero_le _⟩ ?_
  rintro k H' ⟨rfl, hk⟩
  have hor := orM_lt (xs := xs) h10 (l.take k)
  dsimp only [List.cons_append, List.nil_append]
  repeat' (first | refine zP ?_ | refine zA ?_ | (refine zM ?_; intro _ _) | refine zX ?_ | (refine zC ?_; intro _ _ _ _) | (refine zS ?_; intro _ _) | (apply Ws <;> intro hg))
  refine WC.condP rfl (fun hlt => ?_) (fun hlt => ?_)
  · have hk' : k < l.length := by omega
    have hmx := hl _ (getD_mem (a := 0) hk')
    have hg : (hsL xs).getD (l.getD k 0) 0 = hm xs (l.getD k 0) := hsL_get hmx
    have hb := hm_lt10 h10 (l.getD k 0)
    repeat' (first | refine zP ?_ | refine zA ?_ | (refine zM ?_; intro _ _) | refine zX ?_ | (refine zC ?_; intro _ _ _ _) | (refine zS ?_; intro _ _) | (apply Ws <;> intro hg))
    rw [hg]
    refine WR.op (by first | exact gN | exact gS rfl) rfl (OpV.orN rfl rfl (lt16 hor) (lt16 hb)) ?_
    repeat' (first | refine zP ?_ | refine zA ?_ | (refine zM ?_; intro _ _) | refine zX ?_ | (refine zC ?_; intro _ _ _ _) | (refine zS ?_; intro _ _) | (apply Ws <;> intro hg))
    refine Ends.loop (k + 1) (by omega) (by rw [List.take_succ_eq_append_getElem hk', orM_snoc, ← getD_eq (a := 0)]; exact (by repeat' (first | exact .nil | refine .cons rfl ?_))) rfl ⟨rfl, hk'⟩
  · have hkl : k = l.length := by omega
    subst hkl
    rw [List.take_length]
    rw [List.take_length] at hor
    repeat' (first | refine zP ?_ | refine zA ?_ | (refine zM ?_; intro _ _) | refine zX ?_ | (refine zC ?_; intro _ _ _ _) | (refine zS ?_; intro _ _) | (apply Ws <;> intro hg))
    rw [hlen]
    refine WR.call (by first | exact gN | exact gS rfl) rfl rfl (firsts_fs xs.length (by omega) _) ?_
    rintro _ _ ⟨rfl, rfl⟩
    repeat' (first | refine zP ?_ | refine zA ?_ | (refine zM ?_; intro _ _) | refine zX ?_ | (refine zC ?_; intro _ _ _ _) | (refine zS ?_; intro _ _) | (apply Ws <;> intro hg))
    refine Ends.ret1 rfl ⟨?_, rfl⟩
    congr 1
    rw [Bool.eq_iff_iff, ← orM_full, decide_eq_true_eq]
    omega
theorem apart_fs (hH : hasH M n0 H) {xs : List Int} (hx : OKS xs) (hV : HndV M xs v) {l : List Nat} (hS : Sl M 1 w (nodes l)) (hl : ∀ x ∈ l, x < xs.length) (hll : l.length ≤ 1000) :
    FS C 41 [v, w] H (fun e H' => e = .bool (apt xs l) ∧ H' = H) := by
  unfold HndV at hV
  have h10 := hx.most
  have hv := hV.one_
  have hw := hS.one_
  have hlen := hsL_len xs
  refine FS.intro (pf := pf41) rfl rfl rfl ?_
  repeat' (first | refine zP ?_ | refine zA ?_ | (refine zM ?_; intro _ _) | refine zX ?_ | (refine zC ?_; intro _ _ _ _) | (refine zS ?_; intro _ _) | (apply Ws <;> intro hg))
  refine WC.loopX [(0, v), (1, w), (8, w), (9, _)] (fun k : Nat => [(10, .int .i64 (k : Int)), (5, .int .u16 (orM xs (l.take k) : Nat))]) [] (fun k H' => H' = H ∧ k ≤ l.length ∧ (l.take k).Pairwise (fun a b => hm xs a &&& hm xs b = 0)) (fun k => l.length - k) 0 (by repeat' (first | exact .nil | refine .cons rfl ?_)) rfl ⟨rfl, Nat.zero_le _, by simp⟩ ?_
  rintro k H' ⟨rfl, hk, hpw⟩
  have hor := orM_lt (xs := xs) h10 (l.take k)
  dsimp only [List.cons_append, List.nil_append]
  repeat' (first | refine zP ?_ | refine zA ?_ | (refine zM ?_; intro _ _) | refine zX ?_ | (refine zC ?_; intro _ _ _ _) | (refine zS ?_; intro _ _) | (apply Ws <;> intro hg))
  refine WC.condP rfl (fun hlt => ?_) (fun hlt => ?_)
  · have hk' : k < l.length := by omega
    have hmx := hl _ (getD_mem (a := 0) hk')
    have hg : (hsL xs).getD (l.getD k 0) 0 = hm xs (l.getD k 0) := hsL_get hmx
    have hb := hm_lt10 h10 (l.getD k 0)
    have htk : l.take (k + 1) = l.take k ++ [l.getD k 0] := by rw [List.take_succ_eq_append_getElem hk', ← getD_eq (a := 0)]
    have hsn := apt_snoc (xs := xs) (l := l.take k) (x := l.getD k 0)
    rw [← htk] at hsn
    repeat' (first | refine zP ?_ | refine zA ?_ | (refine zM ?_; intro _ _) | refine zX ?_ | (refine zC ?_; intro _ _ _ _) | (refine zS ?_; intro _ _) | (apply Ws <;> intro hg))
    rw [hg]
    refine WR.op (by first | exact gN | exact gS rfl) rfl (OpV.andN rfl rfl (lt16 hor) (lt16 hb)) ?_
    repeat' (first | refine zP ?_ | refine zA ?_ | (refine zM ?_; intro _ _) | refine zX ?_ | (refine zC ?_; intro _ _ _ _) | (refine zS ?_; intro _ _) | (apply Ws <;> intro hg))
    refine WC.condP rfl (fun hne => ?_) (fun hne => ?_)
    · repeat' (first | refine zP ?_ | refine zA ?_ | (refine zM ?_; intro _ _) | refine zX ?_ | (refine zC ?_; intro _ _ _ _) | (refine zS ?_; intro _ _) | (apply Ws <;> intro hg))
      refine Ends.ret1 rfl ⟨?_, rfl⟩
      congr 1
      refine (decide_eq_false fun hc => ?_).symm
      have h2 : (l.take (k + 1)).Pairwise (fun a b => hm xs a &&& hm xs b = 0) := hc.sublist (List.take_sublist _ _)
      have := (hsn.1 h2).2
      omega
    · repeat' (first | refine zP ?_ | refine zA ?_ | (refine zM ?_; intro _ _) | refine zX ?_ | (refine zC ?_; intro _ _ _ _) | (refine zS ?_; intro _ _) | (apply Ws <;> intro hg))
      rw [hg]
      refine WR.op (by first | exact gN | exact gS rfl) rfl (OpV.orN rfl rfl (lt16 hor) (lt16 hb)) ?_
      repeat' (first | refine zP ?_ | refine zA ?_ | (refine zM ?_; intro _ _) | refine zX ?_ | (refine zC ?_; intro _ _ _ _) | (refine zS ?_; intro _ _) | (apply Ws <;> intro hg))
      refine Ends.loop (k + 1) (by omega) (by rw [htk, orM_snoc]; exact (by repeat' (first | exact .nil | refine .cons rfl ?_))) rfl ⟨rfl, hk', hsn.2 ⟨hpw, by omega⟩⟩
  · have hkl : k = l.length := by omega
    subst hkl
    rw [List.take_length] at hpw
    repeat' (first | refine zP ?_ | refine zA ?_ | (refine zM ?_; intro _ _) | refine zX ?_ | (refine zC ?_; intro _ _ _ _) | (refine zS ?_; intro _ _) | (apply Ws <;> intro hg))
    refine Ends.ret1 rfl ⟨?_, rfl⟩
    congr 1
    exact (decide_eq_true hpw).symm
end
end Go.Proofs.YtcfffhkabhmkmaaDoor.Ps

/- Lists that are cut to their length and appended to: the old row stays. -/
namespace Go.Abs
set_option linter.unusedSectionVars false
variable [Globs]
open Go Go.Mth
set_option linter.unusedVariables false
set_option linter.unusedSimpArgs false
attribute [local irreducible] gOK WS WC WR WD Ends FS YS seqK blockK loopK midK retK rdK asgK rangeEnd sat
section
variable {C : CW} {nt : Nat} {L : Env} {D : List Nat} {H : Heap} {K : St → Prop} {M M' : HL} {n i d : Nat} {gd : Option (Tmp × Bool)} {lo : List Nat} {l : List POp} {rs : List Rd}
/-- A list, in whatever row. -/
def LstW (M : HL) (v : Value) (cs : List Value) : Prop := (cs = [] ∧ v = .slice none 0 0) ∨ ∃ b o u cap, v = .slice (some ⟨b, o, some u⟩) cs.length cap ∧ KCell M b o u cs ∧
  ((cap = 2 * 1 ∧ cs ≠ []) ∨ (∃ R, cap = roomCode 1 R ∧ cs.length ≤ R) ∨ ∃ c, cap = 2 * c + 1 ∧ cs.length ≤ c)
/-- One that is full. -/
def ClipW (M : HL) (v : Value) (cs : List Value) : Prop := (cs = [] ∧ v = .slice none 0 0) ∨ ∃ b o u, v = .slice (some ⟨b, o, some u⟩) cs.length (2 * cs.length + 1) ∧ KCell M b o u cs
theorem LstW.mono {v : Value} {cs : List Value} (h : LstW M v cs) (k : ∀ q ∈ M, q ∈ M') : LstW M' v cs := by
  rcases h with h | ⟨b, o, u, cap, h1, h2, h3⟩
  · exact .inl h
  · exact .inr ⟨b, o, u, cap, h1, h2.mono k, h3⟩
theorem ClipW.mono {v : Value} {cs : List Value} (h : ClipW M v cs) (k : ∀ q ∈ M, q ∈ M') : ClipW M' v cs := by
  rcases h with h | ⟨b, o, u, h1, h2⟩
  · exact .inl h
  · exact .inr ⟨b, o, u, h1, h2.mono k⟩
theorem LstW.sl {v : Value} {cs : List Value} (h : LstW M v cs) : Sl M 1 v cs := by
  rcases h with ⟨rfl, rfl⟩ | ⟨b, o, u, cap, rfl, ⟨ch, lo, cells, h1, h2, h3, h4, h5⟩, h6⟩
  · exact .nil 0
  · refine .row h1 h2 h3 (by simp) h5 h4 ?_
    rcases h6 with ⟨rfl, _⟩ | ⟨R, rfl, h7⟩ | ⟨c, rfl, h7⟩
    · exact .inl (.inl rfl)
    · exact .inl (.inr ⟨R, rfl, h7⟩)
    · exact .inr ⟨_, rfl, h7⟩
theorem LstW.one_ {v : Value} {cs : List Value} (h : LstW M v cs) : one v = true := h.sl.one_
theorem LstW.none (M : HL) : LstW M (.slice none 0 0) [] := .inl ⟨rfl, rfl⟩
theorem LstW.row {b e len : Nat} {cs : List Value} (hm : (b, Ch.row e 0 0 cs) ∈ M) (hl : cs.length = len) (h0 : cs ≠ []) : LstW M (.slice (some ⟨b, 0, some 0⟩) len (2 * 1)) cs := by
  subst hl
  exact .inr ⟨b, 0, 0, 2 * 1, rfl, ⟨_, 0, cs, hm, .row _ _ _ _, Nat.le_refl _, by simp, by simp⟩, .inl ⟨rfl, h0⟩⟩
end
end Go.Abs

/- Lists that are copied behind an empty one. -/
namespace Go.Abs
set_option linter.unusedSectionVars false
variable [Globs]
open Go Go.Mth
set_option linter.unusedVariables false
set_option linter.unusedSimpArgs false
attribute [local irreducible] gOK WS WC WR WD Ends FS YS seqK blockK loopK midK retK rdK asgK rangeEnd sat
section
variable {C : CW} {nt : Nat} {L : Env} {D : List Nat} {H : Heap} {K : St → Prop} {M M' : HL} {n i d : Nat} {gd : Option (Tmp × Bool)} {lo : List Nat} {l : List POp}
/-- Numbers in a row of one's own; none: an empty row. -/
def OwnZ (e : Nat) (v : Value) (xs : List Nat) (Mx : HL) : Prop := (xs = [] ∧ ∃ b, v = .slice (some ⟨b, 0, some 0⟩) 0 (2 * 0 + 1) ∧ Mx = [(b, Ch.row e 0 0 [])]) ∨ (xs ≠ [] ∧ OwnR e 1 v (nodes xs) Mx)
theorem OwnZ.sl {e : Nat} {v : Value} {xs : List Nat} {Mx T : HL} (h : OwnZ e v xs Mx) (k : ∀ q ∈ Mx, q ∈ T) : Sl T 1 v (nodes xs) := by
  rcases h with ⟨rfl, b, rfl, rfl⟩ | ⟨_, h⟩
  · refine .row (lo := 0) (cs := []) (k _ (.head _)) (.row _ _ _ _) (Nat.le_refl _) rfl rfl (by simp) (.inr ⟨0, rfl, Nat.le_refl _⟩)
  · exact (h.own.sl []).mono fun q hq => k q (by simpa using hq)
theorem OwnZ.empty {e b : Nat} : OwnZ e (.slice (some ⟨b, 0, some 0⟩) 0 (2 * 0 + 1)) [] [(b, Ch.row e 0 0 [])] := .inl ⟨rfl, b, rfl, rfl⟩
end
end Go.Abs

/- Pairs of numbers that are compared. -/
namespace Go.Abs
set_option linter.unusedSectionVars false
variable [Globs]
open Go
set_option linter.unusedSimpArgs false
section
variable {C : CW} {L : Env} {H : Heap}
end
section
variable {C : CW} {L : Env} {H : Heap}
end
end Go.Abs

/- Strings: their length, their bytes, whether two are equal; bytes that become one. -/
namespace Go.Abs
set_option linter.unusedSectionVars false
variable [Globs]
open Go Go.Mth
set_option linter.unusedVariables false
set_option linter.unusedSimpArgs false
attribute [local irreducible] gOK WS WC WR WD Ends FS YS seqK blockK loopK midK retK rdK asgK rangeEnd sat
section
variable {C : CW} {nt : Nat} {L : Env} {D : List Nat} {H : Heap} {K : St → Prop} {M M' : HL} {n i d : Nat} {gd : Option (Tmp × Bool)} {lo : List Nat} {l : List POp}
/-- A string of these bytes. -/
def strB (l : List Nat) : ByteArray := ⟨(l.map UInt8.ofNat).toArray⟩
theorem strB_push (a : List Nat) (b : Nat) : (strB a).push (UInt8.ofNat b) = strB (a ++ [b]) := by
  apply ByteArray.ext
  simp [strB, ByteArray.push]
theorem catS_bytes (l a : List Nat) : catS 0 (numsK .u8 l) (strB a) = some (.string (strB (a ++ l))) := by
  induction l generalizing a with
  | nil => simp [numsK, catS]
  | cons x l ih =>
    show catS 0 (.int .u8 (x : Int) :: numsK .u8 l) (strB a) = _
    have e : (((x : Int)).toNat) = x := rfl
    simp only [catS, e, strB_push, ih, List.append_assoc, List.singleton_append]
    rfl
theorem OpV.cts {x : Operand} {v : Value} {bs : List Nat} (hx : ev L x = some v) (hS : Sl M 1 v (numsK .u8 bs)) (h0 : bs ≠ []) (hH : hasH M n H) : OpV C (.cts 0 x) L H (.string (strB bs)) H := by
  intro t ht
  simp only [opA, ev_ok ht hx]
  have hne : numsK .u8 bs ≠ [] := by intro e; exact h0 (by simpa [numsK] using e)
  have hc2 : catS 0 (numsK .u8 bs) ByteArray.empty = some (.string (strB bs)) := catS_bytes bs []
  generalize numsK .u8 bs = q at hS hne hc2
  cases hS with
  | nil c => exact absurd rfl hne
  | emp a => exact absurd rfl hne
  | row hm hc hlo hl hv hin hp =>
    rename_i b o u lo len cap ch cs
    have e1 : len = q.length := by omega
    have := hH.readN hm hc hlo (show o - lo + len ≤ cs.length by omega)
    simp only [oCts, this]
    have h2 : (cs.drop (o - lo)).take len = q := by rw [e1]; exact hv
    rw [h2, hc2]; rfl
theorem StkO.src {e : Nat} {v : Value} {S : List Value} {Mx T : HL} (h : StkO e v S Mx) (hH : hasH (Mx ++ T) n H) : srcLen v = some S.length ∧ srcCells H 1 S.length v = some S := by
  cases h with
  | nil => exact ⟨rfl, rfl⟩
  | mk hl hS hc hb =>
    rename_i b u o len cp cs
    have hle := hc.le
    have := hH.readN (b := b) (u := u) (lo := o) (o := o) (k := len) (ch := .row e u o cs) (cs := cs) (by simp) (.row _ _ _ _) (Nat.le_refl _) (by omega)
    rw [Nat.sub_self, List.drop_zero, ← hS] at this
    exact ⟨by rw [hl]; rfl, by simp only [srcCells, Nat.mul_one]; rw [hl]; exact this⟩
end
end Go.Abs

/- Slices with a room that is known: they are appended to, and cut, where they are. -/
namespace Go.Abs
set_option linter.unusedSectionVars false
variable [Globs]
open Go Go.Mth
set_option linter.unusedVariables false
set_option linter.unusedSimpArgs false
attribute [local irreducible] gOK WS WC WR WD Ends FS YS seqK blockK loopK midK retK rdK asgK rangeEnd sat
section
variable {C : CW} {nt : Nat} {L : Env} {D : List Nat} {H : Heap} {K : St → Prop} {M M' : HL} {n i d : Nat} {gd : Option (Tmp × Bool)} {lo' : List Nat} {l : List POp}
end
theorem slK {M : HL} {b e len c : Nat} {ys : List Int} {l : List Nat} (hm : (b, Ch.row e 0 0 (ints ys)) ∈ M) (hl : l.length = len) (hc : len ≤ c) (hy : ys.take len = l.map fun (x : Nat) => (x : Int)) : Sl M 1 (.slice (some ⟨b, 0, some 0⟩) len (2 * c + 1)) (nodes l) := by
  have hly : len ≤ ys.length := by have := congrArg List.length hy; simp at this; omega
  refine .row hm (.row _ _ _ _) (Nat.le_refl _) (by simp [hl]) ?_ (by simp; omega) (.inr ⟨c, rfl, hc⟩)
  rw [nodesI, ← hy]
  simp [ints, List.map_take]
/-- A list in memory, with a room that is known. -/
def KL (M : HL) (u : Value) (z : List Nat) : Prop := ∃ (b e c : Nat) (ys : List Int), u = .slice (some ⟨b, 0, some 0⟩) z.length (2 * c + 1) ∧ (b, Ch.row e 0 0 (ints ys)) ∈ M ∧ z.length ≤ c ∧ ys.take z.length = z.map fun (x : Nat) => (x : Int)
theorem KL.mono {M M' : HL} {u : Value} {z : List Nat} (h : KL M u z) (k : ∀ q ∈ M, q ∈ M') : KL M' u z := by
  obtain ⟨b, e, c, ys, h1, h2, h3⟩ := h
  exact ⟨b, e, c, ys, h1, k _ h2, h3⟩
theorem KL.sl {M : HL} {u : Value} {z : List Nat} (h : KL M u z) : Sl M 1 u (nodes z) := by
  obtain ⟨b, e, c, ys, rfl, h2, h3, h4⟩ := h
  exact slK h2 rfl h3 h4
theorem KL.src {M : HL} {n : Nat} {H : Heap} {u : Value} {z : List Nat} (h : KL M u z) (hH : hasH M n H) : srcLen u = some z.length ∧ srcCells H 1 z.length u = some (nodes z) := by
  obtain ⟨b, e, c, ys, rfl, h2, h3, h4⟩ := h
  have hly : z.length ≤ ys.length := by have := congrArg List.length h4; simp at this; omega
  have := hH.readN (b := b) (u := 0) (lo := 0) (o := 0) (k := z.length * 1) h2 (.row _ _ _ _) (Nat.le_refl _) (by simp; omega)
  refine ⟨rfl, ?_⟩
  show H.readN ⟨b, 0, some 0⟩ (z.length * 1) = _
  rw [this, nodesI, ← h4]
  simp [ints, List.map_take]
section
variable {C : CW} {nt : Nat} {L : Env} {D : List Nat} {H H' : Heap} {K : St → Prop} {M M' : HL} {n i d : Nat} {gd : Option (Tmp × Bool)} {lo : List Nat} {l : List POp} {rs : List Rd}
theorem WD.append {e sz : Nat} {s x : Operand} {v y : Value} {cs : List Value} {Mx M0 : HL} {k : Nat} {new : List Value} (hg : gOK L gd) (hd : Nat.blt d nt = true) (hs : ev L s = some v) (hy : ev L x = some y)
    (hO : Own e sz v cs Mx) (hH : hasH M n H) (hM : M'.Sublist M) (hp : M'.Perm (Mx ++ M0)) (hk : srcLen y = some k) (hx : srcCells H sz k y = some new) (hl : new.length = k * sz) (h1 : 1 ≤ k) (hone : new.all one = true) (hs1 : 1 ≤ sz) (hs2 : sz ≤ 1000)
    (hsm : cs.length + new.length ≤ 100000) (kk : ∀ v' Mx' n' H', OwnR e sz v' (cs ++ new) Mx' → hasH (Mx' ++ M0) n' H' → n ≤ n' → stands H' lo rs = true ∧ WD C nt l rs ((d, v') :: L) D H' K) :
    WD C nt (⟨i, some d, .append e sz s x, gd, lo⟩ :: l) rs L D H K := by
  obtain ⟨v', Mx', n', H', q1, q2, q3, q4⟩ := append_ownR (P := C.c.P) hO ((hH.sub hM).perm hp) hk hx hl h1 hone hs1 hs2 hsm
  obtain ⟨k1, k2⟩ := kk v' Mx' n' H' q2 q3 q4
  refine WD.op hg hd (H' := H') (v := v') (fun t ht => ?_) rfl k1 k2
  simp only [opA, ev_ok ht hs, ev_ok ht hy, q1]
/-- One element more, what was read before may be read after. -/
theorem WD.append1F {j d2 : Nat} {e : Nat} {z : List Value} {s x : Operand} {lo2 : List Nat} {v y : Value} {cs : List Value} {new : Value} (F Mx T : HL) (hd : Nat.blt d nt = true) (hd2 : Nat.blt d2 nt = true)
    (hx : ev L x = some y) (hs : ev ((d, .slice (some ⟨n, 0, some 0⟩) 1 (2 * 1 + 1)) :: L) s = some v) (hO : Own e 1 v cs Mx) (hH : hasH (F ++ (Mx ++ T)) n H)
    (hc : Instr.fill (fun j => some (j * 1, 1)) z.toArray [(0, y)] = some [new].toArray) (hone : one new = true) (hsm : cs.length + 1 ≤ 100000)
    (hst : ∀ H', hasH ((n, .row e 0 0 [new]) :: (F ++ (Mx ++ T))) (n + 1) H' → stands H' lo rs = true)
    (kk : ∀ v' Mx' n' H', OwnR e 1 v' (cs ++ [new]) Mx' → hasH (F ++ (Mx' ++ T)) n' H' → n ≤ n' → stands H' lo2 rs = true ∧ WD C nt l rs ((d2, v') :: (d, .slice (some ⟨n, 0, some 0⟩) 1 (2 * 1 + 1)) :: L) D H' K) :
    WD C nt (⟨i, some d, .bldS e 1 z 1 [(0, x)], none, lo⟩ :: ⟨j, some d2, .append e 1 s (.tmp d), none, lo2⟩ :: l) rs L D H K := by
  refine WD.bldS gN hd hH (vs := [(0, y)]) (by simp only [evp, hx]) hc (by simp [hone]) hst fun H1 hH1 => ?_
  have hx2 : srcCells H1 1 1 (.slice (some ⟨n, 0, some 0⟩) 1 (2 * 1 + 1)) = some [new] := by
    have := hH1.readN (b := n) (u := 0) (lo := 0) (o := 0) (k := 1 * 1) (ch := .row e 0 0 [new]) (cs := [new]) (by simp) (.row _ _ _ _) (Nat.le_refl _) (by simp)
    simpa [srcCells] using this
  have hy : ev ((d, .slice (some ⟨n, 0, some 0⟩) 1 (2 * 1 + 1)) :: L) (.tmp d) = some (.slice (some ⟨n, 0, some 0⟩) 1 (2 * 1 + 1)) := by simp [ev, Env.get]
  refine WD.append gN hd2 hs hy hO hH1 (M' := F ++ (Mx ++ T)) (List.sublist_cons_self _ _) (M0 := F ++ T) (List.perm_append_comm_assoc F Mx T) rfl hx2 (by simp) (Nat.le_refl _) (by simp [hone]) (Nat.le_refl _) (by omega) (by simpa using hsm) fun v' Mx' n' H' q1 q2 q3 => ?_
  exact kk v' Mx' n' H' q1 (q2.perm (List.perm_append_comm_assoc Mx' F T)) (by omega)
end
end Go.Abs

/- All lists of places, one after the other. -/
namespace Go.Proofs.YtcfffhkabhmkmaaDoor.Ps
open Go Go.Abs Go.Mth
set_option linter.unusedVariables false
set_option linter.unusedSimpArgs false
abbrev ptrO (b o : Nat) : Value := .pointer (some ⟨b, o, some 0⟩)
attribute [local irreducible] gOK WS WC WR WD Ends FS YS OpV seqK blockK loopK midK retK rdK asgK rangeEnd sat Cell
section
variable {M : HL} {n0 : Nat} {H : Heap} {v w : Value}
end
end Go.Proofs.YtcfffhkabhmkmaaDoor.Ps

/- Lists that are good, one after the other. -/
namespace Go.Proofs.YtcfffhkabhmkmaaDoor.Ps
open Go Go.Abs Go.Mth
set_option linter.unusedVariables false
set_option linter.unusedSimpArgs false
def GoodF (G : HL) (n gf : Nat) (gv : List Value) (good : List Nat → Bool) : Prop := ∀ {T : HL} {k : Nat} {H : Heap} {u : Value} {z : List Nat}, hasH T k H → (∀ p ∈ G, p ∈ T) → KL T u z → AscN n z → FS C gf (gv ++ [u] ++ []) H (fun e H' => e = .bool (good z) ∧ H' = H)
attribute [local irreducible] gOK WS WC WR WD Ends FS YS OpV seqK blockK loopK midK retK rdK asgK rangeEnd sat Cell
section
variable {M : HL} {n0 : Nat} {H : Heap} {v w : Value}
end
end Go.Proofs.YtcfffhkabhmkmaaDoor.Ps

/- The good lists that cost the least. -/
namespace Go.Proofs.YtcfffhkabhmkmaaDoor.Ps
open Go Go.Abs Go.Mth
set_option linter.unusedVariables false
set_option linter.unusedSimpArgs false
def sumZ (c : Nat → Int) (z : List Nat) : Int := (z.map c).sum
def bestS (c : List Nat → Int) (s : List (List Nat) × Int) (z : List Nat) : List (List Nat) × Int := if s.1 = [] ∨ c z < s.2 then ([z], c z) else if c z = s.2 then (s.1 ++ [z], s.2) else s
def bestF (c : List Nat → Int) (zs : List (List Nat)) : List (List Nat) × Int := zs.foldl (bestS c) ([], 0)
theorem bestF_snoc (c : List Nat → Int) (zs : List (List Nat)) (z : List Nat) : bestF c (zs ++ [z]) = bestS c (bestF c zs) z := by simp [bestF]
def RowsB (M : HL) (ws : List Value) (zs : List (List Nat)) : Prop := ws.length = zs.length ∧ ∀ i, i < zs.length → Sl M 1 (ws.getD i undef) (nodes (zs.getD i []))
theorem RowsB.mono {M M' : HL} {ws : List Value} {zs : List (List Nat)} (h : RowsB M ws zs) (k : ∀ p ∈ M, p ∈ M') : RowsB M' ws zs := ⟨h.1, fun i hi => (h.2 i hi).mono k⟩
theorem RowsB.nil (M : HL) : RowsB M [] [] := ⟨rfl, fun i h => absurd h (Nat.not_lt_zero _)⟩
theorem GoodF.mono {B B' : HL} {n gf : Nat} {gv : List Value} {good : List Nat → Bool} (h : GoodF B n gf gv good) (k : ∀ p ∈ B, p ∈ B') : GoodF B' n gf gv good := fun h1 h2 h3 h4 => h h1 (fun p hp => h2 p (k p hp)) h3 h4
attribute [local irreducible] gOK WS WC WR WD Ends FS YS OpV seqK blockK loopK midK retK rdK asgK rangeEnd sat Cell
section
variable {M : HL} {n0 : Nat} {H : Heap} {v w : Value}
end
end Go.Proofs.YtcfffhkabhmkmaaDoor.Ps

/- Ratings; the fewest posts, the most places that are apart, the ways. -/
namespace Go.Proofs.YtcfffhkabhmkmaaDoor.Ps
open Go Go.Abs Go.Mth
set_option linter.unusedVariables false
set_option linter.unusedSimpArgs false
theorem bestS_ne (c : List Nat → Int) (s : List (List Nat) × Int) (z : List Nat) : (bestS c s z).1 ≠ [] := by
  unfold bestS
  split
  · simp
  · rename_i h
    split
    · simp
    · exact fun h2 => h (.inl h2)
theorem bestF_ne {c : List Nat → Int} {zs : List (List Nat)} (h : zs ≠ []) : (bestF c zs).1 ≠ [] := by
  obtain ⟨ys, y, rfl⟩ : ∃ ys y, zs = ys ++ [y] := ⟨zs.dropLast, zs.getLast h, (List.dropLast_concat_getLast h).symm⟩
  rw [bestF_snoc]; exact bestS_ne _ _ _
theorem grd_all {xs : List Int} : List.range xs.length ∈ (allA xs.length).filter (grd xs) := by
  rw [List.mem_filter, mem_allA, grd_iff]
  exact ⟨⟨List.pairwise_lt_range, fun x hx => List.mem_range.1 hx⟩, fun i hi => ⟨i, List.mem_range.2 hi, adj_self _ _⟩⟩
theorem apt_nil {xs : List Int} : [] ∈ (allA xs.length).filter (apt xs) := by
  rw [List.mem_filter, mem_allA]
  exact ⟨⟨by simp, by simp⟩, by simp [apt]⟩
def grdL (xs : List Int) : List (List Nat) := (allA xs.length).filter (grd xs)
def aptL (xs : List Int) : List (List Nat) := (allA xs.length).filter (apt xs)
theorem grdL_ne (xs : List Int) : grdL xs ≠ [] := fun h => by have := grd_all (xs := xs); unfold grdL at h; rw [h] at this; cases this
theorem aptL_ne (xs : List Int) : aptL xs ≠ [] := fun h => by have := apt_nil (xs := xs); unfold aptL at h; rw [h] at this; cases this
def fewB (xs : List Int) : List (List Nat) := (bestF (sumZ fun _ => 1) (grdL xs)).1
def aptB (xs : List Int) : List (List Nat) := (bestF (sumZ fun _ => -1) (aptL xs)).1
theorem HndV.mono {M M' : HL} {xs : List Int} {v : Value} (h : HndV M xs v) (k : ∀ p ∈ M, p ∈ M') : HndV M' xs v := Sl.mono h k
structure KC where
  k : Nat
  n : Nat
attribute [local irreducible] gOK WS WC WR WD Ends FS YS OpV seqK blockK loopK midK retK rdK asgK rangeEnd sat Cell
section
variable {M : HL} {n0 : Nat} {H : Heap} {v w : Value}
theorem hnd_row {b : Nat} {xs : List Int} {T : HL} : HndV ((b, .row 68 0 0 (numsK .u16 (hsL xs))) :: T) xs (.slice (some ⟨b, 0, some 0⟩) xs.length (2 * xs.length + 1)) := by
  refine .row (.head _) (.row _ _ _ _) (Nat.le_refl _) (by simp [hsL_len]) ?_ (by simp [hsL_len]) (.inr ⟨_, rfl, Nat.le_refl _⟩)
  rw [Nat.sub_self, List.drop_zero, List.take_of_length_le (by simp [hsL_len])]
end
end Go.Proofs.YtcfffhkabhmkmaaDoor.Ps

/- Places in so many lists; what the package's other functions return. -/
namespace Go.Proofs.YtcfffhkabhmkmaaDoor.Ps
open Go Go.Abs Go.Mth
set_option linter.unusedVariables false
set_option linter.unusedSimpArgs false
def plcL (s k : Nat) : List Nat := (List.range k).filter s.testBit
theorem plcL_succ (s k : Nat) : plcL s (k + 1) = if s.testBit k = true then plcL s k ++ [k] else plcL s k := by
  unfold plcL
  rw [List.range_succ, List.filter_append]
  by_cases h : s.testBit k = true
  · rw [if_pos h, List.filter_cons_of_pos h]; simp
  · rw [if_neg h, List.filter_cons_of_neg h]; simp
theorem plcL_len (s k : Nat) : (plcL s k).length ≤ k := by
  have := List.length_filter_le s.testBit (List.range k)
  simpa [plcL] using this
theorem plcL_hm {xs : List Int} {i : Nat} (h : xs.length ≤ 10) : plcL (hm xs i) 10 = hndL xs i := by
  have e1 : ∀ j, (hm xs i).testBit j = (decide (j < xs.length) && adj xs i j) := fun j => by
    rw [Bool.eq_iff_iff, hm_bit, Bool.and_eq_true, decide_eq_true_eq]
  unfold plcL hndL
  obtain ⟨d, hd⟩ : ∃ d, 10 = xs.length + d := ⟨10 - xs.length, by omega⟩
  rw [hd, List.range_add, List.filter_append]
  have h1 : (List.range xs.length).filter (hm xs i).testBit = (List.range xs.length).filter (adj xs i) := List.filter_congr fun j hj => by
    rw [e1, decide_eq_true (List.mem_range.1 hj), Bool.true_and]
  have h2 : ((List.range d).map (xs.length + ·)).filter (hm xs i).testBit = [] := List.filter_eq_nil_iff.2 fun j hj => by
    obtain ⟨q, _, rfl⟩ := List.mem_map.1 hj
    rw [e1, decide_eq_false (by omega)]; simp
  rw [h1, h2, List.append_nil]
theorem nodes_snoc (l : List Nat) (x : Nat) : nodes (l ++ [x]) = nodes l ++ [.int .i64 (x : Int)] := by simp [nodes]
structure KO where
  k : Nat
  v : Value
  Mx : HL
  n : Nat
attribute [local irreducible] gOK WS WC WR WD Ends FS YS OpV seqK blockK loopK midK retK rdK asgK rangeEnd sat Cell
section
variable {M : HL} {n0 : Nat} {H : Heap} {v w : Value}
theorem grdL_asc {xs : List Int} : ∀ z ∈ grdL xs, AscN xs.length z := fun z hz => mem_allA.1 (List.mem_filter.1 hz).1
theorem aptL_asc {xs : List Int} : ∀ z ∈ aptL xs, AscN xs.length z := fun z hz => mem_allA.1 (List.mem_filter.1 hz).1
end
end Go.Proofs.YtcfffhkabhmkmaaDoor.Ps

/- Count, Cheapest, Guards, Proves, Hand. -/
namespace Go.Proofs.YtcfffhkabhmkmaaDoor.Ps
open Go Go.Abs Go.Mth
set_option linter.unusedVariables false
set_option linter.unusedSimpArgs false
def errG (xs o : List Int) : Int := if errL xs o ≠ 0 then errL xs o else if grd xs (o.map Int.toNat) = true then 0 else 14
def errA (xs o : List Int) : Int := if errL xs o ≠ 0 then errL xs o else if apt xs (o.map Int.toNat) = true then 0 else 14
theorem toNat_IL (l : List Nat) : (IL l).map Int.toNat = l := by
  refine List.ext_getElem (by simp [IL]) fun i h1 h2 => by simp [IL]
def errH (xs : List Int) (p : Int) : Int := if errS xs ≠ 0 then errS xs else if 0 ≤ p ∧ p < xs.length then 0 else 2
attribute [local irreducible] gOK WS WC WR WD Ends FS YS OpV seqK blockK loopK midK retK rdK asgK rangeEnd sat Cell
section
variable {M : HL} {n0 : Nat} {H : Heap} {v w : Value}
theorem Guards_fs (hH : hasH M n0 H) {xs o : List Int} (hS : Sl M 1 v (ints xs)) (hl : xs.length ≤ 100000) (hU : Sl M 1 w (ints o)) (ho : o.length ≤ 100000) :
    FS C 17 [v, w] H (fun e H' => e = .int .i64 (errG xs o) ∧ ∃ n', n0 ≤ n' ∧ hasH M n' H') := by
  refine FS.intro (pf := pf17) rfl rfl rfl ?_
  repeat' (first | refine zP ?_ | refine zA ?_ | (refine zM ?_; intro _ _) | refine zX ?_ | (refine zC ?_; intro _ _ _ _) | (refine zS ?_; intro _ _) | (apply Ws <;> intro hg))
  refine WR.call (by first | exact gN | exact gS rfl) rfl rfl (checkPlaces_fs hH hS hl hU ho) ?_
  rintro _ H1 ⟨rfl, rfl⟩
  repeat' (first | refine zP ?_ | refine zA ?_ | (refine zM ?_; intro _ _) | refine zX ?_ | (refine zC ?_; intro _ _ _ _) | (refine zS ?_; intro _ _) | (apply Ws <;> intro hg))
  refine WC.condP rfl (fun h0 => ?_) (fun h0 => ?_)
  · repeat' (first | refine zP ?_ | refine zA ?_ | (refine zM ?_; intro _ _) | refine zX ?_ | (refine zC ?_; intro _ _ _ _) | (refine zS ?_; intro _ _) | (apply Ws <;> intro hg))
    exact Ends.ret1 rfl ⟨by unfold errG; rw [if_pos h0], n0, Nat.le_refl _, hH⟩
  · have h00 : errL xs o = 0 := by omega
    obtain ⟨hx, l, rfl, hla⟩ := errL_zero.1 h00
    have h10 := hx.most
    have hll := hla.len
    have hE : errG xs (IL l) = if grd xs l = true then 0 else 14 := by unfold errG; rw [if_neg h0, toNat_IL]
    repeat' (first | refine zP ?_ | refine zA ?_ | (refine zM ?_; intro _ _) | refine zX ?_ | (refine zC ?_; intro _ _ _ _) | (refine zS ?_; intro _ _) | (apply Ws <;> intro hg))
    refine WR.call (by first | exact gN | exact gS rfl) rfl rfl (handsOf_fs hH hS hx) ?_
    rintro _ H2 ⟨rfl, hH2⟩
    rw [← nodes_IL] at hU
    repeat' (first | refine zP ?_ | refine zA ?_ | (refine zM ?_; intro _ _) | refine zX ?_ | (refine zC ?_; intro _ _ _ _) | (refine zS ?_; intro _ _) | (apply Ws <;> intro hg))
    refine WR.call (by first | exact gN | exact gS rfl) rfl rfl (guarded_fs hH2 hx hnd_row hU.cons hla.lt (by omega)) ?_
    rintro _ _ ⟨rfl, rfl⟩
    cases hgr : grd xs l with
    | true =>
      rw [if_pos hgr] at hE
      repeat' (first | refine zP ?_ | refine zA ?_ | (refine zM ?_; intro _ _) | refine zX ?_ | (refine zC ?_; intro _ _ _ _) | (refine zS ?_; intro _ _) | refine zO ?_ | (apply Ws <;> intro hg))
      exact Ends.ret1 rfl ⟨by rw [hE], n0 + 1, by omega, hH2.tail⟩
    | false =>
      rw [if_neg (by rw [hgr]; decide)] at hE
      repeat' (first | refine zP ?_ | refine zA ?_ | (refine zM ?_; intro _ _) | refine zX ?_ | (refine zC ?_; intro _ _ _ _) | (refine zS ?_; intro _ _) | refine zO ?_ | (apply Ws <;> intro hg))
      exact Ends.ret1 rfl ⟨by rw [hE], n0 + 1, by omega, hH2.tail⟩
theorem Proves_fs (hH : hasH M n0 H) {xs o : List Int} (hS : Sl M 1 v (ints xs)) (hl : xs.length ≤ 100000) (hU : Sl M 1 w (ints o)) (ho : o.length ≤ 100000) :
    FS C 18 [v, w] H (fun e H' => e = .int .i64 (errA xs o) ∧ ∃ n', n0 ≤ n' ∧ hasH M n' H') := by
  refine FS.intro (pf := pf18) rfl rfl rfl ?_
  repeat' (first | refine zP ?_ | refine zA ?_ | (refine zM ?_; intro _ _) | refine zX ?_ | (refine zC ?_; intro _ _ _ _) | (refine zS ?_; intro _ _) | (apply Ws <;> intro hg))
  refine WR.call (by first | exact gN | exact gS rfl) rfl rfl (checkPlaces_fs hH hS hl hU ho) ?_
  rintro _ H1 ⟨rfl, rfl⟩
  repeat' (first | refine zP ?_ | refine zA ?_ | (refine zM ?_; intro _ _) | refine zX ?_ | (refine zC ?_; intro _ _ _ _) | (refine zS ?_; intro _ _) | (apply Ws <;> intro hg))
  refine WC.condP rfl (fun h0 => ?_) (fun h0 => ?_)
  · repeat' (first | refine zP ?_ | refine zA ?_ | (refine zM ?_; intro _ _) | refine zX ?_ | (refine zC ?_; intro _ _ _ _) | (refine zS ?_; intro _ _) | (apply Ws <;> intro hg))
    exact Ends.ret1 rfl ⟨by unfold errA; rw [if_pos h0], n0, Nat.le_refl _, hH⟩
  · have h00 : errL xs o = 0 := by omega
    obtain ⟨hx, l, rfl, hla⟩ := errL_zero.1 h00
    have h10 := hx.most
    have hll := hla.len
    have hE : errA xs (IL l) = if apt xs l = true then 0 else 14 := by unfold errA; rw [if_neg h0, toNat_IL]
    repeat' (first | refine zP ?_ | refine zA ?_ | (refine zM ?_; intro _ _) | refine zX ?_ | (refine zC ?_; intro _ _ _ _) | (refine zS ?_; intro _ _) | (apply Ws <;> intro hg))
    refine WR.call (by first | exact gN | exact gS rfl) rfl rfl (handsOf_fs hH hS hx) ?_
    rintro _ H2 ⟨rfl, hH2⟩
    rw [← nodes_IL] at hU
    repeat' (first | refine zP ?_ | refine zA ?_ | (refine zM ?_; intro _ _) | refine zX ?_ | (refine zC ?_; intro _ _ _ _) | (refine zS ?_; intro _ _) | (apply Ws <;> intro hg))
    refine WR.call (by first | exact gN | exact gS rfl) rfl rfl (apart_fs hH2 hx hnd_row hU.cons hla.lt (by omega)) ?_
    rintro _ _ ⟨rfl, rfl⟩
    cases hgr : apt xs l with
    | true =>
      rw [if_pos hgr] at hE
      repeat' (first | refine zP ?_ | refine zA ?_ | (refine zM ?_; intro _ _) | refine zX ?_ | (refine zC ?_; intro _ _ _ _) | (refine zS ?_; intro _ _) | refine zO ?_ | (apply Ws <;> intro hg))
      exact Ends.ret1 rfl ⟨by rw [hE], n0 + 1, by omega, hH2.tail⟩
    | false =>
      rw [if_neg (by rw [hgr]; decide)] at hE
      repeat' (first | refine zP ?_ | refine zA ?_ | (refine zM ?_; intro _ _) | refine zX ?_ | (refine zC ?_; intro _ _ _ _) | (refine zS ?_; intro _ _) | refine zO ?_ | (apply Ws <;> intro hg))
      exact Ends.ret1 rfl ⟨by rw [hE], n0 + 1, by omega, hH2.tail⟩
theorem places_fs (hH : hasH M n0 H) {s : Nat} (hs : s < 1024) :
    FS C 46 [.int .u16 (s : Int)] H (fun e H' => ∃ Mx n', Own 3 1 e (nodes (plcL s 10)) Mx ∧ n0 ≤ n' ∧ hasH (Mx ++ M) n' H') := by
  refine FS.intro (pf := pf46) rfl rfl rfl ?_
  repeat' (first | refine zP ?_ | refine zA ?_ | (refine zM ?_; intro _ _) | refine zX ?_ | (refine zC ?_; intro _ _ _ _) | (refine zS ?_; intro _ _) | (apply Ws <;> intro hg))
  refine WC.loopX [(0, _)] (fun s' : KO => [(5, .int .i64 (s'.k : Int)), (3, s'.v)]) [] (fun s' H' => s'.k ≤ 10 ∧ Own 3 1 s'.v (nodes (plcL s s'.k)) s'.Mx ∧ n0 ≤ s'.n ∧ hasH (s'.Mx ++ M) s'.n H') (fun s' => 10 - s'.k) ⟨0, .slice none 0 0, [], n0⟩ (by repeat' (first | exact .nil | refine .cons rfl ?_)) rfl ⟨Nat.zero_le _, .nil, Nat.le_refl _, hH⟩ ?_
  clear hH
  rintro ⟨k, v7, Mx, n1⟩ H1 ⟨hk, hO, hn1, hH⟩
  simp only at hk hO hn1 hH
  have hil := plcL_len s k
  have his := plcL_succ s k
  dsimp only [List.cons_append, List.nil_append]
  repeat' (first | refine zP ?_ | refine zA ?_ | (refine zM ?_; intro _ _) | refine zX ?_ | (refine zC ?_; intro _ _ _ _) | (refine zS ?_; intro _ _) | (apply Ws <;> intro hg))
  refine WC.condP rfl (fun hlt => ?_) (fun hlt => ?_)
  · have hk' : k < 10 := by omega
    repeat' (first | refine zP ?_ | refine zA ?_ | (refine zM ?_; intro _ _) | refine zX ?_ | (refine zC ?_; intro _ _ _ _) | (refine zS ?_; intro _ _) | (apply Ws <;> intro hg))
    refine WR.call (by first | exact gN | exact gS rfl) rfl rfl (only_fs k (by omega) _) ?_
    rintro _ _ ⟨rfl, rfl⟩
    have hp16 : 2 ^ k < 1024 := by show 2 ^ k < 2 ^ 10; exact Nat.pow_lt_pow_right (by omega) (by omega)
    refine WR.op (by first | exact gN | exact gS rfl) rfl (OpV.andN rfl rfl (lt16 hs) (lt16 hp16)) ?_
    repeat' (first | refine zP ?_ | refine zA ?_ | (refine zM ?_; intro _ _) | refine zX ?_ | (refine zC ?_; intro _ _ _ _) | (refine zS ?_; intro _ _) | (apply Ws <;> intro hg))
    by_cases hm : s.testBit k = true
    · rw [if_pos hm] at his
      refine WC.condT (by rw [show decide (((s &&& 2 ^ k : Nat) : Int) ≠ 0) = true from decide_eq_true (and_pow_ne.2 hm)]; rfl) ?_
      repeat' (first | refine zP ?_ | refine zA ?_ | (refine zM ?_; intro _ _) | refine zX ?_ | (refine zC ?_; intro _ _ _ _) | (refine zS ?_; intro _ _) | refine zO ?_ | (apply Ws <;> intro hg))
      refine WR.append1F [] Mx M rfl rfl rfl rfl hO hH (new := [.int .i64 (k : Int)]) rfl rfl rfl (Nat.le_refl _) (by decide) (by simp; omega) fun v' Mx' n' H' q1 q2 q3 => ?_
      repeat' (first | refine zP ?_ | refine zA ?_ | (refine zM ?_; intro _ _) | refine zX ?_ | (refine zC ?_; intro _ _ _ _) | (refine zS ?_; intro _ _) | (apply Ws <;> intro hg))
      refine Ends.loop ⟨k + 1, v', Mx', n'⟩ (by simp only; omega) (by repeat' (first | exact .nil | refine .cons rfl ?_)) rfl ⟨hk', ?_, by simp only; omega, q2⟩
      simp only
      rw [his, nodes_snoc]; exact q1
    · rw [if_neg hm] at his
      refine WC.condF (by rw [show decide (((s &&& 2 ^ k : Nat) : Int) ≠ 0) = false from decide_eq_false (fun h => hm (and_pow_ne.1 h))]; rfl) ?_
      repeat' (first | refine zP ?_ | refine zA ?_ | (refine zM ?_; intro _ _) | refine zX ?_ | (refine zC ?_; intro _ _ _ _) | (refine zS ?_; intro _ _) | refine zO ?_ | (apply Ws <;> intro hg))
      refine Ends.loop ⟨k + 1, v7, Mx, n1⟩ (by simp only; omega) (by repeat' (first | exact .nil | refine .cons rfl ?_)) rfl ⟨hk', ?_, by simp only; omega, hH⟩
      simp only
      rw [his]; exact hO
  · have hkn : k = 10 := by omega
    subst hkn
    repeat' (first | refine zP ?_ | refine zA ?_ | (refine zM ?_; intro _ _) | refine zX ?_ | (refine zC ?_; intro _ _ _ _) | (refine zS ?_; intro _ _) | (apply Ws <;> intro hg))
    exact Ends.ret1 rfl ⟨Mx, n1, hO, hn1, hH⟩
theorem Hand_fs (hH : hasH M n0 H) {xs : List Int} (hS : Sl M 1 v (ints xs)) (hl : xs.length ≤ 100000) (p : Int) :
    FS C 20 [v, .int .i64 p] H (fun e H' => ∃ u M2 n', e = .tuple #[u, .int .i64 (errH xs p)] ∧ Sl (M2 ++ M) 1 u (nodes (if errH xs p = 0 then hndL xs p.toNat else [])) ∧ n0 ≤ n' ∧ hasH (M2 ++ M) n' H') := by
  refine FS.intro (pf := pf20) rfl rfl rfl ?_
  repeat' (first | refine zP ?_ | refine zA ?_ | (refine zM ?_; intro _ _) | refine zX ?_ | (refine zC ?_; intro _ _ _ _) | (refine zS ?_; intro _ _) | (apply Ws <;> intro hg))
  refine WR.call (by first | exact gN | exact gS rfl) rfl rfl (Check_fs hH hS hl) ?_
  rintro _ H1 ⟨rfl, rfl⟩
  repeat' (first | refine zP ?_ | refine zA ?_ | (refine zM ?_; intro _ _) | refine zX ?_ | (refine zC ?_; intro _ _ _ _) | (refine zS ?_; intro _ _) | (apply Ws <;> intro hg))
  refine WC.condP rfl (fun h0 => ?_) (fun h0 => ?_)
  · have hE : errH xs p = errS xs := by unfold errH; rw [if_pos h0]
    repeat' (first | refine zP ?_ | refine zA ?_ | (refine zM ?_; intro _ _) | refine zX ?_ | (refine zC ?_; intro _ _ _ _) | (refine zS ?_; intro _ _) | (apply Ws <;> intro hg))
    exact Ends.ret2 rfl rfl ⟨_, [], n0, by rw [hE], by rw [hE, if_neg h0]; exact .nil 0, Nat.le_refl _, hH⟩
  · have h00 : errS xs = 0 := by omega
    have hx := errS_zero.1 h00
    have h10 := hx.most
    repeat' (first | refine zP ?_ | refine zA ?_ | (refine zM ?_; intro _ _) | refine zX ?_ | (refine zC ?_; intro _ _ _ _) | (refine zS ?_; intro _ _) | (apply Ws <;> intro hg))
    refine WR.call (by first | exact gN | exact gS rfl) rfl rfl (isPlace_fs hH hS p) ?_
    rintro _ _ ⟨rfl, rfl⟩
    repeat' (first | refine zP ?_ | refine zA ?_ | (refine zM ?_; intro _ _) | refine zX ?_ | (refine zC ?_; intro _ _ _ _) | (refine zS ?_; intro _ _) | (apply Ws <;> intro hg))
    refine WC.condP rfl (fun hp => ?_) (fun hp => ?_)
    · have hE : errH xs p = 2 := by unfold errH; rw [if_neg h0, if_neg (by omega)]
      repeat' (first | refine zP ?_ | refine zA ?_ | (refine zM ?_; intro _ _) | refine zX ?_ | (refine zC ?_; intro _ _ _ _) | (refine zS ?_; intro _ _) | (apply Ws <;> intro hg))
      exact Ends.ret2 rfl rfl ⟨_, [], n0, by rw [hE], by rw [hE, if_neg (by decide)]; exact .nil 0, Nat.le_refl _, hH⟩
    · have hp2 : 0 ≤ p ∧ p < xs.length := by omega
      have hE : errH xs p = 0 := by unfold errH; rw [if_neg h0, if_pos hp2]
      obtain ⟨q, rfl⟩ : ∃ q : Nat, p = (q : Int) := ⟨p.toNat, by omega⟩
      have hq : q < xs.length := by omega
      repeat' (first | refine zP ?_ | refine zA ?_ | (refine zM ?_; intro _ _) | refine zX ?_ | (refine zC ?_; intro _ _ _ _) | (refine zS ?_; intro _ _) | (apply Ws <;> intro hg))
      refine WR.call (by first | exact gN | exact gS rfl) rfl rfl (handsOf_fs hH hS hx) ?_
      rintro _ H2 ⟨rfl, hH2⟩
      have hV : HndV ((n0, .row 68 0 0 (numsK .u16 (hsL xs))) :: M) xs (.slice (some ⟨n0, 0, some 0⟩) xs.length (2 * xs.length + 1)) := hnd_row
      unfold HndV at hV
      have hlen := hsL_len xs
      have hg := hsL_get hq
      repeat' (first | refine zP ?_ | refine zA ?_ | (refine zM ?_; intro _ _) | refine zX ?_ | (refine zC ?_; intro _ _ _ _) | (refine zS ?_; intro _ _) | (apply Ws <;> intro hg))
      rw [hg]
      refine WR.call (by first | exact gN | exact gS rfl) rfl rfl (places_fs hH2 (hm_lt10 h10 q)) ?_
      rintro e3 H3 ⟨Mx, n3, hO, hn3, hH3⟩
      repeat' (first | refine zP ?_ | refine zA ?_ | (refine zM ?_; intro _ _) | refine zX ?_ | (refine zC ?_; intro _ _ _ _) | (refine zS ?_; intro _ _) | (apply Ws <;> intro hg))
      refine Ends.ret2 rfl rfl ⟨_, Mx ++ [(n0, .row 68 0 0 (numsK .u16 (hsL xs)))], n3, by rw [hE], ?_, by omega, hH3.perm (by classical exact List.perm_iff_count.2 (fun a => by simp only [defds, List.map_cons, List.map_nil, List.count_append, List.count_cons, List.count_nil, List.cons_append, List.nil_append, List.append_nil]; omega))⟩
      rw [hE, if_pos rfl, Int.toNat_natCast, ← plcL_hm h10]
      exact (hO.sl []).mono fun q hq => by rw [List.append_nil] at hq; simp [hq]
end
end Go.Proofs.YtcfffhkabhmkmaaDoor.Ps

/- Shores by numbers. -/
namespace Go.Proofs.YtcfffhkabhmkmaaDoor.Ps
open Go Go.Abs Go.Mth
set_option linter.unusedVariables false
set_option linter.unusedSimpArgs false
theorem u8k : C.c.P.underlying 5 = some (.int .u8) := by kernel_rfl
theorem i64k : C.c.P.underlying 3 = some (.int .i64) := by kernel_rfl
def mkS (by_ : List Nat) (n : Nat) : List Int := (List.range n).map fun i => if i = 0 then -1 else ((by_.getD i 0 % i : Nat) : Int)
theorem mkS_len (by_ : List Nat) (n : Nat) : (mkS by_ n).length = n := by simp [mkS]
theorem mkS_get {by_ : List Nat} {n i : Nat} (h : i < n) : (mkS by_ n).getD i 0 = if i = 0 then -1 else ((by_.getD i 0 % i : Nat) : Int) := by
  rw [getD_eq (by rw [mkS_len]; exact h)]; simp [mkS]
theorem mkS_succ (by_ : List Nat) (n : Nat) : mkS by_ (n + 1) = mkS by_ n ++ [if n = 0 then -1 else ((by_.getD n 0 % n : Nat) : Int)] := by simp [mkS, List.range_succ]
theorem mkS_ok (by_ : List Nat) {n : Nat} (h1 : 1 ≤ n) (h10 : n ≤ 10) : OKS (mkS by_ n) where
  one := by rw [mkS_len]; exact h1
  most := by rw [mkS_len]; exact h10
  root := by rw [mkS_get (by omega), if_pos rfl]
  par k hk hl := by
    rw [mkS_len] at hl
    rw [mkS_get hl, if_neg (by omega)]
    have := Nat.mod_lt (by_.getD k 0) (show 0 < k by omega)
    omega
theorem hm_grow {xs : List Int} (h : OKS xs) {k p : Nat} (hk1 : 1 ≤ k) (hk : k < xs.length) (hp : xs.getD k 0 = (p : Int)) (hpk : p < k) {l : List Nat} (hl : l.length = k) (hv : ∀ i, i < k → l.getD i 0 = hmTo xs k i) :
    ∀ i, i < k + 1 → ((l ++ [2 ^ k ||| 2 ^ p]).set p ((l ++ [2 ^ k ||| 2 ^ p]).getD p 0 ||| 2 ^ k)).getD i 0 = hmTo xs (k + 1) i := by
  obtain ⟨L, hL⟩ : ∃ L, l ++ List.replicate (xs.length - k) 0 = L := ⟨_, rfl⟩
  have hLl : L.length = xs.length := by rw [← hL]; simp [hl]; omega
  have hLv : ∀ i, i < xs.length → L.getD i 0 = hmTo xs k i := fun i hi => by
    by_cases e : i < k
    · rw [← hL, getD_app_l (by omega)]; exact hv i e
    · rw [hm_zero (by omega), ← hL, List.getD_eq_getElem?_getD, List.getElem?_append_right (by omega), List.getElem?_replicate]
      split <;> rfl
  have hs := hm_step h hk hp hpk hLl hLv
  have hLk : L.getD k 0 = 0 := by rw [hLv k hk, hm_zero (Nat.le_refl _)]
  intro i hi
  rw [← hs i (by omega)]
  have n1 : (L.set k (L.getD k 0 ||| 2 ^ k)).length = xs.length := by simp [hLl]
  have n2 : ((L.set k (L.getD k 0 ||| 2 ^ k)).set k ((L.set k (L.getD k 0 ||| 2 ^ k)).getD k 0 ||| 2 ^ p)).length = xs.length := by simp [hLl]
  have hsn : (l ++ [2 ^ k ||| 2 ^ p]).length = k + 1 := by simp [hl]
  rw [getD_set' (by omega), getD_set' (by omega)]
  have hlp : (l ++ [2 ^ k ||| 2 ^ p]).getD p 0 = L.getD p 0 := by rw [getD_app_l (by omega), hv p hpk, hLv p (by omega)]
  rw [getD_set' (by omega), if_neg (show ¬ p = k by omega), getD_set' (by omega), if_neg (show ¬ p = k by omega), hlp]
  by_cases e1 : i = p
  · rw [if_pos e1, if_pos e1]
  · rw [if_neg e1, if_neg e1, getD_set' (by omega)]
    by_cases e2 : i = k
    · rw [if_pos e2, getD_set' (by omega), if_pos rfl, hLk, Nat.zero_or, e2, ← hl, snoc_at]
    · rw [if_neg e2, getD_set' (by omega), if_neg e2, getD_app_l (by omega), hv i (by omega), hLv i (by omega)]
structure KH where
  k : Nat
  vs : Value
  vh : Value
  hs : List Nat
  MS : HL
  MH : HL
  n : Nat
theorem lt64 {a : Nat} (h : a < 1024) : a < capK .u64 := Nat.lt_of_lt_of_le h (by decide)
attribute [local irreducible] gOK WS WC WR WD Ends FS YS OpV seqK blockK loopK midK retK rdK asgK rangeEnd sat Cell
section
variable {M : HL} {n0 : Nat} {H : Heap} {v w : Value}
set_option maxHeartbeats 2000000 in
theorem made_fs (hH : hasH M n0 H) {x : Nat} {by_ : List Nat} (hx : x ≤ 255) (hb : ∀ y ∈ by_, y ≤ 255) (hbl : by_.length = 10) {most : Nat} (h1 : 1 ≤ most) (h10 : most ≤ 10) :
    FS C 8 [.agg (numsK .u8 (x :: by_)).toArray, .int .i64 (most : Int)] H (fun e H' => ∃ vs vh MS MH n', e = .tuple #[vs, vh] ∧ Own 3 1 vs (ints (mkS by_ (1 + x % most))) MS ∧ Own 29 1 vh (numsK .u64 (hsL (mkS by_ (1 + x % most)))) MH ∧ n0 ≤ n' ∧ hasH (MS ++ (MH ++ M)) n' H') := by
  have hone : (numsK .u8 (x :: by_)).all one = true := numsK_one _
  have hsl : (numsK .u8 (x :: by_)).length = 11 := by simp [numsK, hbl]
  have hg0 : (numsK .u8 (x :: by_))[0]? = some (.int .u8 (x : Int)) := rfl
  refine FS.intro (pf := pf8) rfl rfl rfl ?_
  refine WC.seq ?_
  refine WC.region ?_
  refine WR.boxA (cs := numsK .u8 (x :: by_)) (by first | exact gN | exact gS rfl) rfl hH rfl hone fun H1 hH1 => ?_
  repeat' (first | refine zP ?_ | refine zA ?_ | (refine zM ?_; intro _ _) | refine zX ?_ | (refine zC ?_; intro _ _ _ _) | (refine zS ?_; intro _ _) | (apply Ws <;> intro hg))
  refine WR.op (by first | exact gN | exact gS rfl) rfl (OpV.conv u8k i64k rfl (c := (x : Int)) (IntWalk.i64_in _ (by omega))) ?_
  have hmod := Nat.mod_lt x (show 0 < most by omega)
  repeat' (first | refine zP ?_ | refine zA ?_ | (refine zM ?_; intro _ _) | refine zX ?_ | (refine zC ?_; intro _ _ _ _) | (refine zS ?_; intro _ _) | (apply Ws <;> intro hg))
  rw [show (x : Int) % (most : Int) = ((x % most : Nat) : Int) by simp]
  obtain ⟨r, hr⟩ : ∃ r, x % most = r := ⟨_, rfl⟩
  rw [hr] at hmod ⊢
  repeat' (first | refine zP ?_ | refine zA ?_ | (refine zM ?_; intro _ _) | refine zX ?_ | (refine zC ?_; intro _ _ _ _) | (refine zS ?_; intro _ _) | (apply Ws <;> intro hg))
  rw [show (1 : Int) + (r : Int) = ((1 + r : Nat) : Int) by omega]
  obtain ⟨n, hn⟩ : ∃ n, 1 + r = n := ⟨_, rfl⟩
  rw [hn]
  have hn10 : 1 ≤ n ∧ n ≤ 10 := by omega
  have hok := mkS_ok by_ hn10.1 hn10.2
  have hlen := mkS_len by_ n
  clear hr hn hmod hH
  refine WR.bldS (by first | exact gN | exact gS rfl) rfl hH1 (vs := [(0, .int .i64 (-1))]) rfl (cs := [.int .i64 (-1)]) (by rfl) rfl fun H2 hH2 => ?_
  refine WR.bldS (by first | exact gN | exact gS rfl) rfl hH2 (vs := [(0, .int .u64 1)]) rfl (cs := [.int .u64 1]) (by rfl) rfl fun H3 hH3 => ?_
  have hH4 : hasH ([(n0 + 1, .inp 3 0 0 [.int .i64 (-1)])] ++ ([(n0 + 1 + 1, .inp 29 0 0 [.int .u64 1])] ++ ((n0, .row 24 0 0 (numsK .u8 (x :: by_))) :: M))) (n0 + 1 + 1 + 1) H3 := (hH3.asInp .here |>.asInp (.there .here)).swap
  have hOs : Own 3 1 (.slice (some ⟨n0 + 1, 0, some 0⟩) 1 (2 * 1 + 1)) (ints (mkS by_ 1)) [(n0 + 1, .inp 3 0 0 [.int .i64 (-1)])] := .full (len := 1) rfl rfl
  have hOh : Own 29 1 (.slice (some ⟨n0 + 1 + 1, 0, some 0⟩) 1 (2 * 1 + 1)) (numsK .u64 [1]) [(n0 + 1 + 1, .inp 29 0 0 [.int .u64 1])] := .full (len := 1) rfl rfl
  clear hH1 hH2 hH3
  repeat' (first | refine zP ?_ | refine zA ?_ | (refine zM ?_; intro _ _) | refine zX ?_ | (refine zC ?_; intro _ _ _ _) | (refine zS ?_; intro _ _) | (apply Ws <;> intro hg))
  refine WC.loopX [(2, _), (6, _)] (fun z : KH => [(9, .int .i64 (z.k : Int)), (7, z.vs), (8, z.vh)]) []
    (fun z H' => 1 ≤ z.k ∧ z.k ≤ n ∧ z.hs.length = z.k ∧ (∀ i, i < z.k → z.hs.getD i 0 = hmTo (mkS by_ n) z.k i) ∧ Own 3 1 z.vs (ints (mkS by_ z.k)) z.MS ∧ Own 29 1 z.vh (numsK .u64 z.hs) z.MH ∧ n0 ≤ z.n ∧ hasH (z.MS ++ (z.MH ++ ((n0, .row 24 0 0 (numsK .u8 (x :: by_))) :: M))) z.n H') (fun z => n - z.k)
    ⟨1, _, _, [1], _, _, n0 + 1 + 1 + 1⟩ (by repeat' (first | exact .nil | refine .cons rfl ?_)) rfl ⟨Nat.le_refl _, hn10.1, rfl, fun i hi => ?_, hOs, hOh, by simp only; omega, hH4⟩ ?_
  · have : i = 0 := by simp only at hi; omega
    subst this
    refine bits_ext fun j => ?_
    rw [hmTo_bit, show ([1] : List Nat).getD 0 0 = 2 ^ 0 from rfl, pow_bit]
    constructor
    · rintro rfl; exact ⟨by simp only; omega, by simp only; omega, adj_self _ _⟩
    · rintro ⟨_, h, _⟩; simp only at h; omega
  clear hH4 hOs hOh
  rintro ⟨k, vs, vh, hs, MS, MH, n1⟩ H2 ⟨hk1, hk, hhl, hhv, hOs, hOh, hn1, hH⟩
  simp only at hk1 hk hhl hhv hOs hOh hn1 hH
  have hm0 : (n0, Ch.row 24 0 0 (numsK .u8 (x :: by_))) ∈ MS ++ (MH ++ ((n0, .row 24 0 0 (numsK .u8 (x :: by_))) :: M)) := by simp
  dsimp only [List.cons_append, List.nil_append]
  repeat' (first | refine zP ?_ | refine zA ?_ | (refine zM ?_; intro _ _) | refine zX ?_ | (refine zC ?_; intro _ _ _ _) | (refine zS ?_; intro _ _) | (apply Ws <;> intro hg))
  refine WC.condP rfl (fun hlt => ?_) (fun hlt => ?_)
  · have hk' : k < n := by omega
    have hby : by_.getD k 0 ≤ 255 := hb _ (getD_mem (by omega))
    have hgk : (numsK .u8 (x :: by_))[1 + k]? = some (.int .u8 ((by_.getD k 0 : Nat) : Int)) := by
      unfold numsK
      rw [Nat.add_comm 1 k, List.map_cons, List.getElem?_cons_succ, List.getElem?_map, List.getElem?_eq_getElem (by omega), getD_eq (by omega)]; rfl
    repeat' (first | refine zP ?_ | refine zA ?_ | (refine zM ?_; intro _ _) | refine zX ?_ | (refine zC ?_; intro _ _ _ _) | (refine zS ?_; intro _ _) | (apply Ws <;> intro hg))
    refine WR.op (by first | exact gN | exact gS rfl) rfl (OpV.load1 (v := .int .u8 ((by_.getD k 0 : Nat) : Int)) rfl hH hm0 (.row _ _ _ _) (Nat.zero_le _) (by rw [Nat.sub_zero]; exact hgk)) ?_
    refine WR.op (by first | exact gN | exact gS rfl) rfl (OpV.conv u8k i64k rfl (c := ((by_.getD k 0 : Nat) : Int)) (IntWalk.i64_in _ (by omega))) ?_
    repeat' (first | refine zP ?_ | refine zA ?_ | (refine zM ?_; intro _ _) | refine zX ?_ | (refine zC ?_; intro _ _ _ _) | (refine zS ?_; intro _ _) | (apply Ws <;> intro hg))
    rw [show ((by_.getD k 0 : Nat) : Int) % (k : Int) = ((by_.getD k 0 % k : Nat) : Int) by simp]
    have hpm := Nat.mod_lt (by_.getD k 0) (show 0 < k by omega)
    have hss := mkS_succ by_ k
    rw [if_neg (by omega)] at hss
    have hgp := mkS_get (by_ := by_) hk'
    rw [if_neg (by omega)] at hgp
    have hgw := hm_grow hok hk1 (by rw [hlen]; exact hk') hgp hpm hhl hhv
    generalize by_.getD k 0 % k = p at hpm hss hgp hgw ⊢
    have hp1 : 2 ^ k < 1024 := by show 2 ^ k < 2 ^ 10; exact Nat.pow_lt_pow_right (by omega) (by omega)
    have hp2 : 2 ^ p < 1024 := by show 2 ^ p < 2 ^ 10; exact Nat.pow_lt_pow_right (by omega) (by omega)
    have hp3 : 2 ^ k ||| 2 ^ p < 1024 := Nat.or_lt_two_pow (n := 10) hp1 hp2
    repeat' (first | refine zP ?_ | refine zA ?_ | (refine zM ?_; intro _ _) | refine zX ?_ | (refine zC ?_; intro _ _ _ _) | (refine zS ?_; intro _ _) | (apply Ws <;> intro hg))
    refine WR.op (by first | exact gN | exact gS rfl) rfl (OpV.shl1 rfl rfl (by show k ≤ 64; omega) (lt64 hp1)) ?_
    repeat' (first | refine zP ?_ | refine zA ?_ | (refine zM ?_; intro _ _) | refine zX ?_ | (refine zC ?_; intro _ _ _ _) | (refine zS ?_; intro _ _) | (apply Ws <;> intro hg))
    refine WR.op (by first | exact gN | exact gS rfl) rfl (OpV.shl1 rfl rfl (by show p ≤ 64; omega) (lt64 hp2)) ?_
    refine WR.op (by first | exact gN | exact gS rfl) rfl (OpV.orN rfl rfl (lt64 hp1) (lt64 hp2)) ?_
    refine WR.append1RF [] MS (MH ++ ((n0, .row 24 0 0 (numsK .u8 (x :: by_))) :: M)) rfl rfl rfl rfl hOs hH (new := [.int .i64 (p : Int)]) rfl rfl rfl (Nat.le_refl _) (by decide) (by simp [mkS_len]; omega) fun vs2 MS2 n2 H3 hO2 hH3 hn2 => ?_
    refine WR.append1RF MS2 MH ((n0, .row 24 0 0 (numsK .u8 (x :: by_))) :: M) rfl rfl rfl rfl hOh hH3 (new := [.int .u64 ((2 ^ k ||| 2 ^ p : Nat) : Int)]) rfl rfl rfl (Nat.le_refl _) (by decide) (by simp; omega) fun vh2 MH2 n3 H4 hO3 hH4 hn3 => ?_
    clear hH hH3 hOs hOh
    have hO2' : Own 3 1 vs2 (ints (mkS by_ (k + 1))) MS2 := by rw [hss, ints, List.map_append]; exact hO2.own
    have hnn : numsK .u64 hs ++ [Value.int .u64 ((2 ^ k ||| 2 ^ p : Nat) : Int)] = numsK .u64 (hs ++ [2 ^ k ||| 2 ^ p]) := by simp [numsK]
    rw [hnn] at hO3
    have hls : (hs ++ [2 ^ k ||| 2 ^ p]).length = k + 1 := by simp [hhl]
    have hbp : (hs ++ [2 ^ k ||| 2 ^ p]).getD p 0 < 1024 := by rw [getD_app_l (by omega), hhv p (by omega)]; exact hmTo_lt p (by omega)
    generalize hs ++ [2 ^ k ||| 2 ^ p] = l2 at hO3 hls hbp hgw
    have hll : (numsK .u64 l2).length = (k + 1) * 1 := by simp [numsK, hls]
    generalize hq : numsK .u64 l2 = q2 at hO3 hll
    cases hO3 with
    | @mk b u o len _ hl3 =>
      have hlk : len = k + 1 := by omega
      subst hlk
      subst hq
      replace hH4 : hasH ((b, Ch.row 29 u o (numsK .u64 l2)) :: (MS2 ++ ((n0, .row 24 0 0 (numsK .u8 (x :: by_))) :: M))) n3 H4 := hH4.perm (List.perm_middle (l₁ := MS2) (a := (b, Ch.row 29 u o (numsK .u64 l2))))
      have hSh : Sl ((b, Ch.row 29 u o (numsK .u64 l2)) :: (MS2 ++ ((n0, .row 24 0 0 (numsK .u8 (x :: by_))) :: M))) 1 (.slice (some ⟨b, o, some u⟩) (k + 1) (2 * 1)) (numsK .u64 l2) := Own.sl (.row hl3) (MS2 ++ ((n0, .row 24 0 0 (numsK .u8 (x :: by_))) :: M))
      repeat' (first | refine zP ?_ | refine zA ?_ | (refine zM ?_; intro _ _) | refine zX ?_ | (refine zC ?_; intro _ _ _ _) | (refine zS ?_; intro _ _) | (apply Ws <;> intro hg))
      refine WR.op (by first | exact gN | exact gS rfl) rfl (OpV.load1 (v := .int .u64 ((l2.getD p 0 : Nat) : Int)) rfl hH4 (.head _) (.row _ _ _ _) (Nat.le_add_right _ _) (by rw [Nat.add_sub_cancel_left]; exact nodes_get (by omega))) ?_
      repeat' (first | refine zP ?_ | refine zA ?_ | (refine zM ?_; intro _ _) | refine zX ?_ | (refine zC ?_; intro _ _ _ _) | (refine zS ?_; intro _ _) | (apply Ws <;> intro hg))
      refine WR.op (by first | exact gN | exact gS rfl) rfl (OpV.shl1 rfl rfl (by show k ≤ 64; omega) (lt64 hp1)) ?_
      refine WR.op (by first | exact gN | exact gS rfl) rfl (OpV.orN rfl rfl (lt64 hbp) (lt64 hp1)) ?_
      repeat' (first | refine zP ?_ | refine zA ?_ | (refine zM ?_; intro _ _) | refine zX ?_ | (refine zC ?_; intro _ _ _ _) | (refine zS ?_; intro _ _) | (apply Ws <;> intro hg))
      refine WR.store1 (cs' := numsK .u64 (l2.set p (l2.getD p 0 ||| 2 ^ k))) (by first | exact gN | exact gS rfl) hH4 rfl rfl rfl .here (Nat.le_add_right _ _) (by rw [Nat.add_sub_cancel_left]; simp [numsK]; omega) (by rw [Nat.add_sub_cancel_left]; simp [numsK]) fun H5 hH5 => ?_
      repeat' (first | refine zP ?_ | refine zA ?_ | (refine zM ?_; intro _ _) | refine zX ?_ | (refine zC ?_; intro _ _ _ _) | (refine zS ?_; intro _ _) | (apply Ws <;> intro hg))
      exact Ends.loop ⟨k + 1, vs2, _, l2.set p (l2.getD p 0 ||| 2 ^ k), MS2, [(b, .row 29 u o (numsK .u64 (l2.set p (l2.getD p 0 ||| 2 ^ k))))], n3⟩ (by simp only; omega) (by repeat' (first | exact .nil | refine .cons rfl ?_)) rfl ⟨by simp only; omega, hk', by simpa using hls, hgw, hO2', .row (by simp [numsK, hls]), by simp only; omega, hH5.perm (List.perm_middle (l₁ := MS2)).symm⟩
  · have hkn : k = n := by omega
    subst hkn
    have hhs : hs = hsL (mkS by_ k) := by
      refine ext_getD (a := 0) (by rw [hsL_len, hlen, hhl]) fun i hi => ?_
      rw [hhv i (by omega), hsL_get (by omega)]
      have := hmTo_all (xs := mkS by_ k) (i := i) (by omega)
      rw [hlen] at this
      exact this
    subst hhs
    repeat' (first | refine zP ?_ | refine zA ?_ | (refine zM ?_; intro _ _) | refine zX ?_ | (refine zC ?_; intro _ _ _ _) | (refine zS ?_; intro _ _) | (apply Ws <;> intro hg))
    exact Ends.ret2 rfl rfl ⟨vs, vh, MS, MH, n1, rfl, hOs, hOh, hn1, (hH.perm (M' := (n0, .row 24 0 0 (numsK .u8 (x :: by_))) :: (MS ++ (MH ++ M))) (by classical exact List.perm_iff_count.2 (fun a => by simp only [defds, List.map_cons, List.map_nil, List.count_append, List.count_cons, List.count_nil, List.cons_append, List.nil_append, List.append_nil]; omega))).tail⟩
end
end Go.Proofs.YtcfffhkabhmkmaaDoor.Ps

/- Bits of numbers; sets as lists. -/
namespace Go.Abs
set_option linter.unusedSectionVars false
open Go
section
variable [Globs] {C : CW} {nt : Nat} {L : Env} {D : List Nat} {H : Heap} {K : St → Prop} {M M' : HL} {n : Nat} {gd : Option (Tmp × Bool)} {lo : List Nat} {l : List POp}
theorem OpV.idxG {x ix : Operand} {k : FloatKind} {g o m n sz : Nat} {kd : IntKind} (hx : ev L x = some (.complex k g o)) (hi : ev L ix = some (.int kd (m : Int))) (hm : m < n) : OpV C (.idxA x ix n sz) L H (.complex k g (o + m * sz)) H := fun t ht => by
  have e1 : natOf (.int kd (m : Int)) = some m := rfl
  simp only [opA, ev_ok ht hx, ev_ok ht hi, oIdxA, e1, blt_of hm, cond_true]
theorem OpV.loadG {x : Operand} {k : FloatKind} {g o : Nat} {v : Value} (hx : ev L x = some (.complex k g o)) (hv : gRead g o = some v) : OpV C (.load1 x) L H v H := fun t ht => by
  simp only [opA, ev_ok ht hx, oLoad1, hv, asVal]
theorem OpV.mulK {k : IntKind} {x y : Operand} {a b c : Int} (hx : ev L x = some (.int k a)) (hy : ev L y = some (.int k b)) (hc : k.wrap (a * b) = c) : OpV C (.ibin .mul k x y) L H (.int k c) H := by
  subst hc; exact OpV.arith hx hy (by simp only [ibinA, fitI_wrap])
theorem OpV.negK {dst : Option Tmp} {x : Operand} {s ty : TypeId} {pos : String} {af : Array Edge} {g : Option (Nat × Bool)} {k : IntKind} {a c : Int} (hx : ev L x = some (.int k a)) (hc : k.wrap (0 - a) = c) :
    OpV C (.plain ⟨dst, .unOp .neg s x, ty, pos, af, g⟩) L H (.int k c) H := by
  subst hc
  refine OpV.plain (fun t ht => ?_) (fun t ht => by simp [Op.operands, ev_ok ht hx, plainV, plain1]) rfl
  have e2 : pureRun C.c.P (Op.unary .neg (.int k a)) = some (.int k (k.wrap (0 - a))) := rfl
  simp only [pureNext, execOp, ev_ok ht hx, pureRun_bind, e2, Option.bind_some]
  rfl
end
end Go.Abs
namespace Go.Proofs.YtcfffhkabhmkmaaDoor.Ps
open Go Go.Abs Go.Mth
set_option linter.unusedVariables false
set_option linter.unusedSimpArgs false
theorem u64k : C.c.P.underlying 72 = some (.int .u64) := by kernel_rfl
theorem uk : C.c.P.underlying 29 = some (.int .u64) := by kernel_rfl
theorem wrapI (z : Int) : IntKind.u64.wrap z = z % 18446744073709551616 := by
  simp [IntKind.wrap, IntKind.bits, IntKind.signed]
theorem wrapU (r : Nat) : IntKind.u64.wrap (r : Int) = ((r % 2 ^ 64 : Nat) : Int) := by
  rw [wrapI]; omega
def brT : List Nat := [0, 1, 56, 2, 57, 49, 28, 3, 61, 58, 42, 50, 38, 29, 17, 4, 62, 47, 59, 36, 45, 43, 51, 22, 53, 39, 33, 30, 24, 18, 12, 5, 63, 55, 48, 27, 60, 41, 37, 16, 46, 35, 44, 21, 52, 32, 23, 11, 54, 26, 40, 15, 34, 20, 31, 10, 25, 14, 19, 9, 13, 8, 7, 6]
theorem gread_br {m : Nat} (h : m < 64) : gRead 1 (0 + m * 1) = some (.int .u8 ((brT.getD m 0 : Nat) : Int)) := by
  have e : (numsK .u8 brT)[0 + m * 1]? = some (.int .u8 ((brT.getD m 0 : Nat) : Int)) := by
    rw [Nat.zero_add, Nat.mul_one]
    exact nodes_get (by simpa [brT] using h)
  show (match (numsK .u8 brT)[0 + m * 1]? with | some v => bif plain1 v then some v else none | none => none) = _
  rw [e]; rfl
def ngN (s : Nat) : Nat := (2 ^ 64 - s) % 2 ^ 64
def tzI (s : Nat) : Nat := ((s &&& ngN s) * 285870213051353865 % 2 ^ 64) >>> 58
theorem tz_ok : ∀ s, s < 1024 → s ≠ 0 → tzI s < 64 ∧ plcL s 10 = brT.getD (tzI s) 0 :: plcL (s &&& (s - 1)) 10 ∧ (s &&& (s - 1)) < s := by decide +kernel
theorem plcL_zero : plcL 0 10 = [] := by decide
def pc1 (x : Nat) : Nat := ((x >>> 1) &&& 6148914691236517205) + (x &&& 6148914691236517205)
def pc2 (x : Nat) : Nat := ((x >>> 2) &&& 3689348814741910323) + (x &&& 3689348814741910323)
def pc3 (x : Nat) : Nat := ((x >>> 4) + x) &&& 1085102592571150095
def pcS (k x : Nat) : Nat := x + (x >>> k)
def pcA (x : Nat) : Nat := pcS 32 (pcS 16 (pcS 8 (pc3 (pc2 (pc1 x))))) &&& 127
theorem pop_ok : ∀ x, x < 1024 → pcA x = (plcL x 10).length := by decide +kernel
attribute [local irreducible] gOK WS WC WR WD Ends FS YS OpV seqK blockK loopK midK retK rdK asgK rangeEnd sat Cell
theorem pop_fs {x : Nat} (hx : x < 1024) (H : Heap) : FS C 48 [.int .u64 (x : Int)] H (fun e H' => e = .int .i64 ((plcL x 10).length : Int) ∧ H' = H) := by
  have hsh : ∀ a k : Nat, a >>> k ≤ a := fun a k => Nat.shiftRight_le a k
  have hand : ∀ a b : Nat, a &&& b ≤ a := fun a b => Nat.and_le_left
  refine FS.intro (pf := pf48) rfl rfl rfl ?_
  repeat' (first | refine zP ?_ | refine zA ?_ | (refine zM ?_; intro _ _) | refine zX ?_ | (refine zC ?_; intro _ _ _ _) | (refine zS ?_; intro _ _) | (apply Ws <;> intro hg))
  refine WR.op (by first | exact gN | exact gS rfl) rfl (OpV.shrN (m := 1) rfl rfl (by decide)) ?_
  refine WR.op (by first | exact gN | exact gS rfl) rfl (OpV.andN (b := 6148914691236517205) rfl rfl (by show x >>> 1 < 2 ^ 64; have := hsh x 1; omega) (by decide)) ?_
  repeat' (first | refine zP ?_ | refine zA ?_ | (refine zM ?_; intro _ _) | refine zX ?_ | (refine zC ?_; intro _ _ _ _) | (refine zS ?_; intro _ _) | (apply Ws <;> intro hg))
  refine WR.op (by first | exact gN | exact gS rfl) rfl (OpV.andN (b := 6148914691236517205) rfl rfl (by show x < 2 ^ 64; omega) (by decide)) ?_
  refine WR.op (by first | exact gN | exact gS rfl) rfl (OpV.addN rfl rfl (by show _ < 2 ^ 64; have := hsh x 1; have := hand (x >>> 1) 6148914691236517205; have := hand x 6148914691236517205; omega)) ?_
  have b1 : pc1 x < 2048 := by unfold pc1; have := hsh x 1; have := hand (x >>> 1) 6148914691236517205; have := hand x 6148914691236517205; omega
  have e0 := pop_ok x hx
  rw [show ((x >>> 1) &&& 6148914691236517205) + (x &&& 6148914691236517205) = pc1 x from rfl]
  unfold pcA at e0
  obtain ⟨y, hy⟩ : ∃ y, pc1 x = y := ⟨_, rfl⟩
  rw [hy] at b1 e0 ⊢
  repeat' (first | refine zP ?_ | refine zA ?_ | (refine zM ?_; intro _ _) | refine zX ?_ | (refine zC ?_; intro _ _ _ _) | (refine zS ?_; intro _ _) | (apply Ws <;> intro hg))
  refine WR.op (by first | exact gN | exact gS rfl) rfl (OpV.shrN (m := 2) rfl rfl (by decide)) ?_
  refine WR.op (by first | exact gN | exact gS rfl) rfl (OpV.andN (b := 3689348814741910323) rfl rfl (by show y >>> 2 < 2 ^ 64; have := hsh y 2; omega) (by decide)) ?_
  repeat' (first | refine zP ?_ | refine zA ?_ | (refine zM ?_; intro _ _) | refine zX ?_ | (refine zC ?_; intro _ _ _ _) | (refine zS ?_; intro _ _) | (apply Ws <;> intro hg))
  refine WR.op (by first | exact gN | exact gS rfl) rfl (OpV.andN (b := 3689348814741910323) rfl rfl (by show y < 2 ^ 64; omega) (by decide)) ?_
  refine WR.op (by first | exact gN | exact gS rfl) rfl (OpV.addN rfl rfl (by show _ < 2 ^ 64; have := hsh y 2; have := hand (y >>> 2) 3689348814741910323; have := hand y 3689348814741910323; omega)) ?_
  have b2 : pc2 y < 4096 := by unfold pc2; have := hsh y 2; have := hand (y >>> 2) 3689348814741910323; have := hand y 3689348814741910323; omega
  rw [show ((y >>> 2) &&& 3689348814741910323) + (y &&& 3689348814741910323) = pc2 y from rfl]
  obtain ⟨z, hz⟩ : ∃ z, pc2 y = z := ⟨_, rfl⟩
  rw [hz] at b2 e0 ⊢
  repeat' (first | refine zP ?_ | refine zA ?_ | (refine zM ?_; intro _ _) | refine zX ?_ | (refine zC ?_; intro _ _ _ _) | (refine zS ?_; intro _ _) | (apply Ws <;> intro hg))
  refine WR.op (by first | exact gN | exact gS rfl) rfl (OpV.shrN (m := 4) rfl rfl (by decide)) ?_
  repeat' (first | refine zP ?_ | refine zA ?_ | (refine zM ?_; intro _ _) | refine zX ?_ | (refine zC ?_; intro _ _ _ _) | (refine zS ?_; intro _ _) | (apply Ws <;> intro hg))
  refine WR.op (by first | exact gN | exact gS rfl) rfl (OpV.addN rfl rfl (by show _ < 2 ^ 64; have := hsh z 4; omega)) ?_
  refine WR.op (by first | exact gN | exact gS rfl) rfl (OpV.andN (b := 1085102592571150095) rfl rfl (by show _ < 2 ^ 64; have := hsh z 4; omega) (by decide)) ?_
  have b3 : pc3 z < 8192 := by unfold pc3; have := hsh z 4; have := hand (z >>> 4 + z) 1085102592571150095; omega
  rw [show ((z >>> 4) + z) &&& 1085102592571150095 = pc3 z from rfl]
  obtain ⟨w, hw⟩ : ∃ w, pc3 z = w := ⟨_, rfl⟩
  rw [hw] at b3 e0 ⊢
  repeat' (first | refine zP ?_ | refine zA ?_ | (refine zM ?_; intro _ _) | refine zX ?_ | (refine zC ?_; intro _ _ _ _) | (refine zS ?_; intro _ _) | (apply Ws <;> intro hg))
  refine WR.op (by first | exact gN | exact gS rfl) rfl (OpV.shrN (m := 8) rfl rfl (by decide)) ?_
  refine WR.op (by first | exact gN | exact gS rfl) rfl (OpV.addN rfl rfl (by show _ < 2 ^ 64; have := hsh w 8; omega)) ?_
  have b4 : pcS 8 w < 16384 := by unfold pcS; have := hsh w 8; omega
  rw [show w + w >>> 8 = pcS 8 w from rfl]
  obtain ⟨p, hp⟩ : ∃ p, pcS 8 w = p := ⟨_, rfl⟩
  rw [hp] at b4 e0 ⊢
  repeat' (first | refine zP ?_ | refine zA ?_ | (refine zM ?_; intro _ _) | refine zX ?_ | (refine zC ?_; intro _ _ _ _) | (refine zS ?_; intro _ _) | (apply Ws <;> intro hg))
  refine WR.op (by first | exact gN | exact gS rfl) rfl (OpV.shrN (m := 16) rfl rfl (by decide)) ?_
  refine WR.op (by first | exact gN | exact gS rfl) rfl (OpV.addN rfl rfl (by show _ < 2 ^ 64; have := hsh p 16; omega)) ?_
  have b5 : pcS 16 p < 32768 := by unfold pcS; have := hsh p 16; omega
  rw [show p + p >>> 16 = pcS 16 p from rfl]
  obtain ⟨q, hq⟩ : ∃ q, pcS 16 p = q := ⟨_, rfl⟩
  rw [hq] at b5 e0 ⊢
  repeat' (first | refine zP ?_ | refine zA ?_ | (refine zM ?_; intro _ _) | refine zX ?_ | (refine zC ?_; intro _ _ _ _) | (refine zS ?_; intro _ _) | (apply Ws <;> intro hg))
  refine WR.op (by first | exact gN | exact gS rfl) rfl (OpV.shrN (m := 32) rfl rfl (by decide)) ?_
  refine WR.op (by first | exact gN | exact gS rfl) rfl (OpV.addN rfl rfl (by show _ < 2 ^ 64; have := hsh q 32; omega)) ?_
  have b6 : pcS 32 q < 65536 := by unfold pcS; have := hsh q 32; omega
  rw [show q + q >>> 32 = pcS 32 q from rfl]
  obtain ⟨r, hr⟩ : ∃ r, pcS 32 q = r := ⟨_, rfl⟩
  rw [hr] at b6 e0 ⊢
  repeat' (first | refine zP ?_ | refine zA ?_ | (refine zM ?_; intro _ _) | refine zX ?_ | (refine zC ?_; intro _ _ _ _) | (refine zS ?_; intro _ _) | (apply Ws <;> intro hg))
  refine WR.op (by first | exact gN | exact gS rfl) rfl (OpV.conv u64k i64k rfl (c := (r : Int)) (IntWalk.i64_in _ (by omega))) ?_
  refine WR.op (by first | exact gN | exact gS rfl) rfl (OpV.andN (b := 127) rfl rfl (by show r < 2 ^ 63; omega) (by decide)) ?_
  repeat' (first | refine zP ?_ | refine zA ?_ | (refine zM ?_; intro _ _) | refine zX ?_ | (refine zC ?_; intro _ _ _ _) | (refine zS ?_; intro _ _) | (apply Ws <;> intro hg))
  exact Ends.ret1 rfl ⟨by rw [e0], rfl⟩
section
variable {M : HL} {n0 : Nat} {H : Heap} {v w : Value}
theorem OnesCount_fs {x : Nat} (hx : x < 1024) (H : Heap) : FS C 21 [.int .u64 (x : Int)] H (fun e H' => e = .int .i64 ((plcL x 10).length : Int) ∧ H' = H) := by
  refine FS.intro (pf := pf21) rfl rfl rfl ?_
  repeat' (first | refine zP ?_ | refine zA ?_ | (refine zM ?_; intro _ _) | refine zX ?_ | (refine zC ?_; intro _ _ _ _) | (refine zS ?_; intro _ _) | (apply Ws <;> intro hg))
  refine WR.call (by first | exact gN | exact gS rfl) rfl rfl (pop_fs hx _) ?_
  rintro _ _ ⟨rfl, rfl⟩
  repeat' (first | refine zP ?_ | refine zA ?_ | (refine zM ?_; intro _ _) | refine zX ?_ | (refine zC ?_; intro _ _ _ _) | (refine zS ?_; intro _ _) | (apply Ws <;> intro hg))
  exact Ends.ret1 rfl ⟨rfl, rfl⟩
theorem tz64_fs {s : Nat} (hs : s < 1024) (h0 : s ≠ 0) (H : Heap) : FS C 54 [.int .u64 (s : Int)] H (fun e H' => e = .int .i64 ((brT.getD (tzI s) 0 : Nat) : Int) ∧ H' = H) := by
  obtain ⟨h1, h2, h3⟩ := tz_ok s hs h0
  refine FS.intro (pf := pf54) rfl rfl rfl ?_
  repeat' (first | refine zP ?_ | refine zA ?_ | (refine zM ?_; intro _ _) | refine zX ?_ | (refine zC ?_; intro _ _ _ _) | (refine zS ?_; intro _ _) | refine zO ?_ | (apply Ws <;> intro hg))
  have hng : ngN s < 2 ^ 64 := Nat.mod_lt _ (by decide)
  have ha : s &&& ngN s < capK .u64 := and_cap (lt64 hs)
  have hbr : brT.getD (tzI s) 0 ≤ 255 := by
    have : ∀ i, i < 64 → brT.getD i 0 ≤ 255 := by decide
    exact this _ h1
  refine WR.op (by first | exact gN | exact gS rfl) rfl (OpV.negK rfl (c := ((ngN s : Nat) : Int)) (by rw [wrapI]; unfold ngN; omega)) ?_
  refine WR.op (by first | exact gN | exact gS rfl) rfl (OpV.andN rfl rfl (lt64 hs) hng) ?_
  refine WR.op (by first | exact gN | exact gS rfl) rfl (OpV.mulK rfl rfl (c := (((s &&& ngN s) * 285870213051353865 % 2 ^ 64 : Nat) : Int)) (by rw [show ((s &&& ngN s : Nat) : Int) * 285870213051353865 = (((s &&& ngN s) * 285870213051353865 : Nat) : Int) by omega]; exact wrapU _)) ?_
  refine WR.op (by first | exact gN | exact gS rfl) rfl (OpV.shrN (m := 58) rfl rfl (by decide)) ?_
  refine WR.op (by first | exact gN | exact gS rfl) rfl (OpV.idxG (m := tzI s) rfl rfl (by omega)) ?_
  refine WR.op (by first | exact gN | exact gS rfl) rfl (OpV.loadG rfl (gread_br h1)) ?_
  refine WR.op (by first | exact gN | exact gS rfl) rfl (OpV.conv u8k i64k rfl (c := ((brT.getD (tzI s) 0 : Nat) : Int)) (IntWalk.i64_in _ (by omega))) ?_
  repeat' (first | refine zP ?_ | refine zA ?_ | (refine zM ?_; intro _ _) | refine zX ?_ | (refine zC ?_; intro _ _ _ _) | (refine zS ?_; intro _ _) | (apply Ws <;> intro hg))
  exact Ends.ret1 rfl ⟨rfl, rfl⟩
theorem tz_fs {s : Nat} (hs : s < 1024) (h0 : s ≠ 0) (H : Heap) : FS C 30 [.int .u64 (s : Int)] H (fun e H' => e = .int .i64 ((brT.getD (tzI s) 0 : Nat) : Int) ∧ H' = H) := by
  refine FS.intro (pf := pf30) rfl rfl rfl ?_
  repeat' (first | refine zP ?_ | refine zA ?_ | (refine zM ?_; intro _ _) | refine zX ?_ | (refine zC ?_; intro _ _ _ _) | (refine zS ?_; intro _ _) | (apply Ws <;> intro hg))
  refine WR.call (by first | exact gN | exact gS rfl) rfl rfl (tz64_fs hs h0 _) ?_
  rintro _ _ ⟨rfl, rfl⟩
  repeat' (first | refine zP ?_ | refine zA ?_ | (refine zM ?_; intro _ _) | refine zX ?_ | (refine zC ?_; intro _ _ _ _) | (refine zS ?_; intro _ _) | (apply Ws <;> intro hg))
  exact Ends.ret1 rfl ⟨rfl, rfl⟩
structure KB where
  s : Nat
  done : List Nat
  v : Value
  Mx : HL
  n : Nat
theorem members_fs (hH : hasH M n0 H) {s : Nat} (hs : s < 1024) :
    FS C 9 [.int .u64 (s : Int)] H (fun e H' => ∃ Mx n', Own 3 1 e (nodes (plcL s 10)) Mx ∧ n0 ≤ n' ∧ hasH (Mx ++ M) n' H') := by
  refine FS.intro (pf := pf9) rfl rfl rfl ?_
  repeat' (first | refine zP ?_ | refine zA ?_ | (refine zM ?_; intro _ _) | refine zX ?_ | (refine zC ?_; intro _ _ _ _) | (refine zS ?_; intro _ _) | (apply Ws <;> intro hg))
  refine WC.loopX [] (fun z : KB => [(0, .int .u64 (z.s : Int)), (3, z.v)]) [] (fun z H' => z.s < 1024 ∧ z.done ++ plcL z.s 10 = plcL s 10 ∧ Own 3 1 z.v (nodes z.done) z.Mx ∧ n0 ≤ z.n ∧ hasH (z.Mx ++ M) z.n H') (fun z => z.s) ⟨s, [], .slice none 0 0, [], n0⟩ (by repeat' (first | exact .nil | refine .cons rfl ?_)) rfl ⟨hs, rfl, .nil, Nat.le_refl _, hH⟩ ?_
  clear hH
  rintro ⟨r, dn, v3, Mx, n1⟩ H1 ⟨hr, hd, hO, hn1, hH⟩
  simp only at hr hd hO hn1 hH
  have hdl : dn.length ≤ 10 := by
    have h1 := congrArg List.length hd
    have h2 := plcL_len s 10
    rw [List.length_append] at h1
    omega
  dsimp only [List.cons_append, List.nil_append]
  by_cases h0 : r = 0
  · subst h0
    rw [plcL_zero, List.append_nil] at hd
    rw [hd] at hO
    repeat' (first | refine zP ?_ | refine zA ?_ | (refine zM ?_; intro _ _) | refine zX ?_ | (refine zC ?_; intro _ _ _ _) | (refine zS ?_; intro _ _) | refine zO ?_ | (apply Ws <;> intro hg))
    exact Ends.ret1 rfl ⟨Mx, n1, hO, hn1, hH⟩
  · obtain ⟨h1, h2, h3⟩ := tz_ok r hr h0
    rw [h2] at hd
    repeat' (first | refine zP ?_ | refine zA ?_ | (refine zM ?_; intro _ _) | refine zX ?_ | (refine zC ?_; intro _ _ _ _) | (refine zS ?_; intro _ _) | refine zO ?_ | (apply Ws <;> intro hg))
    refine WR.call (by first | exact gN | exact gS rfl) rfl rfl (tz_fs hr h0 _) ?_
    rintro _ _ ⟨rfl, rfl⟩
    refine WR.append1F [] Mx M rfl rfl rfl rfl hO hH (new := [.int .i64 ((brT.getD (tzI r) 0 : Nat) : Int)]) rfl rfl rfl (Nat.le_refl _) (by decide) (by simp; omega) fun v' Mx' n' H' q1 q2 q3 => ?_
    repeat' (first | refine zP ?_ | refine zA ?_ | (refine zM ?_; intro _ _) | refine zX ?_ | (refine zC ?_; intro _ _ _ _) | (refine zS ?_; intro _ _) | (apply Ws <;> intro hg))
    refine WR.op (by first | exact gN | exact gS rfl) rfl (OpV.subK rfl rfl (c := ((r - 1 : Nat) : Int)) (by rw [wrapI]; omega)) ?_
    refine WR.op (by first | exact gN | exact gS rfl) rfl (OpV.andN rfl rfl (lt64 hr) (lt64 (by omega))) ?_
    repeat' (first | refine zP ?_ | refine zA ?_ | (refine zM ?_; intro _ _) | refine zX ?_ | (refine zC ?_; intro _ _ _ _) | (refine zS ?_; intro _ _) | (apply Ws <;> intro hg))
    refine Ends.loop ⟨r &&& (r - 1), dn ++ [brT.getD (tzI r) 0], v', Mx', n'⟩ h3 (by repeat' (first | exact .nil | refine .cons rfl ?_)) rfl ⟨by simp only; omega, by simp only; rw [← hd]; simp, ?_, by simp only; omega, q2⟩
    simp only
    rw [nodes_snoc]; exact q1
def grdS (xs : List Int) (s : Nat) : Bool := (List.range xs.length).all fun i => decide (hm xs i &&& s ≠ 0)
theorem isNone_fs (hH : hasH M n0 H) {h s b : Nat} (hh : h < 1024) (hs : s < 1024) (hm' : (b, Ch.row 29 0 0 [.int .u64 (s : Int)]) ∈ M) :
    FS C 32 ([] ++ [.int .u64 (h : Int)] ++ [ptrO b 0]) H (fun e H' => e = .bool (decide (h &&& s = 0)) ∧ H' = H) := by
  refine FS.intro (pf := pf32) rfl rfl rfl ?_
  repeat' (first | refine zP ?_ | refine zA ?_ | (refine zM ?_; intro _ _) | refine zX ?_ | (refine zC ?_; intro _ _ _ _) | (refine zS ?_; intro _ _) | (apply Ws <;> intro hg))
  refine WR.op (by first | exact gN | exact gS rfl) rfl (OpV.andN rfl rfl (lt64 hh) (lt64 hs)) ?_
  repeat' (first | refine zP ?_ | refine zA ?_ | (refine zM ?_; intro _ _) | refine zX ?_ | (refine zC ?_; intro _ _ _ _) | (refine zS ?_; intro _ _) | (apply Ws <;> intro hg))
  exact Ends.ret1 rfl ⟨by congr 1; rw [decide_eq_decide]; omega, rfl⟩
theorem guardsS_fs (hH : hasH M n0 H) {xs : List Int} (h10 : xs.length ≤ 10) (hS : Sl M 1 v (numsK .u64 (hsL xs))) {s : Nat} (hs : s < 1024) :
    FS C 10 [v, .int .u64 (s : Int)] H (fun e H' => e = .bool (grdS xs s) ∧ hasH M (n0 + 1) H') := by
  have hv := hS.one_
  have hl := hsL_len xs
  have hIdx : ∀ {H1 : Heap}, hasH ((n0, Ch.row 29 0 0 [.int .u64 (s : Int)]) :: M) (n0 + 1) H1 → FS C 55 [v, .func (.func 32) [].toArray [ptrO n0 0].toArray] H1 (fun e H' => e = .int .i64 (if grdS xs s = true then -1 else 0) ∧ H' = H1 ∨ (∃ k : Nat, e = .int .i64 (k : Int) ∧ grdS xs s = false ∧ H' = H1)) := by
    intro H1 hH1
    have hS1 := hS.cons (p := (n0, Ch.row 29 0 0 [.int .u64 (s : Int)]))
    refine FS.intro (pf := pf55) rfl rfl rfl ?_
    repeat' (first | refine zP ?_ | refine zA ?_ | (refine zM ?_; intro _ _) | refine zX ?_ | (refine zC ?_; intro _ _ _ _) | (refine zS ?_; intro _ _) | (apply Ws <;> intro hg))
    refine WC.loopX [(0, v), (1, _), (6, v), (7, _)] (fun k : Nat => [(8, .int .i64 (k : Int))]) [] (fun k H' => H' = H1 ∧ k ≤ xs.length ∧ ∀ i, i < k → hm xs i &&& s ≠ 0) (fun k => xs.length - k) 0 (by repeat' (first | exact .nil | refine .cons rfl ?_)) rfl ⟨rfl, Nat.zero_le _, fun i h => absurd h (Nat.not_lt_zero _)⟩ ?_
    rintro k H' ⟨rfl, hk, hall⟩
    dsimp only [List.cons_append, List.nil_append]
    repeat' (first | refine zP ?_ | refine zA ?_ | (refine zM ?_; intro _ _) | refine zX ?_ | (refine zC ?_; intro _ _ _ _) | (refine zS ?_; intro _ _) | (apply Ws <;> intro hg))
    refine WC.condP rfl (fun hlt => ?_) (fun hlt => ?_)
    · have hk' : k < xs.length := by omega
      have hg := hsL_get hk'
      have hb := hm_lt10 h10 k
      repeat' (first | refine zP ?_ | refine zA ?_ | (refine zM ?_; intro _ _) | refine zX ?_ | (refine zC ?_; intro _ _ _ _) | (refine zS ?_; intro _ _) | (apply Ws <;> intro hg))
      rw [hg]
      refine WR.callV (by first | exact gN | exact gS rfl) rfl rfl rfl (isNone_fs hH1 hb hs (.head _)) ?_
      rintro _ _ ⟨rfl, rfl⟩
      by_cases h0 : hm xs k &&& s = 0
      · rw [decide_eq_true h0]
        repeat' (first | refine zP ?_ | refine zA ?_ | (refine zM ?_; intro _ _) | refine zX ?_ | (refine zC ?_; intro _ _ _ _) | (refine zS ?_; intro _ _) | (apply Ws <;> intro hg))
        refine Ends.ret1 rfl (.inr ⟨k, rfl, ?_, rfl⟩)
        cases hgs : grdS xs s with
        | false => rfl
        | true =>
          have := List.all_eq_true.1 hgs k (List.mem_range.2 hk')
          exact absurd h0 (of_decide_eq_true this)
      · rw [decide_eq_false h0]
        repeat' (first | refine zP ?_ | refine zA ?_ | (refine zM ?_; intro _ _) | refine zX ?_ | (refine zC ?_; intro _ _ _ _) | (refine zS ?_; intro _ _) | (apply Ws <;> intro hg))
        refine Ends.loop (k + 1) (by omega) (by repeat' (first | exact .nil | refine .cons rfl ?_)) rfl ⟨rfl, hk', fun i hi => ?_⟩
        by_cases e : i = k
        · rw [e]; exact h0
        · exact hall i (by omega)
    · have hkl : k = xs.length := by omega
      subst hkl
      have hgs : grdS xs s = true := List.all_eq_true.2 fun i hi => decide_eq_true (hall i (List.mem_range.1 hi))
      repeat' (first | refine zP ?_ | refine zA ?_ | (refine zM ?_; intro _ _) | refine zX ?_ | (refine zC ?_; intro _ _ _ _) | (refine zS ?_; intro _ _) | (apply Ws <;> intro hg))
      exact Ends.ret1 rfl (.inl ⟨by rw [hgs, if_pos rfl], rfl⟩)
  have hCon : ∀ {H1 : Heap}, hasH ((n0, Ch.row 29 0 0 [.int .u64 (s : Int)]) :: M) (n0 + 1) H1 → FS C 31 [v, .func (.func 32) [].toArray [ptrO n0 0].toArray] H1 (fun e H' => e = .bool (!grdS xs s) ∧ H' = H1) := by
    intro H1 hH1
    refine FS.intro (pf := pf31) rfl rfl rfl ?_
    repeat' (first | refine zP ?_ | refine zA ?_ | (refine zM ?_; intro _ _) | refine zX ?_ | (refine zC ?_; intro _ _ _ _) | (refine zS ?_; intro _ _) | (apply Ws <;> intro hg))
    refine WR.call (by first | exact gN | exact gS rfl) rfl rfl (hIdx hH1) ?_
    rintro _ _ (⟨rfl, rfl⟩ | ⟨k, rfl, hg, rfl⟩)
    · cases hg : grdS xs s with
      | true =>
        repeat' (first | refine zP ?_ | refine zA ?_ | (refine zM ?_; intro _ _) | refine zX ?_ | (refine zC ?_; intro _ _ _ _) | (refine zS ?_; intro _ _) | (apply Ws <;> intro hg))
        exact Ends.ret1 rfl ⟨by simp, rfl⟩
      | false =>
        repeat' (first | refine zP ?_ | refine zA ?_ | (refine zM ?_; intro _ _) | refine zX ?_ | (refine zC ?_; intro _ _ _ _) | (refine zS ?_; intro _ _) | (apply Ws <;> intro hg))
        exact Ends.ret1 rfl ⟨by simp, rfl⟩
    · rw [hg]
      repeat' (first | refine zP ?_ | refine zA ?_ | (refine zM ?_; intro _ _) | refine zX ?_ | (refine zC ?_; intro _ _ _ _) | (refine zS ?_; intro _ _) | (apply Ws <;> intro hg))
      exact Ends.ret1 rfl ⟨by simp, rfl⟩
  refine FS.intro (pf := pf10) rfl rfl rfl ?_
  repeat' (first | refine zP ?_ | refine zA ?_ | (refine zM ?_; intro _ _) | refine zX ?_ | (refine zC ?_; intro _ _ _ _) | (refine zS ?_; intro _ _) | (apply Ws <;> intro hg))
  rename_i H1 hH1
  refine WR.call (by first | exact gN | exact gS rfl) rfl rfl (hCon hH1) ?_
  rintro _ _ ⟨rfl, rfl⟩
  cases hg : grdS xs s with
  | true =>
    repeat' (first | refine zP ?_ | refine zA ?_ | (refine zM ?_; intro _ _) | refine zX ?_ | (refine zC ?_; intro _ _ _ _) | (refine zS ?_; intro _ _) | (apply Ws <;> intro hg))
    exact Ends.ret1 rfl ⟨by simp, hH1.tail⟩
  | false =>
    repeat' (first | refine zP ?_ | refine zA ?_ | (refine zM ?_; intro _ _) | refine zX ?_ | (refine zC ?_; intro _ _ _ _) | (refine zS ?_; intro _ _) | (apply Ws <;> intro hg))
    exact Ends.ret1 rfl ⟨by simp, hH1.tail⟩
theorem plcL_lt {s x : Nat} (h : x ∈ plcL s 10) : x < 10 ∧ s.testBit x = true := by
  have := List.mem_filter.1 h
  exact ⟨List.mem_range.1 this.1, this.2⟩
theorem apartS_fs (hH : hasH M n0 H) {xs : List Int} (h10 : xs.length ≤ 10) (hS : Sl M 1 v (numsK .u64 (hsL xs))) {s : Nat} (hs : s < 2 ^ xs.length) :
    FS C 12 [v, .int .u64 (s : Int)] H (fun e H' => e = .bool (apt xs (plcL s 10)) ∧ ∃ n', n0 ≤ n' ∧ hasH M n' H') := by
  have hv := hS.one_
  have hlen := hsL_len xs
  have hs10 : s < 1024 := Nat.lt_of_lt_of_le hs (by show 2 ^ xs.length ≤ 2 ^ 10; exact Nat.pow_le_pow_right (by omega) h10)
  have hl : ∀ x ∈ plcL s 10, x < xs.length := fun x hx => by
    have h1 := (plcL_lt hx).2
    refine Nat.lt_of_not_le fun hc => ?_
    have := Nat.testBit_lt_two_pow (Nat.lt_of_lt_of_le hs (Nat.pow_le_pow_right (by omega) hc))
    rw [h1] at this; cases this
  have hll := plcL_len s 10
  refine FS.intro (pf := pf12) rfl rfl rfl ?_
  repeat' (first | refine zP ?_ | refine zA ?_ | (refine zM ?_; intro _ _) | refine zX ?_ | (refine zC ?_; intro _ _ _ _) | (refine zS ?_; intro _ _) | (apply Ws <;> intro hg))
  refine WR.call (by first | exact gN | exact gS rfl) rfl rfl (members_fs hH hs10) ?_
  rintro v9 H1 ⟨Mx, n1, hO, hn1, hH1⟩
  have hS1 := hS.mono fun q hq => List.mem_append_right Mx hq
  have hU1 := hO.sl M
  have hHt : ∀ {H2 : Heap}, hasH (Mx ++ M) n1 H2 → hasH M n1 H2 := fun h => h.sub (List.sublist_append_right _ _)
  generalize Mx ++ M = X at hH1 hS1 hU1 hHt
  generalize plcL s 10 = l at hO hl hll hU1
  clear hH hO
  have hv9 := hU1.one_
  repeat' (first | refine zP ?_ | refine zA ?_ | (refine zM ?_; intro _ _) | refine zX ?_ | (refine zC ?_; intro _ _ _ _) | (refine zS ?_; intro _ _) | (apply Ws <;> intro hg))
  refine WC.loopX [(0, v), (9, v9), (10, _)] (fun k : Nat => [(11, .int .i64 (k : Int)), (5, .int .u64 (orM xs (l.take k) : Nat))]) [] (fun k H' => H' = H1 ∧ k ≤ l.length ∧ (l.take k).Pairwise (fun a b => hm xs a &&& hm xs b = 0)) (fun k => l.length - k) 0 (by repeat' (first | exact .nil | refine .cons rfl ?_)) rfl ⟨rfl, Nat.zero_le _, by simp⟩ ?_
  rintro k H' ⟨rfl, hk, hpw⟩
  have hor := orM_lt (xs := xs) h10 (l.take k)
  dsimp only [List.cons_append, List.nil_append]
  repeat' (first | refine zP ?_ | refine zA ?_ | (refine zM ?_; intro _ _) | refine zX ?_ | (refine zC ?_; intro _ _ _ _) | (refine zS ?_; intro _ _) | (apply Ws <;> intro hg))
  refine WC.condP rfl (fun hlt => ?_) (fun hlt => ?_)
  · have hk' : k < l.length := by omega
    have hmx := hl _ (getD_mem (a := 0) hk')
    have hg : (hsL xs).getD (l.getD k 0) 0 = hm xs (l.getD k 0) := hsL_get hmx
    have hb := hm_lt10 h10 (l.getD k 0)
    have htk : l.take (k + 1) = l.take k ++ [l.getD k 0] := by rw [List.take_succ_eq_append_getElem hk', ← getD_eq (a := 0)]
    have hsn := apt_snoc (xs := xs) (l := l.take k) (x := l.getD k 0)
    rw [← htk] at hsn
    repeat' (first | refine zP ?_ | refine zA ?_ | (refine zM ?_; intro _ _) | refine zX ?_ | (refine zC ?_; intro _ _ _ _) | (refine zS ?_; intro _ _) | (apply Ws <;> intro hg))
    rw [hg]
    refine WR.op (by first | exact gN | exact gS rfl) rfl (OpV.andN rfl rfl (lt64 hor) (lt64 hb)) ?_
    repeat' (first | refine zP ?_ | refine zA ?_ | (refine zM ?_; intro _ _) | refine zX ?_ | (refine zC ?_; intro _ _ _ _) | (refine zS ?_; intro _ _) | (apply Ws <;> intro hg))
    refine WC.condP rfl (fun hne => ?_) (fun hne => ?_)
    · repeat' (first | refine zP ?_ | refine zA ?_ | (refine zM ?_; intro _ _) | refine zX ?_ | (refine zC ?_; intro _ _ _ _) | (refine zS ?_; intro _ _) | (apply Ws <;> intro hg))
      refine Ends.ret1 rfl ⟨?_, n1, hn1, hHt hH1⟩
      congr 1
      refine (decide_eq_false fun hc => ?_).symm
      have h2 : (l.take (k + 1)).Pairwise (fun a b => hm xs a &&& hm xs b = 0) := hc.sublist (List.take_sublist _ _)
      have := (hsn.1 h2).2
      omega
    · repeat' (first | refine zP ?_ | refine zA ?_ | (refine zM ?_; intro _ _) | refine zX ?_ | (refine zC ?_; intro _ _ _ _) | (refine zS ?_; intro _ _) | (apply Ws <;> intro hg))
      rw [hg]
      refine WR.op (by first | exact gN | exact gS rfl) rfl (OpV.orN rfl rfl (lt64 hor) (lt64 hb)) ?_
      repeat' (first | refine zP ?_ | refine zA ?_ | (refine zM ?_; intro _ _) | refine zX ?_ | (refine zC ?_; intro _ _ _ _) | (refine zS ?_; intro _ _) | (apply Ws <;> intro hg))
      refine Ends.loop (k + 1) (by omega) (by rw [htk, orM_snoc]; exact (by repeat' (first | exact .nil | refine .cons rfl ?_))) rfl ⟨rfl, hk', hsn.2 ⟨hpw, by omega⟩⟩
  · have hkl : k = l.length := by omega
    subst hkl
    rw [List.take_length] at hpw
    repeat' (first | refine zP ?_ | refine zA ?_ | (refine zM ?_; intro _ _) | refine zX ?_ | (refine zC ?_; intro _ _ _ _) | (refine zS ?_; intro _ _) | (apply Ws <;> intro hg))
    refine Ends.ret1 rfl ⟨?_, n1, hn1, hHt hH1⟩
    congr 1
    exact (decide_eq_true hpw).symm
end
end Go.Proofs.YtcfffhkabhmkmaaDoor.Ps

/- The lists that cost the least, one after the other. -/
namespace Go.Proofs.YtcfffhkabhmkmaaDoor.Ps
open Go Go.Abs Go.Mth
set_option linter.unusedVariables false
set_option linter.unusedSimpArgs false
theorem snocInd {α : Type} {P : List α → Prop} (h0 : P []) (h1 : ∀ l x, P l → P (l ++ [x])) (l : List α) : P l := by
  have : ∀ r : List α, P r.reverse := by
    intro r
    induction r with
    | nil => exact h0
    | cons x r ih => rw [List.reverse_cons]; exact h1 _ _ ih
  have h := this l.reverse
  rwa [List.reverse_reverse] at h
theorem bestF_inv (c : List Nat → Int) (zs : List (List Nat)) : (zs = [] ∧ bestF c zs = ([], 0)) ∨ ((∀ z ∈ zs, (bestF c zs).2 ≤ c z) ∧ (bestF c zs).1 = zs.filter (fun z => decide (c z = (bestF c zs).2)) ∧ (bestF c zs).1 ≠ []) := by
  refine snocInd (P := fun zs => (zs = [] ∧ bestF c zs = ([], 0)) ∨ ((∀ z ∈ zs, (bestF c zs).2 ≤ c z) ∧ (bestF c zs).1 = zs.filter (fun z => decide (c z = (bestF c zs).2)) ∧ (bestF c zs).1 ≠ [])) (.inl ⟨rfl, rfl⟩) (fun l x ih => ?_) zs
  right
  rw [bestF_snoc]
  rcases ih with ⟨rfl, h⟩ | ⟨h1, h2, h3⟩
  · rw [h]
    simp [bestS]
  · obtain ⟨B, m, hb⟩ : ∃ B m, bestF c l = (B, m) := ⟨_, _, rfl⟩
    rw [hb] at h1 h2 h3 ⊢
    simp only at h1 h2 h3
    unfold bestS
    simp only
    by_cases hc : c x < m
    · rw [if_pos (.inr hc)]
      refine ⟨fun z hz => ?_, ?_, by simp⟩
      · rcases List.mem_append.1 hz with hz | hz
        · have := h1 z hz; simp only; omega
        · rw [List.mem_singleton.1 hz]; exact Int.le_refl _
      · simp only
        rw [List.filter_append, List.filter_eq_nil_iff.2 fun z hz => by have := h1 z hz; simp; omega]
        simp
    · rw [if_neg (by rintro (h | h); exact h3 h; exact hc h)]
      by_cases he : c x = m
      · rw [if_pos he]
        refine ⟨fun z hz => ?_, ?_, by simp⟩
        · rcases List.mem_append.1 hz with hz | hz
          · exact h1 z hz
          · rw [List.mem_singleton.1 hz]; simp only; omega
        · simp only
          rw [List.filter_append, List.filter_cons_of_pos (by simpa using he), ← h2]; rfl
      · rw [if_neg he]
        refine ⟨fun z hz => ?_, ?_, h3⟩
        · rcases List.mem_append.1 hz with hz | hz
          · exact h1 z hz
          · rw [List.mem_singleton.1 hz]; simp only; omega
        · simp only
          rw [List.filter_append, List.filter_cons_of_neg (by simpa using he), ← h2]; simp
theorem sumZ_len (z : List Nat) : sumZ (fun _ => 1) z = (z.length : Int) := by
  induction z with
  | nil => rfl
  | cons x z ih => have : sumZ (fun _ => 1) (x :: z) = 1 + sumZ (fun _ => 1) z := by simp [sumZ]
                   rw [this, ih, List.length_cons]; omega
theorem sumZ_neg (z : List Nat) : sumZ (fun _ => -1) z = -(z.length : Int) := by
  induction z with
  | nil => rfl
  | cons x z ih => have : sumZ (fun _ => -1) (x :: z) = -1 + sumZ (fun _ => -1) z := by simp [sumZ]
                   rw [this, ih, List.length_cons]; omega
def fstB (c : List Nat → Int) (zs : List (List Nat)) : List Nat := (bestF c zs).1.getD 0 []
theorem bestF_all {c : List Nat → Int} {zs : List (List Nat)} {z : List Nat} (h : z ∈ (bestF c zs).1) : z ∈ zs ∧ c z = (bestF c zs).2 := by
  rcases bestF_inv c zs with ⟨rfl, h1⟩ | ⟨_, h2, _⟩
  · rw [h1] at h; cases h
  · rw [h2] at h
    have := List.mem_filter.1 h
    exact ⟨this.1, by simpa using this.2⟩
theorem fstB_mem {c : List Nat → Int} {zs : List (List Nat)} (h : zs ≠ []) : fstB c zs ∈ (bestF c zs).1 := by
  unfold fstB
  exact getD_mem (List.length_pos_iff.2 (bestF_ne h))
theorem fstB_cost {c : List Nat → Int} {zs : List (List Nat)} (h : zs ≠ []) : c (fstB c zs) = (bestF c zs).2 := (bestF_all (fstB_mem h)).2
theorem bestF_le {c : List Nat → Int} {zs : List (List Nat)} {z : List Nat} (h : z ∈ zs) : (bestF c zs).2 ≤ c z := by
  rcases bestF_inv c zs with ⟨rfl, h1⟩ | ⟨h1, _, _⟩
  · cases h
  · exact h1 z h
end Go.Proofs.YtcfffhkabhmkmaaDoor.Ps
