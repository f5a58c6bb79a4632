/- Texts of the law, joined. -/
import Derived.Test.YtcfffhkabhmkmaaJ1
import Derived.Test.YtcfffhkabhmkmaaPerm
import Derived.Test.YtcfffhkabhmkmaaPsP
import Derived.Test.YtcfffhkabhmkmaaSymB
/- Comparisons of numbers and of lists. -/
namespace Go.Mth
set_option linter.unusedVariables false
def cmpI (a b : Int) : Int := if a < b then -1 else if b < a then 1 else 0
def lexC : List Int → List Int → Int
  | [], [] => 0
  | [], _ :: _ => -1
  | _ :: _, [] => 1
  | a :: l, b :: m => if cmpI a b ≠ 0 then cmpI a b else lexC l m
theorem cmp_zero {a b : Int} : cmpI a b = 0 ↔ a = b := by unfold cmpI; split <;> (try split) <;> omega
theorem cmp_lt {a b : Int} : cmpI a b < 0 ↔ a < b := by unfold cmpI; split <;> (try split) <;> omega
end Go.Mth

/- Lists of places in ascending order: all of them, in their order. -/
namespace Go.Proofs.Ytcfffhkabhmkmaa.Ps
open Go Go.Abs Go.Mth
set_option linter.unusedVariables false
set_option linter.unusedSimpArgs false
def lexN : List Nat → List Nat → Prop
  | [], [] => False
  | [], _ :: _ => True
  | _ :: _, [] => False
  | a :: l, b :: m => a < b ∨ (a = b ∧ lexN l m)
abbrev IL (l : List Nat) : List Int := l.map fun (x : Nat) => (x : Int)
theorem IL_len (l : List Nat) : (IL l).length = l.length := by simp [IL]
theorem IL_get {l : List Nat} {i : Nat} (h : i < l.length) : (IL l).getD i 0 = ((l.getD i 0 : Nat) : Int) := by
  rw [getD_eq (by rw [IL_len]; exact h), getD_eq h]; simp [IL]
theorem lexN_C : ∀ {l m : List Nat}, lexC (IL l) (IL m) < 0 ↔ lexN l m
  | [], [] => by simp [IL, lexC, lexN]
  | [], _ :: _ => by simp [IL, lexC, lexN]
  | _ :: _, [] => by simp [IL, lexC, lexN]
  | a :: l, b :: m => by
    have ih := lexN_C (l := l) (m := m)
    have e1 := cmp_zero (a := (a : Int)) (b := (b : Int))
    have e2 := cmp_lt (a := (a : Int)) (b := (b : Int))
    show (if cmpI (a : Int) (b : Int) ≠ 0 then cmpI (a : Int) (b : Int) else lexC (IL l) (IL m)) < 0 ↔ (a < b ∨ (a = b ∧ lexN l m))
    by_cases h : a = b
    · have : cmpI (a : Int) (b : Int) = 0 := e1.2 (by omega)
      rw [if_neg (fun h => h this), ih]
      constructor
      · exact fun k => .inr ⟨h, k⟩
      · rintro (k | ⟨_, k⟩)
        · omega
        · exact k
    · have : cmpI (a : Int) (b : Int) ≠ 0 := fun k => h (by have := e1.1 k; omega)
      rw [if_pos this, e2]
      constructor
      · exact fun k => .inl (by omega)
      · rintro (k | ⟨k, _⟩)
        · omega
        · exact absurd k h
instance lexN_dec : ∀ l m : List Nat, Decidable (lexN l m) := fun l m => decidable_of_iff _ (lexN_C (l := l) (m := m))
def T (n : Nat) : Nat → List Nat → List (List Nat)
  | 0, _ => []
  | m + 1, b => (b ++ [n - (m + 1)]) :: (T n m (b ++ [n - (m + 1)]) ++ T n m b)
structure AscN (n : Nat) (l : List Nat) : Prop where
  asc : l.Pairwise (· < ·)
  lt : ∀ x ∈ l, x < n
theorem AscN.nodup {n : Nat} {l : List Nat} (h : AscN n l) : l.Nodup := h.asc.imp fun h => Nat.ne_of_lt h
theorem AscN.len {n : Nat} {l : List Nat} (h : AscN n l) : l.length ≤ n := nodup_le n l h.nodup h.lt
end Go.Proofs.Ytcfffhkabhmkmaa.Ps

/- Shores: errors, what is at hand, what guards, what is apart. -/
namespace Go.Proofs.Ytcfffhkabhmkmaa.Ps
open Go Go.Abs Go.Mth
set_option linter.unusedVariables false
set_option linter.unusedSimpArgs false
def errB (xs : List Int) (k : Nat) : Int := if k = 0 then (if xs.getD 0 0 = -1 then 0 else 2) else if 0 ≤ xs.getD k 0 ∧ xs.getD k 0 < k then 0 else 2
def errS (xs : List Int) : Int := if xs.length = 0 then 4 else if 10 < xs.length then 3 else firstE (errB xs) xs.length
structure OKS (xs : List Int) : Prop where
  one : 1 ≤ xs.length
  most : xs.length ≤ 10
  root : xs.getD 0 0 = -1
  par : ∀ k, 1 ≤ k → k < xs.length → 0 ≤ xs.getD k 0 ∧ xs.getD k 0 < k
theorem errS_zero {xs : List Int} : errS xs = 0 ↔ OKS xs := by
  unfold errS
  by_cases h0 : xs.length = 0
  · rw [if_pos h0]; exact ⟨fun h => absurd h (by decide), fun h => by have := h.one; omega⟩
  · rw [if_neg h0]
    by_cases h1 : 10 < xs.length
    · rw [if_pos h1]; exact ⟨fun h => absurd h (by decide), fun h => by have := h.most; omega⟩
    · rw [if_neg h1, firstE_zero]
      constructor
      · intro h
        refine ⟨by omega, by omega, ?_, fun k hk hl => ?_⟩
        · have := h 0 (by omega)
          unfold errB at this
          rw [if_pos rfl] at this
          split at this
          · assumption
          · cases this
        · have := h k hl
          unfold errB at this
          rw [if_neg (by omega)] at this
          split at this
          · assumption
          · cases this
      · intro h k hk
        unfold errB
        by_cases e : k = 0
        · rw [if_pos e, if_pos h.root]
        · rw [if_neg e, if_pos (h.par k (by omega) hk)]
def adj (xs : List Int) (i j : Nat) : Bool := decide (i = j ∨ xs.getD i 0 = (j : Int) ∨ xs.getD j 0 = (i : Int))
theorem adj_iff {xs : List Int} {i j : Nat} : adj xs i j = true ↔ i = j ∨ xs.getD i 0 = (j : Int) ∨ xs.getD j 0 = (i : Int) := by simp [adj]
theorem adj_comm (xs : List Int) (i j : Nat) : adj xs i j = adj xs j i := by
  rw [Bool.eq_iff_iff, adj_iff, adj_iff]
  constructor
  · rintro (h | h | h)
    · exact .inl h.symm
    · exact .inr (.inr h)
    · exact .inr (.inl h)
  · rintro (h | h | h)
    · exact .inl h.symm
    · exact .inr (.inr h)
    · exact .inr (.inl h)
theorem adj_self (xs : List Int) (i : Nat) : adj xs i i = true := by simp [adj]
def hndL (xs : List Int) (i : Nat) : List Nat := (List.range xs.length).filter (adj xs i)
def hmTo (xs : List Int) (k i : Nat) : Nat := maskN ((List.range k).filter fun j => decide (i < k) && adj xs i j)
def hm (xs : List Int) (i : Nat) : Nat := maskN (hndL xs i)
theorem hmTo_bit {xs : List Int} {k i j : Nat} : (hmTo xs k i).testBit j = true ↔ i < k ∧ j < k ∧ adj xs i j = true := by
  unfold hmTo
  rw [mask_bit]
  simp only [List.mem_filter, List.mem_range, Bool.and_eq_true, decide_eq_true_eq]
  constructor
  · rintro ⟨h1, h2, h3⟩; exact ⟨h2, h1, h3⟩
  · rintro ⟨h1, h2, h3⟩; exact ⟨h2, h1, h3⟩
theorem hm_bit {xs : List Int} {i j : Nat} : (hm xs i).testBit j = true ↔ j < xs.length ∧ adj xs i j = true := by
  unfold hm hndL
  rw [mask_bit]
  simp only [List.mem_filter, List.mem_range]
theorem bits_ext {a b : Nat} (h : ∀ j, a.testBit j = true ↔ b.testBit j = true) : a = b :=
  Nat.eq_of_testBit_eq fun j => Bool.eq_iff_iff.2 (h j)
theorem hmTo_all {xs : List Int} {i : Nat} (hi : i < xs.length) : hmTo xs xs.length i = hm xs i := by
  refine bits_ext fun j => ?_
  rw [hmTo_bit, hm_bit]
  exact ⟨fun h => h.2, fun h => ⟨hi, h⟩⟩
theorem hm_lt (xs : List Int) (i : Nat) : hm xs i < 2 ^ xs.length := mask_lt fun x hx => List.mem_range.1 (List.mem_filter.1 hx).1
theorem hmTo_lt {xs : List Int} {k : Nat} (i : Nat) (h : k ≤ 10) : hmTo xs k i < 1024 := Nat.lt_of_lt_of_le (mask_lt fun x hx => List.mem_range.1 (List.mem_filter.1 hx).1) (by show 2 ^ k ≤ 2 ^ 10; exact Nat.pow_le_pow_right (by omega) h)
theorem hm_lt10 {xs : List Int} (h : xs.length ≤ 10) (i : Nat) : hm xs i < 1024 := Nat.lt_of_lt_of_le (hm_lt xs i) (by show 2 ^ xs.length ≤ 2 ^ 10; exact Nat.pow_le_pow_right (by omega) h)
theorem or_bit {a b j : Nat} : (a ||| b).testBit j = true ↔ a.testBit j = true ∨ b.testBit j = true := by rw [Nat.testBit_or, Bool.or_eq_true]
theorem pow_bit {k j : Nat} : (2 ^ k).testBit j = true ↔ k = j := by rw [Nat.testBit_two_pow]; simp
theorem hm_zero {xs : List Int} {k i : Nat} (h : k ≤ i) : hmTo xs k i = 0 := by
  refine bits_ext fun j => ?_
  rw [hmTo_bit, Nat.zero_testBit]
  exact ⟨fun h' => by omega, fun h' => by cases h'⟩
theorem hm_root {xs : List Int} (h : OKS xs) {l : List Nat} (hl : l.length = xs.length) (hv : ∀ i, i < xs.length → l.getD i 0 = hmTo xs 0 i) : ∀ i, i < xs.length → (l.set 0 (l.getD 0 0 ||| 2 ^ 0)).getD i 0 = hmTo xs 1 i := by
  intro i hi
  have h1 := h.one
  rw [getD_set' (by omega)]
  by_cases e : i = 0
  · subst e
    rw [if_pos rfl, hv 0 (by omega)]
    refine bits_ext fun j => ?_
    rw [or_bit, hmTo_bit, hmTo_bit, pow_bit]
    constructor
    · rintro (h2 | h2)
      · omega
      · subst h2; exact ⟨by omega, by omega, adj_self _ _⟩
    · rintro ⟨_, h3, _⟩; exact .inr (by omega)
  · rw [if_neg e, hv i hi, hm_zero (by omega), hm_zero (by omega)]
theorem hm_step {xs : List Int} (h : OKS xs) {k p : Nat} (hk : k < xs.length) (hp : xs.getD k 0 = (p : Int)) (hpk : p < k) {l : List Nat} (hl : l.length = xs.length) (hv : ∀ i, i < xs.length → l.getD i 0 = hmTo xs k i) :
    ∀ i, i < xs.length → (((l.set k (l.getD k 0 ||| 2 ^ k)).set k ((l.set k (l.getD k 0 ||| 2 ^ k)).getD k 0 ||| 2 ^ p)).set p (((l.set k (l.getD k 0 ||| 2 ^ k)).set k ((l.set k (l.getD k 0 ||| 2 ^ k)).getD k 0 ||| 2 ^ p)).getD p 0 ||| 2 ^ k)).getD i 0 = hmTo xs (k + 1) i := by
  have hadj : ∀ j, j < k → (adj xs k j = true ↔ j = p) := by
    intro j hj
    rw [adj_iff, hp]
    constructor
    · rintro (h1 | h1 | h1)
      · omega
      · omega
      · by_cases e : j = 0
        · subst e; rw [h.root] at h1; omega
        · have := (h.par j (by omega) (by omega)).2; omega
    · intro e; subst e; exact .inr (.inl rfl)
  intro i hi
  have hkl : k < l.length := by omega
  have g1 := fun z => getD_set' (z := z) (v := l.getD k 0 ||| 2 ^ k) (a := 0) hkl
  have n1 : (l.set k (l.getD k 0 ||| 2 ^ k)).length = xs.length := by simp [hl]
  generalize l.set k (l.getD k 0 ||| 2 ^ k) = l1 at g1 n1 ⊢
  have g2 := fun z => getD_set' (l := l1) (y := k) (z := z) (v := l1.getD k 0 ||| 2 ^ p) (a := 0) (by omega)
  have n2 : (l1.set k (l1.getD k 0 ||| 2 ^ p)).length = xs.length := by simp [n1]
  generalize l1.set k (l1.getD k 0 ||| 2 ^ p) = l2 at g2 n2 ⊢
  have hpne : ¬ p = k := by omega
  rw [getD_set' (by omega), g2 p, if_neg hpne, g1 p, if_neg hpne, hv p (by omega)]
  by_cases e1 : i = p
  · subst e1
    rw [if_pos rfl]
    refine bits_ext fun j => ?_
    rw [or_bit, hmTo_bit, hmTo_bit, pow_bit]
    constructor
    · rintro (⟨h1, h2, h3⟩ | h1)
      · exact ⟨by omega, by omega, h3⟩
      · subst h1; exact ⟨by omega, by omega, by rw [adj_comm]; exact (hadj i hpk).2 rfl⟩
    · rintro ⟨h1, h2, h3⟩
      by_cases e : j = k
      · exact .inr e.symm
      · exact .inl ⟨hpk, by omega, h3⟩
  · rw [if_neg e1]
    by_cases e2 : i = k
    · subst e2
      rw [g2, if_pos rfl, g1, if_pos rfl, hv i hi, hm_zero (Nat.le_refl _)]
      refine bits_ext fun j => ?_
      rw [or_bit, or_bit, hmTo_bit, pow_bit, pow_bit, Nat.zero_testBit]
      constructor
      · rintro ((h1 | h1) | h1)
        · cases h1
        · subst h1; exact ⟨by omega, by omega, adj_self _ _⟩
        · subst h1; exact ⟨by omega, by omega, (hadj p hpk).2 rfl⟩
      · rintro ⟨h1, h2, h3⟩
        by_cases e : j = i
        · exact .inl (.inr e.symm)
        · exact .inr ((hadj j (by omega)).1 h3).symm
    · rw [g2, if_neg e2, g1, if_neg e2, hv i hi]
      refine bits_ext fun j => ?_
      rw [hmTo_bit, hmTo_bit]
      constructor
      · rintro ⟨h1, h2, h3⟩; exact ⟨by omega, by omega, h3⟩
      · rintro ⟨h1, h2, h3⟩
        have hik : i < k := by omega
        refine ⟨hik, ?_, h3⟩
        by_cases e : j = k
        · subst e
          rw [adj_comm] at h3
          exact absurd ((hadj i hik).1 h3) e1
        · omega
/-! What guards, and what is apart. -/
def hsL (xs : List Int) : List Nat := (List.range xs.length).map (hm xs)
theorem hsL_len (xs : List Int) : (hsL xs).length = xs.length := by simp [hsL]
theorem hsL_get {xs : List Int} {i : Nat} (h : i < xs.length) : (hsL xs).getD i 0 = hm xs i := by
  rw [getD_eq (by rw [hsL_len]; exact h)]; simp [hsL]
def orM (xs : List Int) (l : List Nat) : Nat := l.foldl (fun a p => a ||| hm xs p) 0
theorem orM_snoc (xs : List Int) (l : List Nat) (p : Nat) : orM xs (l ++ [p]) = orM xs l ||| hm xs p := by simp [orM]
theorem orM_from (xs : List Int) : ∀ (l : List Nat) (a j : Nat), (l.foldl (fun a p => a ||| hm xs p) a).testBit j = true ↔ a.testBit j = true ∨ ∃ p ∈ l, (hm xs p).testBit j = true
  | [], a, j => by simp
  | p :: l, a, j => by
    rw [List.foldl_cons, orM_from xs l, or_bit]
    simp only [List.mem_cons, exists_eq_or_imp, or_assoc]
theorem orM_bit {xs : List Int} {l : List Nat} {j : Nat} : (orM xs l).testBit j = true ↔ ∃ p ∈ l, (hm xs p).testBit j = true := by
  rw [orM, orM_from, Nat.zero_testBit]
  simp
theorem orM_lt {xs : List Int} (h : xs.length ≤ 10) (l : List Nat) : orM xs l < 1024 := by
  refine Nat.lt_of_not_le fun hc => ?_
  obtain ⟨j, hj, hb⟩ := Nat.exists_ge_and_testBit_of_ge_two_pow (n := 10) hc
  obtain ⟨p, _, hb2⟩ := orM_bit.1 hb
  have := (hm_bit.1 hb2).1
  omega
def grd (xs : List Int) (l : List Nat) : Bool := (List.range xs.length).all fun i => l.any fun p => adj xs p i
theorem grd_iff {xs : List Int} {l : List Nat} : grd xs l = true ↔ ∀ i, i < xs.length → ∃ p ∈ l, adj xs p i = true := by
  simp [grd]
theorem orM_full {xs : List Int} {l : List Nat} : orM xs l = 2 ^ xs.length - 1 ↔ grd xs l = true := by
  rw [grd_iff]
  constructor
  · intro h i hi
    have : (orM xs l).testBit i = true := by rw [h, Nat.testBit_two_pow_sub_one]; simpa using hi
    obtain ⟨p, hp, hb⟩ := orM_bit.1 this
    exact ⟨p, hp, (hm_bit.1 hb).2⟩
  · intro h
    refine bits_ext fun j => ?_
    rw [orM_bit, Nat.testBit_two_pow_sub_one]
    simp only [decide_eq_true_eq]
    constructor
    · rintro ⟨p, _, hb⟩; exact (hm_bit.1 hb).1
    · intro hj
      obtain ⟨p, hp, hb⟩ := h j hj
      exact ⟨p, hp, hm_bit.2 ⟨hj, hb⟩⟩
def apt (xs : List Int) (l : List Nat) : Bool := decide (l.Pairwise fun a b => hm xs a &&& hm xs b = 0)
theorem and_zero {a b : Nat} : a &&& b = 0 ↔ ∀ j, ¬ (a.testBit j = true ∧ b.testBit j = true) := by
  constructor
  · intro h j hj
    have : (a &&& b).testBit j = true := by rw [Nat.testBit_and, hj.1, hj.2]; rfl
    rw [h, Nat.zero_testBit] at this
    cases this
  · intro h
    refine bits_ext fun j => ?_
    rw [Nat.testBit_and, Bool.and_eq_true, Nat.zero_testBit]
    exact ⟨fun hj => absurd hj (h j), fun hj => (by cases hj)⟩
theorem orM_and {xs : List Int} {l : List Nat} {m : Nat} : orM xs l &&& m = 0 ↔ ∀ p ∈ l, hm xs p &&& m = 0 := by
  rw [and_zero]
  constructor
  · intro h p hp
    rw [and_zero]
    exact fun j hj => h j ⟨orM_bit.2 ⟨p, hp, hj.1⟩, hj.2⟩
  · rintro h j ⟨h1, h2⟩
    obtain ⟨p, hp, hb⟩ := orM_bit.1 h1
    exact and_zero.1 (h p hp) j ⟨hb, h2⟩
theorem apt_snoc {xs : List Int} {l : List Nat} {x : Nat} : (l ++ [x]).Pairwise (fun a b => hm xs a &&& hm xs b = 0) ↔ l.Pairwise (fun a b => hm xs a &&& hm xs b = 0) ∧ orM xs l &&& hm xs x = 0 := by
  rw [List.pairwise_append, orM_and]
  simp
end Go.Proofs.Ytcfffhkabhmkmaa.Ps
