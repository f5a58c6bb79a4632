/- Texts of the law, joined. -/
import Derived.Test.YtckpocjeikkblaaJ1
import Derived.Test.YtckpocjeikkblaaSymR
namespace Go.Proofs.Ytckpocjeikkblaa.St
open Go Go.Abs Go.Mth
set_option linter.unusedVariables false
set_option linter.unusedSimpArgs false
theorem u8k : C.c.P.underlying 5 = some (.int .u8) := by kernel_rfl
theorem i64k : C.c.P.underlying 3 = some (.int .i64) := by kernel_rfl
attribute [local irreducible] gOK WS WC WR WD Ends FS YS OpV seqK blockK loopK midK retK rdK asgK rangeEnd sat Cell

section
variable {M : HL} {n0 : Nat} {H : Heap} {v w : Value} {fs : List (List Int)} {o : List Int}
/-- The law's gaps. -/
theorem lawgaps_fs {l : List Int} (hH : hasH M n0 H) (hS : Sl M 1 v (ints l)) (hl : l.length ≤ 1000) (hO : Sl M 1 w (ints o)) (hol : o.length ≤ 1000) :
    FS C 53 [v, w] H (fun e H' => e = .int .i64 ((RN (bitF l o) o.length - 1 : Nat) : Int) ∧ H' = H) := by
  refine FS.intro (pf := pf53) rfl rfl rfl ?_
  repeat' (first | refine zP ?_ | refine zA ?_ | (refine zM ?_; intro _ _) | refine zX ?_ | (refine zC ?_; intro _ _ _ _) | (refine zS ?_; intro _ _) | (apply Ws <;> intro hg))
  refine WC.loopX [(0, _), (1, _), (10, _), (11, _)] (fun s : Nat × Int × Int × Nat => [(5, .int .i64 s.2.1), (6, .int .i64 s.2.2.1), (7, .int .i64 (s.2.2.2 : Int)), (12, .int .i64 (s.1 : Int))]) []
    (fun s H' => H' = H ∧ s.1 ≤ o.length ∧ ((s.2.1 = -1 ∧ s.2.2.1 = -1 ∧ s.2.2.2 = 0 ∧ ∀ i, i < s.1 → bitF l o i = false) ∨ ∃ a b : Nat, s.2.1 = (a : Int) ∧ s.2.2.1 = (b : Int) ∧ Ends2 (bitF l o) s.1 a b ∧ s.2.2.2 + 1 = RN (bitF l o) s.1)) (fun s => o.length - s.1) (0, -1, -1, 0) (by repeat' (first | exact .nil | refine .cons rfl ?_)) rfl
    ⟨rfl, Nat.zero_le _, .inl ⟨rfl, rfl, rfl, fun i hi => absurd hi (Nat.not_lt_zero _)⟩⟩ ?_
  rintro ⟨k, a, b, g⟩ _ ⟨rfl, hk, hab⟩
  simp only at hk hab
  dsimp only [List.cons_append, List.nil_append]
  repeat' (first | refine zP ?_ | refine zA ?_ | (refine zM ?_; intro _ _) | refine zX ?_ | (refine zC ?_; intro _ _ _ _) | (refine zS ?_; intro _ _) | (apply Ws <;> intro hg))
  refine WC.condP rfl (fun hlt => ?_) (fun hlt => ?_)
  · have hk' : k < o.length := by omega
    repeat' (first | refine zP ?_ | refine zA ?_ | (refine zM ?_; intro _ _) | refine zX ?_ | (refine zC ?_; intro _ _ _ _) | (refine zS ?_; intro _ _) | (apply Ws <;> intro hg))
    refine WR.call (by first | exact gN | exact gS rfl) rfl rfl (Contains_fs hH hS (by omega) _) ?_
    rintro _ _ ⟨rfl, rfl⟩
    by_cases hb : o.getD k 0 ∈ l
    · have hbt : bitF l o k = true := decide_eq_true hb
      rw [decide_eq_true hb]
      rcases hab with ⟨rfl, rfl, rfl, hno⟩ | ⟨a', b', rfl, rfl, h2, h3⟩
      · have hr : RN (bitF l o) (k + 1) = 1 := by
          rw [RN, (none_runs hno).1, if_pos]
          refine ⟨hbt, ?_⟩
          rcases Nat.eq_zero_or_pos k with h0 | h0
          · exact .inl h0
          · exact .inr (hno _ (by omega))
        repeat' (first | refine zP ?_ | refine zA ?_ | (refine zM ?_; intro _ _) | refine zX ?_ | (refine zC ?_; intro _ _ _ _) | (refine zS ?_; intro _ _) | refine zO ?_ | (apply Ws <;> intro hg))
        exact Ends.loop (k + 1, (k : Int), (k : Int), 0) (by simp only; omega) (by repeat' (first | exact .nil | refine .cons rfl ?_)) rfl ⟨rfl, hk', .inr ⟨k, k, rfl, rfl, .first hbt hno, by simp only; omega⟩⟩
      · have hbk := h2.bk
        have hrk := RN_le (bitF l o) k
        by_cases h5 : b' = k - 1
        · have hp : bitF l o (k - 1) = true := by rw [← h5]; exact h2.pb
          have hr : RN (bitF l o) (k + 1) = RN (bitF l o) k := by
            rw [RN, if_neg]
            · rfl
            · rintro ⟨_, h6 | h6⟩
              · omega
              · rw [hp] at h6; cases h6
          repeat' (first | refine zP ?_ | refine zA ?_ | (refine zM ?_; intro _ _) | refine zX ?_ | (refine zC ?_; intro _ _ _ _) | (refine zS ?_; intro _ _) | refine zO ?_ | (apply Ws <;> intro hg))
          exact Ends.loop (k + 1, (a' : Int), (k : Int), g) (by simp only; omega) (by repeat' (first | exact .nil | refine .cons rfl ?_)) rfl ⟨rfl, hk', .inr ⟨a', k, rfl, rfl, h2.next hbt, by simp only; omega⟩⟩
        · have hp : bitF l o (k - 1) = false := h2.hi _ (by omega) (by omega)
          have hr : RN (bitF l o) (k + 1) = RN (bitF l o) k + 1 := by rw [RN, if_pos ⟨hbt, .inr hp⟩]
          repeat' (first | refine zP ?_ | refine zA ?_ | (refine zM ?_; intro _ _) | refine zX ?_ | (refine zC ?_; intro _ _ _ _) | (refine zS ?_; intro _ _) | refine zO ?_ | (apply Ws <;> intro hg))
          exact Ends.loop (k + 1, (a' : Int), (k : Int), g + 1) (by simp only; omega) (by repeat' (first | exact .nil | refine .cons rfl ?_)) rfl ⟨rfl, hk', .inr ⟨a', k, rfl, rfl, h2.next hbt, by simp only; omega⟩⟩
    · have hbt : bitF l o k = false := decide_eq_false hb
      have hr : RN (bitF l o) (k + 1) = RN (bitF l o) k := by rw [RN, hbt]; simp
      rw [decide_eq_false hb]
      repeat' (first | refine zP ?_ | refine zA ?_ | (refine zM ?_; intro _ _) | refine zX ?_ | (refine zC ?_; intro _ _ _ _) | (refine zS ?_; intro _ _) | refine zO ?_ | (apply Ws <;> intro hg))
      refine Ends.loop (k + 1, a, b, g) (by simp only; omega) (by repeat' (first | exact .nil | refine .cons rfl ?_)) rfl ⟨rfl, hk', ?_⟩
      rcases hab with ⟨h1, h2, h3, h4⟩ | ⟨a', b', h1, h2, h3, h4⟩
      · refine .inl ⟨h1, h2, h3, fun i hi => ?_⟩
        rcases Nat.lt_or_ge i k with h5 | h5
        · exact h4 i h5
        · have : i = k := by simp only at hi; omega
          subst this; exact hbt
      · exact .inr ⟨a', b', h1, h2, h3.skip hbt, by simp only; omega⟩
  · have hkl : k = o.length := by omega
    subst hkl
    repeat' (first | refine zP ?_ | refine zA ?_ | (refine zM ?_; intro _ _) | refine zX ?_ | (refine zC ?_; intro _ _ _ _) | (refine zS ?_; intro _ _) | (apply Ws <;> intro hg))
    refine Ends.ret1 rfl ⟨?_, rfl⟩
    rcases hab with ⟨h1, h2, h3, h4⟩ | ⟨a', b', h1, h2, h3, h4⟩
    · rw [(none_runs h4).1, h3]
    · rw [← h4]; simp
end
end Go.Proofs.Ytckpocjeikkblaa.St

/- All orders of a list, the first one first, and which one follows which. -/
namespace Go.Mth
set_option linter.unusedVariables false

/-- Each element of a list, with what is before it, and behind it. -/
def splits : List Nat → List (List Nat × Nat × List Nat)
  | [] => []
  | x :: l => ([], x, l) :: (splits l).map fun s => (x :: s.1, s.2.1, s.2.2)

/-- All orders of a list of so many elements. -/
def permsL : Nat → List Nat → List (List Nat)
  | 0, _ => [[]]
  | k + 1, r => (splits r).flatMap fun s => (permsL k (s.1 ++ s.2.2)).map (s.2.1 :: ·)

/-- What follows: behind a place that can be greater all descend; the smallest of them that is greater comes there, and the others ascend. -/
def Next (l m : List Nat) : Prop := ∃ p a d1 y d2, l = p ++ a :: (d1 ++ y :: d2) ∧ m = p ++ y :: (d1 ++ a :: d2).reverse ∧ (d1 ++ y :: d2).Pairwise (· > ·) ∧ a < y ∧ ∀ z ∈ d2, z < a

theorem Next.cons {l m : List Nat} (x : Nat) (h : Next l m) : Next (x :: l) (x :: m) := by
  obtain ⟨p, a, d1, y, d2, h1, h2, h3⟩ := h
  exact ⟨x :: p, a, d1, y, d2, by rw [h1]; rfl, by rw [h2]; rfl, h3⟩

/-- A list in which each one follows the one before; its first, and its last one. -/
inductive Path {α : Type} (R : α → α → Prop) : α → List α → α → Prop where
  | one (a : α) : Path R a [a] a
  | cons {a b c : α} {l : List α} (h : R a b) (k : Path R b l c) : Path R a (a :: l) c

theorem Path.append {α : Type} {R : α → α → Prop} {a b c d : α} {l m : List α} (h : Path R a l b) (r : R b c) (k : Path R c m d) : Path R a (l ++ m) d := by
  induction h with
  | one a => exact .cons r k
  | cons h1 _ ih => exact .cons h1 (ih r)
theorem Path.map {α β : Type} {R : α → α → Prop} {S : β → β → Prop} {f : α → β} (hf : ∀ a b, R a b → S (f a) (f b)) {a b : α} {l : List α} (h : Path R a l b) : Path S (f a) (l.map f) (f b) := by
  induction h with
  | one a => exact .one _
  | cons h1 _ ih => exact .cons (hf _ _ h1) ih
theorem Path.ne {α : Type} {R : α → α → Prop} {a b : α} {l : List α} (h : Path R a l b) : l ≠ [] := by cases h <;> simp
theorem Path.head {α : Type} {R : α → α → Prop} {a b : α} {l : List α} (h : Path R a l b) : l.head? = some a := by cases h <;> rfl
theorem Path.last {α : Type} {R : α → α → Prop} {a b : α} {l : List α} (h : Path R a l b) : l.getLast? = some b := by
  induction h with
  | one a => rfl
  | cons _ k ih => rw [List.getLast?_cons_of_ne_nil k.ne]; exact ih

theorem perms_path : ∀ (k : Nat) (r : List Nat), r.length = k → r.Pairwise (· < ·) → Path Next r (permsL k r) r.reverse := by
  intro k
  induction k with
  | zero =>
    intro r hl _
    have : r = [] := List.length_eq_zero_iff.1 hl
    subst this
    exact .one _
  | succ k ih =>
    have key : ∀ (r2 : List Nat) (r1 : List Nat) (x : Nat), r1.length + r2.length = k → (r1 ++ x :: r2).Pairwise (· < ·) →
        Path Next (x :: (r1 ++ r2)) ((splits (x :: r2)).flatMap fun s => (permsL k (r1 ++ s.1 ++ s.2.2)).map (s.2.1 :: ·)) (r1 ++ x :: r2).reverse := by
      intro r2
      induction r2 with
      | nil =>
        intro r1 x hl hp
        have h1 := ih r1 (by simpa using hl) (List.pairwise_append.1 hp).1
        have h2 := h1.map (S := Next) (f := (x :: ·)) (fun _ _ h => h.cons x)
        simpa [splits] using h2
      | cons y t ih2 =>
        intro r1 x hl hp
        have hsub : (r1 ++ y :: t).Pairwise (· < ·) := hp.sublist (.append (.refl _) (List.sublist_cons_self _ _))
        have h1 := (ih (r1 ++ y :: t) (by simp; simp at hl; omega) hsub).map (S := Next) (f := (x :: ·)) (fun _ _ h => h.cons x)
        have h2 := ih2 (r1 ++ [x]) y (by simp; simp at hl; omega) (by simpa using hp)
        obtain ⟨p1, p2, p3⟩ := List.pairwise_append.1 hp
        have hxy : x < y := (List.pairwise_cons.1 p2).1 y (by simp)
        have link : Next (x :: (r1 ++ y :: t).reverse) (y :: (r1 ++ [x] ++ t)) := by
          refine ⟨[], x, t.reverse, y, r1.reverse, by simp, by simp, ?_, hxy, fun z hz => p3 z (by simpa using hz) x (by simp)⟩
          have := List.pairwise_reverse.2 (hsub.imp (S := fun a b => b > a) (fun h => h))
          simpa using this
        have := h1.append link h2
        have e : (r1 ++ [x] ++ y :: t).reverse = (r1 ++ x :: y :: t).reverse := by simp
        rw [e] at this
        refine cast ?_ this
        congr 1
        simp [splits, List.flatMap_cons, List.flatMap_map, Function.comp_def]
    intro r hl hp
    cases r with
    | nil => simp at hl
    | cons x t =>
      have := key t [] x (by simpa using hl) (by simpa using hp)
      simpa [permsL] using this

/-! Which they are. -/
theorem splits_mem : ∀ {r : List Nat} {s : List Nat × Nat × List Nat}, s ∈ splits r → s.1 ++ s.2.1 :: s.2.2 = r
  | [], s, h => by simp [splits] at h
  | x :: l, s, h => by
    rcases List.mem_cons.1 h with rfl | h
    · rfl
    · obtain ⟨s', h1, rfl⟩ := List.mem_map.1 h
      have := splits_mem h1
      simp [← this]
theorem splits_of : ∀ {r : List Nat} {x : Nat}, x ∈ r → ∃ s ∈ splits r, s.2.1 = x
  | [], x, h => by simp at h
  | y :: l, x, h => by
    rcases List.mem_cons.1 h with rfl | h
    · exact ⟨_, List.mem_cons_self, rfl⟩
    · obtain ⟨s, h1, h2⟩ := splits_of h
      exact ⟨_, List.mem_cons_of_mem _ (List.mem_map.2 ⟨s, h1, rfl⟩), h2⟩

theorem mem_perms : ∀ (k : Nat) (r : List Nat), r.length = k → ∀ {l : List Nat}, l ∈ permsL k r ↔ l.Perm r := by
  intro k
  induction k with
  | zero =>
    intro r hl l
    have : r = [] := List.length_eq_zero_iff.1 hl
    subst this
    simp [permsL]
  | succ k ih =>
    intro r hl l
    have hlen : ∀ s ∈ splits r, (s.1 ++ s.2.2).length = k := fun s hs => by
      have := congrArg List.length (splits_mem hs)
      simp at this ⊢; omega
    have hperm : ∀ s ∈ splits r, r.Perm (s.2.1 :: (s.1 ++ s.2.2)) := fun s hs => by
      have := splits_mem hs
      rw [← this]; exact List.perm_middle
    simp only [permsL, List.mem_flatMap, List.mem_map]
    constructor
    · rintro ⟨s, hs, t, ht, rfl⟩
      exact (((ih _ (hlen s hs)).1 ht).cons _).trans (hperm s hs).symm
    · intro h
      cases l with
      | nil => have := h.length_eq; simp at this; omega
      | cons x t =>
        obtain ⟨s, hs, hx⟩ := splits_of (h.mem_iff.1 (List.mem_cons_self (a := x)))
        refine ⟨s, hs, t, (ih _ (hlen s hs)).2 ?_, by rw [hx]⟩
        have := h.trans (hperm s hs)
        rw [hx] at this
        exact this.cons_inv
end Go.Mth

namespace Go.Proofs.Ytckpocjeikkblaa.St
open Go Go.Abs Go.Mth
set_option linter.unusedVariables false
set_option linter.unusedSimpArgs false
attribute [local irreducible] gOK WS WC WR WD Ends FS YS OpV seqK blockK loopK midK retK rdK asgK rangeEnd sat Cell

section
variable {M : HL} {n0 : Nat} {H : Heap} {o : List Int}

/-- The last ones in the opposite order. -/
theorem RevSuf_fs {b u s k cp : Nat} (hH : hasH ((b, .row 3 u 0 (ints o)) :: M) n0 H) (hol : o.length ≤ 1000) (hs : s + k = o.length) :
    FS C 51 [.slice (some ⟨b, s, some u⟩) k cp] H (fun e H' => hasH ((b, .row 3 u 0 (ints (o.take s ++ (o.drop s).reverse))) :: M) n0 H') := by
  refine FS.intro (pf := pf51) rfl rfl rfl ?_
  repeat' (first | refine zP ?_ | refine zA ?_ | (refine zM ?_; intro _ _) | refine zX ?_ | (refine zC ?_; intro _ _ _ _) | (refine zS ?_; intro _ _) | (apply Ws <;> intro hg))
  refine WC.loopX [(0, .slice (some ⟨b, s, some u⟩) k cp)] (fun q : Nat × List Int => [(2, .int .i64 (q.1 : Int)), (3, .int .i64 ((k : Int) - 1 - q.1))]) []
    (fun q H' => hasH ((b, .row 3 u 0 (ints q.2)) :: M) n0 H' ∧ 2 * q.1 ≤ k ∧ q.2.length = o.length ∧ ∀ i, i < o.length → q.2.getD i 0 = if s ≤ i ∧ (i < s + q.1 ∨ s + k - q.1 ≤ i) then o.getD (2 * s + k - 1 - i) 0 else o.getD i 0) (fun q => k - q.1) (0, o) ?_ rfl
    ⟨hH, Nat.zero_le _, rfl, fun i hi => by simp only; rw [if_neg (by omega)]⟩ ?_
  · refine .cons rfl (.cons ?_ (.cons rfl .nil))
    show some (Value.int .i64 ((k : Int) - 1)) = some (.int .i64 ((k : Int) - 1 - ((0 : Nat) : Int)))
    simp
  clear hH
  rintro ⟨q, ys⟩ H1 ⟨hH1, hq, hyl, hys⟩
  simp only at hH1 hq hyl hys
  dsimp only [List.cons_append, List.nil_append]
  repeat' (first | refine zP ?_ | refine zA ?_ | (refine zM ?_; intro _ _) | refine zX ?_ | (refine zC ?_; intro _ _ _ _) | (refine zS ?_; intro _ _) | (apply Ws <;> intro hg))
  refine WC.condP rfl (fun hlt => ?_) (fun hlt => ?_)
  · have hq' : q < k := by omega
    obtain ⟨j, hj⟩ : ∃ j : Nat, (k : Int) - 1 - q = j := ⟨k - 1 - q, by omega⟩
    rw [hj]
    repeat' (first | refine zP ?_ | refine zA ?_ | (refine zM ?_; intro _ _) | refine zX ?_ | (refine zC ?_; intro _ _ _ _) | (refine zS ?_; intro _ _) | (apply Ws <;> intro hg))
    rename_i H2 hH2
    have hl2 : (ys.set (s + q) (ys.getD (s + j) 0)).length = o.length := by simp [hyl]
    repeat' (first | refine zP ?_ | refine zA ?_ | (refine zM ?_; intro _ _) | refine zX ?_ | (refine zC ?_; intro _ _ _ _) | (refine zS ?_; intro _ _) | (apply Ws <;> intro hg))
    rename_i H3 hH3
    rw [show (j : Int) - 1 = (k : Int) - 1 - ((q + 1 : Nat) : Int) by omega]
    refine Ends.loop (q + 1, (ys.set (s + q) (ys.getD (s + j) 0)).set (s + j) (ys.getD (s + q) 0)) (by simp only; omega) (by repeat' (first | exact .nil | refine .cons rfl ?_)) rfl ⟨hH3, by simp only; omega, by simp [hyl], fun i hi => ?_⟩
    simp only
    rw [getD_set' (by omega), getD_set' (by omega)]
    have hjk := hys (s + j) (by omega)
    have hkk := hys (s + q) (by omega)
    rw [if_neg (by omega)] at hjk hkk
    by_cases h1 : i = s + j
    · rw [if_pos h1, if_pos (by omega), hkk]; congr 1; omega
    · rw [if_neg h1]
      by_cases h2 : i = s + q
      · rw [if_pos h2, if_pos (by omega), hjk]; congr 1; omega
      · rw [if_neg h2, hys i hi]
        by_cases h3 : s ≤ i ∧ (i < s + q ∨ s + k - q ≤ i)
        · rw [if_pos h3, if_pos (by omega)]
        · rw [if_neg h3, if_neg (by omega)]
  · have hre : ys = o.take s ++ (o.drop s).reverse := by
      refine ext_getD (a := 0) (by simp [hyl]; omega) fun i hi => ?_
      rw [hys i (by omega)]
      by_cases h0 : i < s
      · rw [if_neg (by omega), getD_app_l (by simp; omega), getD_take h0]
      · have h4 : (o.take s ++ (o.drop s).reverse).getD i 0 = o.getD (2 * s + k - 1 - i) 0 := by
          rw [List.getD_eq_getElem?_getD, List.getElem?_append_right (by simp; omega), List.getD_eq_getElem?_getD]
          congr 1
          rw [List.getElem?_reverse (by simp; omega), List.getElem?_drop]
          congr 1
          simp; omega
        rw [h4]
        by_cases h3 : s ≤ i ∧ (i < s + q ∨ s + k - q ≤ i)
        · rw [if_pos h3]
        · rw [if_neg h3]; congr 1; omega
    subst hre
    repeat' (first | refine zP ?_ | refine zA ?_ | (refine zM ?_; intro _ _) | refine zX ?_ | (refine zC ?_; intro _ _ _ _) | (refine zS ?_; intro _ _) | (apply Ws <;> intro hg))
    exact Ends.end0 hH1

/-- Numbers as they lie in a row. -/
def castI (l : List Nat) : List Int := l.map fun (x : Nat) => (x : Int)
theorem nodesC (l : List Nat) : nodes l = ints (castI l) := nodesI l
theorem castI_len (l : List Nat) : (castI l).length = l.length := by simp [castI]
theorem castI_rev (l : List Nat) (s : Nat) : (castI l).take s ++ ((castI l).drop s).reverse = castI (l.take s ++ (l.drop s).reverse) := by
  simp [castI, List.map_take, List.map_drop, List.map_reverse]

/-- All descend: there is none behind it. -/
theorem adv_last {b : Nat} {l : List Nat} (hH : hasH ((b, .row 3 0 0 (nodes l)) :: M) n0 H) (hl : l.length ≤ 1000) (hd : l.Pairwise (· > ·)) :
    FS C 115 [.slice (some ⟨b, 0, some 0⟩) l.length (2 * l.length + 1)] H (fun e H' => e = .bool false ∧ hasH ((b, .row 3 0 0 (nodes l)) :: M) n0 H') := by
  refine FS.intro (pf := pf115) rfl rfl rfl ?_
  have hget : ∀ i, i + 1 < l.length → l.getD (i + 1) 0 < l.getD i 0 := fun i hi => by
    rw [getD_eq hi, getD_eq (show i < l.length by omega)]
    exact List.pairwise_iff_getElem.1 hd i (i + 1) (by omega) hi (by omega)
  repeat' (first | refine zP ?_ | refine zA ?_ | (refine zM ?_; intro _ _) | refine zX ?_ | (refine zC ?_; intro _ _ _ _) | (refine zS ?_; intro _ _) | (apply Ws <;> intro hg))
  refine WC.loopX [(0, .slice (some ⟨b, 0, some 0⟩) l.length (2 * l.length + 1))] (fun k : Int => [(3, .int .i64 k)]) [] (fun k H' => H' = H ∧ -2 ≤ k ∧ k ≤ (l.length : Int) - 2) (fun k => (k + 3).toNat) ((l.length : Int) - 2) (by repeat' (first | exact .nil | refine .cons rfl ?_)) rfl ⟨rfl, by omega, Int.le_refl _⟩ ?_
  rintro k HA ⟨rfl, hk1, hk2⟩
  dsimp only [List.cons_append, List.nil_append]
  by_cases h0 : 0 ≤ k
  · obtain ⟨q, rfl⟩ : ∃ q : Nat, k = q := ⟨k.toNat, by omega⟩
    have := hget q (by omega)
    repeat' (first | refine zP ?_ | refine zA ?_ | (refine zM ?_; intro _ _) | refine zX ?_ | (refine zC ?_; intro _ _ _ _) | (refine zS ?_; intro _ _) | refine zO ?_ | (apply Ws <;> intro hg))
    exact Ends.loop ((q : Int) - 1) (by omega) (by repeat' (first | exact .nil | refine .cons rfl ?_)) rfl ⟨rfl, by omega, by omega⟩
  · repeat' (first | refine zP ?_ | refine zA ?_ | (refine zM ?_; intro _ _) | refine zX ?_ | (refine zC ?_; intro _ _ _ _) | (refine zS ?_; intro _ _) | refine zO ?_ | (apply Ws <;> intro hg))
    exact Ends.ret1 rfl ⟨rfl, hH⟩

/-- There is one behind it. -/
theorem adv_next {b : Nat} {l m : List Nat} (hH : hasH ((b, .row 3 0 0 (nodes l)) :: M) n0 H) (hl : l.length ≤ 1000) (hN : Go.Mth.Next l m) :
    FS C 115 [.slice (some ⟨b, 0, some 0⟩) l.length (2 * l.length + 1)] H (fun e H' => e = .bool true ∧ hasH ((b, .row 3 0 0 (nodes m)) :: M) n0 H') := by
  obtain ⟨p, a, d1, y, d2, hle, hme, hdesc, hay, hd2⟩ := hN
  have hlen : l.length = p.length + 1 + (d1.length + 1 + d2.length) := by rw [hle]; simp; omega
  have hA : l.getD p.length 0 = a := by rw [hle, List.getD_eq_getElem?_getD, List.getElem?_append_right (Nat.le_refl _)]; simp
  have hat : ∀ i, i < d1.length + 1 + d2.length → l.getD (p.length + 1 + i) 0 = (d1 ++ y :: d2).getD i 0 := fun i hi => by
    rw [hle, List.getD_eq_getElem?_getD, List.getElem?_append_right (by omega), show p.length + 1 + i - p.length = i + 1 by omega, List.getElem?_cons_succ, List.getD_eq_getElem?_getD]
  have hdl : (d1 ++ y :: d2).length = d1.length + 1 + d2.length := by simp; omega
  have hF1 : ∀ i, p.length < i → i + 1 < l.length → l.getD (i + 1) 0 < l.getD i 0 := fun i h1 h2 => by
    have e1 := hat (i - p.length - 1) (by omega)
    have e2 := hat (i - p.length) (by omega)
    rw [show p.length + 1 + (i - p.length - 1) = i by omega] at e1
    rw [show p.length + 1 + (i - p.length) = i + 1 by omega] at e2
    rw [e1, e2, getD_eq (by omega), getD_eq (by omega)]
    exact List.pairwise_iff_getElem.1 hdesc _ _ (by omega) (by omega) (by omega)
  have hY : l.getD (p.length + 1 + d1.length) 0 = y := by
    rw [hat _ (by omega), List.getD_eq_getElem?_getD, List.getElem?_append_right (Nat.le_refl _)]; simp
  have hF2 : a < l.getD (p.length + 1) 0 := by
    rcases Nat.eq_zero_or_pos d1.length with h | h
    · have := hY; rw [h, Nat.add_zero] at this; rw [this]; exact hay
    · have e1 := hat 0 (by omega)
      rw [Nat.add_zero] at e1
      have e2 := hat d1.length (by omega)
      rw [hY] at e2
      have h3 := List.pairwise_iff_getElem.1 hdesc 0 d1.length (by omega) (by omega) h
      have e3 : (d1 ++ y :: d2).getD 0 0 = (d1 ++ y :: d2)[0] := getD_eq (by omega)
      have e4 : (d1 ++ y :: d2).getD d1.length 0 = (d1 ++ y :: d2)[d1.length] := getD_eq (by omega)
      omega
  have hF3 : ∀ i, p.length + 1 + d1.length < i → i < l.length → l.getD i 0 < a := fun i h1 h2 => by
    have e1 := hat (i - p.length - 1) (by omega)
    rw [show p.length + 1 + (i - p.length - 1) = i by omega] at e1
    rw [e1, List.getD_eq_getElem?_getD, List.getElem?_append_right (by omega), show i - p.length - 1 - d1.length = (i - p.length - 2 - d1.length) + 1 by omega, List.getElem?_cons_succ, ← List.getD_eq_getElem?_getD]
    exact hd2 _ (getD_mem (by omega))
  refine FS.intro (pf := pf115) rfl rfl rfl ?_
  repeat' (first | refine zP ?_ | refine zA ?_ | (refine zM ?_; intro _ _) | refine zX ?_ | (refine zC ?_; intro _ _ _ _) | (refine zS ?_; intro _ _) | (apply Ws <;> intro hg))
  refine WC.loopX [(0, .slice (some ⟨b, 0, some 0⟩) l.length (2 * l.length + 1))] (fun k : Nat => [(3, .int .i64 (k : Int))]) [] (fun k H' => H' = H ∧ p.length ≤ k ∧ k + 2 ≤ l.length) (fun k => k) (l.length - 2) ?_ rfl ⟨rfl, by omega, by omega⟩ ?_
  · refine .cons ?_ (.cons rfl .nil)
    show some (Value.int .i64 ((l.length : Int) - 2)) = some (.int .i64 ((l.length - 2 : Nat) : Int))
    congr 2; omega
  rintro q HA ⟨rfl, hq1, hq2⟩
  dsimp only [List.cons_append, List.nil_append]
  by_cases h0 : q = p.length
  · subst h0
    rw [← hA] at hF2
    repeat' (first | refine zP ?_ | refine zA ?_ | (refine zM ?_; intro _ _) | refine zX ?_ | (refine zC ?_; intro _ _ _ _) | (refine zS ?_; intro _ _) | refine zO ?_ | (apply Ws <;> intro hg))
    refine WC.loopX [(0, .slice (some ⟨b, 0, some 0⟩) l.length (2 * l.length + 1)), (3, .int .i64 (p.length : Int))] (fun k : Nat => [(4, .int .i64 (k : Int))]) [] (fun k H' => hasH ((b, .row 3 0 0 (nodes l)) :: M) n0 H' ∧ p.length + 1 + d1.length ≤ k ∧ k < l.length) (fun k => k) (l.length - 1) ?_ rfl ⟨hH, by omega, by omega⟩ ?_
    · refine .cons ?_ (.cons rfl (.cons rfl .nil))
      show some (Value.int .i64 ((l.length : Int) - 1)) = some (.int .i64 ((l.length - 1 : Nat) : Int))
      congr 2; omega
    clear hH
    rintro j HB ⟨hHB, hj1, hj2⟩
    dsimp only [List.cons_append, List.nil_append]
    by_cases hj : j = p.length + 1 + d1.length
    · have hjy : l.getD j 0 = y := by rw [hj]; exact hY
      have hjg : l.getD p.length 0 < l.getD j 0 := by omega
      have hl2 : (l.set p.length (l.getD j 0)).length = l.length := by simp
      have h3 : (l.set p.length (l.getD j 0)).set j (l.getD p.length 0) = p ++ y :: (d1 ++ a :: d2) := by
        rw [hjy, hA, hle, hj, List.set_append_right _ _ (Nat.le_refl _), Nat.sub_self, List.set_cons_zero, List.set_append_right _ _ (by omega), show p.length + 1 + d1.length - p.length = d1.length + 1 by omega, List.set_cons_succ,
          List.set_append_right _ _ (Nat.le_refl _), Nat.sub_self, List.set_cons_zero]
      repeat' (first | refine zP ?_ | refine zA ?_ | (refine zM ?_; intro _ _) | refine zX ?_ | (refine zC ?_; intro _ _ _ _) | (refine zS ?_; intro _ _) | refine zO ?_ | (apply Ws <;> intro hg))
      rename_i H3 hH3
      refine WR.op (by first | exact gN | exact gS rfl) rfl (OpV.slLoK (a := p.length + 1) rfl rfl (by omega) (Nat.le_refl _) (by omega)) ?_
      replace hH3 : hasH ((b, .row 3 0 0 (ints (castI ((l.set p.length (l.getD j 0)).set j (l.getD p.length 0))))) :: M) n0 H3 := by rw [← nodesC]; exact hH3
      rw [h3] at hH3
      have hm3 : (p ++ y :: (d1 ++ a :: d2)).length = l.length := by simp; omega
      refine WR.call (by first | exact gN | exact gS rfl) rfl rfl (RevSuf_fs (s := 0 + (p.length + 1)) hH3 (by rw [castI_len]; omega) (by rw [castI_len]; omega)) ?_
      intro e4 H4 hH4
      rw [castI_rev, ← nodesC] at hH4
      have h5 : (p ++ y :: (d1 ++ a :: d2)).take (0 + (p.length + 1)) ++ ((p ++ y :: (d1 ++ a :: d2)).drop (0 + (p.length + 1))).reverse = m := by
        rw [hme, Nat.zero_add, show p ++ y :: (d1 ++ a :: d2) = (p ++ [y]) ++ (d1 ++ a :: d2) by simp, List.take_left' (by simp), List.drop_left' (by simp)]; simp
      rw [h5] at hH4
      repeat' (first | refine zP ?_ | refine zA ?_ | (refine zM ?_; intro _ _) | refine zX ?_ | (refine zC ?_; intro _ _ _ _) | (refine zS ?_; intro _ _) | refine zO ?_ | (apply Ws <;> intro hg))
      exact Ends.ret1 rfl ⟨rfl, hH4⟩
    · have := hF3 j (by omega) (by omega)
      rw [← hA] at this
      repeat' (first | refine zP ?_ | refine zA ?_ | (refine zM ?_; intro _ _) | refine zX ?_ | (refine zC ?_; intro _ _ _ _) | (refine zS ?_; intro _ _) | refine zO ?_ | (apply Ws <;> intro hg))
      rw [show (j : Int) - 1 = ((j - 1 : Nat) : Int) by omega]
      exact Ends.loop (j - 1) (by omega) (by repeat' (first | exact .nil | refine .cons rfl ?_)) rfl ⟨hHB, by omega, by omega⟩
  · have := hF1 q (by omega) (by omega)
    repeat' (first | refine zP ?_ | refine zA ?_ | (refine zM ?_; intro _ _) | refine zX ?_ | (refine zC ?_; intro _ _ _ _) | (refine zS ?_; intro _ _) | refine zO ?_ | (apply Ws <;> intro hg))
    rw [show (q : Int) - 1 = ((q - 1 : Nat) : Int) by omega]
    exact Ends.loop (q - 1) (by omega) (by repeat' (first | exact .nil | refine .cons rfl ?_)) rfl ⟨rfl, by omega, by omega⟩
end
end Go.Proofs.Ytckpocjeikkblaa.St

namespace Go.Proofs.Ytckpocjeikkblaa.St
open Go Go.Abs Go.Mth
set_option linter.unusedVariables false
set_option linter.unusedSimpArgs false
attribute [local irreducible] gOK WS WC WR WD Ends FS YS OpV seqK blockK loopK midK retK rdK asgK rangeEnd sat Cell

section
variable {M : HL} {n0 : Nat} {H : Heap}

/-- All orders are handed over, one after another, in one row, as long as more are asked for. -/
theorem all_fs {l bn u e N : Nat} {J : List (List Nat) → HL → Nat → Prop} {S : HL → Nat → Prop}
    (hH : hasH M n0 H) (hmN : (bn, .row e u 0 [.int .i64 (N : Int)]) ∈ M) (hN : N ≤ 1000) (hJ : J (permsL N (List.range N)) M (n0 + 1))
    (hy : ∀ z zs M' n' H', J (z :: zs) M' n' → z.length = N → hasH ((n0, .row 3 0 0 (nodes z)) :: M') n' H' → YS C l [.slice (some ⟨n0, 0, some 0⟩) N (2 * N + 1)] H'
      (fun v H2 => ∃ M2 n2, hasH ((n0, .row 3 0 0 (nodes z)) :: M2) n2 H2 ∧ ((v = .bool true ∧ J zs M2 n2) ∨ (v = .bool false ∧ S M2 n2)))) :
    FS C 114 [.func (.yield l) #[] #[], .pointer (some ⟨bn, 0, some u⟩)] H (fun _ H' => ∃ M' n' z, hasH ((n0, .row 3 0 0 (nodes z)) :: M') n' H' ∧ (J [] M' n' ∨ S M' n')) := by
  refine FS.intro (pf := pf114) rfl rfl rfl ?_
  repeat' (first | refine zP ?_ | refine zA ?_ | (refine zM ?_; intro _ _) | refine zX ?_ | (refine zC ?_; intro _ _ _ _) | (refine zS ?_; intro _ _) | (apply Ws <;> intro hg))
  refine WR.mkS (by first | exact gN | exact gS rfl) rfl hH rfl rfl (by omega) rfl fun H1 hH1 => ?_
  clear hH
  replace hH1 : hasH ((n0, .row 3 0 0 (nodes (List.replicate N 0))) :: M) (n0 + 1) H1 := by
    rw [show nodes (List.replicate N 0) = List.replicate N (Value.int .i64 0) by simp [nodes]]; exact hH1
  repeat' (first | refine zP ?_ | refine zA ?_ | (refine zM ?_; intro _ _) | refine zX ?_ | (refine zC ?_; intro _ _ _ _) | (refine zS ?_; intro _ _) | (apply Ws <;> intro hg))
  refine WC.loopX [(0, .func (.yield l) #[] #[]), (3, .slice (some ⟨n0, 0, some 0⟩) N (2 * N + 1)), (9, .int .i64 (N : Int))] (fun q : Nat × List Nat => [(10, .int .i64 (q.1 : Int))]) []
    (fun q H' => hasH ((n0, .row 3 0 0 (nodes q.2)) :: M) (n0 + 1) H' ∧ q.1 ≤ N ∧ q.2.length = N ∧ ∀ i, i < q.1 → q.2.getD i 0 = i) (fun q => N - q.1) (0, List.replicate N 0) (by repeat' (first | exact .nil | refine .cons rfl ?_)) rfl
    ⟨hH1, Nat.zero_le _, by simp, fun i hi => absurd hi (Nat.not_lt_zero _)⟩ ?_
  clear hH1
  rintro ⟨k, xs⟩ H2 ⟨hH2, hk, hxl, hxs⟩
  simp only at hH2 hk hxl hxs
  dsimp only [List.cons_append, List.nil_append]
  repeat' (first | refine zP ?_ | refine zA ?_ | (refine zM ?_; intro _ _) | refine zX ?_ | (refine zC ?_; intro _ _ _ _) | (refine zS ?_; intro _ _) | (apply Ws <;> intro hg))
  refine WC.condP rfl (fun hlt => ?_) (fun hlt => ?_)
  · have hk' : k < N := by omega
    repeat' (first | refine zP ?_ | refine zA ?_ | (refine zM ?_; intro _ _) | refine zX ?_ | (refine zC ?_; intro _ _ _ _) | (refine zS ?_; intro _ _) | (apply Ws <;> intro hg))
    rename_i H3 hH3
    refine Ends.loop (k + 1, xs.set k k) (by simp only; omega) (by repeat' (first | exact .nil | refine .cons rfl ?_)) rfl ⟨hH3, by simp only; omega, by simp [hxl], fun i hi => ?_⟩
    simp only at hi ⊢
    rw [getD_set' (by omega)]
    split
    · omega
    · exact hxs i (by omega)
  · have hxr : xs = List.range N := by
      refine ext_getD (a := 0) (by simp [hxl]) fun i hi => ?_
      rw [hxs i (by omega), getD_eq (by simp; omega)]
      simp
    subst hxr
    repeat' (first | refine zP ?_ | refine zA ?_ | (refine zM ?_; intro _ _) | refine zX ?_ | (refine zC ?_; intro _ _ _ _) | (refine zS ?_; intro _ _) | (apply Ws <;> intro hg))
    have hp := perms_path N (List.range N) (by simp) List.pairwise_lt_range
    obtain ⟨rest, hrest⟩ : ∃ rest, permsL N (List.range N) = List.range N :: rest := List.head?_eq_some_iff.1 hp.head
    rw [hrest] at hp hJ
    clear hrest hmN hxs hlt hk
    generalize hz0 : List.range N = z0 at hp hJ hH2 hxl
    refine WC.loopX [(0, .func (.yield l) #[] #[]), (3, .slice (some ⟨n0, 0, some 0⟩) N (2 * N + 1))] (fun q : Bool × List Nat × List (List Nat) × HL × Nat => [(5, .bool q.1)]) []
      (fun q H' => q.2.1.length = N ∧ hasH ((n0, .row 3 0 0 (nodes q.2.1)) :: q.2.2.2.1) q.2.2.2.2 H' ∧ (q.1 = true → Path Go.Mth.Next q.2.1 (q.2.1 :: q.2.2.1) z0.reverse ∧ J (q.2.1 :: q.2.2.1) q.2.2.2.1 q.2.2.2.2) ∧ (q.1 = false → J [] q.2.2.2.1 q.2.2.2.2))
      (fun q => if q.1 then q.2.2.1.length + 1 else 0) (true, z0, rest, M, n0 + 1) (by repeat' (first | exact .nil | refine .cons rfl ?_)) rfl ⟨hxl, hH2, fun _ => ⟨hp, hJ⟩, fun h => Bool.noConfusion h⟩ ?_
    have hdes : z0.reverse.Pairwise (· > ·) := by
      rw [← hz0, List.pairwise_reverse]; exact List.pairwise_lt_range
    clear hH2 hp hJ hxl
    rintro ⟨more, z, zs, M1, n1⟩ H3 ⟨hz, hH3, ht, hf⟩
    simp only at hz hH3 ht hf
    dsimp only [List.cons_append, List.nil_append]
    cases more
    · repeat' (first | refine zP ?_ | refine zA ?_ | (refine zM ?_; intro _ _) | refine zX ?_ | (refine zC ?_; intro _ _ _ _) | (refine zS ?_; intro _ _) | refine zO ?_ | (apply Ws <;> intro hg))
      exact Ends.end0 ⟨M1, n1, z, hH3, .inl (hf rfl)⟩
    · obtain ⟨hp, hJ⟩ := ht rfl
      clear ht hf
      repeat' (first | refine zP ?_ | refine zA ?_ | (refine zM ?_; intro _ _) | refine zX ?_ | (refine zC ?_; intro _ _ _ _) | (refine zS ?_; intro _ _) | (apply Ws <;> intro hg))
      refine WR.yield (by first | exact gN | exact gS rfl) rfl rfl rfl (hy z zs M1 n1 _ hJ hz hH3) ?_
      clear hH3
      rintro v H4 ⟨M2, n2, hH4, ⟨rfl, hJ2⟩ | ⟨rfl, hS⟩⟩
      · repeat' (first | refine zP ?_ | refine zA ?_ | (refine zM ?_; intro _ _) | refine zX ?_ | (refine zC ?_; intro _ _ _ _) | (refine zS ?_; intro _ _) | refine zO ?_ | (apply Ws <;> intro hg))
        cases hp with
        | one =>
          have hL := adv_last hH4 (by omega) hdes
          rw [hz] at hL
          refine WR.call (by first | exact gN | exact gS rfl) rfl rfl hL ?_
          rintro v H5 ⟨rfl, hH5⟩
          repeat' (first | refine zP ?_ | refine zA ?_ | (refine zM ?_; intro _ _) | refine zX ?_ | (refine zC ?_; intro _ _ _ _) | (refine zS ?_; intro _ _) | refine zO ?_ | (apply Ws <;> intro hg))
          exact Ends.loop (false, z0.reverse, [], M2, n2) (by simp) (by repeat' (first | exact .nil | refine .cons rfl ?_)) rfl ⟨hz, hH5, fun h => Bool.noConfusion h, fun _ => hJ2⟩
        | cons hN1 hp2 =>
          rename_i z2
          obtain ⟨zs2, rfl⟩ := List.head?_eq_some_iff.1 hp2.head
          have hz2 : z2.length = N := by
            obtain ⟨p, a, d1, y, d2, h1, h2, _⟩ := hN1
            rw [← hz, h1, h2]; simp; omega
          have hL := adv_next hH4 (by omega) hN1
          rw [hz] at hL
          refine WR.call (by first | exact gN | exact gS rfl) rfl rfl hL ?_
          rintro v H5 ⟨rfl, hH5⟩
          repeat' (first | refine zP ?_ | refine zA ?_ | (refine zM ?_; intro _ _) | refine zX ?_ | (refine zC ?_; intro _ _ _ _) | (refine zS ?_; intro _ _) | refine zO ?_ | (apply Ws <;> intro hg))
          exact Ends.loop (true, z2, zs2, M2, n2) (by simp) (by repeat' (first | exact .nil | refine .cons rfl ?_)) rfl ⟨hz2, hH5, fun _ => ⟨hp2, hJ2⟩, fun h => Bool.noConfusion h⟩
      · repeat' (first | refine zP ?_ | refine zA ?_ | (refine zM ?_; intro _ _) | refine zX ?_ | (refine zC ?_; intro _ _ _ _) | (refine zS ?_; intro _ _) | refine zO ?_ | (apply Ws <;> intro hg))
        exact Ends.ret0 ⟨M2, n2, z, hH4, .inr hS⟩
end
end Go.Proofs.Ytckpocjeikkblaa.St

namespace Go.Proofs.Ytckpocjeikkblaa.St
open Go Go.Abs Go.Mth
set_option linter.unusedVariables false
set_option linter.unusedSimpArgs false
attribute [local irreducible] gOK WS WC WR WD Ends FS YS OpV seqK blockK loopK midK retK rdK asgK rangeEnd sat Cell

section
variable {M : HL} {n0 : Nat} {H : Heap}

theorem allOrders_fs (hH : hasH M n0 H) (N : Int) : FS C 92 [.int .i64 N] H (fun v H' => v = .func (.func 114) #[] #[.pointer (some ⟨n0, 0, some 0⟩)] ∧ hasH ((n0, .row 3 0 0 [.int .i64 N]) :: M) (n0 + 1) H') := by
  refine FS.intro (pf := pf92) rfl rfl rfl ?_
  repeat' (first | refine zP ?_ | refine zA ?_ | (refine zM ?_; intro _ _) | refine zX ?_ | (refine zC ?_; intro _ _ _ _) | (refine zS ?_; intro _ _) | (apply Ws <;> intro hg))
  exact Ends.ret1 rfl ⟨rfl, by assumption⟩
end
end Go.Proofs.Ytckpocjeikkblaa.St

namespace Go.Proofs.Ytckpocjeikkblaa.St
open Go Go.Abs Go.Mth
set_option linter.unusedVariables false
set_option linter.unusedSimpArgs false
attribute [local irreducible] gOK WS WC WR WD Ends FS YS OpV seqK blockK loopK midK retK rdK asgK rangeEnd sat Cell

/-- An order fits. -/
def fitB (fs : List (List Int)) (z : List Nat) : Bool := decide (gsum (masksOf fs) (castI z) fs.length = 0)
/-- All orders that fit. -/
def fitL (N : Nat) (fs : List (List Int)) : List (List Nat) := (permsL N (List.range N)).filter (fitB fs)

theorem len_flatMap_le {α β : Type} (f : α → List β) (c : Nat) : ∀ l : List α, (∀ x ∈ l, (f x).length ≤ c) → (l.flatMap f).length ≤ l.length * c
  | [], _ => by simp
  | a :: l, h => by
    have h1 := h a (.head _)
    have h2 := len_flatMap_le f c l fun x hx => h x (.tail _ hx)
    rw [List.flatMap_cons, List.length_append, List.length_cons, Nat.add_mul]
    omega
theorem splits_len : ∀ r : List Nat, (splits r).length = r.length
  | [] => rfl
  | x :: r => by simp [splits, splits_len r]
section
variable {M : HL} {n0 : Nat} {H : Heap} {v w : Value} {fs : List (List Int)} {o : List Int}
theorem perm_castI {N : Nat} {z : List Nat} (h : z ∈ permsL N (List.range N)) (hN : N ≤ 7) : (castI z).length = N ∧ ∀ x ∈ castI z, 0 ≤ x ∧ x < 7 := by
  have hp := (mem_perms N _ (by simp)).1 h
  refine ⟨by rw [castI_len, hp.length_eq]; simp, fun x hx => ?_⟩
  obtain ⟨y, hy, rfl⟩ := List.mem_map.1 hx
  have := hp.mem_iff.1 hy
  simp at this
  omega

/-- An order in its row. -/
theorem own_order {b : Nat} {z : List Nat} {N : Nat} (hm : (b, Ch.row 3 0 0 (nodes z)) ∈ M) (hz : z.length = N) : Sl M 1 (.slice (some ⟨b, 0, some 0⟩) N (2 * N + 1)) (ints (castI z)) := by
  subst hz
  rw [nodesC] at hm
  have hlen := castI_len z
  generalize castI z = o at *
  rw [← hlen]
  exact .row (lo := 0) (cs := ints o) hm (.row _ _ _ _) (Nat.zero_le _) (by simp) (by simp [List.take_of_length_le]) (by simp) (.inr ⟨_, rfl, Nat.le_refl _⟩)
end
end Go.Proofs.Ytckpocjeikkblaa.St

namespace Go.Proofs.Ytckpocjeikkblaa.St
open Go Go.Abs Go.Mth
set_option linter.unusedVariables false
set_option linter.unusedSimpArgs false

section
variable {L : Env} {D : List Nat} {H : Heap} {M M' : HL} {n : Nat}
end
attribute [local irreducible] gOK WS WC WR WD Ends FS YS OpV seqK blockK loopK midK retK rdK asgK rangeEnd sat Cell

/-- The first order that fits, and the error. -/
def firstO (n : Int) (fs : List (List Int)) : List Int := if findsE n fs = 0 then castI ((fitL n.toNat fs).headD []) else []
def firstC (n : Int) (fs : List (List Int)) : Int := if findsE n fs = 0 then (if fitL n.toNat fs = [] then 12 else 0) else findsE n fs

section
variable {M : HL} {n0 : Nat} {H : Heap} {v w : Value} {fs : List (List Int)} {o : List Int}
end
end Go.Proofs.Ytckpocjeikkblaa.St

namespace Go.Proofs.Ytckpocjeikkblaa.St
open Go Go.Abs Go.Mth
set_option linter.unusedVariables false
set_option linter.unusedSimpArgs false

section
variable {L : Env} {H : Heap}
end
attribute [local irreducible] gOK WS WC WR WD Ends FS YS OpV seqK blockK loopK midK retK rdK asgK rangeEnd sat Cell

/-- Two are next to one another, before place k. -/
def adj (z : List Nat) (a c : Nat) : Nat → Nat
  | 0 => 0
  | k + 1 => adj z a c k + if (z.getD k 0 = a ∧ z.getD (k + 1) 0 = c) ∨ (z.getD k 0 = c ∧ z.getD (k + 1) 0 = a) then 1 else 0
section
variable {M : HL} {n0 : Nat} {H : Heap}
end
end Go.Proofs.Ytckpocjeikkblaa.St

namespace Go.Proofs.Ytckpocjeikkblaa.St
open Go Go.Abs Go.Mth
set_option linter.unusedVariables false
set_option linter.unusedSimpArgs false
attribute [local irreducible] gOK WS WC WR WD Ends FS YS OpV seqK blockK loopK midK retK rdK asgK rangeEnd sat Cell

/-- Pairs that have something, in their order. -/
def prow (p : Nat → Nat → Bool) (a : Nat) : Nat → List (Int × Int)
  | 0 => []
  | j + 1 => prow p a j ++ if p a (a + 1 + j) then [((a : Int), ((a + 1 + j : Nat) : Int))] else []
def prows (p : Nat → Nat → Bool) (N : Nat) : Nat → List (Int × Int)
  | 0 => []
  | k + 1 => prows p N k ++ prow p k (N - (k + 1))
section
variable {M : HL} {n0 : Nat} {H : Heap}
end
end Go.Proofs.Ytckpocjeikkblaa.St

namespace Go.Proofs.Ytckpocjeikkblaa.St
open Go Go.Abs Go.Mth
set_option linter.unusedVariables false
set_option linter.unusedSimpArgs false
attribute [local irreducible] gOK WS WC WR WD Ends FS YS OpV seqK blockK loopK midK retK rdK asgK rangeEnd sat Cell

/-- How often two are next to one another, in some orders. -/
def adjS (N : Nat) (a c : Nat) : List (List Nat) → Nat
  | [] => 0
  | z :: zs => adj z a c (N - 1) + adjS N a c zs
/-- Those that are always next to one another. -/
def besideL (n : Int) (fs : List (List Int)) : List (Int × Int) :=
  if findsE n fs = 0 then (if fitL n.toNat fs = [] then [] else prows (fun a c => decide (adjS n.toNat a c (fitL n.toNat fs) = (fitL n.toNat fs).length)) n.toNat n.toNat) else []
theorem at6 {M : HL} {H : Heap} {a b c d e f : Nat × Ch} {n : Nat} (h : hasH (a :: b :: c :: d :: e :: f :: M) n H) : f ∈ a :: b :: c :: d :: e :: f :: M :=
  .tail _ (.tail _ (.tail _ (.tail _ (.tail _ (.head _)))))
section
variable {M : HL} {n0 : Nat} {H : Heap} {v w : Value} {fs : List (List Int)} {o : List Int}
end
end Go.Proofs.Ytckpocjeikkblaa.St

namespace Go.Proofs.Ytckpocjeikkblaa.St
open Go Go.Abs Go.Mth
set_option linter.unusedVariables false
set_option linter.unusedSimpArgs false

/-- All orders that begin so, one place after another. -/
def allR (N : Nat) : Nat → List Nat → List (List Nat)
  | 0, bg => [bg]
  | k + 1, bg => (List.range N).flatMap fun x => if x ∈ bg then [] else allR N k (bg ++ [x])

theorem splits_map : ∀ r : List Nat, (splits r).map (fun s => s.2.1) = r
  | [] => rfl
  | x :: r => by
    rw [splits, List.map_cons, List.map_map]
    have := splits_map r
    congr 1
theorem flatMap_if {α : Type} (p : Nat → Bool) (f : Nat → List α) : ∀ l : List Nat, l.flatMap (fun x => if p x then f x else []) = (l.filter p).flatMap f
  | [] => rfl
  | x :: l => by
    rw [List.flatMap_cons, flatMap_if p f l, List.filter_cons]
    split <;> simp
theorem allR_eq {N : Nat} : ∀ (k : Nat) (bg r : List Nat), r = (List.range N).filter (fun x => decide (x ∉ bg)) → r.length = k → allR N k bg = (permsL k r).map (bg ++ ·)
  | 0, bg, r, _, _ => by simp [allR, permsL]
  | k + 1, bg, r, hr, hl => by
    have hnd : r.Nodup := by rw [hr]; exact List.nodup_range.filter _
    have h1 : allR N (k + 1) bg = r.flatMap fun x => allR N k (bg ++ [x]) := by
      rw [allR, hr, ← flatMap_if]
      congr 1
      funext x
      by_cases h : x ∈ bg <;> simp [h]
    rw [h1]
    conv => lhs; rw [← splits_map r, List.flatMap_map]
    rw [permsL, List.map_flatMap]
    have key : ∀ s ∈ splits r, allR N k (bg ++ [s.2.1]) = (permsL k (s.1 ++ s.2.2)).map fun t => bg ++ s.2.1 :: t := fun s hs => by
      have hm := splits_mem hs
      have hlen := congrArg List.length hm
      have hnd2 := hnd
      rw [← hm] at hnd2
      have hx := List.nodup_append.1 hnd2
      have hne1 : ∀ y ∈ s.1, y ≠ s.2.1 := fun y hy => hx.2.2 y hy s.2.1 (.head _)
      have hne2 : ∀ y ∈ s.2.2, y ≠ s.2.1 := fun y hy h => (List.nodup_cons.1 hx.2.1).1 (h ▸ hy)
      have e1 : s.1 ++ s.2.2 = (List.range N).filter (fun x => decide (x ∉ bg ++ [s.2.1])) := by
        have e2 : (List.range N).filter (fun x => decide (x ∉ bg ++ [s.2.1])) = r.filter (fun x => decide (x ≠ s.2.1)) := by
          rw [hr, List.filter_filter]
          congr 1
          funext x
          simp [and_comm]
        rw [e2, ← hm, List.filter_append, List.filter_cons, if_neg (by simp)]
        rw [List.filter_eq_self.2 (fun y hy => by simpa using hne1 y hy), List.filter_eq_self.2 (fun y hy => by simpa using hne2 y hy)]
      rw [allR_eq k _ _ e1 (by simp at hlen ⊢; omega)]
      simp
    have hfin : ∀ l : List (List Nat × Nat × List Nat), (∀ s ∈ l, s ∈ splits r) → l.flatMap (fun s => allR N k (bg ++ [s.2.1])) = l.flatMap fun s => ((permsL k (s.1 ++ s.2.2)).map (s.2.1 :: ·)).map (bg ++ ·) := by
      intro l
      induction l with
      | nil => exact fun _ => rfl
      | cons s l ih =>
        intro h
        rw [List.flatMap_cons, List.flatMap_cons, ih fun s hs => h s (.tail _ hs), key s (h s (.head _)), List.map_map]
        rfl
    exact hfin _ fun s hs => hs

theorem allR_all (N : Nat) : allR N N [] = permsL N (List.range N) := by
  rw [allR_eq N [] (List.range N) (List.filter_eq_self.2 fun _ _ => by simp).symm (by simp)]
  simp

def factN : Nat → Nat
  | 0 => 1
  | k + 1 => (k + 1) * factN k
theorem perms_fact : ∀ (k : Nat) (r : List Nat), r.length = k → (permsL k r).length ≤ factN k
  | 0, _, _ => by simp [permsL, factN]
  | k + 1, r, hr => by
    have h := len_flatMap_le (fun s : List Nat × Nat × List Nat => (permsL k (s.1 ++ s.2.2)).map (s.2.1 :: ·)) (factN k) (splits r) fun s hs => by
      have := congrArg List.length (splits_mem hs)
      simp at this
      rw [List.length_map]
      exact perms_fact k _ (by simp; omega)
    rw [splits_len, hr] at h
    rw [permsL, factN]; exact h
theorem factN_le : ∀ {N : Nat}, N ≤ 7 → factN N ≤ 5040
  | 0, _ | 1, _ | 2, _ | 3, _ | 4, _ | 5, _ | 6, _ | 7, _ => by decide
  | N + 8, h => by omega
end Go.Proofs.Ytckpocjeikkblaa.St

namespace Go.Proofs.Ytckpocjeikkblaa.St
open Go Go.Abs Go.Mth
set_option linter.unusedVariables false
set_option linter.unusedSimpArgs false

section
variable {nt : Nat} {L : Env} {D : List Nat} {H : Heap} {K : St → Prop} {M : HL} {n : Nat}
end

theorem filt_len {N k x : Nat} {bg : List Nat} (h : ((List.range N).filter (fun y => decide (y ∉ bg))).length = k + 1) (hx : x < N) (hb : x ∉ bg) : ((List.range N).filter (fun y => decide (y ∉ bg ++ [x]))).length = k := by
  have hnd : ((List.range N).filter (fun y => decide (y ∉ bg))).Nodup := List.nodup_range.filter _
  have hm : x ∈ (List.range N).filter (fun y => decide (y ∉ bg)) := List.mem_filter.2 ⟨List.mem_range.2 hx, by simpa using hb⟩
  have e2 : (List.range N).filter (fun y => decide (y ∉ bg ++ [x])) = ((List.range N).filter (fun y => decide (y ∉ bg))).erase x := by
    rw [hnd.erase_eq_filter, List.filter_filter]
    congr 1
    funext y
    simp [and_comm, bne]
    rcases Classical.em (y = x) with h | h <;> simp [h]
  rw [e2, List.length_erase_of_mem hm, h]; rfl
attribute [local irreducible] gOK WS WC WR WD Ends FS YS OpV seqK blockK loopK midK retK rdK asgK rangeEnd sat Cell
structure AV where
  x : Nat
  v : Value
  vs : List Value
  Mx : HL
  My : HL
  n : Nat

section
variable {M : HL} {n0 : Nat} {H : Heap}
end
end Go.Proofs.Ytckpocjeikkblaa.St

namespace Go.Proofs.Ytckpocjeikkblaa.St
open Go Go.Abs Go.Mth
set_option linter.unusedVariables false
set_option linter.unusedSimpArgs false
attribute [local irreducible] gOK WS WC WR WD Ends FS YS OpV seqK blockK loopK midK retK rdK asgK rangeEnd sat Cell

/-- An order fits, in the reference's words. -/
noncomputable def fitR (fs : List (List Int)) (z : List Nat) : Bool := by classical exact decide (∀ i, i < fs.length → RN (bitF (fs.getD i []) (castI z)) (castI z).length = 1)
section
variable {M : HL} {n0 : Nat} {H : Heap} {v w : Value} {fs : List (List Int)}
end
end Go.Proofs.Ytckpocjeikkblaa.St

namespace Go.Proofs.Ytckpocjeikkblaa.St
open Go Go.Abs Go.Mth
set_option linter.unusedVariables false
set_option linter.unusedSimpArgs false

theorem both_perm {n : Int} {N : Nat} {fs : List (List Int)} {z : List Nat} (hf0 : findsE n fs = 0) (hn : n = N) (h : z ∈ permsL N (List.range N)) : bothE n fs (castI z) = 0 := by
  subst hn
  have hp := (mem_perms N _ (by simp)).1 h
  have hl : z.length = N := by rw [hp.length_eq]; simp
  have hnd : z.Nodup := hp.nodup_iff.2 List.nodup_range
  rw [bothE, if_neg (by rw [hf0]; simp), if_neg (by rw [castI_len, hl]; simp)]
  refine firstE_zero.2 fun i hi => ?_
  rw [castI_len] at hi
  have hg : (castI z).getD i 0 = (z[i] : Int) := by
    rw [getD_eq (by rw [castI_len]; exact hi)]; simp [castI]
  have hlt : z[i] < N := List.mem_range.1 (hp.mem_iff.1 (List.getElem_mem hi))
  unfold orderAt
  rw [hg, if_neg (by omega), if_neg]
  intro hm
  have hm2 : (z[i] : Int) ∈ castI (z.take i) := by simpa [castI, List.map_take] using hm
  obtain ⟨y, hy, he⟩ := List.mem_map.1 hm2
  have hyz : z[i] ∈ z.take i := by rw [← Int.ofNat.inj he]; exact hy
  obtain ⟨j, hj, hje⟩ := List.mem_iff_getElem.1 hyz
  rw [List.length_take] at hj
  rw [List.getElem_take] at hje
  have := (List.getElem_inj hnd).1 hje
  omega
attribute [local irreducible] gOK WS WC WR WD Ends FS YS OpV seqK blockK loopK midK retK rdK asgK rangeEnd sat Cell

section
variable {M : HL} {n0 : Nat} {H : Heap} {v w : Value} {fs : List (List Int)}
end
end Go.Proofs.Ytckpocjeikkblaa.St

namespace Go.Proofs.Ytckpocjeikkblaa.St
open Go Go.Abs Go.Mth
set_option linter.unusedVariables false
set_option linter.unusedSimpArgs false
attribute [local irreducible] gOK WS WC WR WD Ends FS YS OpV seqK blockK loopK midK retK rdK asgK rangeEnd sat Cell

abbrev bytesV (us : List Int) : List Value := us.map (Value.int .u8)
theorem bytes_get {us : List Int} {k : Nat} (h : k < us.length) : (bytesV us)[k]? = some (.int .u8 (us.getD k 0)) := by
  rw [List.getElem?_map, List.getElem?_eq_getElem h, getD_eq h]; rfl
theorem bytes_one (us : List Int) : (bytesV us).all one = true := by
  rw [List.all_eq_true]; intro q hq; obtain ⟨z, _, rfl⟩ := List.mem_map.1 hq; rfl
theorem ints_one (us : List Int) : (ints us).all one = true := by
  rw [List.all_eq_true]; intro q hq; obtain ⟨z, _, rfl⟩ := List.mem_map.1 hq; rfl

/-- The numbers below one. -/
def upTo (n : Nat) : List Int := (List.range n).map fun (x : Nat) => (x : Int)
structure PV where
  k : Nat
  cp : Nat
  R : Nat
  ys : List Int
  v : Value
  Mx : HL
  n : Nat
  o : List Int

structure OV where
  k : Nat
  v : Value
  Mx : HL
  n : Nat

section
variable {M : HL} {n0 : Nat} {H : Heap}
end
end Go.Proofs.Ytckpocjeikkblaa.St

namespace Go.Proofs.Ytckpocjeikkblaa.St
open Go Go.Abs Go.Mth
set_option linter.unusedVariables false
set_option linter.unusedSimpArgs false
attribute [local irreducible] gOK WS WC WR WD Ends FS YS OpV seqK blockK loopK midK retK rdK asgK rangeEnd sat Cell

def trays (a b : Int) (hs : List Int) : List Value := .int .u8 a :: .int .u8 b :: bytesV hs
theorem trays_one (a b : Int) (hs : List Int) : (trays a b hs).all one = true := by
  have := bytes_one hs
  simp only [trays, List.all_cons, this, Bool.and_true]; rfl
def bitsOf (n x : Nat) : List Int := ((List.range n).filter fun i => x.testBit i).map fun (i : Nat) => (i : Int)
def formB (n x : Nat) : List Int := if bitsOf n x = [] then [0] else bitsOf n x
theorem bitsOf_succ (n x : Nat) : bitsOf (n + 1) x = bitsOf n x ++ if x.testBit n = true then [(n : Int)] else [] := by
  unfold bitsOf
  rw [List.range_succ, List.filter_append, List.map_append]
  congr 1
  cases h : x.testBit n <;> simp [h]
theorem bitsOf_len (n x : Nat) : (bitsOf n x).length ≤ n := by
  unfold bitsOf
  rw [List.length_map]
  exact Nat.le_trans (List.length_filter_le _ _) (by simp)
def traysF (n m : Nat) (hs : List Int) : List (List Int) := (hs.take m).map fun x => formB n x.toNat

structure TV where
  k : Nat
  v : Value
  vs : List Value
  Mo : HL
  Mi : HL
  n : Nat

section
variable {M : HL} {n0 : Nat} {H : Heap}

theorem list_fs (v : Value) (H : Heap) : FS C 43 [v] H (fun e H' => e = v ∧ H' = H) := by
  refine FS.intro (pf := pf43) rfl rfl rfl ?_
  repeat' (first | refine zP ?_ | refine zA ?_ | (refine zM ?_; intro _ _) | refine zX ?_ | (refine zC ?_; intro _ _ _ _) | (refine zS ?_; intro _ _) | (apply Ws <;> intro hg))
  exact Ends.ret1 rfl ⟨rfl, rfl⟩

set_option maxHeartbeats 1000000 in
theorem made_fs (hH : hasH M n0 H) {a b : Int} {hs : List Int} (ha : 0 ≤ a ∧ a ≤ 255) (hb : 0 ≤ b ∧ b ≤ 255) (hl : hs.length = 10) (hu : ∀ x ∈ hs, 0 ≤ x ∧ x ≤ 255) {ly fm : Nat} (hly : 1 ≤ ly ∧ ly ≤ 7) (hfm : fm ≤ 10) :
    FS C 38 [.agg (trays a b hs).toArray, .int .i64 (ly : Int), .int .i64 (fm : Int)] H (fun e H' => ∃ v Mx n', e = .agg #[.int .i64 ((1 + a.toNat % ly : Nat) : Int), v] ∧ n0 ≤ n' ∧ RowsI (Mx ++ M) v (traysF (1 + a.toNat % ly) (b.toNat % (fm + 1)) hs) ∧ hasH (Mx ++ M) n' H' ∧ (traysF (1 + a.toNat % ly) (b.toNat % (fm + 1)) hs = [] → v = .slice none 0 0)) := by
  have hone := trays_one a b hs
  refine FS.intro (pf := pf38) rfl rfl rfl ?_
  repeat' (first | refine zP ?_ | refine zA ?_ | (refine zM ?_; intro _ _) | refine zX ?_ | (refine zC ?_; intro _ _ _ _) | (refine zS ?_; intro _ _))
  rename_i H1 hH1
  refine WR.op (by first | exact gN | exact gS rfl) rfl (OpV.conv u8k i64k rfl (c := a) (IntWalk.i64_in _ (by omega))) ?_
  obtain ⟨an, rfl⟩ : ∃ an : Nat, a = an := ⟨a.toNat, by omega⟩
  obtain ⟨bn, rfl⟩ : ∃ bn : Nat, b = bn := ⟨b.toNat, by omega⟩
  rw [Int.toNat_natCast, Int.toNat_natCast]
  have hmod := Nat.mod_lt an (show 0 < ly by omega)
  have hmodb := Nat.mod_lt bn (show 0 < fm + 1 by omega)
  repeat' (first | refine zP ?_ | refine zA ?_ | (refine zM ?_; intro _ _) | refine zX ?_ | (refine zC ?_; intro _ _ _ _) | (refine zS ?_; intro _ _) | (apply Ws <;> intro hg))
  rw [show (an : Int) % (ly : Int) = ((an % ly : Nat) : Int) by simp]
  obtain ⟨r, hr⟩ : ∃ r, an % ly = r := ⟨_, rfl⟩
  rw [hr] at hmod ⊢
  repeat' (first | refine zP ?_ | refine zA ?_ | (refine zM ?_; intro _ _) | refine zX ?_ | (refine zC ?_; intro _ _ _ _) | (refine zS ?_; intro _ _) | (apply Ws <;> intro hg))
  rw [show (1 : Int) + (r : Int) = ((1 + r : Nat) : Int) by omega]
  obtain ⟨nl, hnl⟩ : ∃ nl, 1 + r = nl := ⟨_, rfl⟩
  have hnl7 : 1 ≤ nl ∧ nl ≤ 7 := by omega
  rw [hnl]
  refine WR.op (by first | exact gN | exact gS rfl) rfl (OpV.bldT (vs := [(0, .int .i64 (nl : Int))]) rfl (cs := #[.int .i64 (nl : Int), .slice none 0 0]) (by rfl)) ?_
  repeat' (first | refine zP ?_ | refine zA ?_ | (refine zM ?_; intro _ _) | refine zX ?_ | (refine zC ?_; intro _ _ _ _) | (refine zS ?_; intro _ _) | (apply Ws <;> intro hg))
  rename_i H2 hH2
  refine WR.storeAll (by first | exact gN | exact gS rfl) hH2 rfl rfl (ls := [.int .i64 (nl : Int), .slice none 0 0]) rfl rfl .here rfl rfl fun H3 hH3 => ?_
  clear hH2 hH1
  repeat' (first | refine zP ?_ | refine zA ?_ | (refine zM ?_; intro _ _) | refine zX ?_ | (refine zC ?_; intro _ _ _ _) | (refine zS ?_; intro _ _) | (apply Ws <;> intro hg))
  refine WR.op (by first | exact gN | exact gS rfl) rfl (OpV.conv u8k i64k rfl (c := (bn : Int)) (IntWalk.i64_in _ (by omega))) ?_
  repeat' (first | refine zP ?_ | refine zA ?_ | (refine zM ?_; intro _ _) | refine zX ?_ | (refine zC ?_; intro _ _ _ _) | (refine zS ?_; intro _ _) | (apply Ws <;> intro hg))
  rw [show (bn : Int) % ((fm : Int) + 1) = ((bn % (fm + 1) : Nat) : Int) by simp]
  obtain ⟨m, hm⟩ : ∃ m, bn % (fm + 1) = m := ⟨_, rfl⟩
  rw [hm] at hmodb ⊢
  refine WR.op (by first | exact gN | exact gS rfl) rfl (OpV.slAh rfl rfl (by omega) (by decide)) ?_
  repeat' (first | refine zP ?_ | refine zA ?_ | (refine zM ?_; intro _ _) | refine zX ?_ | (refine zC ?_; intro _ _ _ _) | (refine zS ?_; intro _ _) | (apply Ws <;> intro hg))
  refine WC.loopX [(3, _), (6, _), (7, _), (26, _), (27, _)] (fun s : TV => [(28, .int .i64 (s.k : Int))]) []
    (fun s H' => s.k ≤ m ∧ n0 + 3 ≤ s.n ∧ s.vs.length = s.k ∧ (Own 25 1 s.v s.vs s.Mo ∧ (s.k = 0 → s.v = .slice none 0 0)) ∧ hasH ((n0 + 1 + 1, .row 24 0 0 [.int .i64 (nl : Int), s.v]) :: (n0 + 1, .row 24 0 0 [.int .i64 0, .slice none 0 0]) :: (n0, .row 60 0 0 (trays an bn hs)) :: (s.Mo ++ (s.Mi ++ M))) s.n H' ∧
      ∀ i, i < s.k → Sl (s.Mi ++ M) 1 (s.vs.getD i undef) (ints (formB nl (hs.getD i 0).toNat))) (fun s => m - s.k) ⟨0, .slice none 0 0, [], [], [], n0 + 1 + 1 + 1⟩ (by repeat' (first | exact .nil | refine .cons rfl ?_)) rfl ⟨Nat.zero_le _, by simp only; omega, rfl, ⟨.nil, fun _ => rfl⟩, hH3, fun i hi => absurd hi (Nat.not_lt_zero _)⟩ ?_
  clear hH3
  rintro ⟨k, vf, vs, Mo, Mi, n1⟩ H4 ⟨hk, hn1, hvl, ⟨hOo, hz0⟩, hH4, hvs⟩
  simp only at hk hn1 hvl hOo hz0 hH4 hvs
  dsimp only [List.cons_append, List.nil_append]
  repeat' (first | refine zP ?_ | refine zA ?_ | (refine zM ?_; intro _ _) | refine zX ?_ | (refine zC ?_; intro _ _ _ _) | (refine zS ?_; intro _ _) | (apply Ws <;> intro hg))
  refine WC.condP rfl (fun hlt => ?_) (fun hlt => ?_)
  · have hk' : k < m := by omega
    have hkl : k < hs.length := by omega
    have hx0 := hu _ (getD_mem (a := 0) hkl)
    obtain ⟨x, hx⟩ : ∃ x : Nat, hs.getD k 0 = x := ⟨(hs.getD k 0).toNat, by omega⟩
    repeat' (first | refine zP ?_ | refine zA ?_ | (refine zM ?_; intro _ _) | refine zX ?_ | (refine zC ?_; intro _ _ _ _) | (refine zS ?_; intro _ _) | (apply Ws <;> intro hg))
    refine WR.op (by first | exact gN | exact gS rfl) rfl (OpV.load1 (v := .int .u8 (hs.getD k 0)) rfl hH4 (.tail _ (.tail _ (.head _))) (.row _ _ _ _) (Nat.zero_le _) (by rw [show 2 + k - 0 = k + 1 + 1 by omega]; simp only [trays, List.getElem?_cons_succ]; exact bytes_get hkl)) ?_
    rw [hx]
    repeat' (first | refine zP ?_ | refine zA ?_ | (refine zM ?_; intro _ _) | refine zX ?_ | (refine zC ?_; intro _ _ _ _) | (refine zS ?_; intro _ _) | (apply Ws <;> intro hg))
    refine WC.loopX [(3, _), (6, _), (7, _), (9, _), (26, _), (27, _), (28, _), (33, _)] (fun s : OV => [(10, s.v), (34, .int .i64 (s.k : Int))]) []
      (fun s H' => s.k ≤ nl ∧ n0 + 3 ≤ s.n ∧ hasH ((n0 + 1 + 1, .row 24 0 0 [.int .i64 (nl : Int), vf]) :: (n0 + 1, .row 24 0 0 [.int .i64 0, .slice none 0 0]) :: (n0, .row 60 0 0 (trays an bn hs)) :: (s.Mx ++ (Mo ++ (Mi ++ M)))) s.n H' ∧ ((bitsOf s.k x = [] ∧ s.v = .slice none 0 0 ∧ s.Mx = []) ∨ (bitsOf s.k x ≠ [] ∧ OwnR 3 1 s.v (ints (bitsOf s.k x)) s.Mx))) (fun s => nl - s.k) ⟨0, .slice none 0 0, [], n1⟩ (by repeat' (first | exact .nil | refine .cons rfl ?_)) rfl ⟨Nat.zero_le _, hn1, hH4, .inl ⟨rfl, rfl, rfl⟩⟩ ?_
    clear hH4 hn1
    rintro ⟨i, v, Mx, n2⟩ H5 ⟨hi, hn2, hH5, hO⟩
    simp only at hi hn2 hH5 hO
    have hOwn : Own 3 1 v (ints (bitsOf i x)) Mx := by
      rcases hO with ⟨h1, rfl, rfl⟩ | ⟨_, h⟩
      · rw [h1]; exact .nil
      · exact h.own
    dsimp only [List.cons_append, List.nil_append]
    repeat' (first | refine zP ?_ | refine zA ?_ | (refine zM ?_; intro _ _) | refine zX ?_ | (refine zC ?_; intro _ _ _ _) | (refine zS ?_; intro _ _) | (apply Ws <;> intro hg))
    refine WC.condP rfl (fun hlt2 => ?_) (fun hlt2 => ?_)
    · have hi' : i < nl := by omega
      have hsh : x >>> i < 256 := Nat.lt_of_le_of_lt (Nat.shiftRight_le x i) (by omega)
      repeat' (first | refine zP ?_ | refine zA ?_ | (refine zM ?_; intro _ _) | refine zX ?_ | (refine zC ?_; intro _ _ _ _) | (refine zS ?_; intro _ _) | (apply Ws <;> intro hg))
      refine WR.op (by first | exact gN | exact gS rfl) rfl (OpV.shrN rfl rfl (by show i ≤ 8; omega)) ?_
      refine WR.op (by first | exact gN | exact gS rfl) rfl (OpV.andN (b := 1) rfl rfl hsh (by decide)) ?_
      repeat' (first | refine zP ?_ | refine zA ?_ | (refine zM ?_; intro _ _) | refine zX ?_ | (refine zC ?_; intro _ _ _ _) | (refine zS ?_; intro _ _) | (apply Ws <;> intro hg))
      refine WC.condP rfl (fun hbit => ?_) (fun hbit => ?_)
      · have hb : x.testBit i = true := shr_and_one.1 hbit
        repeat' (first | refine zP ?_ | refine zA ?_ | (refine zM ?_; intro _ _) | refine zX ?_ | (refine zC ?_; intro _ _ _ _) | (refine zS ?_; intro _ _) | (apply Ws <;> intro hg))
        refine WR.append1RF [(n0 + 1 + 1, .row 24 0 0 [.int .i64 (nl : Int), vf]), (n0 + 1, .row 24 0 0 [.int .i64 0, .slice none 0 0]), (n0, .row 60 0 0 (trays an bn hs))] Mx _ rfl rfl rfl rfl hOwn hH5 (new := [.int .i64 (i : Int)]) (by rfl) rfl rfl (Nat.le_refl _) (by omega) (by have := bitsOf_len i x; simp; omega) fun v3 M3 n3 H6 hO3 hH6 hn3 => ?_
        repeat' (first | refine zP ?_ | refine zA ?_ | (refine zM ?_; intro _ _) | refine zX ?_ | (refine zC ?_; intro _ _ _ _) | (refine zS ?_; intro _ _) | (apply Ws <;> intro hg))
        refine Ends.loop ⟨i + 1, v3, M3, n3⟩ (by simp only; omega) (by repeat' (first | exact .nil | refine .cons rfl ?_)) rfl ⟨hi', by simp only; omega, hH6, .inr ⟨?_, ?_⟩⟩
        · simp only; rw [bitsOf_succ, if_pos hb]; simp
        · simp only; rw [bitsOf_succ, if_pos hb]; simpa using hO3
      · have hb : ¬ x.testBit i = true := fun h => hbit (shr_and_one.2 h)
        repeat' (first | refine zP ?_ | refine zA ?_ | (refine zM ?_; intro _ _) | refine zX ?_ | (refine zC ?_; intro _ _ _ _) | (refine zS ?_; intro _ _) | (apply Ws <;> intro hg))
        refine Ends.loop ⟨i + 1, v, Mx, n2⟩ (by simp only; omega) (by repeat' (first | exact .nil | refine .cons rfl ?_)) rfl ⟨hi', hn2, hH5, ?_⟩
        simp only
        rw [bitsOf_succ, if_neg hb, List.append_nil]
        exact hO
    have hin : nl = i := by omega
    subst hin
    clear hlt2 hi hOwn
    obtain ⟨a0, k0, c0, rfl, ha0⟩ : ∃ a0 k0 c0, v = .slice a0 k0 c0 ∧ (a0.isNone != false) = decide (bitsOf nl x = []) := by
      rcases hO with ⟨h1, rfl, _⟩ | ⟨h1, h2⟩
      · exact ⟨none, 0, 0, rfl, by rw [decide_eq_true h1]; rfl⟩
      · cases h2 with
        | mk h3 => exact ⟨_, _, _, rfl, by rw [decide_eq_false h1]; rfl⟩
    repeat' (first | refine zP ?_ | refine zA ?_ | (refine zM ?_; intro _ _) | refine zX ?_ | (refine zC ?_; intro _ _ _ _) | (refine zS ?_; intro _ _) | (apply Ws <;> intro hg))
    rw [ha0]
    refine WC.joinX [(3, _), (6, _), (7, _), (26, _), (27, _), (28, _)] (by repeat' (first | exact .nil | refine .cons rfl ?_)) (fun s : OV => [(10, s.v)])
      (fun s H' => n0 + 3 ≤ s.n ∧ Sl (s.Mx ++ M) 1 s.v (ints (formB nl x)) ∧ hasH ((n0 + 1 + 1, .row 24 0 0 [.int .i64 (nl : Int), vf]) :: (n0 + 1, .row 24 0 0 [.int .i64 0, .slice none 0 0]) :: (n0, .row 60 0 0 (trays an bn hs)) :: (s.Mx ++ (Mo ++ (Mi ++ M)))) s.n H') ?_ ?_
    · refine WC.condP rfl (fun he => ?_) (fun he => ?_)
      · rcases hO with ⟨_, hv0, rfl⟩ | ⟨h1, _⟩
        · repeat' (first | refine zP ?_ | refine zA ?_ | (refine zM ?_; intro _ _) | refine zX ?_ | (refine zC ?_; intro _ _ _ _) | (refine zS ?_; intro _ _) | (apply Ws <;> intro hg))
          refine WR.bldS (by first | exact gN | exact gS rfl) rfl hH5 (vs := [(0, .int .i64 0)]) rfl (cs := [.int .i64 0]) (by rfl) rfl fun H6 hH6 => ?_
          refine WR.call (by first | exact gN | exact gS rfl) rfl rfl (list_fs _ _) ?_
          rintro _ _ ⟨rfl, rfl⟩
          repeat' (first | refine zP ?_ | refine zA ?_ | (refine zM ?_; intro _ _) | refine zX ?_ | (refine zC ?_; intro _ _ _ _) | (refine zS ?_; intro _ _) | (apply Ws <;> intro hg))
          refine Ends.midX ⟨0, _, [(n2, .row 3 0 0 [.int .i64 0])], n2 + 1⟩ (by repeat' (first | exact .nil | refine .cons rfl ?_)) ⟨by simp only; omega, ?_, ?_⟩
          · rw [formB, if_pos he]
            exact .row (lo := 0) (cs := ints [0]) (.head _) (.row _ _ _ _) (Nat.zero_le _) rfl rfl (by simp) (.inr ⟨1, rfl, by omega⟩)
          · exact hH6.perm (List.perm_middle (l₁ := [(n0 + 1 + 1, Ch.row 24 0 0 [.int .i64 (nl : Int), vf]), (n0 + 1, Ch.row 24 0 0 [.int .i64 0, .slice none 0 0]), (n0, Ch.row 60 0 0 (trays an bn hs))])).symm
        · exact absurd he h1
      · rcases hO with ⟨h1, _⟩ | ⟨_, h2⟩
        · exact absurd h1 he
        · repeat' (first | refine zP ?_ | refine zA ?_ | (refine zM ?_; intro _ _) | refine zX ?_ | (refine zC ?_; intro _ _ _ _) | (refine zS ?_; intro _ _) | (apply Ws <;> intro hg))
          refine Ends.midX ⟨0, _, Mx, n2⟩ (by repeat' (first | exact .nil | refine .cons rfl ?_)) ⟨hn2, ?_, hH5⟩
          rw [formB, if_neg he]
          exact h2.own.sl M
    clear hO hH5 ha0 hn2
    rintro ⟨_, v9, M9, n9⟩ H9 ⟨hn9, hS9, hH9⟩
    simp only at hn9 hS9 hH9
    obtain ⟨a9, c9, rfl⟩ := hS9.len
    have hone9 := hS9.one_
    have hH10 : hasH ([(n0 + 1 + 1, .row 24 0 0 [.int .i64 (nl : Int), vf]), (n0 + 1, .row 24 0 0 [.int .i64 0, .slice none 0 0]), (n0, .row 60 0 0 (trays an bn hs))] ++ (Mo ++ ((M9 ++ Mi) ++ M))) n9 H9 := by
      refine hH9.perm (List.Perm.append_left [(n0 + 1 + 1, Ch.row 24 0 0 [.int .i64 (nl : Int), vf]), (n0 + 1, Ch.row 24 0 0 [.int .i64 0, .slice none 0 0]), (n0, Ch.row 60 0 0 (trays an bn hs))] ?_)
      rw [List.append_assoc]
      exact List.perm_append_comm_assoc M9 Mo (Mi ++ M)
    dsimp only [List.cons_append, List.nil_append]
    repeat' (first | refine zP ?_ | refine zA ?_ | (refine zM ?_; intro _ _) | refine zX ?_ | (refine zC ?_; intro _ _ _ _) | (refine zS ?_; intro _ _) | (apply Ws <;> intro hg))
    refine WR.append1F [(n0 + 1 + 1, .row 24 0 0 [.int .i64 (nl : Int), vf]), (n0 + 1, .row 24 0 0 [.int .i64 0, .slice none 0 0]), (n0, .row 60 0 0 (trays an bn hs))] Mo _ rfl rfl rfl rfl hOo hH10 (new := [_]) (by rfl) rfl rfl (Nat.le_refl _) (by omega) (by simp [hvl]; omega) fun v10 M10 n10 H10 hO10 hH11 hn10 => ?_
    have hone10 := (hO10.sl M).one_
    repeat' (first | refine zP ?_ | refine zA ?_ | (refine zM ?_; intro _ _) | refine zX ?_ | (refine zC ?_; intro _ _ _ _) | (refine zS ?_; intro _ _) | (apply Ws <;> intro hg))
    refine WR.store1 (by first | exact gN | exact gS rfl) hH11 rfl rfl hone10 (cs' := [.int .i64 (nl : Int), v10]) .here (Nat.zero_le _) (by simp) rfl fun H12 hH12 => ?_
    repeat' (first | refine zP ?_ | refine zA ?_ | (refine zM ?_; intro _ _) | refine zX ?_ | (refine zC ?_; intro _ _ _ _) | (refine zS ?_; intro _ _) | (apply Ws <;> intro hg))
    refine Ends.loop ⟨k + 1, v10, vs ++ [_], M10, M9 ++ Mi, n10⟩ (by simp only; omega) (by repeat' (first | exact .nil | refine .cons rfl ?_)) rfl ⟨hk', by simp only; omega, by simp [hvl], ⟨hO10, fun h => absurd h (Nat.succ_ne_zero _)⟩, hH12, fun j hj => ?_⟩
    simp only at hj ⊢
    rcases Nat.lt_or_ge j k with h5 | h5
    · rw [getD_app_l (by omega), List.append_assoc]
      exact (hvs j h5).mono fun q hq => List.mem_append_right _ hq
    · have : j = k := by omega
      subst this
      rw [← hvl, getD_snoc, hvl, hx, Int.toNat_natCast]
      exact hS9.mono fun q hq => by
        rcases List.mem_append.1 hq with h | h
        · simp [h]
        · simp [h]
  have hkm : m = k := by omega
  subst hkm
  repeat' (first | refine zP ?_ | refine zA ?_ | (refine zM ?_; intro _ _) | refine zX ?_ | (refine zC ?_; intro _ _ _ _) | (refine zS ?_; intro _ _) | (apply Ws <;> intro hg))
  have hone1 := (hOo.sl M).one_
  refine WR.storeAll (by first | exact gN | exact gS rfl) hH4 rfl rfl (ls := [.int .i64 (nl : Int), vf]) rfl rfl (.there .here) (by (repeat' (first | exact all_nil | refine all_cons (by first | rfl | assumption) ?_))) rfl fun H5 hH5 => ?_
  repeat' (first | refine zP ?_ | refine zA ?_ | (refine zM ?_; intro _ _) | refine zX ?_ | (refine zC ?_; intro _ _ _ _) | (refine zS ?_; intro _ _) | (apply Ws <;> intro hg))
  refine Ends.retCN rfl (l := [.int .i64 (nl : Int), vf]) ?_ ⟨vf, Mo ++ Mi, n1, rfl, by omega, ⟨vs, ?_, ?_, ?_⟩, ?_, fun he => hz0 ?_⟩
  · have := hH5.readN (b := n0 + 1) (u := 0) (lo := 0) (o := 0) (k := 2) (.tail _ (.head _)) (.row _ _ _ _) (Nat.le_refl _) (by simp)
    simpa using this
  · exact (hOo.sl M).mono fun q hq => by
      rcases List.mem_append.1 hq with h | h
      · simp [h]
      · simp [h]
  · simp [traysF, hvl]; omega
  · intro i hi
    have hi' : i < m := by simpa [traysF] using (Nat.lt_of_lt_of_le hi (by simp [traysF]; omega) : i < m)
    have he : (traysF nl m hs).getD i [] = formB nl (hs.getD i 0).toNat := by
      rw [getD_eq (by simp [traysF]; omega), getD_eq (show i < hs.length by omega)]
      simp [traysF]
    rw [he]
    exact (hvs i hi').mono fun q hq => by
      rcases List.mem_append.1 hq with h | h
      · simp [h]
      · simp [h]
  · rw [List.append_assoc]
    exact hH5.sub (.cons _ (.cons _ (.cons _ (.refl _))))
  · have h := congrArg List.length he
    simp only [traysF, List.length_map, List.length_take, List.length_nil, hl] at h
    omega
end
end Go.Proofs.Ytckpocjeikkblaa.St

namespace Go.Proofs.Ytckpocjeikkblaa.St
open Go Go.Abs Go.Mth
set_option linter.unusedVariables false
set_option linter.unusedSimpArgs false
attribute [local irreducible] gOK WS WC WR WD Ends FS YS OpV seqK blockK loopK midK retK rdK asgK rangeEnd sat Cell

/-! What is right, is accepted. -/
theorem form_intro {n : Int} {l : List Int} (h1 : 1 ≤ l.length) (h2 : ∀ x ∈ l, 0 ≤ x ∧ x < n) (h3 : l.Pairwise (· < ·)) : formE n l = 0 := by
  rw [formE, if_neg (by omega), firstE_zero]
  intro i hi
  have h4 := h2 _ (getD_mem (a := 0) hi)
  rw [formAt, if_neg (by omega)]
  rw [if_neg]
  rintro ⟨h5, h6⟩
  have := List.pairwise_iff_getElem.1 h3 (i - 1) i (by omega) hi (by omega)
  rw [getD_eq hi, getD_eq (show i - 1 < l.length by omega)] at h6
  omega
theorem formB_ok {n x : Nat} (hn : 1 ≤ n) : formE n (formB n x) = 0 := by
  unfold formB
  split
  · exact form_intro (by simp) (fun y hy => by simp at hy; omega) (by simp)
  · rename_i h
    refine form_intro ?_ (fun y hy => ?_) ?_
    · have : bitsOf n x ≠ [] := h
      exact List.length_pos_iff.2 this
    · unfold bitsOf at hy
      obtain ⟨i, hi, rfl⟩ := List.mem_map.1 hy
      have := List.mem_range.1 (List.mem_filter.1 hi).1
      omega
    · unfold bitsOf
      refine List.pairwise_map.2 ((List.Pairwise.filter _ List.pairwise_lt_range).imp fun h => ?_)
      omega
theorem trays_ok {n m : Nat} {hs : List Int} (hn : 1 ≤ n ∧ n ≤ 7) (hm : m ≤ 10) : findsE n (traysF n m hs) = 0 := by
  rw [findsE, if_neg (by omega), if_neg (by simp [traysF]; omega), firstE_zero]
  intro i hi
  have : (traysF n m hs).getD i [] ∈ traysF n m hs := getD_mem hi
  obtain ⟨x, _, hx⟩ := List.mem_map.1 this
  rw [← hx]; exact formB_ok hn.1

section
variable {n : Int} {fs : List (List Int)} {o : List Int}
end
end Go.Proofs.Ytckpocjeikkblaa.St

namespace Go.Proofs.Ytckpocjeikkblaa.St
open Go Go.Abs Go.Mth
set_option linter.unusedVariables false
set_option linter.unusedSimpArgs false
attribute [local irreducible] gOK WS WC WR WD Ends FS YS OpV seqK blockK loopK midK retK rdK asgK rangeEnd sat Cell
end Go.Proofs.Ytckpocjeikkblaa.St

namespace Go.Proofs.Ytckpocjeikkblaa.St
open Go Go.Abs Go.Mth
set_option linter.unusedVariables false
set_option linter.unusedSimpArgs false

theorem finds_intro {n : Int} {fs : List (List Int)} (h1 : 1 ≤ n ∧ n ≤ 7) (h2 : fs.length ≤ 10) (h3 : ∀ l ∈ fs, formE n l = 0) : findsE n fs = 0 := by
  rw [findsE, if_neg (by omega), if_neg (by omega), firstE_zero]
  intro i hi
  exact h3 _ (getD_mem hi)
/-! How many orders there are. -/
theorem flat_len {α β : Type} (f : α → List β) (c : Nat) : ∀ l : List α, (∀ x ∈ l, (f x).length = c) → (l.flatMap f).length = l.length * c
  | [], _ => by simp
  | a :: l, h => by
    rw [List.flatMap_cons, List.length_append, flat_len f c l fun x hx => h x (.tail _ hx), h a (.head _), List.length_cons, Nat.add_mul]; omega
theorem perms_num : ∀ (k : Nat) (r : List Nat), r.length = k → (permsL k r).length = factN k
  | 0, _, _ => by simp [permsL, factN]
  | k + 1, r, hr => by
    rw [permsL, flat_len _ (factN k), splits_len, hr, factN]
    intro s hs
    have := congrArg List.length (splits_mem hs)
    simp at this
    rw [List.length_map]
    exact perms_num k _ (by simp; omega)
end Go.Proofs.Ytckpocjeikkblaa.St

namespace Go.Proofs.Ytckpocjeikkblaa.St
open Go Go.Abs Go.Mth
set_option linter.unusedVariables false
set_option linter.unusedSimpArgs false

section
variable {nt : Nat} {L : Env} {D : List Nat} {H H' : Heap} {K : St → Prop} {M M' : HL} {n i d : Nat} {gd : Option (Tmp × Bool)} {lo : List Nat} {l : List POp} {rs : List Rd}
theorem WD.bldS {e sz k : Nat} {z : List Value} {ps : List (Nat × Operand)} {vs : List (Nat × Value)} {cs : List Value} (hg : gOK L gd) (hd : Nat.blt d nt = true) (hH : hasH M n H) (hp : evp L ps = some vs)
    (hc : Instr.fill (fun j => some (j * sz, sz)) z.toArray vs = some cs.toArray) (hz : cs.all one = true)
    (hs : ∀ H', hasH ((n, .row e 0 0 cs) :: M) (n + 1) H' → stands H' lo rs = true)
    (kk : ∀ H', hasH ((n, .row e 0 0 cs) :: M) (n + 1) H' → WD C nt l rs ((d, .slice (some ⟨n, 0, some 0⟩) k (2 * k + 1)) :: L) D H' K) : WD C nt (⟨i, some d, .bldS e sz z k ps, gd, lo⟩ :: l) rs L D H K := by
  have h2 := hH.row e hz
  refine WD.op hg hd (H' := H.row e cs) (v := .slice (some ⟨n, 0, some 0⟩) k (2 * k + 1)) (fun t ht => ?_) rfl (hs _ h2) (kk _ h2)
  simp only [opA, evp_ok ht hp, hc, oBldS, newAddr, hH.next]
theorem WD.append {e sz : Nat} {s x : Operand} {v y : Value} {cs : List Value} {Mx M0 : HL} {k : Nat} {new : List Value} (hg : gOK L gd) (hd : Nat.blt d nt = true) (hs : ev L s = some v) (hy : ev L x = some y)
    (hO : Own e sz v cs Mx) (hH : hasH M n H) (hM : M'.Sublist M) (hp : M'.Perm (Mx ++ M0)) (hk : srcLen y = some k) (hx : srcCells H sz k y = some new) (hl : new.length = k * sz) (h1 : 1 ≤ k) (hone : new.all one = true) (hs1 : 1 ≤ sz) (hs2 : sz ≤ 1000)
    (hsm : cs.length + new.length ≤ 100000) (kk : ∀ v' Mx' n' H', Own e sz v' (cs ++ new) Mx' → hasH (Mx' ++ M0) n' H' → n ≤ n' → stands H' lo rs = true ∧ WD C nt l rs ((d, v') :: L) D H' K) :
    WD C nt (⟨i, some d, .append e sz s x, gd, lo⟩ :: l) rs L D H K := by
  obtain ⟨v', Mx', n', H', q1, q2, q3, q4⟩ := append_own (P := C.c.P) hO ((hH.sub hM).perm hp) hk hx hl h1 hone hs1 hs2 hsm
  obtain ⟨k1, k2⟩ := kk v' Mx' n' H' q2 q3 q4
  refine WD.op hg hd (H' := H') (v := v') (fun t ht => ?_) rfl k1 k2
  simp only [opA, ev_ok ht hs, ev_ok ht hy, q1]
end
attribute [local irreducible] gOK WS WC WR WD Ends FS YS OpV seqK blockK loopK midK retK rdK asgK rangeEnd sat Cell

section
variable {M : HL} {n0 : Nat} {H : Heap} {v w : Value}
end
end Go.Proofs.Ytckpocjeikkblaa.St

namespace Go.Proofs.Ytckpocjeikkblaa.St
open Go Go.Abs Go.Mth
set_option linter.unusedVariables false
set_option linter.unusedSimpArgs false

theorem form_len {n : Int} {l : List Int} (hn : n ≤ 7) (h : formE n l = 0) : l.length ≤ 1000 := by
  obtain ⟨g1, g2, g3⟩ := form_ok h
  have h7 := List.pairwise_iff_getElem.1 g3
  have hbb : ∀ i (hi : i < l.length), (i : Int) ≤ l[i] := by
    intro i
    induction i with
    | zero => intro hi; have := g2 _ (List.getElem_mem hi); omega
    | succ i ih => intro hi; have := ih (by omega); have := h7 i (i + 1) (by omega) hi (by omega); omega
  have := hbb (l.length - 1) (by omega)
  have := g2 _ (List.getElem_mem (show l.length - 1 < l.length by omega))
  omega
theorem less_ok {n : Int} {fs gs : List (List Int)} (hf : findsE n fs = 0) (hs : ∀ l ∈ gs, l ∈ fs) (hl : gs.length ≤ fs.length) : findsE n gs = 0 := by
  obtain ⟨h1, h2, h3, h4⟩ := finds_ok hf
  exact finds_intro ⟨h1, h2⟩ (by omega) fun l h => h4 l (hs l h)
attribute [local irreducible] gOK WS WC WR WD Ends FS YS OpV seqK blockK loopK midK retK rdK asgK rangeEnd sat Cell
end Go.Proofs.Ytckpocjeikkblaa.St

namespace Go.Proofs.Ytckpocjeikkblaa.St
open Go Go.Abs Go.Mth
set_option linter.unusedVariables false
set_option linter.unusedSimpArgs false

section
variable {nt : Nat} {L : Env} {D : List Nat} {H H' : Heap} {K : St → Prop} {M M' : HL} {n i d : Nat} {gd : Option (Tmp × Bool)} {lo : List Nat} {l : List POp} {rs : List Rd}
/-- A slice that has no room, as append reads it. -/
def FullS (H : Heap) (s : Value) (len : Nat) (old : List Value) : Prop := ∃ base cap c, s = .slice base len cap ∧ capOf base cap = .known c ∧ c ≤ len ∧ srcCells H 1 len s = some old

theorem OpV.appFull {e : TypeId} {s x : Operand} {sv y : Value} {len k : Nat} {old new : List Value} (hs : ev L s = some sv) (hF : FullS H sv len old) (hy : ev L x = some y) (hk : srcLen y = some k) (hx : srcCells H 1 k y = some new) (h1 : 1 ≤ k)
    (ho : old.length = len) (hn : new.length = k) (hone : (old ++ new).all one = true) (hsm : len + k ≤ 100000) (hH : hasH M n H) : OpV C (.append e 1 s x) L H (.slice (some ⟨n, 0, some 0⟩) (len + k) (2 * 1)) (H.row e (old ++ new)) := fun t ht => by
  obtain ⟨base, cap, c, rfl, hc, hcl, hr⟩ := hF
  have hb : Nat.ble (len + k) c = false := by
    cases hb : Nat.ble (len + k) c with
    | false => rfl
    | true => have := Nat.le_of_ble_eq_true hb; omega
  rw [List.all_append, Bool.and_eq_true] at hone
  have hs2 : small 1 (len + k) = true := by simp only [small, Bool.and_eq_true]; exact ⟨⟨Nat.ble_eq_true_of_le hsm, rfl⟩, rfl⟩
  have hq : Nat.beq (old.length + new.length) ((len + k) * 1) = true := by rw [ho, hn, Nat.mul_one]; exact Nat.beq_refl _
  simp only [opA, ev_ok ht hs, ev_ok ht hy, appendA, hk, hx, appWith, hc, hb, cond_false, hr, appNew, hs2, hone.1, hone.2, hq, Bool.and_self, Bool.and_true, cond_true, newAddr, hH.next]

/-- x[:len:len] -/
theorem OpV.cutFull {x hi mx : Operand} {v : Value} {ls : List Value} {kd kd2 : IntKind} (hx : ev L x = some v) (hS : Sl M 1 v ls) (h0 : ls = [] → v = .slice none 0 0) (hH : hasH M n H) (hh : ev L hi = some (.int kd (ls.length : Int))) (hm : ev L mx = some (.int kd2 (ls.length : Int))) :
    ∃ s, (∀ M2 n2 H2, hasH M2 n2 H2 → (∀ p ∈ M, p ∈ M2) → FullS H2 s ls.length ls) ∧ OpV C (.slS x 1 none (some hi) (some mx)) L H s H := by
  rcases Nat.eq_zero_or_pos ls.length with hz | hz
  · have hl : ls = [] := List.length_eq_zero_iff.1 hz
    subst hl
    have hv := h0 rfl
    subst hv
    refine ⟨.slice none 0 0, fun _ _ _ _ _ => ⟨none, 0, 0, rfl, rfl, Nat.le_refl _, rfl⟩, fun t ht => ?_⟩
    simp only [opA, ev_ok ht hx, Option.map_none, Option.map_some, ev_ok ht hh, ev_ok ht hm, oSlS]
    rfl
  · have hne : ls ≠ [] := fun h => by rw [h] at hz; exact absurd hz (Nat.lt_irrefl _)
    have hsrc : ∀ M2 n2 H2, hasH M2 n2 H2 → (∀ p ∈ M, p ∈ M2) → srcCells H2 1 ls.length v = some ls := fun M2 n2 H2 h2 hm2 => by
      have := ((hS.mono hm2).src h2 hne).2 _ (Nat.le_refl _)
      rwa [List.take_length] at this
    cases hS with
    | nil c => exact absurd rfl hne
    | emp a => exact absurd rfl hne
    | row hm' hc hlo hl hv hin hcap =>
      rename_i b o u lo' len cap ch cs
      have hlen : ls.length = len := by omega
      subst hlen
      refine ⟨.slice (some ⟨b, o, some u⟩) ls.length (2 * ls.length + 1), fun M2 n2 H2 h2 hm2 => ⟨_, _, _, rfl, capOf_odd _ _, Nat.le_refl _, hsrc M2 n2 H2 h2 hm2⟩, fun t ht => ?_⟩
      have hb : Nat.beq ls.length 0 = false := by cases hb : Nat.beq ls.length 0 with | false => rfl | true => have := Nat.eq_of_beq_eq_true hb; omega
      have e0 : Addr.plus ⟨b, o, some u⟩ (0 * 1) = ⟨b, o, some u⟩ := by simp [Addr.plus]
      simp only [opA, ev_ok ht hx, Option.map_none, Option.map_some, ev_ok ht hh, ev_ok ht hm, oSlS, sliceA, loOf, hiOf, nat_of, Option.isSome_some, Option.isNone_some, Bool.and_false, cond_false]
      rcases hcap with (rfl | ⟨r, rfl, hle⟩) | ⟨c, rfl, hle⟩
      · rw [capOf_open _ (show 1 ≤ 1000 by decide)]
        simp only [sliceTo, nat_of]
        rw [cond_some (by simp [Nat.ble_eq])]
        simp only [cutOpenMax, hb, cond_false, cutKnown, asVal, e0, Nat.sub_zero]
      · rw [capOf_room _ (show 1 ≤ 1000 by decide)]
        simp only [sliceTo, nat_of]
        rw [cond_some (by simp [Nat.ble_eq, hle])]
        simp only [hb, cond_false, cutKnown, asVal, e0, Nat.sub_zero]
      · rw [capOf_odd]
        simp only [sliceTo, nat_of]
        rw [cond_some (by simp [Nat.ble_eq, hle])]
        simp only [hb, cond_false, cutKnown, asVal, e0, Nat.sub_zero]
theorem WD.cutFull {x hi mx : Operand} {v : Value} {ls : List Value} {kd kd2 : IntKind} (hg : gOK L gd) (hd : Nat.blt d nt = true) (hx : ev L x = some v) (hS : Sl M 1 v ls) (h0 : ls = [] → v = .slice none 0 0) (hH : hasH M n H) (hh : ev L hi = some (.int kd (ls.length : Int))) (hm : ev L mx = some (.int kd2 (ls.length : Int)))
    (kk : ∀ s, (∀ M2 n2 H2, hasH M2 n2 H2 → (∀ p ∈ M, p ∈ M2) → FullS H2 s ls.length ls) → WD C nt l rs ((d, s) :: L) D H K) : WD C nt (⟨i, some d, .slS x 1 none (some hi) (some mx), gd, []⟩ :: l) rs L D H K := by
  obtain ⟨s, h1, h2⟩ := OpV.cutFull hx hS h0 hH hh hm
  exact WD.op hg hd h2 rfl (stands_nil _ _) (kk s h1)
theorem WD.appFull {e : TypeId} {s x : Operand} {sv y : Value} {len k : Nat} {old new : List Value} (hg : gOK L gd) (hd : Nat.blt d nt = true) (hs : ev L s = some sv) (hF : FullS H sv len old) (hy : ev L x = some y) (hk : srcLen y = some k) (hx : srcCells H 1 k y = some new) (h1 : 1 ≤ k)
    (ho : old.length = len) (hn : new.length = k) (hone : (old ++ new).all one = true) (hsm : len + k ≤ 100000) (hH : hasH M n H) (hst : ∀ H', hasH ((n, .row e 0 0 (old ++ new)) :: M) (n + 1) H' → stands H' lo rs = true)
    (kk : ∀ H', hasH ((n, .row e 0 0 (old ++ new)) :: M) (n + 1) H' → WD C nt l rs ((d, .slice (some ⟨n, 0, some 0⟩) (len + k) (2 * 1)) :: L) D H' K) : WD C nt (⟨i, some d, .append e 1 s x, gd, lo⟩ :: l) rs L D H K := by
  have h2 := hH.row e hone
  exact WD.op hg hd (OpV.appFull hs hF hy hk hx h1 ho hn hone hsm hH) rfl (hst _ h2) (kk _ h2)
end
end Go.Proofs.Ytckpocjeikkblaa.St

namespace Go.Proofs.Ytckpocjeikkblaa.St
open Go Go.Abs Go.Mth
set_option linter.unusedVariables false
set_option linter.unusedSimpArgs false

/-- What is still to come, from the last numbers on. -/
def remF {α : Type} (f : Nat → List α) (N : Nat) (zs : List α) : Nat → List α
  | 0 => zs
  | d + 1 => f (N - (d + 1)) ++ remF f N zs d
theorem remF_all {α : Type} (f : Nat → List α) (N : Nat) (zs : List α) : ∀ d, d ≤ N → ((List.range N).drop (N - d)).flatMap f ++ zs = remF f N zs d
  | 0, _ => by rw [Nat.sub_zero, List.drop_eq_nil_of_le (by simp)]; rfl
  | d + 1, h => by
    rw [List.drop_eq_getElem_cons (by simp; omega), List.getElem_range, show N - (d + 1) + 1 = N - d by omega, List.flatMap_cons, List.append_assoc, remF_all f N zs d (by omega)]
    rfl
theorem remF_zero {α : Type} (f : Nat → List α) (N : Nat) (zs : List α) : (List.range N).flatMap f ++ zs = remF f N zs N := by
  have := remF_all f N zs N (Nat.le_refl _)
  rwa [Nat.sub_self, List.drop_zero] at this
attribute [local irreducible] gOK WS WC WR WD Ends FS YS OpV seqK blockK loopK midK retK rdK asgK rangeEnd sat Cell

structure PB where
  x : Nat
  Mc : HL
  n : Nat

section
variable {N bn be bp : Nat} {g : FuncId} {vb : List Value} {J : List (List Nat) → HL → Nat → Prop} {B : HL}

theorem put_fs (hN : 1 ≤ N ∧ N ≤ 7) (hmN : (bn, Ch.row 3 0 0 [.int .i64 (N : Int)]) ∈ B) (hmE : (be, Ch.row 63 0 0 [.func (.func g) [].toArray vb.toArray]) ∈ B)
    (hmP : (bp, Ch.row 63 0 0 [.func (.func 82) [].toArray [.pointer (some ⟨bn, 0, some 0⟩), .pointer (some ⟨be, 0, some 0⟩), .pointer (some ⟨bp, 0, some 0⟩)].toArray]) ∈ B)
    (hB : ∀ zs M' n', J zs M' n' → ∀ p ∈ B, p ∈ M') (hJn : ∀ zs M' n' n'', J zs M' n' → n' ≤ n'' → J zs M' n'')
    (hy : ∀ z zs F Mc n' H' v, J (z :: zs) Mc n' → z ∈ permsL N (List.range N) → Sl F 1 v (ints (castI z)) → hasH (F ++ Mc) n' H' → FS C g ([] ++ [v] ++ vb) H' (fun _ H2 => ∃ M2 n2, n' ≤ n2 ∧ J zs M2 n2 ∧ hasH (F ++ M2) n2 H2)) :
    ∀ (k : Nat) {F Mc : HL} {n0 : Nat} {H : Heap} {bg : List Nat} {zs : List (List Nat)} {v : Value} (hk : bg.length + k = N) (hr : ((List.range N).filter (fun y => decide (y ∉ bg))).length = k) (hH : hasH (F ++ Mc) n0 H) (hJ : J (allR N k bg ++ zs) Mc n0)
      (hS : Sl F 1 v (ints (castI bg))) (h0 : bg = [] → v = .slice none 0 0) (hp : ∀ z ∈ allR N k bg, z ∈ permsL N (List.range N)),
      FS C 82 [v, .pointer (some ⟨bn, 0, some 0⟩), .pointer (some ⟨be, 0, some 0⟩), .pointer (some ⟨bp, 0, some 0⟩)] H (fun _ H' => ∃ M' n', n0 ≤ n' ∧ J zs M' n' ∧ hasH (F ++ M') n' H') := by
  intro k
  induction k with
  | zero =>
    intro F Mc n0 H bg zs v hk hr hH hJ hS h0 hp
    have hcl := castI_len bg
    have mN := List.mem_append_right F (hB _ _ _ hJ _ hmN)
    have mE := List.mem_append_right F (hB _ _ _ hJ _ hmE)
    have hS2 : Sl (F ++ Mc) 1 v (ints (castI bg)) := hS.mono fun q hq => List.mem_append_left _ hq
    refine FS.intro (pf := pf82) rfl rfl rfl ?_
    repeat' (first | refine zP ?_ | refine zA ?_ | (refine zM ?_; intro _ _) | refine zX ?_ | (refine zC ?_; intro _ _ _ _) | (refine zS ?_; intro _ _) | refine zO ?_ | (apply Ws <;> intro hg))
    refine WR.callV (by first | exact gN | exact gS rfl) rfl rfl rfl (hy bg zs F Mc n0 _ _ hJ (hp bg (by simp [allR])) hS hH) ?_
    rintro _ H2 ⟨M2, n2, hn2, hJ2, hH2⟩
    repeat' (first | refine zP ?_ | refine zA ?_ | (refine zM ?_; intro _ _) | refine zX ?_ | (refine zC ?_; intro _ _ _ _) | (refine zS ?_; intro _ _) | (apply Ws <;> intro hg))
    exact Ends.ret0 ⟨M2, n2, hn2, hJ2, hH2⟩
  | succ k ih =>
    intro F Mc n0 H bg zs v hk hr hH hJ hS h0 hp
    have hcl := castI_len bg
    have hil : (ints (castI bg)).length = bg.length := by simp [hcl]
    have mN := List.mem_append_right F (hB _ _ _ hJ _ hmN)
    have hS2 : Sl (F ++ Mc) 1 v (ints (castI bg)) := hS.mono fun q hq => List.mem_append_left _ hq
    refine FS.intro (pf := pf82) rfl rfl rfl ?_
    repeat' (first | refine zP ?_ | refine zA ?_ | (refine zM ?_; intro _ _) | refine zX ?_ | (refine zC ?_; intro _ _ _ _) | (refine zS ?_; intro _ _) | refine zO ?_ | (apply Ws <;> intro hg))
    clear hS2
    rw [allR, remF_zero] at hJ
    have hpf : ∀ x, x < N → x ∉ bg → ∀ z ∈ allR N k (bg ++ [x]), z ∈ permsL N (List.range N) := fun x hx hb z hz => hp z (by
      rw [allR]
      exact List.mem_flatMap.2 ⟨x, List.mem_range.2 hx, by rw [if_neg hb]; exact hz⟩)
    generalize hf : (fun x => if x ∈ bg then [] else allR N k (bg ++ [x])) = f at hJ
    refine WC.loopX [(0, v), (1, _), (2, _), (3, _), (13, .int .i64 (N : Int))] (fun s : PB => [(14, .int .i64 (s.x : Int))]) []
      (fun s H' => s.x ≤ N ∧ n0 ≤ s.n ∧ J (remF f N zs (N - s.x)) s.Mc s.n ∧ hasH (F ++ s.Mc) s.n H') (fun s => N - s.x) ⟨0, Mc, n0⟩ (by repeat' (first | exact .nil | refine .cons rfl ?_)) rfl ⟨Nat.zero_le _, Nat.le_refl _, hJ, hH⟩ ?_
    clear hH hJ mN
    rintro ⟨x, M1, n1⟩ H1 ⟨hx, hn1, hJ1, hH1⟩
    simp only at hx hn1 hJ1 hH1
    have hS1 : Sl (F ++ M1) 1 v (ints (castI bg)) := hS.mono fun q hq => List.mem_append_left _ hq
    have mP := List.mem_append_right F (hB _ _ _ hJ1 _ hmP)
    dsimp only [List.cons_append, List.nil_append]
    repeat' (first | refine zP ?_ | refine zA ?_ | (refine zM ?_; intro _ _) | refine zX ?_ | (refine zC ?_; intro _ _ _ _) | (refine zS ?_; intro _ _) | (apply Ws <;> intro hg))
    refine WC.condP rfl (fun hlt => ?_) (fun hlt => ?_)
    · have hx' : x < N := by omega
      obtain ⟨d, hd⟩ : ∃ d, N - x = d + 1 := ⟨N - x - 1, by omega⟩
      have hd2 : N - (x + 1) = d := by omega
      rw [hd, remF, show N - (d + 1) = x by omega, ← hf] at hJ1
      simp only at hJ1
      rw [hf] at hJ1
      have hmem : (x : Int) ∈ castI bg ↔ x ∈ bg := by
        rw [castI, List.mem_map]
        exact ⟨fun ⟨y, h1, h2⟩ => by rw [← Int.ofNat.inj h2]; exact h1, fun h => ⟨x, h, rfl⟩⟩
      repeat' (first | refine zP ?_ | refine zA ?_ | (refine zM ?_; intro _ _) | refine zX ?_ | (refine zC ?_; intro _ _ _ _) | (refine zS ?_; intro _ _) | (apply Ws <;> intro hg))
      refine WR.call (by first | exact gN | exact gS rfl) rfl rfl (Contains_fs hH1 hS1 (by omega) _) ?_
      rintro _ _ ⟨rfl, rfl⟩
      by_cases hin : x ∈ bg
      · rw [decide_eq_true (hmem.2 hin)]
        rw [if_pos hin, List.nil_append] at hJ1
        repeat' (first | refine zP ?_ | refine zA ?_ | (refine zM ?_; intro _ _) | refine zX ?_ | (refine zC ?_; intro _ _ _ _) | (refine zS ?_; intro _ _) | refine zO ?_ | (apply Ws <;> intro hg))
        exact Ends.loop ⟨x + 1, M1, n1⟩ (by simp only; omega) (by repeat' (first | exact .nil | refine .cons rfl ?_)) rfl ⟨hx', hn1, by simp only; rw [hd2]; exact hJ1, hH1⟩
      · rw [decide_eq_false fun h => hin (hmem.1 h)]
        rw [if_neg hin] at hJ1
        repeat' (first | refine zP ?_ | refine zA ?_ | (refine zM ?_; intro _ _) | refine zX ?_ | (refine zC ?_; intro _ _ _ _) | (refine zS ?_; intro _ _) | refine zO ?_ | (apply Ws <;> intro hg))
        refine WC.regionD ?_
        repeat' (first | refine zD ?_ | (refine zE ?_; intro _ _ _ _))
        refine WD.cutFull (kd := .i64) (kd2 := .i64) (by first | exact gN | exact gS rfl) rfl rfl hS1 (fun h => h0 (List.length_eq_zero_iff.1 (by rw [← hil, h]; rfl))) hH1 (by simp only [List.length_map]; rfl) (by simp only [List.length_map]; rfl) fun s27 hF27 => ?_
        repeat' (first | refine zD ?_ | (refine zE ?_; intro _ _ _ _))
        refine WD.bldS (by first | exact gN | exact gS rfl) rfl hH1 (vs := [(0, .int .i64 (x : Int))]) rfl (cs := [.int .i64 (x : Int)]) (by rfl) rfl (fun H3 hH3 => zSt) fun H3 hH3 => ?_
        have mP2 := List.mem_cons_of_mem (n1, Ch.row 3 0 0 [Value.int .i64 (x : Int)]) mP
        refine WD.appFull (k := 1) (new := [.int .i64 (x : Int)]) (by first | exact gN | exact gS rfl) rfl rfl (hF27 _ _ _ hH3 fun q hq => .tail _ hq) rfl rfl (by
          have := hH3.readN (b := n1) (u := 0) (lo := 0) (o := 0) (k := 1 * 1) (.head _) (.row _ _ _ _) (Nat.le_refl _) (by simp)
          simpa [srcCells] using this) (Nat.le_refl _) rfl rfl (by rw [List.all_append, ints_one]; rfl) (by omega) hH3 (fun H4 hH4 => zSt) fun H4 hH4 => ?_
        refine WD.toWR rfl ?_
        rw [hil]
        have hS4 : Sl ((n1 + 1, Ch.row 3 0 0 (ints (castI bg) ++ [.int .i64 (x : Int)])) :: (n1, Ch.row 3 0 0 [.int .i64 (x : Int)]) :: F) 1 (.slice (some ⟨n1 + 1, 0, some 0⟩) (bg.length + 1) (2 * 1)) (ints (castI (bg ++ [x]))) := by
          have he : ints (castI (bg ++ [x])) = ints (castI bg) ++ [.int .i64 (x : Int)] := by simp [castI]
          have hle : (ints (castI bg) ++ [Value.int .i64 (x : Int)]).length = bg.length + 1 := by simp [hcl]
          rw [he]
          exact .row (lo := 0) (cs := ints (castI bg) ++ [.int .i64 (x : Int)]) (.head _) (.row _ _ _ _) (Nat.zero_le _) (by rw [hle]; omega) (by rw [Nat.sub_self, List.drop_zero, List.take_length]) (by omega) (.inl (.inl rfl))
        replace hH4 : hasH (((n1 + 1, Ch.row 3 0 0 (ints (castI bg) ++ [Value.int .i64 (x : Int)])) :: (n1, Ch.row 3 0 0 [Value.int .i64 (x : Int)]) :: F) ++ M1) (n1 + 1 + 1) H4 := hH4
        refine WR.callV (by first | exact gN | exact gS rfl) rfl rfl rfl (ih (F := (n1 + 1, Ch.row 3 0 0 (ints (castI bg) ++ [Value.int .i64 (x : Int)])) :: (n1, Ch.row 3 0 0 [Value.int .i64 (x : Int)]) :: F) (Mc := M1) (zs := remF f N zs d) (by simp; omega) (filt_len hr hx' hin) hH4 (hJn _ _ _ _ hJ1 (by omega)) hS4 (fun h => by simp at h) (hpf x hx' hin)) ?_
        rintro _ H5 ⟨M5, n5, hn5, hJ5, hH5⟩
        repeat' (first | refine zP ?_ | refine zA ?_ | (refine zM ?_; intro _ _) | refine zX ?_ | (refine zC ?_; intro _ _ _ _) | (refine zS ?_; intro _ _) | (apply Ws <;> intro hg))
        exact Ends.loop ⟨x + 1, M5, n5⟩ (by simp only; omega) (by repeat' (first | exact .nil | refine .cons rfl ?_)) rfl ⟨hx', by simp only; omega, by simp only; rw [hd2]; exact hJ5, hH5.tail.tail⟩
    · have hxN : x = N := by omega
      subst hxN
      rw [Nat.sub_self, remF] at hJ1
      repeat' (first | refine zP ?_ | refine zA ?_ | (refine zM ?_; intro _ _) | refine zX ?_ | (refine zC ?_; intro _ _ _ _) | (refine zS ?_; intro _ _) | (apply Ws <;> intro hg))
      exact Ends.end0 ⟨M1, n1, hn1, hJ1, hH1⟩

/-- All orders are handed to a function. -/
theorem orders_fs {n0 : Nat} {M : HL} {H : Heap} {J : List (List Nat) → HL → Nat → Prop} (hN : 1 ≤ N ∧ N ≤ 7) (hH : hasH M n0 H) (hJ : J (permsL N (List.range N)) M n0) (hJn : ∀ zs M' n' n'', J zs M' n' → n' ≤ n'' → J zs M' n'')
    (hy : ∀ z zs F Mc n' H' v, J (z :: zs) Mc n' → z ∈ permsL N (List.range N) → Sl F 1 v (ints (castI z)) → hasH (F ++ Mc) n' H' → FS C g ([] ++ [v] ++ vb) H' (fun _ H2 => ∃ M2 n2, n' ≤ n2 ∧ J zs M2 n2 ∧ hasH (F ++ M2) n2 H2)) :
    FS C 39 [.int .i64 (N : Int), .func (.func g) [].toArray vb.toArray] H (fun _ H' => ∃ M' n', n0 ≤ n' ∧ J [] M' n' ∧ hasH M' n' H') := by
  refine FS.intro (pf := pf39) rfl rfl rfl ?_
  repeat' (first | refine zP ?_ | refine zA ?_ | (refine zM ?_; intro _ _) | refine zX ?_ | (refine zC ?_; intro _ _ _ _) | (refine zS ?_; intro _ _) | (apply Ws <;> intro hg))
  rename_i H1 hH1
  obtain ⟨B, hB⟩ : ∃ B : HL, B = [(n0 + 1 + 1, Ch.row 63 0 0 [.func (.func 82) [].toArray [.pointer (some ⟨n0, 0, some 0⟩), .pointer (some ⟨n0 + 1, 0, some 0⟩), .pointer (some ⟨n0 + 1 + 1, 0, some 0⟩)].toArray]), (n0 + 1, Ch.row 63 0 0 [.func (.func g) [].toArray vb.toArray]), (n0, Ch.row 3 0 0 [.int .i64 (N : Int)])] := ⟨_, rfl⟩
  replace hH1 : hasH ([] ++ (B ++ M)) (n0 + 1 + 1 + 1) H1 := by rw [hB]; exact hH1
  have hall : allR N N [] = permsL N (List.range N) := allR_all N
  refine WR.callV (by first | exact gN | exact gS rfl) rfl rfl rfl (put_fs (N := N) (bn := n0) (be := n0 + 1) (bp := n0 + 1 + 1) (g := g) (vb := vb) (B := B) (J := fun zs M' n' => ∃ Mc, M' = B ++ Mc ∧ J zs Mc n') hN (by rw [hB]; simp) (by rw [hB]; simp) (by rw [hB]; simp)
    (fun zs M' n' ⟨Mc, h1, _⟩ p hp => by rw [h1]; exact List.mem_append_left _ hp) (fun zs M' n' n'' ⟨Mc, h1, h2⟩ h3 => ⟨Mc, h1, hJn _ _ _ _ h2 h3⟩) ?_ N (F := []) (bg := []) (zs := []) (by simp) (by rw [List.filter_eq_self.2 (fun _ _ => by simp)]; simp) hH1 ⟨M, rfl, by rw [List.append_nil, hall]; exact hJn _ _ _ _ hJ (by omega)⟩ (.nil 0) (fun _ => rfl) (fun z hz => by rw [hall] at hz; exact hz)) ?_
  · rintro z zs F _ n' H' v ⟨Mc, rfl, hJz⟩ hz hS hH'
    rw [← List.append_assoc] at hH'
    refine (hy z zs (F ++ B) Mc n' H' v hJz hz (hS.mono fun q hq => List.mem_append_left _ hq) hH').mono fun e H2 ⟨M2, n2, h1, h2, h3⟩ => ⟨B ++ M2, n2, h1, ⟨M2, rfl, h2⟩, ?_⟩
    rw [← List.append_assoc]; exact h3
  · rintro _ H2 ⟨_, n2, hn2, ⟨M2, rfl, hJ2⟩, hH2⟩
    repeat' (first | refine zP ?_ | refine zA ?_ | (refine zM ?_; intro _ _) | refine zX ?_ | (refine zC ?_; intro _ _ _ _) | (refine zS ?_; intro _ _) | (apply Ws <;> intro hg))
    refine Ends.end0 ⟨M2, n2, by omega, hJ2, ?_⟩
    rw [hB] at hH2
    exact hH2.tail.tail.tail
end
end Go.Proofs.Ytckpocjeikkblaa.St

namespace Go.Proofs.Ytckpocjeikkblaa.St
open Go Go.Abs Go.Mth
set_option linter.unusedVariables false
set_option linter.unusedSimpArgs false
attribute [local irreducible] gOK WS WC WR WD Ends FS YS OpV seqK blockK loopK midK retK rdK asgK rangeEnd sat Cell

section
variable {M : HL} {n0 : Nat} {H : Heap} {v w : Value} {fs : List (List Int)}
end
end Go.Proofs.Ytckpocjeikkblaa.St

namespace Go.Proofs.Ytckpocjeikkblaa.St
open Go Go.Abs Go.Mth
set_option linter.unusedVariables false
set_option linter.unusedSimpArgs false
attribute [local irreducible] gOK WS WC WR WD Ends FS YS OpV seqK blockK loopK midK retK rdK asgK rangeEnd sat Cell
section
variable {M : HL} {n0 : Nat} {H : Heap} {v w : Value}
end
end Go.Proofs.Ytckpocjeikkblaa.St

namespace Go.Proofs.Ytckpocjeikkblaa.St
open Go Go.Abs Go.Mth
set_option linter.unusedVariables false
set_option linter.unusedSimpArgs false
end Go.Proofs.Ytckpocjeikkblaa.St

namespace Go.Proofs.Ytckpocjeikkblaa.St
open Go Go.Abs Go.Mth
set_option linter.unusedVariables false
set_option linter.unusedSimpArgs false

/-- Two layers lie at places that are not next to one another, at places below i (k). -/
def farI (z : List Nat) (a b : Nat) (p : Nat → Nat → Prop) : Prop := ∃ i k, i < z.length ∧ k < z.length ∧ p i k ∧ z.getD i 0 = a ∧ z.getD k 0 = b ∧ i ≠ k + 1 ∧ k ≠ i + 1
abbrev boolsV (ys : List Bool) : List Value := ys.map Value.bool
theorem bools_get {ys : List Bool} {k : Nat} (h : k < ys.length) : (boolsV ys)[k]? = some (.bool (ys.getD k false)) := by
  rw [List.getElem?_map, List.getElem?_eq_getElem h, getD_eq h]; rfl
attribute [local irreducible] gOK WS WC WR WD Ends FS YS OpV seqK blockK loopK midK retK rdK asgK rangeEnd sat Cell

section
variable {M : HL} {n0 : Nat} {H : Heap} {v w : Value} {fs : List (List Int)} {o : List Int}

theorem lfits_fs (hH : hasH M n0 H) (hR : RowsI M v fs) (hl : fs.length ≤ 1000) (hll : ∀ l ∈ fs, l.length ≤ 1000) (hO : Sl M 1 w (ints o)) (hol : o.length ≤ 1000) (n : Int) :
    FS C 41 [.agg #[.int .i64 n, v], w] H (fun e H' => ∃ b n', e = .bool b ∧ n0 ≤ n' ∧ hasH M n' H' ∧ (b = true ↔ ∀ i, i < fs.length → RN (bitF (fs.getD i []) o) o.length ≤ 1)) := by
  have h1 := hR.one_
  refine FS.intro (pf := pf41) rfl rfl rfl ?_
  repeat' (first | refine zP ?_ | refine zA ?_ | (refine zM ?_; intro _ _) | refine zX ?_ | (refine zC ?_; intro _ _ _ _) | (refine zS ?_; intro _ _))
  rename_i H1 hH1
  have hR1 : RowsI ((n0, .row 24 0 0 [.int .i64 n, v]) :: M) v fs := hR.cons
  have hO1 : Sl ((n0, .row 24 0 0 [.int .i64 n, v]) :: M) 1 w (ints o) := hO.cons
  obtain ⟨vs, hSv, hvl, hvs⟩ := hR1
  repeat' (first | refine zP ?_ | refine zA ?_ | (refine zM ?_; intro _ _) | refine zX ?_ | (refine zC ?_; intro _ _ _ _) | (refine zS ?_; intro _ _) | (apply Ws <;> intro hg))
  refine WC.loopX [(1, w), (8, v), (9, _)] (fun k : Nat => [(10, .int .i64 (k : Int))]) [] (fun k H' => H' = H1 ∧ k ≤ fs.length ∧ ∀ i, i < k → RN (bitF (fs.getD i []) o) o.length ≤ 1) (fun k => fs.length - k) 0 (by repeat' (first | exact .nil | refine .cons rfl ?_)) rfl ⟨rfl, Nat.zero_le _, fun i hi => absurd hi (Nat.not_lt_zero _)⟩ ?_
  rintro k HA ⟨rfl, hk, hb⟩
  dsimp only [List.cons_append, List.nil_append]
  repeat' (first | refine zP ?_ | refine zA ?_ | (refine zM ?_; intro _ _) | refine zX ?_ | (refine zC ?_; intro _ _ _ _) | (refine zS ?_; intro _ _) | (apply Ws <;> intro hg))
  refine WC.condP rfl (fun hlt => ?_) (fun hlt => ?_)
  · have hk' : k < fs.length := by omega
    have hSk := hvs k hk'
    have hlk := hll _ (getD_mem (a := []) hk')
    repeat' (first | refine zP ?_ | refine zA ?_ | (refine zM ?_; intro _ _) | refine zX ?_ | (refine zC ?_; intro _ _ _ _) | (refine zS ?_; intro _ _) | (apply Ws <;> intro hg))
    refine WR.call (by first | exact gN | exact gS rfl) rfl rfl (lawgaps_fs hH1 hSk hlk hO1 hol) ?_
    rintro _ _ ⟨rfl, rfl⟩
    have hrl := RN_le (bitF (fs.getD k []) o) o.length
    repeat' (first | refine zP ?_ | refine zA ?_ | (refine zM ?_; intro _ _) | refine zX ?_ | (refine zC ?_; intro _ _ _ _) | (refine zS ?_; intro _ _) | (apply Ws <;> intro hg))
    refine WC.condP rfl (fun hgt => ?_) (fun hgt => ?_)
    · repeat' (first | refine zP ?_ | refine zA ?_ | (refine zM ?_; intro _ _) | refine zX ?_ | (refine zC ?_; intro _ _ _ _) | (refine zS ?_; intro _ _) | (apply Ws <;> intro hg))
      exact Ends.ret1 rfl ⟨false, n0 + 1, rfl, by omega, hH1.tail, by simp only [Bool.false_eq_true, false_iff]; exact fun h => by have := h k hk'; omega⟩
    · repeat' (first | refine zP ?_ | refine zA ?_ | (refine zM ?_; intro _ _) | refine zX ?_ | (refine zC ?_; intro _ _ _ _) | (refine zS ?_; intro _ _) | (apply Ws <;> intro hg))
      exact Ends.loop (k + 1) (by omega) (by repeat' (first | exact .nil | refine .cons rfl ?_)) rfl ⟨rfl, by omega, fun i hi => by
        rcases Nat.lt_or_ge i k with h | h
        · exact hb i h
        · have : i = k := by omega
          subst this; omega⟩
  · repeat' (first | refine zP ?_ | refine zA ?_ | (refine zM ?_; intro _ _) | refine zX ?_ | (refine zC ?_; intro _ _ _ _) | (refine zS ?_; intro _ _) | (apply Ws <;> intro hg))
    exact Ends.ret1 rfl ⟨true, n0 + 1, rfl, by omega, hH1.tail, by simp only [true_iff]; exact fun i hi => hb i (by omega)⟩
end
end Go.Proofs.Ytckpocjeikkblaa.St

namespace Go.Proofs.Ytckpocjeikkblaa.St
open Go Go.Abs Go.Mth
set_option linter.unusedVariables false
set_option linter.unusedSimpArgs false
attribute [local irreducible] gOK WS WC WR WD Ends FS YS OpV seqK blockK loopK midK retK rdK asgK rangeEnd sat Cell

structure FV where
  k : Nat
  ys : List Bool

section
variable {U : HL} {n0 : Nat} {H : Heap} {v w : Value} {fs : List (List Int)}
end
end Go.Proofs.Ytckpocjeikkblaa.St

namespace Go.Proofs.Ytckpocjeikkblaa.St
open Go Go.Abs Go.Mth
set_option linter.unusedVariables false
set_option linter.unusedSimpArgs false
theorem perm_inj {z : List Nat} {N : Nat} (h : z ∈ permsL N (List.range N)) : z.length = N ∧ (∀ i j, i < N → j < N → z.getD i 0 = z.getD j 0 → i = j) ∧ ∀ x, x < N → ∃ i, i < N ∧ z.getD i 0 = x := by
  have hp := (mem_perms N _ (by simp)).1 h
  have hl : z.length = N := by rw [hp.length_eq]; simp
  have hnd : z.Nodup := hp.nodup_iff.2 List.nodup_range
  refine ⟨hl, fun i j hi hj he => ?_, fun x hx => ?_⟩
  · rw [getD_eq (by omega), getD_eq (by omega)] at he
    exact (List.getElem_inj hnd).1 he
  · obtain ⟨i, hi, h2⟩ := List.mem_iff_getElem.1 (hp.mem_iff.2 (List.mem_range.2 hx))
    exact ⟨i, by omega, by rw [getD_eq hi]; exact h2⟩
end Go.Proofs.Ytckpocjeikkblaa.St

namespace Go.Proofs.Ytckpocjeikkblaa.St
open Go Go.Abs Go.Mth
set_option linter.unusedVariables false
set_option linter.unusedSimpArgs false
attribute [local irreducible] gOK WS WC WR WD Ends FS YS OpV seqK blockK loopK midK retK rdK asgK rangeEnd sat Cell

section
variable {M : HL} {n0 : Nat} {H : Heap} {v w : Value} {fs : List (List Int)}
end
end Go.Proofs.Ytckpocjeikkblaa.St

namespace Go.Proofs.Ytckpocjeikkblaa.St
open Go Go.Abs Go.Mth
set_option linter.unusedVariables false
set_option linter.unusedSimpArgs false
attribute [local irreducible] gOK WS WC WR WD Ends FS YS OpV seqK blockK loopK midK retK rdK asgK rangeEnd sat Cell

theorem same_fs {M : HL} {n0 : Nat} {H : Heap} {v w : Value} {o : List Int} (hH : hasH M n0 H) (ho : o.length ≤ 1000) (hS : Sl M 1 v (ints o)) (hU : Sl M 1 w (ints o)) :
    FS C 31 [v, w] H (fun e H' => e = .bool true ∧ H' = H) := by
  refine FS.intro (pf := pf31) rfl rfl rfl ?_
  repeat' (first | refine zP ?_ | refine zA ?_ | (refine zM ?_; intro _ _) | refine zX ?_ | (refine zC ?_; intro _ _ _ _) | (refine zS ?_; intro _ _) | refine zO ?_ | (apply Ws <;> intro hg))
  refine WC.loopX [(0, _), (1, _)] (fun k : Nat => [(5, .int .i64 (k : Int))]) [] (fun k H' => H' = H ∧ k ≤ o.length) (fun k => o.length - k) 0 (by repeat' (first | exact .nil | refine .cons rfl ?_)) rfl ⟨rfl, Nat.zero_le _⟩ ?_
  rintro k _ ⟨rfl, hk⟩
  dsimp only [List.cons_append, List.nil_append]
  repeat' (first | refine zP ?_ | refine zA ?_ | (refine zM ?_; intro _ _) | refine zX ?_ | (refine zC ?_; intro _ _ _ _) | (refine zS ?_; intro _ _) | (apply Ws <;> intro hg))
  refine WC.condP rfl (fun hlt => ?_) (fun hlt => ?_)
  · have hk' : k < o.length := by omega
    repeat' (first | refine zP ?_ | refine zA ?_ | (refine zM ?_; intro _ _) | refine zX ?_ | (refine zC ?_; intro _ _ _ _) | (refine zS ?_; intro _ _) | refine zO ?_ | (apply Ws <;> intro hg))
    exact Ends.loop (k + 1) (by omega) (by repeat' (first | exact .nil | refine .cons rfl ?_)) rfl ⟨rfl, hk'⟩
  · repeat' (first | refine zP ?_ | refine zA ?_ | (refine zM ?_; intro _ _) | refine zX ?_ | (refine zC ?_; intro _ _ _ _) | (refine zS ?_; intro _ _) | refine zO ?_ | (apply Ws <;> intro hg))
    exact Ends.ret1 rfl ⟨rfl, rfl⟩
end Go.Proofs.Ytckpocjeikkblaa.St

namespace Go.Proofs.Ytckpocjeikkblaa.St
open Go Go.Abs Go.Mth
set_option linter.unusedVariables false
set_option linter.unusedSimpArgs false
attribute [local irreducible] gOK WS WC WR WD Ends FS YS OpV seqK blockK loopK midK retK rdK asgK rangeEnd sat Cell

structure YV where
  x : Nat
  v : Value
  Mx : HL
  n : Nat
end Go.Proofs.Ytckpocjeikkblaa.St
