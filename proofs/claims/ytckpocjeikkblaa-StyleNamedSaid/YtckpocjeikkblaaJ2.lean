/- Texts of the law, joined. -/
import Derived.Test.YtckpocjeikkblaaJ1
import Derived.Test.YtckpocjeikkblaaSymR
namespace Go.Proofs.Ytckpocjeikkblaa.St
open Go Go.Abs Go.Mth
set_option linter.unusedVariables false
set_option linter.unusedSimpArgs false
theorem u8k : C.c.P.underlying 5 = some (.int .u8) := by kernel_rfl
theorem i64k : C.c.P.underlying 3 = some (.int .i64) := by kernel_rfl
attribute [local irreducible] gOK WS WC WR WD Ends FS YS OpV seqK blockK loopK midK retK rdK asgK rangeEnd sat Cell

section
variable {M : HL} {n0 : Nat} {H : Heap} {v w : Value} {fs : List (List Int)} {o : List Int}

/-- Some elements less. -/
theorem Delete_fs {b u o len cp R i j : Nat} {ys : List Int} (hH : hasH ((b, .row 3 u o (ints ys)) :: M) n0 H) (hc : capR cp len R) (hly : len ≤ ys.length) (hij : i < j) (hjl : j ≤ len) (hyl : ys.length ≤ 100000) :
    FS C 84 [.slice (some ⟨b, o, some u⟩) len cp, .int .i64 (i : Int), .int .i64 (j : Int)] H (fun e H' => ∃ zs, e = .slice (some ⟨b, o, some u⟩) (len - (j - i)) (roomCode 1 R) ∧ hasH ((b, .row 3 u o (ints zs)) :: M) n0 H' ∧
      zs.length = ys.length ∧ zs.take (len - (j - i)) = ys.take i ++ (ys.take len).drop j) := by
  have hR := hc.le
  refine FS.intro (pf := pf84) rfl rfl rfl ?_
  repeat' (first | refine zP ?_ | refine zA ?_ | (refine zM ?_; intro _ _) | refine zX ?_ | (refine zC ?_; intro _ _ _ _) | (refine zS ?_; intro _ _) | (apply Ws <;> intro hg))
  refine WR.cutMax (by first | exact gN | exact gS rfl) rfl rfl hc rfl rfl rfl (Nat.le_of_lt hij) hjl (Nat.le_refl _) (by omega) fun v13 => ?_
  repeat' (first | refine zP ?_ | refine zA ?_ | (refine zM ?_; intro _ _) | refine zX ?_ | (refine zC ?_; intro _ _ _ _) | (refine zS ?_; intro _ _) | refine zO ?_ | (apply Ws <;> intro hg))
  refine WR.op (by first | exact gN | exact gS rfl) rfl (OpV.cutPre rfl hc rfl (by omega) (by omega)) ?_
  repeat' (first | refine zP ?_ | refine zA ?_ | (refine zM ?_; intro _ _) | refine zX ?_ | (refine zC ?_; intro _ _ _ _) | (refine zS ?_; intro _ _) | (apply Ws <;> intro hg))
  refine WR.cutSuf (by first | exact gN | exact gS rfl) rfl rfl hc rfl hjl fun cp' => ?_
  refine WR.appendR (M' := (b, .row 3 u o (ints (ys.take i ++ (ys.drop j).take (len - j) ++ ys.drop (i + (len - j))))) :: M) (by first | exact gN | exact gS rfl) rfl rfl rfl hH .here (by omega) (by omega) (by omega) fun H1 hH1 => ?_
  have hl2 : i + (len - j) = len - (j - i) := by omega
  rw [hl2] at hH1 ⊢
  obtain ⟨zs, hzs⟩ : ∃ zs, ys.take i ++ (ys.drop j).take (len - j) ++ ys.drop (len - (j - i)) = zs := ⟨_, rfl⟩
  rw [hzs] at hH1
  have hzl : zs.length = ys.length := by rw [← hzs]; simp; omega
  have hzt : zs.take (len - (j - i)) = ys.take i ++ (ys.take len).drop j := by
    rw [← hzs, List.take_append_of_le_length (by simp; omega), List.take_of_length_le (by simp; omega), List.drop_take]
  repeat' (first | refine zP ?_ | refine zA ?_ | (refine zM ?_; intro _ _) | refine zX ?_ | (refine zC ?_; intro _ _ _ _) | (refine zS ?_; intro _ _) | (apply Ws <;> intro hg))
  refine WR.cutOver (by first | exact gN | exact gS rfl) rfl rfl (by omega) rfl rfl (by omega) (by omega) fun cp2 => ?_
  refine WR.clrI (M' := (b, .row 3 u o (ints (zs.take (len - (j - i)) ++ List.replicate (len - (len - (j - i))) 0 ++ zs.drop (len - (j - i) + (len - (len - (j - i))))))) :: M) (by first | exact gN | exact gS rfl) rfl hH1 .here (by omega) (by omega) fun H2 hH2 => ?_
  repeat' (first | refine zP ?_ | refine zA ?_ | (refine zM ?_; intro _ _) | refine zX ?_ | (refine zC ?_; intro _ _ _ _) | (refine zS ?_; intro _ _) | (apply Ws <;> intro hg))
  refine Ends.ret1 rfl ⟨_, rfl, hH2, by simp; omega, ?_⟩
  rw [List.append_assoc, List.take_append_of_le_length (by simp; omega), List.take_of_length_le (by simp; omega), hzt]
end
end Go.Proofs.Ytckpocjeikkblaa.St

/- All orders of a list, the first one first, and which one follows which. -/
namespace Go.Mth
set_option linter.unusedVariables false

/-- Each element of a list, with what is before it, and behind it. -/
def splits : List Nat → List (List Nat × Nat × List Nat)
  | [] => []
  | x :: l => ([], x, l) :: (splits l).map fun s => (x :: s.1, s.2.1, s.2.2)

/-- All orders of a list of so many elements. -/
def permsL : Nat → List Nat → List (List Nat)
  | 0, _ => [[]]
  | k + 1, r => (splits r).flatMap fun s => (permsL k (s.1 ++ s.2.2)).map (s.2.1 :: ·)

/-- What follows: behind a place that can be greater all descend; the smallest of them that is greater comes there, and the others ascend. -/
def Next (l m : List Nat) : Prop := ∃ p a d1 y d2, l = p ++ a :: (d1 ++ y :: d2) ∧ m = p ++ y :: (d1 ++ a :: d2).reverse ∧ (d1 ++ y :: d2).Pairwise (· > ·) ∧ a < y ∧ ∀ z ∈ d2, z < a

theorem Next.cons {l m : List Nat} (x : Nat) (h : Next l m) : Next (x :: l) (x :: m) := by
  obtain ⟨p, a, d1, y, d2, h1, h2, h3⟩ := h
  exact ⟨x :: p, a, d1, y, d2, by rw [h1]; rfl, by rw [h2]; rfl, h3⟩

/-- A list in which each one follows the one before; its first, and its last one. -/
inductive Path {α : Type} (R : α → α → Prop) : α → List α → α → Prop where
  | one (a : α) : Path R a [a] a
  | cons {a b c : α} {l : List α} (h : R a b) (k : Path R b l c) : Path R a (a :: l) c

theorem Path.append {α : Type} {R : α → α → Prop} {a b c d : α} {l m : List α} (h : Path R a l b) (r : R b c) (k : Path R c m d) : Path R a (l ++ m) d := by
  induction h with
  | one a => exact .cons r k
  | cons h1 _ ih => exact .cons h1 (ih r)
theorem Path.map {α β : Type} {R : α → α → Prop} {S : β → β → Prop} {f : α → β} (hf : ∀ a b, R a b → S (f a) (f b)) {a b : α} {l : List α} (h : Path R a l b) : Path S (f a) (l.map f) (f b) := by
  induction h with
  | one a => exact .one _
  | cons h1 _ ih => exact .cons (hf _ _ h1) ih
theorem Path.ne {α : Type} {R : α → α → Prop} {a b : α} {l : List α} (h : Path R a l b) : l ≠ [] := by cases h <;> simp
theorem Path.head {α : Type} {R : α → α → Prop} {a b : α} {l : List α} (h : Path R a l b) : l.head? = some a := by cases h <;> rfl
theorem Path.last {α : Type} {R : α → α → Prop} {a b : α} {l : List α} (h : Path R a l b) : l.getLast? = some b := by
  induction h with
  | one a => rfl
  | cons _ k ih => rw [List.getLast?_cons_of_ne_nil k.ne]; exact ih

theorem perms_path : ∀ (k : Nat) (r : List Nat), r.length = k → r.Pairwise (· < ·) → Path Next r (permsL k r) r.reverse := by
  intro k
  induction k with
  | zero =>
    intro r hl _
    have : r = [] := List.length_eq_zero_iff.1 hl
    subst this
    exact .one _
  | succ k ih =>
    have key : ∀ (r2 : List Nat) (r1 : List Nat) (x : Nat), r1.length + r2.length = k → (r1 ++ x :: r2).Pairwise (· < ·) →
        Path Next (x :: (r1 ++ r2)) ((splits (x :: r2)).flatMap fun s => (permsL k (r1 ++ s.1 ++ s.2.2)).map (s.2.1 :: ·)) (r1 ++ x :: r2).reverse := by
      intro r2
      induction r2 with
      | nil =>
        intro r1 x hl hp
        have h1 := ih r1 (by simpa using hl) (List.pairwise_append.1 hp).1
        have h2 := h1.map (S := Next) (f := (x :: ·)) (fun _ _ h => h.cons x)
        simpa [splits] using h2
      | cons y t ih2 =>
        intro r1 x hl hp
        have hsub : (r1 ++ y :: t).Pairwise (· < ·) := hp.sublist (.append (.refl _) (List.sublist_cons_self _ _))
        have h1 := (ih (r1 ++ y :: t) (by simp; simp at hl; omega) hsub).map (S := Next) (f := (x :: ·)) (fun _ _ h => h.cons x)
        have h2 := ih2 (r1 ++ [x]) y (by simp; simp at hl; omega) (by simpa using hp)
        obtain ⟨p1, p2, p3⟩ := List.pairwise_append.1 hp
        have hxy : x < y := (List.pairwise_cons.1 p2).1 y (by simp)
        have link : Next (x :: (r1 ++ y :: t).reverse) (y :: (r1 ++ [x] ++ t)) := by
          refine ⟨[], x, t.reverse, y, r1.reverse, by simp, by simp, ?_, hxy, fun z hz => p3 z (by simpa using hz) x (by simp)⟩
          have := List.pairwise_reverse.2 (hsub.imp (S := fun a b => b > a) (fun h => h))
          simpa using this
        have := h1.append link h2
        have e : (r1 ++ [x] ++ y :: t).reverse = (r1 ++ x :: y :: t).reverse := by simp
        rw [e] at this
        refine cast ?_ this
        congr 1
        simp [splits, List.flatMap_cons, List.flatMap_map, Function.comp_def]
    intro r hl hp
    cases r with
    | nil => simp at hl
    | cons x t =>
      have := key t [] x (by simpa using hl) (by simpa using hp)
      simpa [permsL] using this

/-! Which they are. -/
theorem splits_mem : ∀ {r : List Nat} {s : List Nat × Nat × List Nat}, s ∈ splits r → s.1 ++ s.2.1 :: s.2.2 = r
  | [], s, h => by simp [splits] at h
  | x :: l, s, h => by
    rcases List.mem_cons.1 h with rfl | h
    · rfl
    · obtain ⟨s', h1, rfl⟩ := List.mem_map.1 h
      have := splits_mem h1
      simp [← this]
theorem splits_of : ∀ {r : List Nat} {x : Nat}, x ∈ r → ∃ s ∈ splits r, s.2.1 = x
  | [], x, h => by simp at h
  | y :: l, x, h => by
    rcases List.mem_cons.1 h with rfl | h
    · exact ⟨_, List.mem_cons_self, rfl⟩
    · obtain ⟨s, h1, h2⟩ := splits_of h
      exact ⟨_, List.mem_cons_of_mem _ (List.mem_map.2 ⟨s, h1, rfl⟩), h2⟩

theorem mem_perms : ∀ (k : Nat) (r : List Nat), r.length = k → ∀ {l : List Nat}, l ∈ permsL k r ↔ l.Perm r := by
  intro k
  induction k with
  | zero =>
    intro r hl l
    have : r = [] := List.length_eq_zero_iff.1 hl
    subst this
    simp [permsL]
  | succ k ih =>
    intro r hl l
    have hlen : ∀ s ∈ splits r, (s.1 ++ s.2.2).length = k := fun s hs => by
      have := congrArg List.length (splits_mem hs)
      simp at this ⊢; omega
    have hperm : ∀ s ∈ splits r, r.Perm (s.2.1 :: (s.1 ++ s.2.2)) := fun s hs => by
      have := splits_mem hs
      rw [← this]; exact List.perm_middle
    simp only [permsL, List.mem_flatMap, List.mem_map]
    constructor
    · rintro ⟨s, hs, t, ht, rfl⟩
      exact (((ih _ (hlen s hs)).1 ht).cons _).trans (hperm s hs).symm
    · intro h
      cases l with
      | nil => have := h.length_eq; simp at this; omega
      | cons x t =>
        obtain ⟨s, hs, hx⟩ := splits_of (h.mem_iff.1 (List.mem_cons_self (a := x)))
        refine ⟨s, hs, t, (ih _ (hlen s hs)).2 ?_, by rw [hx]⟩
        have := h.trans (hperm s hs)
        rw [hx] at this
        exact this.cons_inv
end Go.Mth

namespace Go.Proofs.Ytckpocjeikkblaa.St
open Go Go.Abs Go.Mth
set_option linter.unusedVariables false
set_option linter.unusedSimpArgs false
attribute [local irreducible] gOK WS WC WR WD Ends FS YS OpV seqK blockK loopK midK retK rdK asgK rangeEnd sat Cell

section
variable {M : HL} {n0 : Nat} {H : Heap} {o : List Int}

/-- The last ones in the opposite order. -/
theorem RevSuf_fs {b u s k cp : Nat} (hH : hasH ((b, .row 3 u 0 (ints o)) :: M) n0 H) (hol : o.length ≤ 1000) (hs : s + k = o.length) :
    FS C 51 [.slice (some ⟨b, s, some u⟩) k cp] H (fun e H' => hasH ((b, .row 3 u 0 (ints (o.take s ++ (o.drop s).reverse))) :: M) n0 H') := by
  refine FS.intro (pf := pf51) rfl rfl rfl ?_
  repeat' (first | refine zP ?_ | refine zA ?_ | (refine zM ?_; intro _ _) | refine zX ?_ | (refine zC ?_; intro _ _ _ _) | (refine zS ?_; intro _ _) | (apply Ws <;> intro hg))
  refine WC.loopX [(0, .slice (some ⟨b, s, some u⟩) k cp)] (fun q : Nat × List Int => [(2, .int .i64 (q.1 : Int)), (3, .int .i64 ((k : Int) - 1 - q.1))]) []
    (fun q H' => hasH ((b, .row 3 u 0 (ints q.2)) :: M) n0 H' ∧ 2 * q.1 ≤ k ∧ q.2.length = o.length ∧ ∀ i, i < o.length → q.2.getD i 0 = if s ≤ i ∧ (i < s + q.1 ∨ s + k - q.1 ≤ i) then o.getD (2 * s + k - 1 - i) 0 else o.getD i 0) (fun q => k - q.1) (0, o) ?_ rfl
    ⟨hH, Nat.zero_le _, rfl, fun i hi => by simp only; rw [if_neg (by omega)]⟩ ?_
  · refine .cons rfl (.cons ?_ (.cons rfl .nil))
    show some (Value.int .i64 ((k : Int) - 1)) = some (.int .i64 ((k : Int) - 1 - ((0 : Nat) : Int)))
    simp
  clear hH
  rintro ⟨q, ys⟩ H1 ⟨hH1, hq, hyl, hys⟩
  simp only at hH1 hq hyl hys
  dsimp only [List.cons_append, List.nil_append]
  repeat' (first | refine zP ?_ | refine zA ?_ | (refine zM ?_; intro _ _) | refine zX ?_ | (refine zC ?_; intro _ _ _ _) | (refine zS ?_; intro _ _) | (apply Ws <;> intro hg))
  refine WC.condP rfl (fun hlt => ?_) (fun hlt => ?_)
  · have hq' : q < k := by omega
    obtain ⟨j, hj⟩ : ∃ j : Nat, (k : Int) - 1 - q = j := ⟨k - 1 - q, by omega⟩
    rw [hj]
    repeat' (first | refine zP ?_ | refine zA ?_ | (refine zM ?_; intro _ _) | refine zX ?_ | (refine zC ?_; intro _ _ _ _) | (refine zS ?_; intro _ _) | (apply Ws <;> intro hg))
    rename_i H2 hH2
    have hl2 : (ys.set (s + q) (ys.getD (s + j) 0)).length = o.length := by simp [hyl]
    repeat' (first | refine zP ?_ | refine zA ?_ | (refine zM ?_; intro _ _) | refine zX ?_ | (refine zC ?_; intro _ _ _ _) | (refine zS ?_; intro _ _) | (apply Ws <;> intro hg))
    rename_i H3 hH3
    rw [show (j : Int) - 1 = (k : Int) - 1 - ((q + 1 : Nat) : Int) by omega]
    refine Ends.loop (q + 1, (ys.set (s + q) (ys.getD (s + j) 0)).set (s + j) (ys.getD (s + q) 0)) (by simp only; omega) (by repeat' (first | exact .nil | refine .cons rfl ?_)) rfl ⟨hH3, by simp only; omega, by simp [hyl], fun i hi => ?_⟩
    simp only
    rw [getD_set' (by omega), getD_set' (by omega)]
    have hjk := hys (s + j) (by omega)
    have hkk := hys (s + q) (by omega)
    rw [if_neg (by omega)] at hjk hkk
    by_cases h1 : i = s + j
    · rw [if_pos h1, if_pos (by omega), hkk]; congr 1; omega
    · rw [if_neg h1]
      by_cases h2 : i = s + q
      · rw [if_pos h2, if_pos (by omega), hjk]; congr 1; omega
      · rw [if_neg h2, hys i hi]
        by_cases h3 : s ≤ i ∧ (i < s + q ∨ s + k - q ≤ i)
        · rw [if_pos h3, if_pos (by omega)]
        · rw [if_neg h3, if_neg (by omega)]
  · have hre : ys = o.take s ++ (o.drop s).reverse := by
      refine ext_getD (a := 0) (by simp [hyl]; omega) fun i hi => ?_
      rw [hys i (by omega)]
      by_cases h0 : i < s
      · rw [if_neg (by omega), getD_app_l (by simp; omega), getD_take h0]
      · have h4 : (o.take s ++ (o.drop s).reverse).getD i 0 = o.getD (2 * s + k - 1 - i) 0 := by
          rw [List.getD_eq_getElem?_getD, List.getElem?_append_right (by simp; omega), List.getD_eq_getElem?_getD]
          congr 1
          rw [List.getElem?_reverse (by simp; omega), List.getElem?_drop]
          congr 1
          simp; omega
        rw [h4]
        by_cases h3 : s ≤ i ∧ (i < s + q ∨ s + k - q ≤ i)
        · rw [if_pos h3]
        · rw [if_neg h3]; congr 1; omega
    subst hre
    repeat' (first | refine zP ?_ | refine zA ?_ | (refine zM ?_; intro _ _) | refine zX ?_ | (refine zC ?_; intro _ _ _ _) | (refine zS ?_; intro _ _) | (apply Ws <;> intro hg))
    exact Ends.end0 hH1

/-- Numbers as they lie in a row. -/
def castI (l : List Nat) : List Int := l.map fun (x : Nat) => (x : Int)
theorem nodesC (l : List Nat) : nodes l = ints (castI l) := nodesI l
theorem castI_len (l : List Nat) : (castI l).length = l.length := by simp [castI]
theorem castI_rev (l : List Nat) (s : Nat) : (castI l).take s ++ ((castI l).drop s).reverse = castI (l.take s ++ (l.drop s).reverse) := by
  simp [castI, List.map_take, List.map_drop, List.map_reverse]

/-- All descend: there is none behind it. -/
theorem adv_last {b : Nat} {l : List Nat} (hH : hasH ((b, .row 3 0 0 (nodes l)) :: M) n0 H) (hl : l.length ≤ 1000) (hd : l.Pairwise (· > ·)) :
    FS C 115 [.slice (some ⟨b, 0, some 0⟩) l.length (2 * l.length + 1)] H (fun e H' => e = .bool false ∧ hasH ((b, .row 3 0 0 (nodes l)) :: M) n0 H') := by
  refine FS.intro (pf := pf115) rfl rfl rfl ?_
  have hget : ∀ i, i + 1 < l.length → l.getD (i + 1) 0 < l.getD i 0 := fun i hi => by
    rw [getD_eq hi, getD_eq (show i < l.length by omega)]
    exact List.pairwise_iff_getElem.1 hd i (i + 1) (by omega) hi (by omega)
  repeat' (first | refine zP ?_ | refine zA ?_ | (refine zM ?_; intro _ _) | refine zX ?_ | (refine zC ?_; intro _ _ _ _) | (refine zS ?_; intro _ _) | (apply Ws <;> intro hg))
  refine WC.loopX [(0, .slice (some ⟨b, 0, some 0⟩) l.length (2 * l.length + 1))] (fun k : Int => [(3, .int .i64 k)]) [] (fun k H' => H' = H ∧ -2 ≤ k ∧ k ≤ (l.length : Int) - 2) (fun k => (k + 3).toNat) ((l.length : Int) - 2) (by repeat' (first | exact .nil | refine .cons rfl ?_)) rfl ⟨rfl, by omega, Int.le_refl _⟩ ?_
  rintro k HA ⟨rfl, hk1, hk2⟩
  dsimp only [List.cons_append, List.nil_append]
  by_cases h0 : 0 ≤ k
  · obtain ⟨q, rfl⟩ : ∃ q : Nat, k = q := ⟨k.toNat, by omega⟩
    have := hget q (by omega)
    repeat' (first | refine zP ?_ | refine zA ?_ | (refine zM ?_; intro _ _) | refine zX ?_ | (refine zC ?_; intro _ _ _ _) | (refine zS ?_; intro _ _) | refine zO ?_ | (apply Ws <;> intro hg))
    exact Ends.loop ((q : Int) - 1) (by omega) (by repeat' (first | exact .nil | refine .cons rfl ?_)) rfl ⟨rfl, by omega, by omega⟩
  · repeat' (first | refine zP ?_ | refine zA ?_ | (refine zM ?_; intro _ _) | refine zX ?_ | (refine zC ?_; intro _ _ _ _) | (refine zS ?_; intro _ _) | refine zO ?_ | (apply Ws <;> intro hg))
    exact Ends.ret1 rfl ⟨rfl, hH⟩

/-- There is one behind it. -/
theorem adv_next {b : Nat} {l m : List Nat} (hH : hasH ((b, .row 3 0 0 (nodes l)) :: M) n0 H) (hl : l.length ≤ 1000) (hN : Go.Mth.Next l m) :
    FS C 115 [.slice (some ⟨b, 0, some 0⟩) l.length (2 * l.length + 1)] H (fun e H' => e = .bool true ∧ hasH ((b, .row 3 0 0 (nodes m)) :: M) n0 H') := by
  obtain ⟨p, a, d1, y, d2, hle, hme, hdesc, hay, hd2⟩ := hN
  have hlen : l.length = p.length + 1 + (d1.length + 1 + d2.length) := by rw [hle]; simp; omega
  have hA : l.getD p.length 0 = a := by rw [hle, List.getD_eq_getElem?_getD, List.getElem?_append_right (Nat.le_refl _)]; simp
  have hat : ∀ i, i < d1.length + 1 + d2.length → l.getD (p.length + 1 + i) 0 = (d1 ++ y :: d2).getD i 0 := fun i hi => by
    rw [hle, List.getD_eq_getElem?_getD, List.getElem?_append_right (by omega), show p.length + 1 + i - p.length = i + 1 by omega, List.getElem?_cons_succ, List.getD_eq_getElem?_getD]
  have hdl : (d1 ++ y :: d2).length = d1.length + 1 + d2.length := by simp; omega
  have hF1 : ∀ i, p.length < i → i + 1 < l.length → l.getD (i + 1) 0 < l.getD i 0 := fun i h1 h2 => by
    have e1 := hat (i - p.length - 1) (by omega)
    have e2 := hat (i - p.length) (by omega)
    rw [show p.length + 1 + (i - p.length - 1) = i by omega] at e1
    rw [show p.length + 1 + (i - p.length) = i + 1 by omega] at e2
    rw [e1, e2, getD_eq (by omega), getD_eq (by omega)]
    exact List.pairwise_iff_getElem.1 hdesc _ _ (by omega) (by omega) (by omega)
  have hY : l.getD (p.length + 1 + d1.length) 0 = y := by
    rw [hat _ (by omega), List.getD_eq_getElem?_getD, List.getElem?_append_right (Nat.le_refl _)]; simp
  have hF2 : a < l.getD (p.length + 1) 0 := by
    rcases Nat.eq_zero_or_pos d1.length with h | h
    · have := hY; rw [h, Nat.add_zero] at this; rw [this]; exact hay
    · have e1 := hat 0 (by omega)
      rw [Nat.add_zero] at e1
      have e2 := hat d1.length (by omega)
      rw [hY] at e2
      have h3 := List.pairwise_iff_getElem.1 hdesc 0 d1.length (by omega) (by omega) h
      have e3 : (d1 ++ y :: d2).getD 0 0 = (d1 ++ y :: d2)[0] := getD_eq (by omega)
      have e4 : (d1 ++ y :: d2).getD d1.length 0 = (d1 ++ y :: d2)[d1.length] := getD_eq (by omega)
      omega
  have hF3 : ∀ i, p.length + 1 + d1.length < i → i < l.length → l.getD i 0 < a := fun i h1 h2 => by
    have e1 := hat (i - p.length - 1) (by omega)
    rw [show p.length + 1 + (i - p.length - 1) = i by omega] at e1
    rw [e1, List.getD_eq_getElem?_getD, List.getElem?_append_right (by omega), show i - p.length - 1 - d1.length = (i - p.length - 2 - d1.length) + 1 by omega, List.getElem?_cons_succ, ← List.getD_eq_getElem?_getD]
    exact hd2 _ (getD_mem (by omega))
  refine FS.intro (pf := pf115) rfl rfl rfl ?_
  repeat' (first | refine zP ?_ | refine zA ?_ | (refine zM ?_; intro _ _) | refine zX ?_ | (refine zC ?_; intro _ _ _ _) | (refine zS ?_; intro _ _) | (apply Ws <;> intro hg))
  refine WC.loopX [(0, .slice (some ⟨b, 0, some 0⟩) l.length (2 * l.length + 1))] (fun k : Nat => [(3, .int .i64 (k : Int))]) [] (fun k H' => H' = H ∧ p.length ≤ k ∧ k + 2 ≤ l.length) (fun k => k) (l.length - 2) ?_ rfl ⟨rfl, by omega, by omega⟩ ?_
  · refine .cons ?_ (.cons rfl .nil)
    show some (Value.int .i64 ((l.length : Int) - 2)) = some (.int .i64 ((l.length - 2 : Nat) : Int))
    congr 2; omega
  rintro q HA ⟨rfl, hq1, hq2⟩
  dsimp only [List.cons_append, List.nil_append]
  by_cases h0 : q = p.length
  · subst h0
    rw [← hA] at hF2
    repeat' (first | refine zP ?_ | refine zA ?_ | (refine zM ?_; intro _ _) | refine zX ?_ | (refine zC ?_; intro _ _ _ _) | (refine zS ?_; intro _ _) | refine zO ?_ | (apply Ws <;> intro hg))
    refine WC.loopX [(0, .slice (some ⟨b, 0, some 0⟩) l.length (2 * l.length + 1)), (3, .int .i64 (p.length : Int))] (fun k : Nat => [(4, .int .i64 (k : Int))]) [] (fun k H' => hasH ((b, .row 3 0 0 (nodes l)) :: M) n0 H' ∧ p.length + 1 + d1.length ≤ k ∧ k < l.length) (fun k => k) (l.length - 1) ?_ rfl ⟨hH, by omega, by omega⟩ ?_
    · refine .cons ?_ (.cons rfl (.cons rfl .nil))
      show some (Value.int .i64 ((l.length : Int) - 1)) = some (.int .i64 ((l.length - 1 : Nat) : Int))
      congr 2; omega
    clear hH
    rintro j HB ⟨hHB, hj1, hj2⟩
    dsimp only [List.cons_append, List.nil_append]
    by_cases hj : j = p.length + 1 + d1.length
    · have hjy : l.getD j 0 = y := by rw [hj]; exact hY
      have hjg : l.getD p.length 0 < l.getD j 0 := by omega
      have hl2 : (l.set p.length (l.getD j 0)).length = l.length := by simp
      have h3 : (l.set p.length (l.getD j 0)).set j (l.getD p.length 0) = p ++ y :: (d1 ++ a :: d2) := by
        rw [hjy, hA, hle, hj, List.set_append_right _ _ (Nat.le_refl _), Nat.sub_self, List.set_cons_zero, List.set_append_right _ _ (by omega), show p.length + 1 + d1.length - p.length = d1.length + 1 by omega, List.set_cons_succ,
          List.set_append_right _ _ (Nat.le_refl _), Nat.sub_self, List.set_cons_zero]
      repeat' (first | refine zP ?_ | refine zA ?_ | (refine zM ?_; intro _ _) | refine zX ?_ | (refine zC ?_; intro _ _ _ _) | (refine zS ?_; intro _ _) | refine zO ?_ | (apply Ws <;> intro hg))
      rename_i H3 hH3
      refine WR.op (by first | exact gN | exact gS rfl) rfl (OpV.slLoK (a := p.length + 1) rfl rfl (by omega) (Nat.le_refl _) (by omega)) ?_
      replace hH3 : hasH ((b, .row 3 0 0 (ints (castI ((l.set p.length (l.getD j 0)).set j (l.getD p.length 0))))) :: M) n0 H3 := by rw [← nodesC]; exact hH3
      rw [h3] at hH3
      have hm3 : (p ++ y :: (d1 ++ a :: d2)).length = l.length := by simp; omega
      refine WR.call (by first | exact gN | exact gS rfl) rfl rfl (RevSuf_fs (s := 0 + (p.length + 1)) hH3 (by rw [castI_len]; omega) (by rw [castI_len]; omega)) ?_
      intro e4 H4 hH4
      rw [castI_rev, ← nodesC] at hH4
      have h5 : (p ++ y :: (d1 ++ a :: d2)).take (0 + (p.length + 1)) ++ ((p ++ y :: (d1 ++ a :: d2)).drop (0 + (p.length + 1))).reverse = m := by
        rw [hme, Nat.zero_add, show p ++ y :: (d1 ++ a :: d2) = (p ++ [y]) ++ (d1 ++ a :: d2) by simp, List.take_left' (by simp), List.drop_left' (by simp)]; simp
      rw [h5] at hH4
      repeat' (first | refine zP ?_ | refine zA ?_ | (refine zM ?_; intro _ _) | refine zX ?_ | (refine zC ?_; intro _ _ _ _) | (refine zS ?_; intro _ _) | refine zO ?_ | (apply Ws <;> intro hg))
      exact Ends.ret1 rfl ⟨rfl, hH4⟩
    · have := hF3 j (by omega) (by omega)
      rw [← hA] at this
      repeat' (first | refine zP ?_ | refine zA ?_ | (refine zM ?_; intro _ _) | refine zX ?_ | (refine zC ?_; intro _ _ _ _) | (refine zS ?_; intro _ _) | refine zO ?_ | (apply Ws <;> intro hg))
      rw [show (j : Int) - 1 = ((j - 1 : Nat) : Int) by omega]
      exact Ends.loop (j - 1) (by omega) (by repeat' (first | exact .nil | refine .cons rfl ?_)) rfl ⟨hHB, by omega, by omega⟩
  · have := hF1 q (by omega) (by omega)
    repeat' (first | refine zP ?_ | refine zA ?_ | (refine zM ?_; intro _ _) | refine zX ?_ | (refine zC ?_; intro _ _ _ _) | (refine zS ?_; intro _ _) | refine zO ?_ | (apply Ws <;> intro hg))
    rw [show (q : Int) - 1 = ((q - 1 : Nat) : Int) by omega]
    exact Ends.loop (q - 1) (by omega) (by repeat' (first | exact .nil | refine .cons rfl ?_)) rfl ⟨rfl, by omega, by omega⟩
end
end Go.Proofs.Ytckpocjeikkblaa.St

namespace Go.Proofs.Ytckpocjeikkblaa.St
open Go Go.Abs Go.Mth
set_option linter.unusedVariables false
set_option linter.unusedSimpArgs false
attribute [local irreducible] gOK WS WC WR WD Ends FS YS OpV seqK blockK loopK midK retK rdK asgK rangeEnd sat Cell

section
variable {M : HL} {n0 : Nat} {H : Heap}

/-- All orders are handed over, one after another, in one row, as long as more are asked for. -/
theorem all_fs {l bn u e N : Nat} {J : List (List Nat) → HL → Nat → Prop} {S : HL → Nat → Prop}
    (hH : hasH M n0 H) (hmN : (bn, .row e u 0 [.int .i64 (N : Int)]) ∈ M) (hN : N ≤ 1000) (hJ : J (permsL N (List.range N)) M (n0 + 1))
    (hy : ∀ z zs M' n' H', J (z :: zs) M' n' → z.length = N → hasH ((n0, .row 3 0 0 (nodes z)) :: M') n' H' → YS C l [.slice (some ⟨n0, 0, some 0⟩) N (2 * N + 1)] H'
      (fun v H2 => ∃ M2 n2, hasH ((n0, .row 3 0 0 (nodes z)) :: M2) n2 H2 ∧ ((v = .bool true ∧ J zs M2 n2) ∨ (v = .bool false ∧ S M2 n2)))) :
    FS C 114 [.func (.yield l) #[] #[], .pointer (some ⟨bn, 0, some u⟩)] H (fun _ H' => ∃ M' n' z, hasH ((n0, .row 3 0 0 (nodes z)) :: M') n' H' ∧ (J [] M' n' ∨ S M' n')) := by
  refine FS.intro (pf := pf114) rfl rfl rfl ?_
  repeat' (first | refine zP ?_ | refine zA ?_ | (refine zM ?_; intro _ _) | refine zX ?_ | (refine zC ?_; intro _ _ _ _) | (refine zS ?_; intro _ _) | (apply Ws <;> intro hg))
  refine WR.mkS (by first | exact gN | exact gS rfl) rfl hH rfl rfl (by omega) rfl fun H1 hH1 => ?_
  clear hH
  replace hH1 : hasH ((n0, .row 3 0 0 (nodes (List.replicate N 0))) :: M) (n0 + 1) H1 := by
    rw [show nodes (List.replicate N 0) = List.replicate N (Value.int .i64 0) by simp [nodes]]; exact hH1
  repeat' (first | refine zP ?_ | refine zA ?_ | (refine zM ?_; intro _ _) | refine zX ?_ | (refine zC ?_; intro _ _ _ _) | (refine zS ?_; intro _ _) | (apply Ws <;> intro hg))
  refine WC.loopX [(0, .func (.yield l) #[] #[]), (3, .slice (some ⟨n0, 0, some 0⟩) N (2 * N + 1)), (9, .int .i64 (N : Int))] (fun q : Nat × List Nat => [(10, .int .i64 (q.1 : Int))]) []
    (fun q H' => hasH ((n0, .row 3 0 0 (nodes q.2)) :: M) (n0 + 1) H' ∧ q.1 ≤ N ∧ q.2.length = N ∧ ∀ i, i < q.1 → q.2.getD i 0 = i) (fun q => N - q.1) (0, List.replicate N 0) (by repeat' (first | exact .nil | refine .cons rfl ?_)) rfl
    ⟨hH1, Nat.zero_le _, by simp, fun i hi => absurd hi (Nat.not_lt_zero _)⟩ ?_
  clear hH1
  rintro ⟨k, xs⟩ H2 ⟨hH2, hk, hxl, hxs⟩
  simp only at hH2 hk hxl hxs
  dsimp only [List.cons_append, List.nil_append]
  repeat' (first | refine zP ?_ | refine zA ?_ | (refine zM ?_; intro _ _) | refine zX ?_ | (refine zC ?_; intro _ _ _ _) | (refine zS ?_; intro _ _) | (apply Ws <;> intro hg))
  refine WC.condP rfl (fun hlt => ?_) (fun hlt => ?_)
  · have hk' : k < N := by omega
    repeat' (first | refine zP ?_ | refine zA ?_ | (refine zM ?_; intro _ _) | refine zX ?_ | (refine zC ?_; intro _ _ _ _) | (refine zS ?_; intro _ _) | (apply Ws <;> intro hg))
    rename_i H3 hH3
    refine Ends.loop (k + 1, xs.set k k) (by simp only; omega) (by repeat' (first | exact .nil | refine .cons rfl ?_)) rfl ⟨hH3, by simp only; omega, by simp [hxl], fun i hi => ?_⟩
    simp only at hi ⊢
    rw [getD_set' (by omega)]
    split
    · omega
    · exact hxs i (by omega)
  · have hxr : xs = List.range N := by
      refine ext_getD (a := 0) (by simp [hxl]) fun i hi => ?_
      rw [hxs i (by omega), getD_eq (by simp; omega)]
      simp
    subst hxr
    repeat' (first | refine zP ?_ | refine zA ?_ | (refine zM ?_; intro _ _) | refine zX ?_ | (refine zC ?_; intro _ _ _ _) | (refine zS ?_; intro _ _) | (apply Ws <;> intro hg))
    have hp := perms_path N (List.range N) (by simp) List.pairwise_lt_range
    obtain ⟨rest, hrest⟩ : ∃ rest, permsL N (List.range N) = List.range N :: rest := List.head?_eq_some_iff.1 hp.head
    rw [hrest] at hp hJ
    clear hrest hmN hxs hlt hk
    generalize hz0 : List.range N = z0 at hp hJ hH2 hxl
    refine WC.loopX [(0, .func (.yield l) #[] #[]), (3, .slice (some ⟨n0, 0, some 0⟩) N (2 * N + 1))] (fun q : Bool × List Nat × List (List Nat) × HL × Nat => [(5, .bool q.1)]) []
      (fun q H' => q.2.1.length = N ∧ hasH ((n0, .row 3 0 0 (nodes q.2.1)) :: q.2.2.2.1) q.2.2.2.2 H' ∧ (q.1 = true → Path Go.Mth.Next q.2.1 (q.2.1 :: q.2.2.1) z0.reverse ∧ J (q.2.1 :: q.2.2.1) q.2.2.2.1 q.2.2.2.2) ∧ (q.1 = false → J [] q.2.2.2.1 q.2.2.2.2))
      (fun q => if q.1 then q.2.2.1.length + 1 else 0) (true, z0, rest, M, n0 + 1) (by repeat' (first | exact .nil | refine .cons rfl ?_)) rfl ⟨hxl, hH2, fun _ => ⟨hp, hJ⟩, fun h => Bool.noConfusion h⟩ ?_
    have hdes : z0.reverse.Pairwise (· > ·) := by
      rw [← hz0, List.pairwise_reverse]; exact List.pairwise_lt_range
    clear hH2 hp hJ hxl
    rintro ⟨more, z, zs, M1, n1⟩ H3 ⟨hz, hH3, ht, hf⟩
    simp only at hz hH3 ht hf
    dsimp only [List.cons_append, List.nil_append]
    cases more
    · repeat' (first | refine zP ?_ | refine zA ?_ | (refine zM ?_; intro _ _) | refine zX ?_ | (refine zC ?_; intro _ _ _ _) | (refine zS ?_; intro _ _) | refine zO ?_ | (apply Ws <;> intro hg))
      exact Ends.end0 ⟨M1, n1, z, hH3, .inl (hf rfl)⟩
    · obtain ⟨hp, hJ⟩ := ht rfl
      clear ht hf
      repeat' (first | refine zP ?_ | refine zA ?_ | (refine zM ?_; intro _ _) | refine zX ?_ | (refine zC ?_; intro _ _ _ _) | (refine zS ?_; intro _ _) | (apply Ws <;> intro hg))
      refine WR.yield (by first | exact gN | exact gS rfl) rfl rfl rfl (hy z zs M1 n1 _ hJ hz hH3) ?_
      clear hH3
      rintro v H4 ⟨M2, n2, hH4, ⟨rfl, hJ2⟩ | ⟨rfl, hS⟩⟩
      · repeat' (first | refine zP ?_ | refine zA ?_ | (refine zM ?_; intro _ _) | refine zX ?_ | (refine zC ?_; intro _ _ _ _) | (refine zS ?_; intro _ _) | refine zO ?_ | (apply Ws <;> intro hg))
        cases hp with
        | one =>
          have hL := adv_last hH4 (by omega) hdes
          rw [hz] at hL
          refine WR.call (by first | exact gN | exact gS rfl) rfl rfl hL ?_
          rintro v H5 ⟨rfl, hH5⟩
          repeat' (first | refine zP ?_ | refine zA ?_ | (refine zM ?_; intro _ _) | refine zX ?_ | (refine zC ?_; intro _ _ _ _) | (refine zS ?_; intro _ _) | refine zO ?_ | (apply Ws <;> intro hg))
          exact Ends.loop (false, z0.reverse, [], M2, n2) (by simp) (by repeat' (first | exact .nil | refine .cons rfl ?_)) rfl ⟨hz, hH5, fun h => Bool.noConfusion h, fun _ => hJ2⟩
        | cons hN1 hp2 =>
          rename_i z2
          obtain ⟨zs2, rfl⟩ := List.head?_eq_some_iff.1 hp2.head
          have hz2 : z2.length = N := by
            obtain ⟨p, a, d1, y, d2, h1, h2, _⟩ := hN1
            rw [← hz, h1, h2]; simp; omega
          have hL := adv_next hH4 (by omega) hN1
          rw [hz] at hL
          refine WR.call (by first | exact gN | exact gS rfl) rfl rfl hL ?_
          rintro v H5 ⟨rfl, hH5⟩
          repeat' (first | refine zP ?_ | refine zA ?_ | (refine zM ?_; intro _ _) | refine zX ?_ | (refine zC ?_; intro _ _ _ _) | (refine zS ?_; intro _ _) | refine zO ?_ | (apply Ws <;> intro hg))
          exact Ends.loop (true, z2, zs2, M2, n2) (by simp) (by repeat' (first | exact .nil | refine .cons rfl ?_)) rfl ⟨hz2, hH5, fun _ => ⟨hp2, hJ2⟩, fun h => Bool.noConfusion h⟩
      · repeat' (first | refine zP ?_ | refine zA ?_ | (refine zM ?_; intro _ _) | refine zX ?_ | (refine zC ?_; intro _ _ _ _) | (refine zS ?_; intro _ _) | refine zO ?_ | (apply Ws <;> intro hg))
        exact Ends.ret0 ⟨M2, n2, z, hH4, .inr hS⟩
end
end Go.Proofs.Ytckpocjeikkblaa.St

namespace Go.Proofs.Ytckpocjeikkblaa.St
open Go Go.Abs Go.Mth
set_option linter.unusedVariables false
set_option linter.unusedSimpArgs false
attribute [local irreducible] gOK WS WC WR WD Ends FS YS OpV seqK blockK loopK midK retK rdK asgK rangeEnd sat Cell

section
variable {M : HL} {n0 : Nat} {H : Heap}

theorem allOrders_fs (hH : hasH M n0 H) (N : Int) : FS C 92 [.int .i64 N] H (fun v H' => v = .func (.func 114) #[] #[.pointer (some ⟨n0, 0, some 0⟩)] ∧ hasH ((n0, .row 3 0 0 [.int .i64 N]) :: M) (n0 + 1) H') := by
  refine FS.intro (pf := pf92) rfl rfl rfl ?_
  repeat' (first | refine zP ?_ | refine zA ?_ | (refine zM ?_; intro _ _) | refine zX ?_ | (refine zC ?_; intro _ _ _ _) | (refine zS ?_; intro _ _) | (apply Ws <;> intro hg))
  exact Ends.ret1 rfl ⟨rfl, by assumption⟩

theorem mem5 {p a b c d e : Nat × Ch} {n : Nat} (h : hasH (a :: b :: c :: d :: e :: M) n H) (hp : p ∈ M) : p ∈ a :: b :: c :: d :: e :: M :=
  .tail _ (.tail _ (.tail _ (.tail _ (.tail _ hp))))

/-- Of all orders, those that answer a question by yes are handed over. -/
theorem with_fs {lY bn bq e u eq uq N : Nat} {g : FuncId} {va : List Value} {q : List Nat → Bool} {B : HL} {J : List (List Nat) → HL → Nat → Prop} {S : HL → Nat → Prop}
    (hH : hasH M n0 H) (hN : N ≤ 1000) (hmN : (bn, Ch.row e u 0 [.int .i64 (N : Int)]) ∈ B) (hmQ : (bq, Ch.row eq uq 0 [.func (.func g) va.toArray [].toArray]) ∈ B)
    (hB : ∀ zs M' n', J zs M' n' → ∀ p ∈ B, p ∈ M') (hJ : J ((permsL N (List.range N)).filter q) M (n0 + 5))
    (hq : ∀ z T n' H', z ∈ permsL N (List.range N) → z.length = N → (n0 + 4, Ch.row 3 0 0 (nodes z)) ∈ T → (∀ p ∈ B, p ∈ T) → hasH T n' H' → FS C g (va ++ [.slice (some ⟨n0 + 4, 0, some 0⟩) N (2 * N + 1)] ++ []) H' (fun v H2 => v = .bool (q z) ∧ H2 = H'))
    (hy : ∀ z zs Mc T n' H', J (z :: zs) Mc n' → z ∈ permsL N (List.range N) → z.length = N → (n0 + 4, Ch.row 3 0 0 (nodes z)) ∈ T → hasH (Mc ++ T) n' H' → YS C lY [.slice (some ⟨n0 + 4, 0, some 0⟩) N (2 * N + 1)] H'
      (fun v H2 => ∃ M2 n2, hasH (M2 ++ T) n2 H2 ∧ ((v = .bool true ∧ J zs M2 n2) ∨ (v = .bool false ∧ S M2 n2)))) :
    FS C 91 [.func (.yield lY) #[] #[], .pointer (some ⟨bn, 0, some u⟩), .pointer (some ⟨bq, 0, some uq⟩)] H (fun _ H' => ∃ M' n', hasH M' n' H' ∧ (J [] M' n' ∨ S M' n')) := by
  refine FS.intro (pf := pf91) rfl rfl rfl ?_
  have mN := hB _ _ _ hJ _ hmN
  repeat' (first | refine zP ?_ | refine zA ?_ | (refine zM ?_; intro _ _) | refine zX ?_ | (refine zC ?_; intro _ _ _ _) | (refine zS ?_; intro _ _) | (apply Ws <;> intro hg))
  rename_i H1 hH1
  refine WR.call (by first | exact gN | exact gS rfl) rfl rfl (allOrders_fs hH1 N) ?_
  clear hH hH1
  rintro _ H2 ⟨rfl, hH2⟩
  repeat' (first | refine zP ?_ | refine zA ?_ | (refine zM ?_; intro _ _) | refine zX ?_ | (refine zC ?_; intro _ _ _ _) | (refine zS ?_; intro _ _) | (apply Ws <;> intro hg))
  refine WC.range0 (va := []) (vb := [.pointer (some ⟨n0 + 1, 0, some 0⟩)]) rfl hH2 fun t ht H3 hH3 => ?_
  generalize hR : ({ state := .ready, pending := none, fn := 91, tmps := t, params := [7], assign := _, body := _, nt := _ } : LoopE) = R at hH3
  refine FS.mono (all_fs (l := n0 + 1 + 1 + 1) (N := N) (e := 3) (J := fun zs M' n' => (∀ z ∈ zs, z ∈ permsL N (List.range N)) ∧ ∃ Mc, M' = (n0 + 1 + 1 + 1, .loop R) :: (n0 + 1 + 1, .defd false) :: (n0 + 1, .row 3 0 0 [.int .i64 N]) :: (n0, .row 87 0 0 [.func (.yield lY) #[] #[]]) :: Mc ∧ J (zs.filter q) Mc n')
    (S := fun M' n' => ∃ Mc, M' = (n0 + 1 + 1 + 1, .loop { R with state := .done, pending := some .ret }) :: (n0 + 1 + 1, .defd false) :: (n0 + 1, .row 3 0 0 [.int .i64 N]) :: (n0, .row 87 0 0 [.func (.yield lY) #[] #[]]) :: Mc ∧ S Mc n') hH3 (.tail _ (.tail _ (.head _))) hN ⟨fun z hz => hz, M, rfl, hJ⟩ ?_) ?_
  · rintro z zs _ n' H4 ⟨hps, Mc, rfl, hJz⟩ hz hH4
    refine YS.intro hH4 (.tail _ (.head _)) (by rw [← hR]) (by rw [← hR]) (by rw [← hR]; rfl) (by rw [← hR]; exact ht) ?_
    subst hR
    dsimp only
    repeat' (first | refine zA ?_ | (refine zM ?_; intro _ _) | (apply Ws <;> intro hg))
    refine Ends.asg hH4 (.there .here) fun H5 hH5 => ?_
    dsimp only
    have mQ := mem5 hH5 (hB _ _ _ hJz _ hmQ)
    repeat' (first | refine zA ?_ | (refine zM ?_; intro _ _) | (apply Ws <;> intro hg))
    refine WR.callV (vb := []) (by first | exact gN | exact gS rfl) rfl rfl rfl (hq z _ _ _ (hps z (.head _)) hz (.head _) (fun p hp => mem5 hH5 (hB _ _ _ hJz p hp)) hH5) ?_
    rintro _ _ ⟨rfl, rfl⟩
    cases hqz : q z with
    | false =>
      rw [List.filter_cons_of_neg (by simp [hqz])] at hJz
      repeat' (first | refine zA ?_ | (refine zM ?_; intro _ _) | (apply Ws <;> intro hg))
      exact Ends.rd rfl rfl rfl hH5 (.there .here) fun H' h' => ⟨_, _, h', .inl ⟨rfl, fun x hx => hps x (.tail _ hx), Mc, rfl, hJz⟩⟩
    | true =>
      rw [List.filter_cons_of_pos (by simp [hqz])] at hJz
      repeat' (first | refine zA ?_ | (refine zM ?_; intro _ _) | (apply Ws <;> intro hg))
      refine WR.yield (by first | exact gN | exact gS rfl) rfl rfl rfl (hy z (zs.filter q) Mc _ n' _ hJz (hps z (.head _)) hz (.head _) (hH5.perm (M' := Mc ++ [_, _, _, _, _]) (List.perm_append_comm (l₁ := [_, _, _, _, _])))) ?_
      rintro v H6 ⟨M2, n2, hH6, ⟨rfl, hJ2⟩ | ⟨rfl, hS⟩⟩
      · replace hH6 := hH6.perm (M' := _ :: _ :: _ :: _ :: _ :: M2) (List.perm_append_comm (l₁ := M2))
        repeat' (first | refine zA ?_ | (refine zM ?_; intro _ _) | (apply Ws <;> intro hg))
        exact Ends.rd rfl rfl rfl hH6 (.there .here) fun H' h' => ⟨_, _, h', .inl ⟨rfl, fun x hx => hps x (.tail _ hx), M2, rfl, hJ2⟩⟩
      · replace hH6 := hH6.perm (M' := _ :: _ :: _ :: _ :: _ :: M2) (List.perm_append_comm (l₁ := M2))
        repeat' (first | refine zA ?_ | (refine zM ?_; intro _ _) | (apply Ws <;> intro hg))
        exact Ends.rd rfl rfl rfl hH6 (.there .here) fun H' h' => ⟨_, _, h', .inr ⟨rfl, M2, rfl, hS⟩⟩
  · rintro _ H4 ⟨M4, n4, z, hH4, ⟨_, Mc, rfl, hJ4⟩ | ⟨Mc, rfl, hS⟩⟩
    · refine rangeEnd_of hH4 (.there .here) (by rw [← hR]; simp) (by rw [← hR]; rfl) fun H5 hH5 => ?_
      repeat' (first | refine zA ?_ | (refine zM ?_; intro _ _) | (apply Ws <;> intro hg))
      exact Ends.ret0D trivial hH5 (.cons _ (.cons _ (.cons_cons _ (.cons _ (.cons _ (List.Sublist.refl Mc)))))) (List.Perm.refl _) fun H' h' => ⟨Mc, n4, h', .inl hJ4⟩
    · refine rangeEnd_of hH4 (.there .here) (by simp) rfl fun H5 hH5 => ?_
      repeat' (first | refine zA ?_ | (refine zM ?_; intro _ _) | (apply Ws <;> intro hg))
      exact Ends.ret0D trivial hH5 (.cons _ (.cons _ (.cons_cons _ (.cons _ (.cons _ (List.Sublist.refl Mc)))))) (List.Perm.refl _) fun H' h' => ⟨Mc, n4, h', .inr hS⟩
end
end Go.Proofs.Ytckpocjeikkblaa.St

namespace Go.Proofs.Ytckpocjeikkblaa.St
open Go Go.Abs Go.Mth
set_option linter.unusedVariables false
set_option linter.unusedSimpArgs false
attribute [local irreducible] gOK WS WC WR WD Ends FS YS OpV seqK blockK loopK midK retK rdK asgK rangeEnd sat Cell

/-- An order fits. -/
def fitB (fs : List (List Int)) (z : List Nat) : Bool := decide (gsum (masksOf fs) (castI z) fs.length = 0)
/-- All orders that fit. -/
def fitL (N : Nat) (fs : List (List Int)) : List (List Nat) := (permsL N (List.range N)).filter (fitB fs)

theorem len_flatMap_le {α β : Type} (f : α → List β) (c : Nat) : ∀ l : List α, (∀ x ∈ l, (f x).length ≤ c) → (l.flatMap f).length ≤ l.length * c
  | [], _ => by simp
  | a :: l, h => by
    have h1 := h a (.head _)
    have h2 := len_flatMap_le f c l fun x hx => h x (.tail _ hx)
    rw [List.flatMap_cons, List.length_append, List.length_cons, Nat.add_mul]
    omega
theorem splits_len : ∀ r : List Nat, (splits r).length = r.length
  | [] => rfl
  | x :: r => by simp [splits, splits_len r]
theorem perms_len : ∀ (k : Nat) (r : List Nat), r.length = k → k ≤ 8 → (permsL k r).length ≤ 8 ^ k
  | 0, _, _, _ => by simp [permsL]
  | k + 1, r, hr, hk => by
    have h := len_flatMap_le (fun s : List Nat × Nat × List Nat => (permsL k (s.1 ++ s.2.2)).map (s.2.1 :: ·)) (8 ^ k) (splits r) fun s hs => by
      have := congrArg List.length (splits_mem hs)
      simp at this
      rw [List.length_map]
      exact perms_len k _ (by simp; omega) (by omega)
    rw [splits_len, hr] at h
    rw [permsL, Nat.pow_succ, Nat.mul_comm]
    exact Nat.le_trans h (Nat.mul_le_mul_right _ hk)
theorem fitL_len {N : Nat} {fs : List (List Int)} (hN : N ≤ 7) : (fitL N fs).length ≤ 2097152 := by
  have h1 := perms_len N (List.range N) (by simp) (by omega)
  have h2 : 8 ^ N ≤ 8 ^ 7 := Nat.pow_le_pow_right (by omega) hN
  have h3 := List.length_filter_le (fitB fs) (permsL N (List.range N))
  rw [fitL]; omega

section
variable {M : HL} {n0 : Nat} {H : Heap} {v w : Value} {fs : List (List Int)} {o : List Int}

theorem ordersWith_fs (hH : hasH M n0 H) (N : Int) {g : FuncId} {va : List Value} : FS C 71 [.int .i64 N, .func (.func g) va.toArray #[]] H
    (fun e H' => e = .func (.func 91) #[] #[.pointer (some ⟨n0, 0, some 0⟩), .pointer (some ⟨n0 + 1, 0, some 0⟩)] ∧ hasH ((n0 + 1, .row 87 0 0 [.func (.func g) va.toArray #[]]) :: (n0, .row 3 0 0 [.int .i64 N]) :: M) (n0 + 2) H') := by
  refine FS.intro (pf := pf71) rfl rfl rfl ?_
  repeat' (first | refine zP ?_ | refine zA ?_ | (refine zM ?_; intro _ _) | refine zX ?_ | (refine zC ?_; intro _ _ _ _) | (refine zS ?_; intro _ _) | (apply Ws <;> intro hg))
  exact Ends.ret1 rfl ⟨rfl, by assumption⟩

theorem perm_castI {N : Nat} {z : List Nat} (h : z ∈ permsL N (List.range N)) (hN : N ≤ 7) : (castI z).length = N ∧ ∀ x ∈ castI z, 0 ≤ x ∧ x < 7 := by
  have hp := (mem_perms N _ (by simp)).1 h
  refine ⟨by rw [castI_len, hp.length_eq]; simp, fun x hx => ?_⟩
  obtain ⟨y, hy, rfl⟩ := List.mem_map.1 hx
  have := hp.mem_iff.1 hy
  simp at this
  omega

/-- An order in its row. -/
theorem own_order {b : Nat} {z : List Nat} {N : Nat} (hm : (b, Ch.row 3 0 0 (nodes z)) ∈ M) (hz : z.length = N) : Sl M 1 (.slice (some ⟨b, 0, some 0⟩) N (2 * N + 1)) (ints (castI z)) := by
  subst hz
  rw [nodesC] at hm
  have hlen := castI_len z
  generalize castI z = o at *
  rw [← hlen]
  exact .row (lo := 0) (cs := ints o) hm (.row _ _ _ _) (Nat.zero_le _) (by simp) (by simp [List.take_of_length_le]) (by simp) (.inr ⟨_, rfl, Nat.le_refl _⟩)

theorem fit_q {T : HL} {n' bf b : Nat} {H' : Heap} {n : Int} {N : Nat} {z : List Nat} (hf0 : findsE n fs = 0) (hN : n = N) (hz : z ∈ permsL N (List.range N)) (hzl : z.length = N) (hm : (b, Ch.row 3 0 0 (nodes z)) ∈ T)
    (hf : (bf, Ch.row 117 0 0 (numsK .u8 (masksOf fs))) ∈ T) (hH : hasH T n' H') :
    FS C 62 ([.slice (some ⟨bf, 0, some 0⟩) fs.length (2 * fs.length + 1)] ++ [.slice (some ⟨b, 0, some 0⟩) N (2 * N + 1)] ++ []) H' (fun v H2 => v = .bool (fitB fs z) ∧ H2 = H') := by
  obtain ⟨hml, hm10, hmb⟩ := masks_ok hf0
  have hn7 := (finds_ok hf0).2.1
  obtain ⟨h1, h2⟩ := perm_castI hz (by omega)
  have hV : Sl T 1 (.slice (some ⟨bf, 0, some 0⟩) (masksOf fs).length (2 * (masksOf fs).length + 1)) (numsK .u8 (masksOf fs)) :=
    .row (lo := 0) (cs := numsK .u8 (masksOf fs)) hf (.row _ _ _ _) (Nat.zero_le _) (by simp) (by simp [List.take_of_length_le]) (by simp) (.inr ⟨(masksOf fs).length, rfl, Nat.le_refl _⟩)
  rw [hml] at hV
  refine FS.mono (fit_fs hH hV hm10 hmb (own_order hm hzl) (by omega) h2) ?_
  rintro _ _ ⟨rfl, rfl⟩
  exact ⟨by rw [fitB, hml], rfl⟩

theorem Count_fs (hH : hasH M n0 H) (hR : RowsI M v fs) (hl : fs.length ≤ 1000) (hll : ∀ l ∈ fs, l.length ≤ 1000) (n : Int) :
    FS C 27 [.agg #[.int .i64 n, v]] H (fun e H' => e = .tuple #[.int .i64 ((if findsE n fs = 0 then (fitL n.toNat fs).length else 0 : Nat) : Int), .int .i64 (findsE n fs)] ∧ ∃ n', n0 ≤ n' ∧ hasH M n' H') := by
  have h1 := hR.one_
  refine FS.intro (pf := pf27) rfl rfl rfl ?_
  repeat' (first | refine zP ?_ | refine zA ?_ | (refine zM ?_; intro _ _) | refine zX ?_ | (refine zC ?_; intro _ _ _ _) | (refine zS ?_; intro _ _))
  rename_i H1 hH1
  have hR1 : RowsI ((n0, .row 24 0 0 [.int .i64 n, v]) :: M) v fs := hR.cons
  have hm1 : (n0, Ch.row 24 0 0 [.int .i64 n, v]) ∈ (n0, Ch.row 24 0 0 [.int .i64 n, v]) :: M := .head _
  have hback : ∀ {n' : Nat} {H' : Heap}, hasH ((n0, Ch.row 24 0 0 [.int .i64 n, v]) :: M) n' H' → hasH M n' H' := fun h => h.tail
  generalize (n0, Ch.row 24 0 0 [.int .i64 n, v]) :: M = T at hH1 hR1 hm1 hback
  refine WR.call (by first | exact gN | exact gS rfl) rfl rfl (Check_fs hH1 hR1 hl hll n) ?_
  rintro _ H2 ⟨rfl, n2, hn2, hH2⟩
  clear hH1
  repeat' (first | refine zP ?_ | refine zA ?_ | (refine zM ?_; intro _ _) | refine zX ?_ | (refine zC ?_; intro _ _ _ _) | (refine zS ?_; intro _ _) | (apply Ws <;> intro hg))
  refine WC.condP rfl (fun hne => ?_) (fun hne => ?_)
  · repeat' (first | refine zP ?_ | refine zA ?_ | (refine zM ?_; intro _ _) | refine zX ?_ | (refine zC ?_; intro _ _ _ _) | (refine zS ?_; intro _ _) | (apply Ws <;> intro hg))
    exact Ends.ret2 rfl rfl ⟨by rw [if_neg hne]; rfl, n2, by omega, hback hH2⟩
  have hf0 : findsE n fs = 0 := Decidable.not_not.1 hne
  obtain ⟨hn1, hn7, _⟩ := finds_ok hf0
  obtain ⟨N, rfl⟩ : ∃ N : Nat, n = N := ⟨n.toNat, by omega⟩
  repeat' (first | refine zA ?_ | (refine zM ?_; intro _ _) | (apply Ws <;> intro hg))
  rename_i H3 hH3
  refine WC.regionD ?_
  have hm3 : (n0, Ch.row 24 0 0 [.int .i64 (N : Int), v]) ∈ (n2, Ch.row 3 0 0 [.int .i64 0]) :: T := .tail _ hm1
  repeat' (first | refine zD ?_ | (refine zE ?_; intro _ _ _ _))
  refine WD.call (by first | exact gN | exact gS rfl) rfl rfl (formsOf_fs hH3 hR1.cons hf0) ?_
  rintro _ H4 ⟨bf, n4, rfl, hn4, hH4⟩
  refine ⟨zSt, ?_⟩
  refine WD.toWR rfl ?_
  repeat' (first | refine zP ?_ | refine zA ?_ | (refine zM ?_; intro _ _) | refine zX ?_ | (refine zC ?_; intro _ _ _ _) | (refine zS ?_; intro _ _) | (apply Ws <;> intro hg))
  refine WR.call (by first | exact gN | exact gS rfl) rfl rfl (ordersWith_fs hH4 N (g := 62) (va := [.slice (some ⟨bf, 0, some 0⟩) fs.length (2 * fs.length + 1)])) ?_
  clear hH4 hH3 hH2
  rintro _ H5 ⟨rfl, hH5⟩
  repeat' (first | refine zP ?_ | refine zA ?_ | (refine zM ?_; intro _ _) | refine zX ?_ | (refine zC ?_; intro _ _ _ _) | (refine zS ?_; intro _ _) | (apply Ws <;> intro hg))
  refine WC.range0 (va := []) (vb := [.pointer (some ⟨n4, 0, some 0⟩), .pointer (some ⟨n4 + 1, 0, some 0⟩)]) rfl hH5 fun t ht H6 hH6 => ?_
  generalize hR : ({ state := .ready, pending := none, fn := 27, tmps := t, params := [17], assign := _, body := _, nt := _ } : LoopE) = R at hH6
  refine FS.mono (with_fs (lY := n4 + 2 + 1) (N := N) (q := fitB fs) (g := 62) (va := [.slice (some ⟨bf, 0, some 0⟩) fs.length (2 * fs.length + 1)]) (e := 3) (eq := 87)
    (B := [(n4 + 1, .row 87 0 0 [.func (.func 62) #[.slice (some ⟨bf, 0, some 0⟩) fs.length (2 * fs.length + 1)] #[]]), (n4, .row 3 0 0 [.int .i64 (N : Int)]), (bf, .row 117 0 0 (numsK .u8 (masksOf fs)))])
    (J := fun zs M' n' => n4 ≤ n' ∧ ∃ k, k + zs.length = (fitL N fs).length ∧ M' = (n4 + 2 + 1, .loop R) :: (n4 + 2, .defd false) :: (n4 + 1, .row 87 0 0 [.func (.func 62) #[.slice (some ⟨bf, 0, some 0⟩) fs.length (2 * fs.length + 1)] #[]]) :: (n4, .row 3 0 0 [.int .i64 (N : Int)]) :: (bf, .row 117 0 0 (numsK .u8 (masksOf fs))) :: (n2, .row 3 0 0 [.int .i64 (k : Int)]) :: T)
    (S := fun _ _ => False) hH6 (by omega) (by simp) (by simp) ?_ ⟨by omega, 0, by simp [fitL], rfl⟩ ?_ ?_) ?_
  · rintro zs M' n' ⟨_, k, _, rfl⟩ p hp
    simp only [List.mem_cons, List.not_mem_nil, or_false] at hp ⊢
    rcases hp with rfl | rfl | rfl <;> simp
  · intro z T' n' H' hz hzl hm hB hH'
    exact fit_q hf0 rfl hz hzl hm (hB _ (by simp)) hH'
  · rintro z zs _ T' n' H7 ⟨hn', k, hk, rfl⟩ hz hzl hm hH7
    simp only [List.cons_append] at hH7
    refine YS.intro hH7 (.head _) (by rw [← hR]) (by rw [← hR]) (by rw [← hR]; rfl) (by rw [← hR]; exact ht) ?_
    subst hR
    dsimp only
    repeat' (first | refine zA ?_ | (refine zM ?_; intro _ _) | (apply Ws <;> intro hg))
    refine Ends.asg hH7 .here fun H8 hH8 => ?_
    dsimp only
    have hk6 := fitL_len (N := N) (fs := fs) (by omega)
    have hk7 : (k : Int) ≤ 2097152 := by omega
    repeat' (first | refine zP ?_ | refine zA ?_ | (refine zM ?_; intro _ _) | refine zX ?_ | (refine zC ?_; intro _ _ _ _) | (refine zS ?_; intro _ _) | (apply Ws <;> intro hg))
    refine WR.storeBox (by first | exact gN | exact gS rfl) hH8 rfl rfl rfl (.there (.there (.there (.there (.there .here))))) fun H9 hH9 => ?_
    repeat' (first | refine zP ?_ | refine zA ?_ | (refine zM ?_; intro _ _) | refine zX ?_ | (refine zC ?_; intro _ _ _ _) | (refine zS ?_; intro _ _) | (apply Ws <;> intro hg))
    exact Ends.rd rfl rfl rfl hH9 .here fun H' h' => ⟨_ :: _ :: _ :: _ :: _ :: _ :: T, n', h', .inl ⟨rfl, hn', k + 1, by simp at hk; omega, rfl⟩⟩
  · rintro _ H7 ⟨M7, n7, hH7, ⟨hn7', k, hk, rfl⟩ | hS⟩
    · refine rangeEnd_of hH7 .here (by rw [← hR]; simp) (by rw [← hR]; rfl) fun H8 hH8 => ?_
      repeat' (first | refine zP ?_ | refine zA ?_ | (refine zM ?_; intro _ _) | refine zX ?_ | (refine zC ?_; intro _ _ _ _) | (refine zS ?_; intro _ _) | (apply Ws <;> intro hg))
      have hk' : k = (fitL N fs).length := by simpa using hk
      exact Ends.ret2D rfl rfl hH8 (.cons _ (.cons_cons _ (.cons _ (.cons _ (.cons _ (.cons _ (List.Sublist.refl T))))))) (List.Perm.refl _) fun H' h' => ⟨by rw [if_pos hf0, hk', hf0]; rfl, n7, by omega, hback h'⟩
    · exact hS.elim
end
end Go.Proofs.Ytckpocjeikkblaa.St

namespace Go.Proofs.Ytckpocjeikkblaa.St
open Go Go.Abs Go.Mth
set_option linter.unusedVariables false
set_option linter.unusedSimpArgs false

section
variable {L : Env} {D : List Nat} {H : Heap} {M M' : HL} {n : Nat}
theorem retC2D {a b : Nat} {p r : Addr} {v w : Value} {R : Value → Heap → Prop} {M0 : HL} {e : Ex} (he : (match e with | .normal => True | .ret => True | _ => False)) (hx : ev L (.tmp a) = some (.pointer (some p))) (hy : ev L (.tmp b) = some (.pointer (some r))) (hH : hasH M n H) (hM : M'.Sublist M)
    (hp : M'.Perm (D.map (fun b => (b, Ch.defd false)) ++ M0)) (k2 : ∀ H', hasH M0 n H' → H'.read p = some v ∧ H'.read r = some w ∧ R (.tuple #[v, w]) H') : Abs.Ends (retK [.cell a none, .cell b none] R) e L D H :=
  Abs.Ends.retD he hH hM hp fun H' h' t ht => by
    obtain ⟨h1, h2, h3⟩ := k2 H' h'
    exact ⟨_, H', by simp only [leaveC, resultOf, ev_ok ht hx, ev_ok ht hy, h1, h2, retVal], h3⟩
end
attribute [local irreducible] gOK WS WC WR WD Ends FS YS OpV seqK blockK loopK midK retK rdK asgK rangeEnd sat Cell

/-- The first order that fits, and the error. -/
def firstO (n : Int) (fs : List (List Int)) : List Int := if findsE n fs = 0 then castI ((fitL n.toNat fs).headD []) else []
def firstC (n : Int) (fs : List (List Int)) : Int := if findsE n fs = 0 then (if fitL n.toNat fs = [] then 12 else 0) else findsE n fs

section
variable {M : HL} {n0 : Nat} {H : Heap} {v w : Value} {fs : List (List Int)} {o : List Int}

theorem First_fs (hH : hasH M n0 H) (hR : RowsI M v fs) (hl : fs.length ≤ 1000) (hll : ∀ l ∈ fs, l.length ≤ 1000) (n : Int) :
    FS C 25 [.agg #[.int .i64 n, v]] H (fun e H' => ∃ n' Mx v', e = .tuple #[v', .int .i64 (firstC n fs)] ∧ n0 ≤ n' ∧ Sl (Mx ++ M) 1 v' (ints (firstO n fs)) ∧ hasH (Mx ++ M) n' H') := by
  have h1 := hR.one_
  refine FS.intro (pf := pf25) rfl rfl rfl ?_
  repeat' (first | refine zP ?_ | refine zA ?_ | (refine zM ?_; intro _ _) | refine zX ?_ | (refine zC ?_; intro _ _ _ _) | (refine zS ?_; intro _ _))
  rename_i H1 hH1
  have hR1 : RowsI ((n0, .row 24 0 0 [.int .i64 n, v]) :: M) v fs := hR.cons
  have hm1 : (n0, Ch.row 24 0 0 [.int .i64 n, v]) ∈ (n0, Ch.row 24 0 0 [.int .i64 n, v]) :: M := .head _
  have hback : ∀ {n' : Nat} {H' : Heap} {A : HL}, hasH (A ++ (n0, Ch.row 24 0 0 [.int .i64 n, v]) :: M) n' H' → hasH ((A ++ [(n0, Ch.row 24 0 0 [.int .i64 n, v])]) ++ M) n' H' := fun h => by rw [List.append_assoc]; exact h
  have hsl : ∀ {A : HL} {x : Value} {cs : List Value}, Sl (A ++ (n0, Ch.row 24 0 0 [.int .i64 n, v]) :: M) 1 x cs → Sl ((A ++ [(n0, Ch.row 24 0 0 [.int .i64 n, v])]) ++ M) 1 x cs := fun h => by rw [List.append_assoc]; exact h
  generalize hA1 : [(n0, Ch.row 24 0 0 [.int .i64 n, v])] = A1 at hback hsl
  generalize (n0, Ch.row 24 0 0 [.int .i64 n, v]) :: M = T at hH1 hR1 hm1 hback hsl
  refine WR.call (by first | exact gN | exact gS rfl) rfl rfl (Check_fs hH1 hR1.cons.cons hl hll n) ?_
  rintro _ H2 ⟨rfl, n2, hn2, hH2⟩
  clear hH1
  repeat' (first | refine zP ?_ | refine zA ?_ | (refine zM ?_; intro _ _) | refine zX ?_ | (refine zC ?_; intro _ _ _ _) | (refine zS ?_; intro _ _) | (apply Ws <;> intro hg))
  refine WC.condP rfl (fun hne => ?_) (fun hne => ?_)
  · repeat' (first | refine zP ?_ | refine zA ?_ | (refine zM ?_; intro _ _) | refine zX ?_ | (refine zC ?_; intro _ _ _ _) | (refine zS ?_; intro _ _) | (apply Ws <;> intro hg))
    rename_i H3 hH3 H4 hH4
    exact retC2D trivial rfl rfl hH4 (List.Sublist.refl _) (List.Perm.refl _) fun H' h' => ⟨h'.read (.tail _ (.head _)) (.row _ _ _ _) (Nat.zero_le _) rfl, h'.read (.head _) (.row _ _ _ _) (Nat.zero_le _) rfl, n2, [_, _] ++ A1, _,
      by rw [firstC, if_neg hne], by omega, by rw [firstO, if_neg hne]; exact hsl (A := [_, _]) (.nil 0), hback (A := [_, _]) h'⟩
  have hf0 : findsE n fs = 0 := Decidable.not_not.1 hne
  obtain ⟨hn1, hn7, _⟩ := finds_ok hf0
  obtain ⟨N, rfl⟩ : ∃ N : Nat, n = N := ⟨n.toNat, by omega⟩
  repeat' (first | refine zA ?_ | (refine zM ?_; intro _ _) | (apply Ws <;> intro hg))
  refine WC.regionD ?_
  have hm3 : (n0, Ch.row 24 0 0 [.int .i64 (N : Int), v]) ∈ (n0 + 1 + 1, Ch.row 29 0 0 [.int .i64 0]) :: (n0 + 1, Ch.row 25 0 0 [.slice none 0 0]) :: T := .tail _ (.tail _ hm1)
  repeat' (first | refine zD ?_ | (refine zE ?_; intro _ _ _ _))
  refine WD.call (by first | exact gN | exact gS rfl) rfl rfl (formsOf_fs hH2 hR1.cons.cons hf0) ?_
  rintro _ H4 ⟨bf, n4, rfl, hn4, hH4⟩
  refine ⟨zSt, ?_⟩
  refine WD.toWR rfl ?_
  repeat' (first | refine zP ?_ | refine zA ?_ | (refine zM ?_; intro _ _) | refine zX ?_ | (refine zC ?_; intro _ _ _ _) | (refine zS ?_; intro _ _) | (apply Ws <;> intro hg))
  refine WR.call (by first | exact gN | exact gS rfl) rfl rfl (ordersWith_fs hH4 N (g := 62) (va := [.slice (some ⟨bf, 0, some 0⟩) fs.length (2 * fs.length + 1)])) ?_
  clear hH4 hH2
  rintro _ H5 ⟨rfl, hH5⟩
  repeat' (first | refine zP ?_ | refine zA ?_ | (refine zM ?_; intro _ _) | refine zX ?_ | (refine zC ?_; intro _ _ _ _) | (refine zS ?_; intro _ _) | (apply Ws <;> intro hg))
  refine WC.range0 (va := []) (vb := [.pointer (some ⟨n4, 0, some 0⟩), .pointer (some ⟨n4 + 1, 0, some 0⟩)]) rfl hH5 fun t ht H6 hH6 => ?_
  generalize hR : ({ state := .ready, pending := none, fn := 25, tmps := t, params := [18], assign := _, body := _, nt := _ } : LoopE) = R at hH6
  refine FS.mono (with_fs (lY := n4 + 2 + 1) (N := N) (q := fitB fs) (g := 62) (va := [.slice (some ⟨bf, 0, some 0⟩) fs.length (2 * fs.length + 1)]) (e := 3) (eq := 87)
    (B := [(n4 + 1, .row 87 0 0 [.func (.func 62) #[.slice (some ⟨bf, 0, some 0⟩) fs.length (2 * fs.length + 1)] #[]]), (n4, .row 3 0 0 [.int .i64 (N : Int)]), (bf, .row 117 0 0 (numsK .u8 (masksOf fs)))])
    (J := fun zs M' n' => n4 ≤ n' ∧ zs = fitL N fs ∧ M' = (n4 + 2 + 1, .loop R) :: (n4 + 2, .defd false) :: (n4 + 1, .row 87 0 0 [.func (.func 62) #[.slice (some ⟨bf, 0, some 0⟩) fs.length (2 * fs.length + 1)] #[]]) :: (n4, .row 3 0 0 [.int .i64 (N : Int)]) :: (bf, .row 117 0 0 (numsK .u8 (masksOf fs))) :: (n0 + 1 + 1, .row 29 0 0 [.int .i64 0]) :: (n0 + 1, .row 25 0 0 [.slice none 0 0]) :: T)
    (S := fun M' n' => ∃ z zs bc, fitL N fs = z :: zs ∧ n4 ≤ n' ∧ M' = (bc, .row 3 0 0 (nodes z)) :: (n4 + 2 + 1, .loop { R with state := .done, pending := some .ret }) :: (n4 + 2, .defd false) :: (n0 + 1 + 1, .row 29 0 0 [.int .i64 0]) :: (n0 + 1, .row 25 0 0 [.slice (some ⟨bc, 0, some 0⟩) N (2 * N + 1)]) :: T) hH6 (by omega) (by simp) (by simp) ?_ ⟨by omega, rfl, rfl⟩ ?_ ?_) ?_
  · rintro zs M' n' ⟨_, _, rfl⟩ p hp
    simp only [List.mem_cons, List.not_mem_nil, or_false] at hp ⊢
    rcases hp with rfl | rfl | rfl <;> simp
  · intro z T' n' H' hz hzl hm hB hH'
    exact fit_q hf0 rfl hz hzl hm (hB _ (by simp)) hH'
  · rintro z zs _ T' n' H7 ⟨hn', hzs, rfl⟩ hz hzl hm hH7
    simp only [List.cons_append] at hH7
    refine YS.intro hH7 (.head _) (by rw [← hR]) (by rw [← hR]) (by rw [← hR]; rfl) (by rw [← hR]; exact ht) ?_
    subst hR
    dsimp only
    repeat' (first | refine zA ?_ | (refine zM ?_; intro _ _) | (apply Ws <;> intro hg))
    refine Ends.asg hH7 .here fun H8 hH8 => ?_
    dsimp only
    repeat' (first | refine zP ?_ | refine zA ?_ | (refine zM ?_; intro _ _) | refine zX ?_ | (refine zC ?_; intro _ _ _ _) | (refine zS ?_; intro _ _) | (apply Ws <;> intro hg))
    refine WR.mkS (by first | exact gN | exact gS rfl) rfl hH8 rfl rfl (by omega) rfl fun H9 hH9 => ?_
    clear hH8 hH7
    repeat' (first | refine zP ?_ | refine zA ?_ | (refine zM ?_; intro _ _) | refine zX ?_ | (refine zC ?_; intro _ _ _ _) | (refine zS ?_; intro _ _) | (apply Ws <;> intro hg))
    refine WR.copy (by first | exact gN | exact gS rfl) rfl rfl rfl (ls := ints (castI z)) (cs' := nodes z) (own_order (by simp [hm]) hzl) hH9 .here (by simp [ints, one]) (Nat.zero_le _) (by simp [castI_len]; omega) (by simp [castI_len]; omega) (by rw [← nodesC, splice_whole (by simp; omega)]) ?_ fun H10 hH10 => ?_
    · intro h0
      have h2 : (ints (castI z)).length = z.length := by simp [castI_len]
      rw [h0, List.length_nil] at h2
      omega
    clear hH9
    repeat' (first | refine zP ?_ | refine zA ?_ | (refine zM ?_; intro _ _) | refine zX ?_ | (refine zC ?_; intro _ _ _ _) | (refine zS ?_; intro _ _) | (apply Ws <;> intro hg))
    refine WR.storeBox (by first | exact gN | exact gS rfl) hH10 rfl rfl rfl (.there (.there (.there (.there (.there (.there (.there .here))))))) fun H11 hH11 => ?_
    refine WR.storeBox (by first | exact gN | exact gS rfl) hH11 rfl rfl rfl (.there (.there (.there (.there (.there (.there .here)))))) fun H12 hH12 => ?_
    clear hH10 hH11
    repeat' (first | refine zP ?_ | refine zA ?_ | (refine zM ?_; intro _ _) | refine zX ?_ | (refine zC ?_; intro _ _ _ _) | (refine zS ?_; intro _ _) | (apply Ws <;> intro hg))
    exact Ends.rd rfl rfl rfl hH12 (.there .here) fun H' h' => ⟨_ :: _ :: _ :: _ :: _ :: T, n' + 1, h'.sub (.cons_cons _ (.cons_cons _ (.cons_cons _ (.cons _ (.cons _ (.cons _ (List.Sublist.refl _))))))), .inr ⟨rfl, z, zs, n', hzs.symm, by omega, rfl⟩⟩
  · rintro _ H7 ⟨M7, n7, hH7, ⟨hn7', hzs, rfl⟩ | ⟨z, zs, bc, hzs, hn7', rfl⟩⟩
    · refine rangeEnd_of hH7 .here (by rw [← hR]; simp) (by rw [← hR]; rfl) fun H8 hH8 => ?_
      repeat' (first | refine zP ?_ | refine zA ?_ | (refine zM ?_; intro _ _) | refine zX ?_ | (refine zC ?_; intro _ _ _ _) | (refine zS ?_; intro _ _) | (apply Ws <;> intro hg))
      refine WR.storeBox (by first | exact gN | exact gS rfl) hH8 rfl rfl rfl (.there (.there (.there (.there (.there (.there .here)))))) fun H9 hH9 => ?_
      refine WR.storeBox (by first | exact gN | exact gS rfl) hH9 rfl rfl rfl (.there (.there (.there (.there (.there .here))))) fun H10 hH10 => ?_
      clear hH8 hH9
      repeat' (first | refine zP ?_ | refine zA ?_ | (refine zM ?_; intro _ _) | refine zX ?_ | (refine zC ?_; intro _ _ _ _) | (refine zS ?_; intro _ _) | (apply Ws <;> intro hg))
      exact retC2D trivial rfl rfl hH10 (.cons _ (.cons_cons _ (.cons _ (.cons _ (.cons _ (List.Sublist.refl _)))))) (List.Perm.refl _) fun H' h' => ⟨h'.read (.tail _ (.head _)) (.row _ _ _ _) (Nat.zero_le _) rfl, h'.read (.head _) (.row _ _ _ _) (Nat.zero_le _) rfl, n7, [_, _] ++ A1, _,
        by rw [firstC, if_pos hf0, if_pos (by exact hzs.symm)], by omega, by rw [firstO, if_pos hf0, show fitL (N : Int).toNat fs = [] from hzs.symm]; exact hsl (A := [_, _]) (.nil 0), hback (A := [_, _]) h'⟩
    · refine rangeEnd_of hH7 (.there .here) (by simp) rfl fun H8 hH8 => ?_
      have hzl : z.length = N := by
        have h2 : z ∈ fitL N fs := by rw [hzs]; exact .head _
        have := (perm_castI ((List.mem_filter.1 h2).1) (by omega)).1
        rwa [castI_len] at this
      have h3 : (castI ((fitL (N : Int).toNat fs).headD [])) = castI z := by rw [show fitL (N : Int).toNat fs = z :: zs from hzs]; rfl
      replace hH8 := hH8.perm (M' := _ :: _ :: _ :: _ :: _ :: T) (List.Perm.trans (List.Perm.swap _ _ _) (List.Perm.cons _ (List.Perm.swap _ _ _)))
      repeat' (first | refine zP ?_ | refine zA ?_ | (refine zM ?_; intro _ _) | refine zX ?_ | (refine zC ?_; intro _ _ _ _) | (refine zS ?_; intro _ _) | (apply Ws <;> intro hg))
      exact retC2D trivial rfl rfl hH8 (.cons _ (List.Sublist.refl _)) (List.Perm.refl _) fun H' h' => ⟨h'.read (.tail _ (.tail _ (.head _))) (.row _ _ _ _) (Nat.zero_le _) rfl, h'.read (.tail _ (.head _)) (.row _ _ _ _) (Nat.zero_le _) rfl, n7, [_, _, _] ++ A1, _,
        by rw [firstC, if_pos hf0, if_neg (by rw [show fitL (N : Int).toNat fs = z :: zs from hzs]; simp)], by omega, by rw [firstO, if_pos hf0, h3]; exact hsl (A := [_, _, _]) (own_order (.head _) hzl), hback (A := [_, _, _]) h'⟩
end
end Go.Proofs.Ytckpocjeikkblaa.St

namespace Go.Proofs.Ytckpocjeikkblaa.St
open Go Go.Abs Go.Mth
set_option linter.unusedVariables false
set_option linter.unusedSimpArgs false

section
variable {L : Env} {H : Heap}
end
attribute [local irreducible] gOK WS WC WR WD Ends FS YS OpV seqK blockK loopK midK retK rdK asgK rangeEnd sat Cell

/-- Two are next to one another, before place k. -/
def adj (z : List Nat) (a c : Nat) : Nat → Nat
  | 0 => 0
  | k + 1 => adj z a c k + if (z.getD k 0 = a ∧ z.getD (k + 1) 0 = c) ∨ (z.getD k 0 = c ∧ z.getD (k + 1) 0 = a) then 1 else 0
section
variable {M : HL} {n0 : Nat} {H : Heap}
end
end Go.Proofs.Ytckpocjeikkblaa.St

namespace Go.Proofs.Ytckpocjeikkblaa.St
open Go Go.Abs Go.Mth
set_option linter.unusedVariables false
set_option linter.unusedSimpArgs false
attribute [local irreducible] gOK WS WC WR WD Ends FS YS OpV seqK blockK loopK midK retK rdK asgK rangeEnd sat Cell

/-- Pairs that have something, in their order. -/
def prow (p : Nat → Nat → Bool) (a : Nat) : Nat → List (Int × Int)
  | 0 => []
  | j + 1 => prow p a j ++ if p a (a + 1 + j) then [((a : Int), ((a + 1 + j : Nat) : Int))] else []
def prows (p : Nat → Nat → Bool) (N : Nat) : Nat → List (Int × Int)
  | 0 => []
  | k + 1 => prows p N k ++ prow p k (N - (k + 1))
section
variable {M : HL} {n0 : Nat} {H : Heap}
end
end Go.Proofs.Ytckpocjeikkblaa.St

namespace Go.Proofs.Ytckpocjeikkblaa.St
open Go Go.Abs Go.Mth
set_option linter.unusedVariables false
set_option linter.unusedSimpArgs false
attribute [local irreducible] gOK WS WC WR WD Ends FS YS OpV seqK blockK loopK midK retK rdK asgK rangeEnd sat Cell

/-- How often two are next to one another, in some orders. -/
def adjS (N : Nat) (a c : Nat) : List (List Nat) → Nat
  | [] => 0
  | z :: zs => adj z a c (N - 1) + adjS N a c zs
/-- Those that are always next to one another. -/
def besideL (n : Int) (fs : List (List Int)) : List (Int × Int) :=
  if findsE n fs = 0 then (if fitL n.toNat fs = [] then [] else prows (fun a c => decide (adjS n.toNat a c (fitL n.toNat fs) = (fitL n.toNat fs).length)) n.toNat n.toNat) else []
theorem at6 {M : HL} {H : Heap} {a b c d e f : Nat × Ch} {n : Nat} (h : hasH (a :: b :: c :: d :: e :: f :: M) n H) : f ∈ a :: b :: c :: d :: e :: f :: M :=
  .tail _ (.tail _ (.tail _ (.tail _ (.tail _ (.head _)))))
section
variable {M : HL} {n0 : Nat} {H : Heap} {v w : Value} {fs : List (List Int)} {o : List Int}
end
end Go.Proofs.Ytckpocjeikkblaa.St

namespace Go.Proofs.Ytckpocjeikkblaa.St
open Go Go.Abs Go.Mth
set_option linter.unusedVariables false
set_option linter.unusedSimpArgs false

/-- All orders that begin so, one place after another. -/
def allR (N : Nat) : Nat → List Nat → List (List Nat)
  | 0, bg => [bg]
  | k + 1, bg => (List.range N).flatMap fun x => if x ∈ bg then [] else allR N k (bg ++ [x])

theorem splits_map : ∀ r : List Nat, (splits r).map (fun s => s.2.1) = r
  | [] => rfl
  | x :: r => by
    rw [splits, List.map_cons, List.map_map]
    have := splits_map r
    congr 1
def factN : Nat → Nat
  | 0 => 1
  | k + 1 => (k + 1) * factN k
theorem perms_fact : ∀ (k : Nat) (r : List Nat), r.length = k → (permsL k r).length ≤ factN k
  | 0, _, _ => by simp [permsL, factN]
  | k + 1, r, hr => by
    have h := len_flatMap_le (fun s : List Nat × Nat × List Nat => (permsL k (s.1 ++ s.2.2)).map (s.2.1 :: ·)) (factN k) (splits r) fun s hs => by
      have := congrArg List.length (splits_mem hs)
      simp at this
      rw [List.length_map]
      exact perms_fact k _ (by simp; omega)
    rw [splits_len, hr] at h
    rw [permsL, factN]; exact h
theorem factN_le : ∀ {N : Nat}, N ≤ 7 → factN N ≤ 5040
  | 0, _ | 1, _ | 2, _ | 3, _ | 4, _ | 5, _ | 6, _ | 7, _ => by decide
  | N + 8, h => by omega
end Go.Proofs.Ytckpocjeikkblaa.St

namespace Go.Proofs.Ytckpocjeikkblaa.St
open Go Go.Abs Go.Mth
set_option linter.unusedVariables false
set_option linter.unusedSimpArgs false

section
variable {nt : Nat} {L : Env} {D : List Nat} {H : Heap} {K : St → Prop} {M : HL} {n : Nat}
end
theorem getD_right {α : Type} {a : α} {l m : List α} {i : Nat} (h : l.length ≤ i) : (l ++ m).getD i a = m.getD (i - l.length) a := by
  rw [List.getD_eq_getElem?_getD, List.getElem?_append_right h, List.getD_eq_getElem?_getD]
attribute [local irreducible] gOK WS WC WR WD Ends FS YS OpV seqK blockK loopK midK retK rdK asgK rangeEnd sat Cell
structure AV where
  x : Nat
  v : Value
  vs : List Value
  Mx : HL
  My : HL
  n : Nat

section
variable {M : HL} {n0 : Nat} {H : Heap}
end
end Go.Proofs.Ytckpocjeikkblaa.St

namespace Go.Proofs.Ytckpocjeikkblaa.St
open Go Go.Abs Go.Mth
set_option linter.unusedVariables false
set_option linter.unusedSimpArgs false
attribute [local irreducible] gOK WS WC WR WD Ends FS YS OpV seqK blockK loopK midK retK rdK asgK rangeEnd sat Cell

/-- An order fits, in the reference's words. -/
noncomputable def fitR (fs : List (List Int)) (z : List Nat) : Bool := by classical exact decide (∀ i, i < fs.length → RN (bitF (fs.getD i []) (castI z)) (castI z).length = 1)
theorem fitR_iff {fs : List (List Int)} {z : List Nat} : fitR fs z = true ↔ ∀ i, i < fs.length → RN (bitF (fs.getD i []) (castI z)) (castI z).length = 1 := by simp [fitR]

section
variable {M : HL} {n0 : Nat} {H : Heap} {v w : Value} {fs : List (List Int)}
end
end Go.Proofs.Ytckpocjeikkblaa.St

namespace Go.Proofs.Ytckpocjeikkblaa.St
open Go Go.Abs Go.Mth
set_option linter.unusedVariables false
set_option linter.unusedSimpArgs false

theorem both_perm {n : Int} {N : Nat} {fs : List (List Int)} {z : List Nat} (hf0 : findsE n fs = 0) (hn : n = N) (h : z ∈ permsL N (List.range N)) : bothE n fs (castI z) = 0 := by
  subst hn
  have hp := (mem_perms N _ (by simp)).1 h
  have hl : z.length = N := by rw [hp.length_eq]; simp
  have hnd : z.Nodup := hp.nodup_iff.2 List.nodup_range
  rw [bothE, if_neg (by rw [hf0]; simp), if_neg (by rw [castI_len, hl]; simp)]
  refine firstE_zero.2 fun i hi => ?_
  rw [castI_len] at hi
  have hg : (castI z).getD i 0 = (z[i] : Int) := by
    rw [getD_eq (by rw [castI_len]; exact hi)]; simp [castI]
  have hlt : z[i] < N := List.mem_range.1 (hp.mem_iff.1 (List.getElem_mem hi))
  unfold orderAt
  rw [hg, if_neg (by omega), if_neg]
  intro hm
  have hm2 : (z[i] : Int) ∈ castI (z.take i) := by simpa [castI, List.map_take] using hm
  obtain ⟨y, hy, he⟩ := List.mem_map.1 hm2
  have hyz : z[i] ∈ z.take i := by rw [← Int.ofNat.inj he]; exact hy
  obtain ⟨j, hj, hje⟩ := List.mem_iff_getElem.1 hyz
  rw [List.length_take] at hj
  rw [List.getElem_take] at hje
  have := (List.getElem_inj hnd).1 hje
  omega
theorem fit_same {n : Int} {N : Nat} {fs : List (List Int)} {z : List Nat} (hf0 : findsE n fs = 0) (hn : n = N) (h : z ∈ permsL N (List.range N)) : fitB fs z = fitR fs z := by
  have hb := both_perm hf0 hn h
  rw [Bool.eq_iff_iff, fitR_iff, fitB, decide_eq_true_eq, gsum_same hb _ (Nat.le_refl _)]
  exact (gsumF_zero hb _ (Nat.le_refl _)).2
attribute [local irreducible] gOK WS WC WR WD Ends FS YS OpV seqK blockK loopK midK retK rdK asgK rangeEnd sat Cell

section
variable {M : HL} {n0 : Nat} {H : Heap} {v w : Value} {fs : List (List Int)}
end
end Go.Proofs.Ytckpocjeikkblaa.St

namespace Go.Proofs.Ytckpocjeikkblaa.St
open Go Go.Abs Go.Mth
set_option linter.unusedVariables false
set_option linter.unusedSimpArgs false
attribute [local irreducible] gOK WS WC WR WD Ends FS YS OpV seqK blockK loopK midK retK rdK asgK rangeEnd sat Cell

abbrev bytesV (us : List Int) : List Value := us.map (Value.int .u8)
theorem bytes_get {us : List Int} {k : Nat} (h : k < us.length) : (bytesV us)[k]? = some (.int .u8 (us.getD k 0)) := by
  rw [List.getElem?_map, List.getElem?_eq_getElem h, getD_eq h]; rfl
theorem bytes_one (us : List Int) : (bytesV us).all one = true := by
  rw [List.all_eq_true]; intro q hq; obtain ⟨z, _, rfl⟩ := List.mem_map.1 hq; rfl
/-- The numbers below one. -/
def upTo (n : Nat) : List Int := (List.range n).map fun (x : Nat) => (x : Int)
theorem upTo_succ (n : Nat) : upTo (n + 1) = upTo n ++ [(n : Int)] := by simp [upTo, List.range_succ]
theorem upTo_len (n : Nat) : (upTo n).length = n := by simp [upTo]

/-- What is taken out of a list, and what is left of it: together they are the list. -/
theorem perm_take {ys : List Int} {m i : Nat} (hi : i < m) (hm : m ≤ ys.length) : (ys.take m).Perm (ys.getD i 0 :: (ys.take i ++ (ys.take m).drop (i + 1))) := by
  have h1 : ys.take m = ys.take i ++ (ys.getD i 0 :: (ys.take m).drop (i + 1)) := by
    have h2 : (ys.take m).drop i = ys.getD i 0 :: (ys.take m).drop (i + 1) := by
      rw [List.drop_eq_getElem_cons (by simp; omega), List.getElem_take, getD_eq (by omega)]
    rw [← h2]
    have h3 : ys.take i = (ys.take m).take i := by rw [List.take_take, Nat.min_eq_left (by omega)]
    rw [h3, List.take_append_drop]
  exact (List.Perm.of_eq h1).trans List.perm_middle

structure PV where
  k : Nat
  cp : Nat
  R : Nat
  ys : List Int
  v : Value
  Mx : HL
  n : Nat
  o : List Int

structure OV where
  k : Nat
  v : Value
  Mx : HL
  n : Nat

section
variable {M : HL} {n0 : Nat} {H : Heap}

theorem order_fs (hH : hasH M n0 H) {n : Nat} {us : List Int} (hn : 1 ≤ n ∧ n ≤ 7) (hl : us.length = 7) (hu : ∀ x ∈ us, 0 ≤ x ∧ x ≤ 255) :
    FS C 49 [.int .i64 (n : Int), .agg (bytesV us).toArray] H (fun e H' => ∃ Mx n' o, n0 ≤ n' ∧ Own 3 1 e (ints o) Mx ∧ hasH (Mx ++ M) n' H' ∧ o.length = n ∧ o.Perm (upTo n)) := by
  have hone := bytes_one us
  refine FS.intro (pf := pf49) rfl rfl rfl ?_
  repeat' (first | refine zP ?_ | refine zA ?_ | (refine zM ?_; intro _ _) | refine zX ?_ | (refine zC ?_; intro _ _ _ _) | (refine zS ?_; intro _ _))
  rename_i H1 hH1
  -- all of them
  refine WC.loopX [(0, _), (3, _), (6, _), (10, _)] (fun s : OV => [(5, s.v), (11, .int .i64 (s.k : Int))]) []
    (fun s H' => s.k ≤ n ∧ n0 + 1 ≤ s.n ∧ hasH (s.Mx ++ ((n0, .row 74 0 0 (bytesV us)) :: M)) s.n H' ∧ ((s.k = 0 ∧ s.v = .slice none 0 0 ∧ s.Mx = []) ∨ OwnR 3 1 s.v (ints (upTo s.k)) s.Mx)) (fun s => n - s.k) ⟨0, .slice none 0 0, [], n0 + 1⟩ (by repeat' (first | exact .nil | refine .cons rfl ?_)) rfl ⟨Nat.zero_le _, Nat.le_refl _, hH1, .inl ⟨rfl, rfl, rfl⟩⟩ ?_
  clear hH1
  rintro ⟨k, v, Mx, n1⟩ H2 ⟨hk, hn1, hH2, hO⟩
  simp only at hk hn1 hH2 hO
  have hOwn : Own 3 1 v (ints (upTo k)) Mx := by
    rcases hO with ⟨rfl, rfl, rfl⟩ | h
    · exact .nil
    · exact h.own
  dsimp only [List.cons_append, List.nil_append]
  repeat' (first | refine zP ?_ | refine zA ?_ | (refine zM ?_; intro _ _) | refine zX ?_ | (refine zC ?_; intro _ _ _ _) | (refine zS ?_; intro _ _) | (apply Ws <;> intro hg))
  refine WC.condP rfl (fun hlt => ?_) (fun hlt => ?_)
  · have hk' : k < n := by omega
    repeat' (first | refine zP ?_ | refine zA ?_ | (refine zM ?_; intro _ _) | refine zX ?_ | (refine zC ?_; intro _ _ _ _) | (refine zS ?_; intro _ _) | (apply Ws <;> intro hg))
    refine WR.append1R rfl rfl rfl rfl hOwn hH2 (new := [.int .i64 (k : Int)]) (by rfl) rfl rfl (Nat.le_refl _) (by omega) (by simp [upTo]; omega) fun v3 M3 n3 H3 hO3 hH3 hn3 => ?_
    repeat' (first | refine zP ?_ | refine zA ?_ | (refine zM ?_; intro _ _) | refine zX ?_ | (refine zC ?_; intro _ _ _ _) | (refine zS ?_; intro _ _) | (apply Ws <;> intro hg))
    refine Ends.loop ⟨k + 1, v3, M3, n3⟩ (by simp only; omega) (by repeat' (first | exact .nil | refine .cons rfl ?_)) rfl ⟨hk', by simp only; omega, hH3, .inr ?_⟩
    rw [upTo_succ]
    simpa using hO3
  have hkn : k = n := by omega
  subst hkn
  have hOR : OwnR 3 1 v (ints (upTo k)) Mx := by
    rcases hO with ⟨h, _⟩ | h
    · omega
    · exact h
  clear hO hOwn hlt hk
  cases hOR with
  | mk hlen =>
  rename_i bl ul ol len
  have hle : len = k := by have := hlen; simp [upTo] at this; omega
  subst hle
  repeat' (first | refine zP ?_ | refine zA ?_ | (refine zM ?_; intro _ _) | refine zX ?_ | (refine zC ?_; intro _ _ _ _) | (refine zS ?_; intro _ _) | (apply Ws <;> intro hg))
  refine WC.loopX [(3, _), (19, _)] (fun s : PV => [(5, .slice (some ⟨bl, ol, some ul⟩) (len - s.k) s.cp), (6, s.v), (20, .int .i64 (s.k : Int))]) []
    (fun s H' => s.k ≤ len ∧ n0 + 1 ≤ s.n ∧ capR s.cp (len - s.k) s.R ∧ s.ys.length = len ∧ s.o.length = s.k ∧ Own 3 1 s.v (ints s.o) s.Mx ∧ hasH ((bl, .row 3 ul ol (ints s.ys)) :: (s.Mx ++ ((n0, .row 74 0 0 (bytesV us)) :: M))) s.n H' ∧ (s.o ++ s.ys.take (len - s.k)).Perm (upTo len))
    (fun s => len - s.k) ⟨0, 2 * 1, len, upTo len, .slice none 0 0, [], n1, []⟩ (by repeat' (first | exact .nil | refine .cons rfl ?_)) rfl ⟨Nat.zero_le _, hn1, .inl ⟨rfl, rfl⟩, by simp [upTo], rfl, .nil, hH2, by simp [upTo_len, List.take_of_length_le]⟩ ?_
  clear hH2 hlen
  rintro ⟨k, cp, R, ys, v6, Mo, n2, o⟩ H3 ⟨hk, hn2, hcR, hyl, hol, hOo, hH3, hperm⟩
  simp only at hk hn2 hcR hyl hol hOo hH3 hperm
  dsimp only [List.cons_append, List.nil_append]
  repeat' (first | refine zP ?_ | refine zA ?_ | (refine zM ?_; intro _ _) | refine zX ?_ | (refine zC ?_; intro _ _ _ _) | (refine zS ?_; intro _ _) | (apply Ws <;> intro hg))
  refine WC.condP rfl (fun hlt => ?_) (fun hlt => ?_)
  · have hk' : k < len := by omega
    have huk := hu _ (getD_mem (a := 0) (l := us) (k := k) (by omega))
    have hm3 : (n0, Ch.row 74 0 0 (bytesV us)) ∈ (bl, Ch.row 3 ul ol (ints ys)) :: (Mo ++ ((n0, .row 74 0 0 (bytesV us)) :: M)) := by simp
    repeat' (first | refine zP ?_ | refine zA ?_ | (refine zM ?_; intro _ _) | refine zX ?_ | (refine zC ?_; intro _ _ _ _) | (refine zS ?_; intro _ _) | (apply Ws <;> intro hg))
    refine WR.op (by first | exact gN | exact gS rfl) rfl (OpV.load1 (v := .int .u8 (us.getD k 0)) rfl hH3 hm3 (.row _ _ _ _) (Nat.zero_le _) (by rw [Nat.sub_zero]; exact bytes_get (by omega))) ?_
    refine WR.op (by first | exact gN | exact gS rfl) rfl (OpV.conv u8k i64k rfl (c := us.getD k 0) (IntWalk.i64_in _ (by omega))) ?_
    obtain ⟨i, hi⟩ : ∃ i : Nat, us.getD k 0 % ((len - k : Nat) : Int) = i := ⟨(us.getD k 0 % ((len - k : Nat) : Int)).toNat, by have := Int.emod_nonneg (us.getD k 0) (show ((len - k : Nat) : Int) ≠ 0 by omega); omega⟩
    have hil : i < len - k := by have := Int.emod_lt_of_pos (us.getD k 0) (show (0 : Int) < ((len - k : Nat) : Int) by omega); omega
    repeat' (first | refine zP ?_ | refine zA ?_ | (refine zM ?_; intro _ _) | refine zX ?_ | (refine zC ?_; intro _ _ _ _) | (refine zS ?_; intro _ _) | (apply Ws <;> intro hg))
    rw [hi]
    repeat' (first | refine zP ?_ | refine zA ?_ | (refine zM ?_; intro _ _) | refine zX ?_ | (refine zC ?_; intro _ _ _ _) | (refine zS ?_; intro _ _) | (apply Ws <;> intro hg))
    refine WR.op (by first | exact gN | exact gS rfl) rfl (OpV.load1 (v := .int .i64 (ys.getD i 0)) rfl hH3 (.head _) (.row _ _ _ _) (Nat.le_add_right _ _) (by rw [show ol + i - ol = i by omega]; exact ints_get (by omega))) ?_
    refine WR.append1F [(bl, .row 3 ul ol (ints ys))] Mo _ rfl rfl rfl rfl hOo hH3 (new := [.int .i64 (ys.getD i 0)]) (by rfl) rfl rfl (Nat.le_refl _) (by omega) (by simp; omega) fun v7 M7 n7 H7 hO7 hH7 hn7 => ?_
    repeat' (first | refine zP ?_ | refine zA ?_ | (refine zM ?_; intro _ _) | refine zX ?_ | (refine zC ?_; intro _ _ _ _) | (refine zS ?_; intro _ _) | (apply Ws <;> intro hg))
    refine WR.call (by first | exact gN | exact gS rfl) rfl rfl (Delete_fs (i := i) (j := i + 1) hH7 hcR (by omega) (by omega) (by omega) (by omega)) ?_
    rintro _ H8 ⟨zs, rfl, hH8, hzl, hzt⟩
    rw [show i + 1 - i = 1 by omega] at hzt ⊢
    repeat' (first | refine zP ?_ | refine zA ?_ | (refine zM ?_; intro _ _) | refine zX ?_ | (refine zC ?_; intro _ _ _ _) | (refine zS ?_; intro _ _) | (apply Ws <;> intro hg))
    have hR1 := hcR.le
    have hO8 : Own 3 1 v7 (ints (o ++ [ys.getD i 0])) M7 := by simpa using hO7
    rw [show len - k - 1 = len - (k + 1) by omega] at hzt ⊢
    refine Ends.loop ⟨k + 1, roomCode 1 R, R, zs, v7, M7, n7, o ++ [ys.getD i 0]⟩ (by simp only; omega) (by repeat' (first | exact .nil | refine .cons rfl ?_)) rfl ⟨hk', by simp only; omega, .inr ⟨rfl, by simp only; omega⟩, by simp only; omega, by simp [hol], hO8, hH8, ?_⟩
    simp only
    rw [hzt, List.append_assoc]
    refine List.Perm.trans ?_ hperm
    exact List.Perm.append_left _ (perm_take hil (by omega)).symm
  have hkn : k = len := by omega
  subst hkn
  repeat' (first | refine zP ?_ | refine zA ?_ | (refine zM ?_; intro _ _) | refine zX ?_ | (refine zC ?_; intro _ _ _ _) | (refine zS ?_; intro _ _) | (apply Ws <;> intro hg))
  refine Ends.ret1 rfl ⟨Mo, n2, o, by omega, hOo, ?_, hol, by simpa using hperm⟩
  exact hH3.sub (.cons _ (.append (.refl _) (List.sublist_cons_self _ _)))
end
end Go.Proofs.Ytckpocjeikkblaa.St

namespace Go.Proofs.Ytckpocjeikkblaa.St
open Go Go.Abs Go.Mth
set_option linter.unusedVariables false
set_option linter.unusedSimpArgs false
attribute [local irreducible] gOK WS WC WR WD Ends FS YS OpV seqK blockK loopK midK retK rdK asgK rangeEnd sat Cell

def trays (a b : Int) (hs : List Int) : List Value := .int .u8 a :: .int .u8 b :: bytesV hs
theorem trays_one (a b : Int) (hs : List Int) : (trays a b hs).all one = true := by
  have := bytes_one hs
  simp only [trays, List.all_cons, this, Bool.and_true]; rfl
def bitsOf (n x : Nat) : List Int := ((List.range n).filter fun i => x.testBit i).map fun (i : Nat) => (i : Int)
def formB (n x : Nat) : List Int := if bitsOf n x = [] then [0] else bitsOf n x
theorem bitsOf_succ (n x : Nat) : bitsOf (n + 1) x = bitsOf n x ++ if x.testBit n = true then [(n : Int)] else [] := by
  unfold bitsOf
  rw [List.range_succ, List.filter_append, List.map_append]
  congr 1
  cases h : x.testBit n <;> simp [h]
theorem bitsOf_len (n x : Nat) : (bitsOf n x).length ≤ n := by
  unfold bitsOf
  rw [List.length_map]
  exact Nat.le_trans (List.length_filter_le _ _) (by simp)
def traysF (n m : Nat) (hs : List Int) : List (List Int) := (hs.take m).map fun x => formB n x.toNat

structure TV where
  k : Nat
  v : Value
  vs : List Value
  Mo : HL
  Mi : HL
  n : Nat

section
variable {M : HL} {n0 : Nat} {H : Heap}

theorem list_fs (v : Value) (H : Heap) : FS C 43 [v] H (fun e H' => e = v ∧ H' = H) := by
  refine FS.intro (pf := pf43) rfl rfl rfl ?_
  repeat' (first | refine zP ?_ | refine zA ?_ | (refine zM ?_; intro _ _) | refine zX ?_ | (refine zC ?_; intro _ _ _ _) | (refine zS ?_; intro _ _) | (apply Ws <;> intro hg))
  exact Ends.ret1 rfl ⟨rfl, rfl⟩

set_option maxHeartbeats 1000000 in
theorem made_fs (hH : hasH M n0 H) {a b : Int} {hs : List Int} (ha : 0 ≤ a ∧ a ≤ 255) (hb : 0 ≤ b ∧ b ≤ 255) (hl : hs.length = 10) (hu : ∀ x ∈ hs, 0 ≤ x ∧ x ≤ 255) {ly fm : Nat} (hly : 1 ≤ ly ∧ ly ≤ 7) (hfm : fm ≤ 10) :
    FS C 38 [.agg (trays a b hs).toArray, .int .i64 (ly : Int), .int .i64 (fm : Int)] H (fun e H' => ∃ v Mx n', e = .agg #[.int .i64 ((1 + a.toNat % ly : Nat) : Int), v] ∧ n0 ≤ n' ∧ RowsI (Mx ++ M) v (traysF (1 + a.toNat % ly) (b.toNat % (fm + 1)) hs) ∧ hasH (Mx ++ M) n' H' ∧ (traysF (1 + a.toNat % ly) (b.toNat % (fm + 1)) hs = [] → v = .slice none 0 0)) := by
  have hone := trays_one a b hs
  refine FS.intro (pf := pf38) rfl rfl rfl ?_
  repeat' (first | refine zP ?_ | refine zA ?_ | (refine zM ?_; intro _ _) | refine zX ?_ | (refine zC ?_; intro _ _ _ _) | (refine zS ?_; intro _ _))
  rename_i H1 hH1
  refine WR.op (by first | exact gN | exact gS rfl) rfl (OpV.conv u8k i64k rfl (c := a) (IntWalk.i64_in _ (by omega))) ?_
  obtain ⟨an, rfl⟩ : ∃ an : Nat, a = an := ⟨a.toNat, by omega⟩
  obtain ⟨bn, rfl⟩ : ∃ bn : Nat, b = bn := ⟨b.toNat, by omega⟩
  rw [Int.toNat_natCast, Int.toNat_natCast]
  have hmod := Nat.mod_lt an (show 0 < ly by omega)
  have hmodb := Nat.mod_lt bn (show 0 < fm + 1 by omega)
  repeat' (first | refine zP ?_ | refine zA ?_ | (refine zM ?_; intro _ _) | refine zX ?_ | (refine zC ?_; intro _ _ _ _) | (refine zS ?_; intro _ _) | (apply Ws <;> intro hg))
  rw [show (an : Int) % (ly : Int) = ((an % ly : Nat) : Int) by simp]
  obtain ⟨r, hr⟩ : ∃ r, an % ly = r := ⟨_, rfl⟩
  rw [hr] at hmod ⊢
  repeat' (first | refine zP ?_ | refine zA ?_ | (refine zM ?_; intro _ _) | refine zX ?_ | (refine zC ?_; intro _ _ _ _) | (refine zS ?_; intro _ _) | (apply Ws <;> intro hg))
  rw [show (1 : Int) + (r : Int) = ((1 + r : Nat) : Int) by omega]
  obtain ⟨nl, hnl⟩ : ∃ nl, 1 + r = nl := ⟨_, rfl⟩
  have hnl7 : 1 ≤ nl ∧ nl ≤ 7 := by omega
  rw [hnl]
  refine WR.op (by first | exact gN | exact gS rfl) rfl (OpV.bldT (vs := [(0, .int .i64 (nl : Int))]) rfl (cs := #[.int .i64 (nl : Int), .slice none 0 0]) (by rfl)) ?_
  repeat' (first | refine zP ?_ | refine zA ?_ | (refine zM ?_; intro _ _) | refine zX ?_ | (refine zC ?_; intro _ _ _ _) | (refine zS ?_; intro _ _) | (apply Ws <;> intro hg))
  rename_i H2 hH2
  refine WR.storeAll (by first | exact gN | exact gS rfl) hH2 rfl rfl (ls := [.int .i64 (nl : Int), .slice none 0 0]) rfl rfl .here rfl rfl fun H3 hH3 => ?_
  clear hH2 hH1
  repeat' (first | refine zP ?_ | refine zA ?_ | (refine zM ?_; intro _ _) | refine zX ?_ | (refine zC ?_; intro _ _ _ _) | (refine zS ?_; intro _ _) | (apply Ws <;> intro hg))
  refine WR.op (by first | exact gN | exact gS rfl) rfl (OpV.conv u8k i64k rfl (c := (bn : Int)) (IntWalk.i64_in _ (by omega))) ?_
  repeat' (first | refine zP ?_ | refine zA ?_ | (refine zM ?_; intro _ _) | refine zX ?_ | (refine zC ?_; intro _ _ _ _) | (refine zS ?_; intro _ _) | (apply Ws <;> intro hg))
  rw [show (bn : Int) % ((fm : Int) + 1) = ((bn % (fm + 1) : Nat) : Int) by simp]
  obtain ⟨m, hm⟩ : ∃ m, bn % (fm + 1) = m := ⟨_, rfl⟩
  rw [hm] at hmodb ⊢
  refine WR.op (by first | exact gN | exact gS rfl) rfl (OpV.slAh rfl rfl (by omega) (by decide)) ?_
  repeat' (first | refine zP ?_ | refine zA ?_ | (refine zM ?_; intro _ _) | refine zX ?_ | (refine zC ?_; intro _ _ _ _) | (refine zS ?_; intro _ _) | (apply Ws <;> intro hg))
  refine WC.loopX [(3, _), (6, _), (7, _), (26, _), (27, _)] (fun s : TV => [(28, .int .i64 (s.k : Int))]) []
    (fun s H' => s.k ≤ m ∧ n0 + 3 ≤ s.n ∧ s.vs.length = s.k ∧ (Own 25 1 s.v s.vs s.Mo ∧ (s.k = 0 → s.v = .slice none 0 0)) ∧ hasH ((n0 + 1 + 1, .row 24 0 0 [.int .i64 (nl : Int), s.v]) :: (n0 + 1, .row 24 0 0 [.int .i64 0, .slice none 0 0]) :: (n0, .row 60 0 0 (trays an bn hs)) :: (s.Mo ++ (s.Mi ++ M))) s.n H' ∧
      ∀ i, i < s.k → Sl (s.Mi ++ M) 1 (s.vs.getD i undef) (ints (formB nl (hs.getD i 0).toNat))) (fun s => m - s.k) ⟨0, .slice none 0 0, [], [], [], n0 + 1 + 1 + 1⟩ (by repeat' (first | exact .nil | refine .cons rfl ?_)) rfl ⟨Nat.zero_le _, by simp only; omega, rfl, ⟨.nil, fun _ => rfl⟩, hH3, fun i hi => absurd hi (Nat.not_lt_zero _)⟩ ?_
  clear hH3
  rintro ⟨k, vf, vs, Mo, Mi, n1⟩ H4 ⟨hk, hn1, hvl, ⟨hOo, hz0⟩, hH4, hvs⟩
  simp only at hk hn1 hvl hOo hz0 hH4 hvs
  dsimp only [List.cons_append, List.nil_append]
  repeat' (first | refine zP ?_ | refine zA ?_ | (refine zM ?_; intro _ _) | refine zX ?_ | (refine zC ?_; intro _ _ _ _) | (refine zS ?_; intro _ _) | (apply Ws <;> intro hg))
  refine WC.condP rfl (fun hlt => ?_) (fun hlt => ?_)
  · have hk' : k < m := by omega
    have hkl : k < hs.length := by omega
    have hx0 := hu _ (getD_mem (a := 0) hkl)
    obtain ⟨x, hx⟩ : ∃ x : Nat, hs.getD k 0 = x := ⟨(hs.getD k 0).toNat, by omega⟩
    repeat' (first | refine zP ?_ | refine zA ?_ | (refine zM ?_; intro _ _) | refine zX ?_ | (refine zC ?_; intro _ _ _ _) | (refine zS ?_; intro _ _) | (apply Ws <;> intro hg))
    refine WR.op (by first | exact gN | exact gS rfl) rfl (OpV.load1 (v := .int .u8 (hs.getD k 0)) rfl hH4 (.tail _ (.tail _ (.head _))) (.row _ _ _ _) (Nat.zero_le _) (by rw [show 2 + k - 0 = k + 1 + 1 by omega]; simp only [trays, List.getElem?_cons_succ]; exact bytes_get hkl)) ?_
    rw [hx]
    repeat' (first | refine zP ?_ | refine zA ?_ | (refine zM ?_; intro _ _) | refine zX ?_ | (refine zC ?_; intro _ _ _ _) | (refine zS ?_; intro _ _) | (apply Ws <;> intro hg))
    refine WC.loopX [(3, _), (6, _), (7, _), (9, _), (26, _), (27, _), (28, _), (33, _)] (fun s : OV => [(10, s.v), (34, .int .i64 (s.k : Int))]) []
      (fun s H' => s.k ≤ nl ∧ n0 + 3 ≤ s.n ∧ hasH ((n0 + 1 + 1, .row 24 0 0 [.int .i64 (nl : Int), vf]) :: (n0 + 1, .row 24 0 0 [.int .i64 0, .slice none 0 0]) :: (n0, .row 60 0 0 (trays an bn hs)) :: (s.Mx ++ (Mo ++ (Mi ++ M)))) s.n H' ∧ ((bitsOf s.k x = [] ∧ s.v = .slice none 0 0 ∧ s.Mx = []) ∨ (bitsOf s.k x ≠ [] ∧ OwnR 3 1 s.v (ints (bitsOf s.k x)) s.Mx))) (fun s => nl - s.k) ⟨0, .slice none 0 0, [], n1⟩ (by repeat' (first | exact .nil | refine .cons rfl ?_)) rfl ⟨Nat.zero_le _, hn1, hH4, .inl ⟨rfl, rfl, rfl⟩⟩ ?_
    clear hH4 hn1
    rintro ⟨i, v, Mx, n2⟩ H5 ⟨hi, hn2, hH5, hO⟩
    simp only at hi hn2 hH5 hO
    have hOwn : Own 3 1 v (ints (bitsOf i x)) Mx := by
      rcases hO with ⟨h1, rfl, rfl⟩ | ⟨_, h⟩
      · rw [h1]; exact .nil
      · exact h.own
    dsimp only [List.cons_append, List.nil_append]
    repeat' (first | refine zP ?_ | refine zA ?_ | (refine zM ?_; intro _ _) | refine zX ?_ | (refine zC ?_; intro _ _ _ _) | (refine zS ?_; intro _ _) | (apply Ws <;> intro hg))
    refine WC.condP rfl (fun hlt2 => ?_) (fun hlt2 => ?_)
    · have hi' : i < nl := by omega
      have hsh : x >>> i < 256 := Nat.lt_of_le_of_lt (Nat.shiftRight_le x i) (by omega)
      repeat' (first | refine zP ?_ | refine zA ?_ | (refine zM ?_; intro _ _) | refine zX ?_ | (refine zC ?_; intro _ _ _ _) | (refine zS ?_; intro _ _) | (apply Ws <;> intro hg))
      refine WR.op (by first | exact gN | exact gS rfl) rfl (OpV.shrN rfl rfl (by show i ≤ 8; omega)) ?_
      refine WR.op (by first | exact gN | exact gS rfl) rfl (OpV.andN (b := 1) rfl rfl hsh (by decide)) ?_
      repeat' (first | refine zP ?_ | refine zA ?_ | (refine zM ?_; intro _ _) | refine zX ?_ | (refine zC ?_; intro _ _ _ _) | (refine zS ?_; intro _ _) | (apply Ws <;> intro hg))
      refine WC.condP rfl (fun hbit => ?_) (fun hbit => ?_)
      · have hb : x.testBit i = true := shr_and_one.1 hbit
        repeat' (first | refine zP ?_ | refine zA ?_ | (refine zM ?_; intro _ _) | refine zX ?_ | (refine zC ?_; intro _ _ _ _) | (refine zS ?_; intro _ _) | (apply Ws <;> intro hg))
        refine WR.append1RF [(n0 + 1 + 1, .row 24 0 0 [.int .i64 (nl : Int), vf]), (n0 + 1, .row 24 0 0 [.int .i64 0, .slice none 0 0]), (n0, .row 60 0 0 (trays an bn hs))] Mx _ rfl rfl rfl rfl hOwn hH5 (new := [.int .i64 (i : Int)]) (by rfl) rfl rfl (Nat.le_refl _) (by omega) (by have := bitsOf_len i x; simp; omega) fun v3 M3 n3 H6 hO3 hH6 hn3 => ?_
        repeat' (first | refine zP ?_ | refine zA ?_ | (refine zM ?_; intro _ _) | refine zX ?_ | (refine zC ?_; intro _ _ _ _) | (refine zS ?_; intro _ _) | (apply Ws <;> intro hg))
        refine Ends.loop ⟨i + 1, v3, M3, n3⟩ (by simp only; omega) (by repeat' (first | exact .nil | refine .cons rfl ?_)) rfl ⟨hi', by simp only; omega, hH6, .inr ⟨?_, ?_⟩⟩
        · simp only; rw [bitsOf_succ, if_pos hb]; simp
        · simp only; rw [bitsOf_succ, if_pos hb]; simpa using hO3
      · have hb : ¬ x.testBit i = true := fun h => hbit (shr_and_one.2 h)
        repeat' (first | refine zP ?_ | refine zA ?_ | (refine zM ?_; intro _ _) | refine zX ?_ | (refine zC ?_; intro _ _ _ _) | (refine zS ?_; intro _ _) | (apply Ws <;> intro hg))
        refine Ends.loop ⟨i + 1, v, Mx, n2⟩ (by simp only; omega) (by repeat' (first | exact .nil | refine .cons rfl ?_)) rfl ⟨hi', hn2, hH5, ?_⟩
        simp only
        rw [bitsOf_succ, if_neg hb, List.append_nil]
        exact hO
    have hin : nl = i := by omega
    subst hin
    clear hlt2 hi hOwn
    obtain ⟨a0, k0, c0, rfl, ha0⟩ : ∃ a0 k0 c0, v = .slice a0 k0 c0 ∧ (a0.isNone != false) = decide (bitsOf nl x = []) := by
      rcases hO with ⟨h1, rfl, _⟩ | ⟨h1, h2⟩
      · exact ⟨none, 0, 0, rfl, by rw [decide_eq_true h1]; rfl⟩
      · cases h2 with
        | mk h3 => exact ⟨_, _, _, rfl, by rw [decide_eq_false h1]; rfl⟩
    repeat' (first | refine zP ?_ | refine zA ?_ | (refine zM ?_; intro _ _) | refine zX ?_ | (refine zC ?_; intro _ _ _ _) | (refine zS ?_; intro _ _) | (apply Ws <;> intro hg))
    rw [ha0]
    refine WC.joinX [(3, _), (6, _), (7, _), (26, _), (27, _), (28, _)] (by repeat' (first | exact .nil | refine .cons rfl ?_)) (fun s : OV => [(10, s.v)])
      (fun s H' => n0 + 3 ≤ s.n ∧ Sl (s.Mx ++ M) 1 s.v (ints (formB nl x)) ∧ hasH ((n0 + 1 + 1, .row 24 0 0 [.int .i64 (nl : Int), vf]) :: (n0 + 1, .row 24 0 0 [.int .i64 0, .slice none 0 0]) :: (n0, .row 60 0 0 (trays an bn hs)) :: (s.Mx ++ (Mo ++ (Mi ++ M)))) s.n H') ?_ ?_
    · refine WC.condP rfl (fun he => ?_) (fun he => ?_)
      · rcases hO with ⟨_, hv0, rfl⟩ | ⟨h1, _⟩
        · repeat' (first | refine zP ?_ | refine zA ?_ | (refine zM ?_; intro _ _) | refine zX ?_ | (refine zC ?_; intro _ _ _ _) | (refine zS ?_; intro _ _) | (apply Ws <;> intro hg))
          refine WR.bldS (by first | exact gN | exact gS rfl) rfl hH5 (vs := [(0, .int .i64 0)]) rfl (cs := [.int .i64 0]) (by rfl) rfl fun H6 hH6 => ?_
          refine WR.call (by first | exact gN | exact gS rfl) rfl rfl (list_fs _ _) ?_
          rintro _ _ ⟨rfl, rfl⟩
          repeat' (first | refine zP ?_ | refine zA ?_ | (refine zM ?_; intro _ _) | refine zX ?_ | (refine zC ?_; intro _ _ _ _) | (refine zS ?_; intro _ _) | (apply Ws <;> intro hg))
          refine Ends.midX ⟨0, _, [(n2, .row 3 0 0 [.int .i64 0])], n2 + 1⟩ (by repeat' (first | exact .nil | refine .cons rfl ?_)) ⟨by simp only; omega, ?_, ?_⟩
          · rw [formB, if_pos he]
            exact .row (lo := 0) (cs := ints [0]) (.head _) (.row _ _ _ _) (Nat.zero_le _) rfl rfl (by simp) (.inr ⟨1, rfl, by omega⟩)
          · exact hH6.perm (List.perm_middle (l₁ := [(n0 + 1 + 1, Ch.row 24 0 0 [.int .i64 (nl : Int), vf]), (n0 + 1, Ch.row 24 0 0 [.int .i64 0, .slice none 0 0]), (n0, Ch.row 60 0 0 (trays an bn hs))])).symm
        · exact absurd he h1
      · rcases hO with ⟨h1, _⟩ | ⟨_, h2⟩
        · exact absurd h1 he
        · repeat' (first | refine zP ?_ | refine zA ?_ | (refine zM ?_; intro _ _) | refine zX ?_ | (refine zC ?_; intro _ _ _ _) | (refine zS ?_; intro _ _) | (apply Ws <;> intro hg))
          refine Ends.midX ⟨0, _, Mx, n2⟩ (by repeat' (first | exact .nil | refine .cons rfl ?_)) ⟨hn2, ?_, hH5⟩
          rw [formB, if_neg he]
          exact h2.own.sl M
    clear hO hH5 ha0 hn2
    rintro ⟨_, v9, M9, n9⟩ H9 ⟨hn9, hS9, hH9⟩
    simp only at hn9 hS9 hH9
    obtain ⟨a9, c9, rfl⟩ := hS9.len
    have hone9 := hS9.one_
    have hH10 : hasH ([(n0 + 1 + 1, .row 24 0 0 [.int .i64 (nl : Int), vf]), (n0 + 1, .row 24 0 0 [.int .i64 0, .slice none 0 0]), (n0, .row 60 0 0 (trays an bn hs))] ++ (Mo ++ ((M9 ++ Mi) ++ M))) n9 H9 := by
      refine hH9.perm (List.Perm.append_left [(n0 + 1 + 1, Ch.row 24 0 0 [.int .i64 (nl : Int), vf]), (n0 + 1, Ch.row 24 0 0 [.int .i64 0, .slice none 0 0]), (n0, Ch.row 60 0 0 (trays an bn hs))] ?_)
      rw [List.append_assoc]
      exact List.perm_append_comm_assoc M9 Mo (Mi ++ M)
    dsimp only [List.cons_append, List.nil_append]
    repeat' (first | refine zP ?_ | refine zA ?_ | (refine zM ?_; intro _ _) | refine zX ?_ | (refine zC ?_; intro _ _ _ _) | (refine zS ?_; intro _ _) | (apply Ws <;> intro hg))
    refine WR.append1F [(n0 + 1 + 1, .row 24 0 0 [.int .i64 (nl : Int), vf]), (n0 + 1, .row 24 0 0 [.int .i64 0, .slice none 0 0]), (n0, .row 60 0 0 (trays an bn hs))] Mo _ rfl rfl rfl rfl hOo hH10 (new := [_]) (by rfl) rfl rfl (Nat.le_refl _) (by omega) (by simp [hvl]; omega) fun v10 M10 n10 H10 hO10 hH11 hn10 => ?_
    have hone10 := (hO10.sl M).one_
    repeat' (first | refine zP ?_ | refine zA ?_ | (refine zM ?_; intro _ _) | refine zX ?_ | (refine zC ?_; intro _ _ _ _) | (refine zS ?_; intro _ _) | (apply Ws <;> intro hg))
    refine WR.store1 (by first | exact gN | exact gS rfl) hH11 rfl rfl hone10 (cs' := [.int .i64 (nl : Int), v10]) .here (Nat.zero_le _) (by simp) rfl fun H12 hH12 => ?_
    repeat' (first | refine zP ?_ | refine zA ?_ | (refine zM ?_; intro _ _) | refine zX ?_ | (refine zC ?_; intro _ _ _ _) | (refine zS ?_; intro _ _) | (apply Ws <;> intro hg))
    refine Ends.loop ⟨k + 1, v10, vs ++ [_], M10, M9 ++ Mi, n10⟩ (by simp only; omega) (by repeat' (first | exact .nil | refine .cons rfl ?_)) rfl ⟨hk', by simp only; omega, by simp [hvl], ⟨hO10, fun h => absurd h (Nat.succ_ne_zero _)⟩, hH12, fun j hj => ?_⟩
    simp only at hj ⊢
    rcases Nat.lt_or_ge j k with h5 | h5
    · rw [getD_app_l (by omega), List.append_assoc]
      exact (hvs j h5).mono fun q hq => List.mem_append_right _ hq
    · have : j = k := by omega
      subst this
      rw [← hvl, getD_snoc, hvl, hx, Int.toNat_natCast]
      exact hS9.mono fun q hq => by
        rcases List.mem_append.1 hq with h | h
        · simp [h]
        · simp [h]
  have hkm : m = k := by omega
  subst hkm
  repeat' (first | refine zP ?_ | refine zA ?_ | (refine zM ?_; intro _ _) | refine zX ?_ | (refine zC ?_; intro _ _ _ _) | (refine zS ?_; intro _ _) | (apply Ws <;> intro hg))
  have hone1 := (hOo.sl M).one_
  refine WR.storeAll (by first | exact gN | exact gS rfl) hH4 rfl rfl (ls := [.int .i64 (nl : Int), vf]) rfl rfl (.there .here) (by (repeat' (first | exact all_nil | refine all_cons (by first | rfl | assumption) ?_))) rfl fun H5 hH5 => ?_
  repeat' (first | refine zP ?_ | refine zA ?_ | (refine zM ?_; intro _ _) | refine zX ?_ | (refine zC ?_; intro _ _ _ _) | (refine zS ?_; intro _ _) | (apply Ws <;> intro hg))
  refine Ends.retCN rfl (l := [.int .i64 (nl : Int), vf]) ?_ ⟨vf, Mo ++ Mi, n1, rfl, by omega, ⟨vs, ?_, ?_, ?_⟩, ?_, fun he => hz0 ?_⟩
  · have := hH5.readN (b := n0 + 1) (u := 0) (lo := 0) (o := 0) (k := 2) (.tail _ (.head _)) (.row _ _ _ _) (Nat.le_refl _) (by simp)
    simpa using this
  · exact (hOo.sl M).mono fun q hq => by
      rcases List.mem_append.1 hq with h | h
      · simp [h]
      · simp [h]
  · simp [traysF, hvl]; omega
  · intro i hi
    have hi' : i < m := by simpa [traysF] using (Nat.lt_of_lt_of_le hi (by simp [traysF]; omega) : i < m)
    have he : (traysF nl m hs).getD i [] = formB nl (hs.getD i 0).toNat := by
      rw [getD_eq (by simp [traysF]; omega), getD_eq (show i < hs.length by omega)]
      simp [traysF]
    rw [he]
    exact (hvs i hi').mono fun q hq => by
      rcases List.mem_append.1 hq with h | h
      · simp [h]
      · simp [h]
  · rw [List.append_assoc]
    exact hH5.sub (.cons _ (.cons _ (.cons _ (.refl _))))
  · have h := congrArg List.length he
    simp only [traysF, List.length_map, List.length_take, List.length_nil, hl] at h
    omega
end
end Go.Proofs.Ytckpocjeikkblaa.St

namespace Go.Proofs.Ytckpocjeikkblaa.St
open Go Go.Abs Go.Mth
set_option linter.unusedVariables false
set_option linter.unusedSimpArgs false
theorem neq4 : ∀ a b : Bool, pureRun C.c.P (binOp .neq 4 (.bool a) (.bool b)) = some (.bool (a != b)) := by
  intro a b
  cases a <;> cases b <;> kernel_rfl
attribute [local irreducible] gOK WS WC WR WD Ends FS YS OpV seqK blockK loopK midK retK rdK asgK rangeEnd sat Cell

/-! What is right, is accepted. -/
theorem form_intro {n : Int} {l : List Int} (h1 : 1 ≤ l.length) (h2 : ∀ x ∈ l, 0 ≤ x ∧ x < n) (h3 : l.Pairwise (· < ·)) : formE n l = 0 := by
  rw [formE, if_neg (by omega), firstE_zero]
  intro i hi
  have h4 := h2 _ (getD_mem (a := 0) hi)
  rw [formAt, if_neg (by omega)]
  rw [if_neg]
  rintro ⟨h5, h6⟩
  have := List.pairwise_iff_getElem.1 h3 (i - 1) i (by omega) hi (by omega)
  rw [getD_eq hi, getD_eq (show i - 1 < l.length by omega)] at h6
  omega
theorem formB_ok {n x : Nat} (hn : 1 ≤ n) : formE n (formB n x) = 0 := by
  unfold formB
  split
  · exact form_intro (by simp) (fun y hy => by simp at hy; omega) (by simp)
  · rename_i h
    refine form_intro ?_ (fun y hy => ?_) ?_
    · have : bitsOf n x ≠ [] := h
      exact List.length_pos_iff.2 this
    · unfold bitsOf at hy
      obtain ⟨i, hi, rfl⟩ := List.mem_map.1 hy
      have := List.mem_range.1 (List.mem_filter.1 hi).1
      omega
    · unfold bitsOf
      refine List.pairwise_map.2 ((List.Pairwise.filter _ List.pairwise_lt_range).imp fun h => ?_)
      omega
theorem trays_ok {n m : Nat} {hs : List Int} (hn : 1 ≤ n ∧ n ≤ 7) (hm : m ≤ 10) : findsE n (traysF n m hs) = 0 := by
  rw [findsE, if_neg (by omega), if_neg (by simp [traysF]; omega), firstE_zero]
  intro i hi
  have : (traysF n m hs).getD i [] ∈ traysF n m hs := getD_mem hi
  obtain ⟨x, _, hx⟩ := List.mem_map.1 this
  rw [← hx]; exact formB_ok hn.1

section
variable {n : Int} {fs : List (List Int)} {o : List Int}
end
end Go.Proofs.Ytckpocjeikkblaa.St

namespace Go.Proofs.Ytckpocjeikkblaa.St
open Go Go.Abs Go.Mth
set_option linter.unusedVariables false
set_option linter.unusedSimpArgs false
attribute [local irreducible] gOK WS WC WR WD Ends FS YS OpV seqK blockK loopK midK retK rdK asgK rangeEnd sat Cell
end Go.Proofs.Ytckpocjeikkblaa.St

namespace Go.Proofs.Ytckpocjeikkblaa.St
open Go Go.Abs Go.Mth
set_option linter.unusedVariables false
set_option linter.unusedSimpArgs false

theorem finds_intro {n : Int} {fs : List (List Int)} (h1 : 1 ≤ n ∧ n ≤ 7) (h2 : fs.length ≤ 10) (h3 : ∀ l ∈ fs, formE n l = 0) : findsE n fs = 0 := by
  rw [findsE, if_neg (by omega), if_neg (by omega), firstE_zero]
  intro i hi
  exact h3 _ (getD_mem hi)
/-! How many orders there are. -/
theorem flat_len {α β : Type} (f : α → List β) (c : Nat) : ∀ l : List α, (∀ x ∈ l, (f x).length = c) → (l.flatMap f).length = l.length * c
  | [], _ => by simp
  | a :: l, h => by
    rw [List.flatMap_cons, List.length_append, flat_len f c l fun x hx => h x (.tail _ hx), h a (.head _), List.length_cons, Nat.add_mul]; omega
theorem perms_num : ∀ (k : Nat) (r : List Nat), r.length = k → (permsL k r).length = factN k
  | 0, _, _ => by simp [permsL, factN]
  | k + 1, r, hr => by
    rw [permsL, flat_len _ (factN k), splits_len, hr, factN]
    intro s hs
    have := congrArg List.length (splits_mem hs)
    simp at this
    rw [List.length_map]
    exact perms_num k _ (by simp; omega)
theorem perms_nodup : ∀ (k : Nat) (r : List Nat), r.length = k → r.Nodup → (permsL k r).Nodup
  | 0, _, _, _ => by simp [permsL]
  | k + 1, r, hr, hnd => by
    rw [permsL]
    refine List.pairwise_flatMap.2 ⟨fun s hs => ?_, ?_⟩
    · have hm := splits_mem hs
      have hlen := congrArg List.length hm
      simp at hlen
      have h2 := hnd
      rw [← hm] at h2
      have h3 := List.nodup_append.1 h2
      refine List.pairwise_map.2 ((perms_nodup k _ (by simp; omega) ?_).imp fun h e => h (List.cons.inj e).2)
      exact List.nodup_append.2 ⟨h3.1, (List.nodup_cons.1 h3.2.1).2, fun a ha b hb => h3.2.2 a ha b (.tail _ hb)⟩
    · have h1 := splits_map r
      have h2 : ((splits r).map fun s => s.2.1).Pairwise (· ≠ ·) := by rw [h1]; exact hnd
      refine (List.pairwise_map.1 h2).imp fun h x hx y hy e => ?_
      obtain ⟨x', _, rfl⟩ := List.mem_map.1 hx
      obtain ⟨y', _, rfl⟩ := List.mem_map.1 hy
      exact h (List.cons.inj e).1
end Go.Proofs.Ytckpocjeikkblaa.St

namespace Go.Proofs.Ytckpocjeikkblaa.St
open Go Go.Abs Go.Mth
set_option linter.unusedVariables false
set_option linter.unusedSimpArgs false

section
variable {nt : Nat} {L : Env} {D : List Nat} {H H' : Heap} {K : St → Prop} {M M' : HL} {n i d : Nat} {gd : Option (Tmp × Bool)} {lo : List Nat} {l : List POp} {rs : List Rd}
theorem WD.bldS {e sz k : Nat} {z : List Value} {ps : List (Nat × Operand)} {vs : List (Nat × Value)} {cs : List Value} (hg : gOK L gd) (hd : Nat.blt d nt = true) (hH : hasH M n H) (hp : evp L ps = some vs)
    (hc : Instr.fill (fun j => some (j * sz, sz)) z.toArray vs = some cs.toArray) (hz : cs.all one = true)
    (hs : ∀ H', hasH ((n, .row e 0 0 cs) :: M) (n + 1) H' → stands H' lo rs = true)
    (kk : ∀ H', hasH ((n, .row e 0 0 cs) :: M) (n + 1) H' → WD C nt l rs ((d, .slice (some ⟨n, 0, some 0⟩) k (2 * k + 1)) :: L) D H' K) : WD C nt (⟨i, some d, .bldS e sz z k ps, gd, lo⟩ :: l) rs L D H K := by
  have h2 := hH.row e hz
  refine WD.op hg hd (H' := H.row e cs) (v := .slice (some ⟨n, 0, some 0⟩) k (2 * k + 1)) (fun t ht => ?_) rfl (hs _ h2) (kk _ h2)
  simp only [opA, evp_ok ht hp, hc, oBldS, newAddr, hH.next]
theorem WD.append {e sz : Nat} {s x : Operand} {v y : Value} {cs : List Value} {Mx M0 : HL} {k : Nat} {new : List Value} (hg : gOK L gd) (hd : Nat.blt d nt = true) (hs : ev L s = some v) (hy : ev L x = some y)
    (hO : Own e sz v cs Mx) (hH : hasH M n H) (hM : M'.Sublist M) (hp : M'.Perm (Mx ++ M0)) (hk : srcLen y = some k) (hx : srcCells H sz k y = some new) (hl : new.length = k * sz) (h1 : 1 ≤ k) (hone : new.all one = true) (hs1 : 1 ≤ sz) (hs2 : sz ≤ 1000)
    (hsm : cs.length + new.length ≤ 100000) (kk : ∀ v' Mx' n' H', Own e sz v' (cs ++ new) Mx' → hasH (Mx' ++ M0) n' H' → n ≤ n' → stands H' lo rs = true ∧ WD C nt l rs ((d, v') :: L) D H' K) :
    WD C nt (⟨i, some d, .append e sz s x, gd, lo⟩ :: l) rs L D H K := by
  obtain ⟨v', Mx', n', H', q1, q2, q3, q4⟩ := append_own (P := C.c.P) hO ((hH.sub hM).perm hp) hk hx hl h1 hone hs1 hs2 hsm
  obtain ⟨k1, k2⟩ := kk v' Mx' n' H' q2 q3 q4
  refine WD.op hg hd (H' := H') (v := v') (fun t ht => ?_) rfl k1 k2
  simp only [opA, ev_ok ht hs, ev_ok ht hy, q1]
end
attribute [local irreducible] gOK WS WC WR WD Ends FS YS OpV seqK blockK loopK midK retK rdK asgK rangeEnd sat Cell

section
variable {M : HL} {n0 : Nat} {H : Heap} {v w : Value}
end
end Go.Proofs.Ytckpocjeikkblaa.St

namespace Go.Proofs.Ytckpocjeikkblaa.St
open Go Go.Abs Go.Mth
set_option linter.unusedVariables false
set_option linter.unusedSimpArgs false

theorem form_len {n : Int} {l : List Int} (hn : n ≤ 7) (h : formE n l = 0) : l.length ≤ 1000 := by
  obtain ⟨g1, g2, g3⟩ := form_ok h
  have h7 := List.pairwise_iff_getElem.1 g3
  have hbb : ∀ i (hi : i < l.length), (i : Int) ≤ l[i] := by
    intro i
    induction i with
    | zero => intro hi; have := g2 _ (List.getElem_mem hi); omega
    | succ i ih => intro hi; have := ih (by omega); have := h7 i (i + 1) (by omega) hi (by omega); omega
  have := hbb (l.length - 1) (by omega)
  have := g2 _ (List.getElem_mem (show l.length - 1 < l.length by omega))
  omega
attribute [local irreducible] gOK WS WC WR WD Ends FS YS OpV seqK blockK loopK midK retK rdK asgK rangeEnd sat Cell
end Go.Proofs.Ytckpocjeikkblaa.St

namespace Go.Proofs.Ytckpocjeikkblaa.St
open Go Go.Abs Go.Mth
set_option linter.unusedVariables false
set_option linter.unusedSimpArgs false

section
variable {nt : Nat} {L : Env} {D : List Nat} {H H' : Heap} {K : St → Prop} {M M' : HL} {n i d : Nat} {gd : Option (Tmp × Bool)} {lo : List Nat} {l : List POp} {rs : List Rd}
/-- A slice that has no room, as append reads it. -/
def FullS (H : Heap) (s : Value) (len : Nat) (old : List Value) : Prop := ∃ base cap c, s = .slice base len cap ∧ capOf base cap = .known c ∧ c ≤ len ∧ srcCells H 1 len s = some old
end
end Go.Proofs.Ytckpocjeikkblaa.St

namespace Go.Proofs.Ytckpocjeikkblaa.St
open Go Go.Abs Go.Mth
set_option linter.unusedVariables false
set_option linter.unusedSimpArgs false

/-- What is still to come, from the last numbers on. -/
def remF {α : Type} (f : Nat → List α) (N : Nat) (zs : List α) : Nat → List α
  | 0 => zs
  | d + 1 => f (N - (d + 1)) ++ remF f N zs d
attribute [local irreducible] gOK WS WC WR WD Ends FS YS OpV seqK blockK loopK midK retK rdK asgK rangeEnd sat Cell

structure PB where
  x : Nat
  Mc : HL
  n : Nat

section
variable {N bn be bp : Nat} {g : FuncId} {vb : List Value} {J : List (List Nat) → HL → Nat → Prop} {B : HL}
end
end Go.Proofs.Ytckpocjeikkblaa.St

namespace Go.Proofs.Ytckpocjeikkblaa.St
open Go Go.Abs Go.Mth
set_option linter.unusedVariables false
set_option linter.unusedSimpArgs false
attribute [local irreducible] gOK WS WC WR WD Ends FS YS OpV seqK blockK loopK midK retK rdK asgK rangeEnd sat Cell

section
variable {M : HL} {n0 : Nat} {H : Heap} {v w : Value} {fs : List (List Int)}
end
end Go.Proofs.Ytckpocjeikkblaa.St

namespace Go.Proofs.Ytckpocjeikkblaa.St
open Go Go.Abs Go.Mth
set_option linter.unusedVariables false
set_option linter.unusedSimpArgs false
attribute [local irreducible] gOK WS WC WR WD Ends FS YS OpV seqK blockK loopK midK retK rdK asgK rangeEnd sat Cell
section
variable {M : HL} {n0 : Nat} {H : Heap} {v w : Value}
end
end Go.Proofs.Ytckpocjeikkblaa.St

namespace Go.Proofs.Ytckpocjeikkblaa.St
open Go Go.Abs Go.Mth
set_option linter.unusedVariables false
set_option linter.unusedSimpArgs false
end Go.Proofs.Ytckpocjeikkblaa.St

namespace Go.Proofs.Ytckpocjeikkblaa.St
open Go Go.Abs Go.Mth
set_option linter.unusedVariables false
set_option linter.unusedSimpArgs false

/-- Two layers lie at places that are not next to one another, at places below i (k). -/
def farI (z : List Nat) (a b : Nat) (p : Nat → Nat → Prop) : Prop := ∃ i k, i < z.length ∧ k < z.length ∧ p i k ∧ z.getD i 0 = a ∧ z.getD k 0 = b ∧ i ≠ k + 1 ∧ k ≠ i + 1
abbrev boolsV (ys : List Bool) : List Value := ys.map Value.bool
theorem bools_get {ys : List Bool} {k : Nat} (h : k < ys.length) : (boolsV ys)[k]? = some (.bool (ys.getD k false)) := by
  rw [List.getElem?_map, List.getElem?_eq_getElem h, getD_eq h]; rfl
theorem castI_get {z : List Nat} {i : Nat} (h : i < z.length) : (castI z).getD i 0 = ((z.getD i 0 : Nat) : Int) := by
  rw [getD_eq (by rw [castI_len]; exact h), getD_eq h]; simp [castI]
attribute [local irreducible] gOK WS WC WR WD Ends FS YS OpV seqK blockK loopK midK retK rdK asgK rangeEnd sat Cell

section
variable {M : HL} {n0 : Nat} {H : Heap} {v w : Value} {fs : List (List Int)} {o : List Int}
end
end Go.Proofs.Ytckpocjeikkblaa.St

namespace Go.Proofs.Ytckpocjeikkblaa.St
open Go Go.Abs Go.Mth
set_option linter.unusedVariables false
set_option linter.unusedSimpArgs false
attribute [local irreducible] gOK WS WC WR WD Ends FS YS OpV seqK blockK loopK midK retK rdK asgK rangeEnd sat Cell

structure FV where
  k : Nat
  ys : List Bool

section
variable {U : HL} {n0 : Nat} {H : Heap} {v w : Value} {fs : List (List Int)}
end
end Go.Proofs.Ytckpocjeikkblaa.St

namespace Go.Proofs.Ytckpocjeikkblaa.St
open Go Go.Abs Go.Mth
set_option linter.unusedVariables false
set_option linter.unusedSimpArgs false
theorem perm_inj {z : List Nat} {N : Nat} (h : z ∈ permsL N (List.range N)) : z.length = N ∧ (∀ i j, i < N → j < N → z.getD i 0 = z.getD j 0 → i = j) ∧ ∀ x, x < N → ∃ i, i < N ∧ z.getD i 0 = x := by
  have hp := (mem_perms N _ (by simp)).1 h
  have hl : z.length = N := by rw [hp.length_eq]; simp
  have hnd : z.Nodup := hp.nodup_iff.2 List.nodup_range
  refine ⟨hl, fun i j hi hj he => ?_, fun x hx => ?_⟩
  · rw [getD_eq (by omega), getD_eq (by omega)] at he
    exact (List.getElem_inj hnd).1 he
  · obtain ⟨i, hi, h2⟩ := List.mem_iff_getElem.1 (hp.mem_iff.2 (List.mem_range.2 hx))
    exact ⟨i, by omega, by rw [getD_eq hi]; exact h2⟩
end Go.Proofs.Ytckpocjeikkblaa.St

namespace Go.Proofs.Ytckpocjeikkblaa.St
open Go Go.Abs Go.Mth
set_option linter.unusedVariables false
set_option linter.unusedSimpArgs false
attribute [local irreducible] gOK WS WC WR WD Ends FS YS OpV seqK blockK loopK midK retK rdK asgK rangeEnd sat Cell

section
variable {M : HL} {n0 : Nat} {H : Heap} {v w : Value} {fs : List (List Int)}
end
end Go.Proofs.Ytckpocjeikkblaa.St

namespace Go.Proofs.Ytckpocjeikkblaa.St
open Go Go.Abs Go.Mth
set_option linter.unusedVariables false
set_option linter.unusedSimpArgs false
attribute [local irreducible] gOK WS WC WR WD Ends FS YS OpV seqK blockK loopK midK retK rdK asgK rangeEnd sat Cell
end Go.Proofs.Ytckpocjeikkblaa.St

namespace Go.Proofs.Ytckpocjeikkblaa.St
open Go Go.Abs Go.Mth
set_option linter.unusedVariables false
set_option linter.unusedSimpArgs false
attribute [local irreducible] gOK WS WC WR WD Ends FS YS OpV seqK blockK loopK midK retK rdK asgK rangeEnd sat Cell

structure YV where
  x : Nat
  v : Value
  Mx : HL
  n : Nat
end Go.Proofs.Ytckpocjeikkblaa.St
