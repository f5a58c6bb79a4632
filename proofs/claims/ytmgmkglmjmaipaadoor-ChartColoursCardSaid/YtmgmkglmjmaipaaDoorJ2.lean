/- Texts of the law, joined. -/
import Derived.Test.YtmgmkglmjmaipaaDoorJ1
import Derived.Test.YtmgmkglmjmaipaaDoorSymK
import Derived.Test.YtmgmkglmjmaipaaDoorSymG
import Derived.Test.YtmgmkglmjmaipaaDoorSymR
import Derived.Test.YtmgmkglmjmaipaaDoorCtP
/- All orders of a list, the first one first, and which one follows which. -/
namespace Go.Mth
set_option linter.unusedVariables false

/-- Each element of a list, with what is before it, and behind it. -/
def splits : List Nat → List (List Nat × Nat × List Nat)
  | [] => []
  | x :: l => ([], x, l) :: (splits l).map fun s => (x :: s.1, s.2.1, s.2.2)

/-- All orders of a list of so many elements. -/
def permsL : Nat → List Nat → List (List Nat)
  | 0, _ => [[]]
  | k + 1, r => (splits r).flatMap fun s => (permsL k (s.1 ++ s.2.2)).map (s.2.1 :: ·)

/-- What follows: behind a place that can be greater all descend; the smallest of them that is greater comes there, and the others ascend. -/
def Next (l m : List Nat) : Prop := ∃ p a d1 y d2, l = p ++ a :: (d1 ++ y :: d2) ∧ m = p ++ y :: (d1 ++ a :: d2).reverse ∧ (d1 ++ y :: d2).Pairwise (· > ·) ∧ a < y ∧ ∀ z ∈ d2, z < a

theorem Next.cons {l m : List Nat} (x : Nat) (h : Next l m) : Next (x :: l) (x :: m) := by
  obtain ⟨p, a, d1, y, d2, h1, h2, h3⟩ := h
  exact ⟨x :: p, a, d1, y, d2, by rw [h1]; rfl, by rw [h2]; rfl, h3⟩

/-- A list in which each one follows the one before; its first, and its last one. -/
inductive Path {α : Type} (R : α → α → Prop) : α → List α → α → Prop where
  | one (a : α) : Path R a [a] a
  | cons {a b c : α} {l : List α} (h : R a b) (k : Path R b l c) : Path R a (a :: l) c

theorem Path.append {α : Type} {R : α → α → Prop} {a b c d : α} {l m : List α} (h : Path R a l b) (r : R b c) (k : Path R c m d) : Path R a (l ++ m) d := by
  induction h with
  | one a => exact .cons r k
  | cons h1 _ ih => exact .cons h1 (ih r)
theorem Path.map {α β : Type} {R : α → α → Prop} {S : β → β → Prop} {f : α → β} (hf : ∀ a b, R a b → S (f a) (f b)) {a b : α} {l : List α} (h : Path R a l b) : Path S (f a) (l.map f) (f b) := by
  induction h with
  | one a => exact .one _
  | cons h1 _ ih => exact .cons (hf _ _ h1) ih
theorem Path.ne {α : Type} {R : α → α → Prop} {a b : α} {l : List α} (h : Path R a l b) : l ≠ [] := by cases h <;> simp
theorem Path.head {α : Type} {R : α → α → Prop} {a b : α} {l : List α} (h : Path R a l b) : l.head? = some a := by cases h <;> rfl
theorem Path.last {α : Type} {R : α → α → Prop} {a b : α} {l : List α} (h : Path R a l b) : l.getLast? = some b := by
  induction h with
  | one a => rfl
  | cons _ k ih => rw [List.getLast?_cons_of_ne_nil k.ne]; exact ih
end Go.Mth

/- What is wrong with a map, and maps with which nothing is wrong. -/
namespace Go.Abs
variable [Globs]
theorem Ends.retCN1 {L : Env} {H : Heap} {a b k : Nat} {p : Addr} {l : List Value} {v : Value} {R : Value → Heap → Prop} (hx : ev L (.tmp a) = some (.pointer (some p))) (hr : H.readN p k = some l) (hy : ev L (.tmp b) = some v) (h : R (.tuple #[.agg l.toArray, v]) H) : Ends (retK [.cell a (some k), .tmp b] R) .ret L [] H := by
  refine Ends.ret_of trivial fun t ht => ⟨_, H, ?_, h⟩
  simp only [takeAll, leaveC, resultOf, ev_ok ht hx, hr, ev_ok ht hy, retVal]
end Go.Abs
namespace Go.Proofs.YtmgmkglmjmaipaaDoor.Ct
open Go Go.Abs Go.Mth
set_option linter.unusedVariables false
set_option linter.unusedSimpArgs false
theorem map_getD {α β : Type} {g : α → β} {l : List α} {i : Nat} {a : α} {b : β} (h : i < l.length) : (l.map g).getD i b = g (l.getD i a) := by
  rw [getD_eq (by simpa using h), List.getElem_map, getD_eq h]
/-- How many ends there are in the first lists. -/
def sizeTo {α : Type} (P : List (List α)) (k : Nat) : Nat := ((P.take k).map List.length).sum
def sizeL {α : Type} (P : List (List α)) : Nat := (P.map List.length).sum
theorem sizeTo_succ {α : Type} {P : List (List α)} {k : Nat} (h : k < P.length) : sizeTo P (k + 1) = sizeTo P k + (P.getD k []).length := by
  unfold sizeTo
  rw [List.take_succ_eq_append_getElem h, List.map_append, List.sum_append, getD_eq h]; simp
theorem sizeTo_all {α : Type} (P : List (List α)) : sizeTo P P.length = sizeL P := by unfold sizeTo sizeL; rw [List.take_length]
theorem sizeTo_le {α : Type} {P : List (List α)} : ∀ {j k : Nat}, j ≤ k → k ≤ P.length → sizeTo P j ≤ sizeTo P k
  | j, 0, h, _ => by obtain rfl : j = 0 := by omega
                     exact Nat.le_refl _
  | j, k + 1, h, hk => by
    by_cases e : j = k + 1
    · rw [e]; exact Nat.le_refl _
    · have := sizeTo_le (P := P) (j := j) (k := k) (by omega) (by omega)
      rw [sizeTo_succ (by omega)]; omega
theorem size_flat {α : Type} (P : List (List α)) : P.flatten.length = sizeL P := by rw [List.length_flatten]; rfl
/-- The ends before a place. -/
def preM (P : List (List Int)) (i k : Nat) : List Int := (P.take i).flatten ++ (P.getD i []).take k
def errK (P : List (List Int)) (i k : Nat) : Int :=
  if (P.getD i []).getD k 0 < 0 ∨ (sizeL P : Int) ≤ (P.getD i []).getD k 0 then 2 else if (P.getD i []).getD k 0 ∈ preM P i k then 6 else 0
def errI (P : List (List Int)) (i : Nat) : Int := if (P.getD i []).length = 0 then 4 else firstE (errK P i) (P.getD i []).length
def errM (P : List (List Int)) : Int :=
  if 16 < sizeL P then 3 else if firstE (errI P) P.length ≠ 0 then firstE (errI P) P.length else if sizeL P % 2 ≠ 0 then 5 else 0
theorem preM_zero (P : List (List Int)) : preM P 0 0 = [] := by simp [preM]
theorem preM_succ {P : List (List Int)} {i k : Nat} (h : k < (P.getD i []).length) : preM P i (k + 1) = preM P i k ++ [(P.getD i []).getD k 0] := by
  unfold preM
  rw [List.take_succ_eq_append_getElem h, getD_eq h, List.append_assoc]
theorem preM_next {P : List (List Int)} {i : Nat} (h : i < P.length) : preM P (i + 1) 0 = preM P i (P.getD i []).length := by
  unfold preM
  rw [List.take_succ_eq_append_getElem h, List.flatten_append, List.take_length, getD_eq h]; simp
theorem preM_all (P : List (List Int)) : preM P P.length 0 = P.flatten := by simp [preM]
/-- All is well up to a place. -/
theorem err_pre {P : List (List Int)} : ∀ {i : Nat}, i ≤ P.length → firstE (errI P) i = 0 → ∀ {k : Nat}, k ≤ (P.getD i []).length → firstE (errK P i) k = 0 → (preM P i k).Nodup ∧ ∀ x ∈ preM P i k, 0 ≤ x ∧ x < sizeL P := by
  intro i
  induction i with
  | zero =>
    intro hi h0 k
    induction k with
    | zero => intro _ _; rw [preM_zero]; exact ⟨List.nodup_nil, fun x hx => by cases hx⟩
    | succ k ih =>
      intro hk h1
      have h2 := firstE_zero.1 h1
      obtain ⟨g1, g2⟩ := ih (by omega) (firstE_zero.2 fun j hj => h2 j (by omega))
      have h3 := h2 k (Nat.lt_succ_self _)
      rw [preM_succ (by omega)]
      unfold errK at h3
      split at h3
      · cases h3
      · split at h3
        · cases h3
        · rename_i h4 h5
          refine ⟨List.nodup_append.2 ⟨g1, by simp, fun a ha b hb e => ?_⟩, fun x hx => ?_⟩
          · rw [List.mem_singleton] at hb
            exact h5 (by rw [← hb, ← e]; exact ha)
          · rcases List.mem_append.1 hx with hx | hx
            · exact g2 x hx
            · rw [List.mem_singleton] at hx
              rw [hx]; omega
  | succ i ihi =>
    intro hi h0 k
    have h1 := firstE_zero.1 h0
    have hp := ihi (by omega) (firstE_zero.2 fun j hj => h1 j (by omega)) (k := (P.getD i []).length) (Nat.le_refl _) (by
      have := h1 i (Nat.lt_succ_self _)
      unfold errI at this
      split at this
      · cases this
      · exact this)
    induction k with
    | zero => intro _ _; rw [preM_next (by omega)]; exact hp
    | succ k ih =>
      intro hk h1
      have h2 := firstE_zero.1 h1
      obtain ⟨g1, g2⟩ := ih (by omega) (firstE_zero.2 fun j hj => h2 j (by omega))
      have h3 := h2 k (Nat.lt_succ_self _)
      rw [preM_succ (by omega)]
      unfold errK at h3
      split at h3
      · cases h3
      · split at h3
        · cases h3
        · rename_i h4 h5
          refine ⟨List.nodup_append.2 ⟨g1, by simp, fun a ha b hb e => ?_⟩, fun x hx => ?_⟩
          · rw [List.mem_singleton] at hb
            exact h5 (by rw [← hb, ← e]; exact ha)
          · rcases List.mem_append.1 hx with hx | hx
            · exact g2 x hx
            · rw [List.mem_singleton] at hx
              rw [hx]; omega
/-- A list of numbers as the program has it. -/
def castL (l : List Nat) : List Int := l.map fun (x : Nat) => (x : Int)
def castP (P : List (List Nat)) : List (List Int) := P.map castL
/-- A map with which nothing is wrong. -/
structure OKM (P : List (List Nat)) : Prop where
  ne : ∀ l ∈ P, l ≠ []
  nd : P.flatten.Nodup
  lt : ∀ l ∈ P, ∀ x ∈ l, x < sizeL P
  even : sizeL P % 2 = 0
  le : sizeL P ≤ 16
theorem castP_len (P : List (List Nat)) : (castP P).length = P.length := by simp [castP]
theorem castL_len (l : List Nat) : (castL l).length = l.length := by simp [castL]
theorem castP_get {P : List (List Nat)} (i : Nat) : (castP P).getD i [] = castL (P.getD i []) := by
  by_cases h : i < P.length
  · unfold castP; rw [map_getD h]
  · rw [List.getD_eq_getElem?_getD, List.getD_eq_getElem?_getD, List.getElem?_eq_none (by rw [castP_len]; omega), List.getElem?_eq_none (by omega)]; rfl
theorem castP_size (P : List (List Nat)) : sizeL (castP P) = sizeL P := by
  unfold sizeL castP; rw [List.map_map]; congr 1; exact List.map_congr_left fun l _ => castL_len l
theorem castP_flat (P : List (List Nat)) : (castP P).flatten = castL P.flatten := by
  induction P with
  | nil => rfl
  | cons l P ih =>
    rw [show castP (l :: P) = castL l :: castP P from rfl, List.flatten_cons, List.flatten_cons, ih]
    simp [castL]
theorem castL_nodup {l : List Nat} : (castL l).Nodup ↔ l.Nodup := by
  constructor
  · intro h
    exact (List.pairwise_map.1 h).imp fun hab e => hab (by rw [e])
  · intro h
    exact List.pairwise_map.2 (h.imp fun hab e => hab (by omega))
theorem castL_get {l : List Nat} {k : Nat} (h : k < l.length) : (castL l).getD k 0 = (l.getD k 0 : Nat) := by unfold castL; rw [map_getD h]
theorem err_nat {P : List (List Int)} (h : errM P = 0) : ∃ Q, P = castP Q ∧ OKM Q := by
  unfold errM at h
  split at h
  · cases h
  · rename_i h16
    split at h
    · exact absurd h (by assumption)
    · rename_i h0
      have h0 := Decidable.not_not.1 h0
      split at h
      · cases h
      · rename_i hev
        obtain ⟨g1, g2⟩ := err_pre (Nat.le_refl _) h0 (k := 0) (Nat.zero_le _) rfl
        rw [preM_all] at g1 g2
        have hP : P = castP (P.map fun l => l.map Int.toNat) := by
          unfold castP castL
          rw [List.map_map]
          refine (List.map_id P).symm.trans (List.map_congr_left fun l hl => ?_)
          show l = ((l.map Int.toNat).map fun (x : Nat) => (x : Int))
          rw [List.map_map]
          refine (List.map_id l).symm.trans (List.map_congr_left fun x hx => ?_)
          have := (g2 x (List.mem_flatten.2 ⟨l, hl, hx⟩)).1
          show x = ((x.toNat : Nat) : Int)
          omega
        generalize P.map (fun l => l.map Int.toNat) = Q at hP
        subst hP
        rw [castP_flat] at g1 g2
        rw [castP_size] at g2 hev h16
        refine ⟨Q, rfl, fun l hl e => ?_, castL_nodup.1 g1, fun l hl x hx => ?_, by omega, by omega⟩
        · subst e
          obtain ⟨i, hi, he⟩ := List.mem_iff_getElem.1 hl
          have := firstE_zero.1 h0 i (by rw [castP_len]; exact hi)
          unfold errI at this
          rw [castP_get, getD_eq hi, he, castL_len, List.length_nil, if_pos rfl] at this
          cases this
        · have := g2 (x : Int) (List.mem_map.2 ⟨x, List.mem_flatten.2 ⟨l, hl, hx⟩, rfl⟩)
          omega
theorem ok_err {Q : List (List Nat)} (h : OKM Q) : errM (castP Q) = 0 := by
  have key : ∀ i, i < Q.length → errI (castP Q) i = 0 := fun i hi => by
    have hl := getD_mem (a := []) hi
    have hne : (Q.getD i []).length ≠ 0 := fun e => h.ne _ hl (List.length_eq_zero_iff.1 e)
    unfold errI
    rw [castP_get, castL_len, if_neg hne]
    refine firstE_zero.2 fun k hk => ?_
    unfold errK
    rw [castP_get, castL_get hk, castP_size, if_neg, if_neg]
    · intro hm
      unfold preM at hm
      rw [castP_get] at hm
      have e1 : (castP Q).take i = castP (Q.take i) := by simp [castP, List.map_take]
      have e2 : (castL (Q.getD i [])).take k = castL ((Q.getD i []).take k) := by simp [castL, List.map_take]
      rw [e1, e2, castP_flat, List.mem_append] at hm
      have hnd := h.nd
      rw [show Q = Q.take i ++ (Q.getD i [] :: Q.drop (i + 1)) by rw [getD_eq hi, List.getElem_cons_drop hi, List.take_append_drop], List.flatten_append, List.nodup_append, List.flatten_cons, List.nodup_append] at hnd
      rcases hm with hm | hm
      · obtain ⟨x, hx, he⟩ := List.mem_map.1 hm
        have he' : x = (Q.getD i []).getD k 0 := by omega
        exact hnd.2.2 x hx _ (List.mem_append_left _ (getD_mem hk)) he'
      · obtain ⟨x, hx, he⟩ := List.mem_map.1 hm
        have he' : x = (Q.getD i []).getD k 0 := by omega
        have hd := hnd.2.1.1
        rw [he', getD_eq hk] at hx
        obtain ⟨j, hj, hje⟩ := List.mem_iff_getElem.1 hx
        rw [List.getElem_take] at hje
        rw [List.length_take] at hj
        have := (List.getElem_inj hd).1 hje
        omega
    · have := h.lt _ hl _ (getD_mem (a := 0) hk)
      omega
  unfold errM
  rw [if_neg (by rw [castP_size]; have := h.le; omega)]
  have h0 : firstE (errI (castP Q)) (castP Q).length = 0 := firstE_zero.2 fun i hi => key i (by rwa [castP_len] at hi)
  rw [if_neg (by rw [h0]; simp), if_neg (by rw [castP_size]; have := h.even; omega)]
theorem err_range (P : List (List Int)) : 0 ≤ errM P ∧ errM P ≤ 6 := by
  have k1 : ∀ i k, 0 ≤ errK P i k ∧ errK P i k ≤ 6 := fun i k => by unfold errK; split <;> (try split) <;> omega
  have fe : ∀ (f : Nat → Int), (∀ i, 0 ≤ f i ∧ f i ≤ 6) → ∀ m, 0 ≤ firstE f m ∧ firstE f m ≤ 6 := fun f hf m => by
    induction m with
    | zero => exact ⟨Int.le_refl _, by show (0 : Int) ≤ 6; omega⟩
    | succ m ih =>
      simp only [firstE]
      split
      · exact hf m
      · exact ih
  have k2 : ∀ i, 0 ≤ errI P i ∧ errI P i ≤ 6 := fun i => by
    unfold errI; split
    · omega
    · exact fe _ (k1 i) _
  unfold errM
  split
  · omega
  · split
    · exact fe _ k2 _
    · split <;> omega
end Go.Proofs.YtmgmkglmjmaipaaDoor.Ct

/- count, Check. -/
namespace Go.Proofs.YtmgmkglmjmaipaaDoor.Ct
open Go Go.Abs Go.Mth
set_option linter.unusedVariables false
set_option linter.unusedSimpArgs false
theorem bools_one (l : List Bool) : (bools l).all one = true := by
  rw [List.all_eq_true]; intro q hq; obtain ⟨z, _, rfl⟩ := List.mem_map.1 hq; rfl
attribute [local irreducible] gOK WS WC WR WD Ends FS YS OpV seqK blockK loopK midK retK rdK asgK rangeEnd sat Cell
section
variable {M : HL} {n0 : Nat} {H : Heap} {v w : Value}
theorem count_fs (hH : hasH M n0 H) {P : List (List Int)} (hR : RowsI M v P) (hl : P.length ≤ 1000) (hr : ∀ i, i < P.length → (P.getD i []).length ≤ 1000) :
    FS C 70 [.agg [v].toArray] H (fun e H' => ∃ n' X, n0 ≤ n' ∧ hasH M n' H' ∧ e = .tuple #[.int .i64 X, .bool (decide (16 < sizeL P))] ∧ (sizeL P ≤ 16 → X = sizeL P)) := by
  obtain ⟨ws, hS, hwl, hrow⟩ := hR
  have hv := hS.one_
  refine FS.intro (pf := pf70) rfl rfl rfl ?_
  repeat' (first | refine zP ?_ | refine zA ?_ | (refine zM ?_; intro _ _) | refine zX ?_ | (refine zC ?_; intro _ _ _ _) | (refine zS ?_; intro _ _) | (apply Ws <;> intro hg))
  rename_i H1 hH1
  refine WC.loopX [(7, v), (8, .int .i64 (ws.length : Int))] (fun k : Nat => [(2, .int .i64 (sizeTo P k : Int)), (9, .int .i64 (k : Int))]) []
    (fun k H' => k ≤ P.length ∧ sizeTo P k ≤ 16 ∧ hasH M (n0 + 1) H') (fun k => P.length - k) 0 (by repeat' (first | exact .nil | refine .cons rfl ?_)) rfl ⟨Nat.zero_le _, Nat.zero_le _, hH1.tail⟩ ?_
  clear hH hH1
  rintro k H2 ⟨hk, hs, hH⟩
  dsimp only [List.cons_append, List.nil_append]
  repeat' (first | refine zP ?_ | refine zA ?_ | (refine zM ?_; intro _ _) | refine zX ?_ | (refine zC ?_; intro _ _ _ _) | (refine zS ?_; intro _ _) | (apply Ws <;> intro hg))
  refine WC.condP rfl (fun hlt => ?_) (fun hlt => ?_)
  · have hk' : k < P.length := by omega
    have hSk := hrow k hk'
    have hlk := hr k hk'
    have hss := sizeTo_succ hk'
    repeat' (first | refine zP ?_ | refine zA ?_ | (refine zM ?_; intro _ _) | refine zX ?_ | (refine zC ?_; intro _ _ _ _) | (refine zS ?_; intro _ _) | (apply Ws <;> intro hg))
    rw [show (sizeTo P k : Int) + ((P.getD k []).length : Int) = (sizeTo P (k + 1) : Int) by omega]
    refine WC.condP rfl (fun hbig => ?_) (fun hbig => ?_)
    · repeat' (first | refine zP ?_ | refine zA ?_ | (refine zM ?_; intro _ _) | refine zX ?_ | (refine zC ?_; intro _ _ _ _) | (refine zS ?_; intro _ _) | (apply Ws <;> intro hg))
      refine Ends.ret2 rfl rfl ⟨n0 + 1, ((sizeTo P (k + 1) : Nat) : Int), by omega, hH, ?_, fun h => ?_⟩
      · have := sizeTo_le (P := P) (j := k + 1) (k := P.length) (by omega) (Nat.le_refl _)
        rw [sizeTo_all] at this
        rw [decide_eq_true (by omega)]
      · have := sizeTo_le (P := P) (j := k + 1) (k := P.length) (by omega) (Nat.le_refl _)
        rw [sizeTo_all] at this
        omega
    · repeat' (first | refine zP ?_ | refine zA ?_ | (refine zM ?_; intro _ _) | refine zX ?_ | (refine zC ?_; intro _ _ _ _) | (refine zS ?_; intro _ _) | (apply Ws <;> intro hg))
      exact Ends.loop (k + 1) (by omega) (by repeat' (first | exact .nil | refine .cons rfl ?_)) rfl ⟨hk', by omega, hH⟩
  · have hkn : k = P.length := by omega
    subst hkn
    rw [sizeTo_all] at hs
    repeat' (first | refine zP ?_ | refine zA ?_ | (refine zM ?_; intro _ _) | refine zX ?_ | (refine zC ?_; intro _ _ _ _) | (refine zS ?_; intro _ _) | (apply Ws <;> intro hg))
    refine Ends.ret2 rfl rfl ⟨n0 + 1, ((sizeTo P P.length : Nat) : Int), by omega, hH, ?_, fun h => by rw [sizeTo_all]⟩
    rw [decide_eq_false (by omega)]
theorem seen_set {s : List Bool} {l : List Int} {y : Nat} (hl : s.length = 16) (hy : y < 16) (h : ∀ x : Nat, x < 16 → s.getD x false = decide ((x : Int) ∈ l)) : ∀ x : Nat, x < 16 → (s.set y true).getD x false = decide ((x : Int) ∈ l ++ [(y : Int)]) := by
  intro x hx
  rw [getD_set' (by omega)]
  by_cases e : x = y
  · subst e; rw [if_pos rfl, decide_eq_true (by simp)]
  · rw [if_neg e, h x hx]
    have : ((x : Int) ∈ l ++ [(y : Int)]) ↔ (x : Int) ∈ l := by
      rw [List.mem_append, List.mem_singleton]
      constructor
      · rintro (h | h)
        · exact h
        · omega
      · exact .inl
    simp only [this]
set_option maxHeartbeats 1000000 in
theorem Check_fs (hH : hasH M n0 H) {P : List (List Int)} (hR : RowsI M v P) (hl : P.length ≤ 1000) (hr : ∀ i, i < P.length → (P.getD i []).length ≤ 1000) :
    FS C 22 [.agg [v].toArray] H (fun e H' => ∃ n', n0 ≤ n' ∧ hasH M n' H' ∧ e = .int .i64 (errM P)) := by
  have hR0 := hR
  obtain ⟨ws, hS, hwl, hrow⟩ := hR
  have hv := hS.one_
  refine FS.intro (pf := pf22) rfl rfl rfl ?_
  repeat' (first | refine zP ?_ | refine zA ?_ | (refine zM ?_; intro _ _) | refine zX ?_ | (refine zC ?_; intro _ _ _ _) | (refine zS ?_; intro _ _) | (apply Ws <;> intro hg))
  rename_i H1 hH1
  refine WR.call (by first | exact gN | exact gS rfl) rfl rfl (count_fs hH1 hR0.cons hl hr) ?_
  rintro _ H2 ⟨n2, X, hn2, hH2, rfl, hX⟩
  clear hH hH1
  repeat' (first | refine zP ?_ | refine zA ?_ | (refine zM ?_; intro _ _) | refine zX ?_ | (refine zC ?_; intro _ _ _ _) | (refine zS ?_; intro _ _) | (apply Ws <;> intro hg))
  refine WC.condP rfl (fun hbig => ?_) (fun hbig => ?_)
  · repeat' (first | refine zP ?_ | refine zA ?_ | (refine zM ?_; intro _ _) | refine zX ?_ | (refine zC ?_; intro _ _ _ _) | (refine zS ?_; intro _ _) | (apply Ws <;> intro hg))
    exact Ends.ret1 rfl ⟨n2, by omega, hH2.tail, by unfold errM; rw [if_pos hbig]⟩
  · obtain rfl := hX (by omega)
    repeat' (first | refine zP ?_ | refine zA ?_ | (refine zM ?_; intro _ _) | refine zX ?_ | (refine zC ?_; intro _ _ _ _) | (refine zS ?_; intro _ _) | (apply Ws <;> intro hg))
    rename_i H3 hH3
    refine WC.loopX [(3, .int .i64 (sizeL P : Int)), (5, .pointer (some ⟨n2, 0, some 0⟩)), (17, v), (18, .int .i64 (ws.length : Int))] (fun a : Nat × List Bool => [(19, .int .i64 (a.1 : Int))]) []
      (fun a H' => a.1 ≤ P.length ∧ firstE (errI P) a.1 = 0 ∧ a.2.length = 16 ∧ (∀ x : Nat, x < 16 → a.2.getD x false = decide ((x : Int) ∈ preM P a.1 0)) ∧ hasH ((n2, .row 87 0 0 (bools a.2)) :: M) (n2 + 1) H') (fun a => P.length - a.1) (0, List.replicate 16 false) (by repeat' (first | exact .nil | refine .cons rfl ?_)) rfl
      ⟨Nat.zero_le _, rfl, rfl, fun x hx => ?_, ?_⟩ ?_
    · rw [preM_zero, decide_eq_false (by simp)]
      simp only [List.getD_eq_getElem?_getD, List.getElem?_replicate, hx, if_true, Option.getD_some]
    · exact (hH3.sub (.cons_cons _ (List.sublist_cons_self _ _)))
    clear hH2 hH3
    rintro ⟨i, s⟩ H4 ⟨hi, h0, hsl, hs, hH⟩
    simp only at hi h0 hsl hs hH
    dsimp only [List.cons_append, List.nil_append]
    repeat' (first | refine zP ?_ | refine zA ?_ | (refine zM ?_; intro _ _) | refine zX ?_ | (refine zC ?_; intro _ _ _ _) | (refine zS ?_; intro _ _) | (apply Ws <;> intro hg))
    refine WC.condP rfl (fun hlt => ?_) (fun hlt => ?_)
    · have hi' : i < P.length := by omega
      have hSi := hrow i hi'
      have hli := hr i hi'
      have hbl := bools_one s
      repeat' (first | refine zP ?_ | refine zA ?_ | (refine zM ?_; intro _ _) | refine zX ?_ | (refine zC ?_; intro _ _ _ _) | (refine zS ?_; intro _ _) | (apply Ws <;> intro hg))
      refine WC.condP rfl (fun he => ?_) (fun he => ?_)
      · repeat' (first | refine zP ?_ | refine zA ?_ | (refine zM ?_; intro _ _) | refine zX ?_ | (refine zC ?_; intro _ _ _ _) | (refine zS ?_; intro _ _) | (apply Ws <;> intro hg))
        refine Ends.ret1 rfl ⟨n2 + 1, by omega, hH.tail, ?_⟩
        have he' : errI P i = 4 := by unfold errI; rw [if_pos (by omega)]
        have := firstE_at h0 (by rw [he']; decide) hi'
        rw [he'] at this
        unfold errM
        rw [if_neg hbig, if_pos (by rw [this]; decide), this]
      · repeat' (first | refine zP ?_ | refine zA ?_ | (refine zM ?_; intro _ _) | refine zX ?_ | (refine zC ?_; intro _ _ _ _) | (refine zS ?_; intro _ _) | (apply Ws <;> intro hg))
        refine WC.loopX [(3, .int .i64 (sizeL P : Int)), (5, .pointer (some ⟨n2, 0, some 0⟩)), (17, v), (18, .int .i64 (ws.length : Int)), (19, .int .i64 (i : Int)), (26, ws.getD i undef), (27, .int .i64 ((P.getD i []).length : Int))] (fun a : Nat × List Bool => [(28, .int .i64 (a.1 : Int))]) []
          (fun a H' => a.1 ≤ (P.getD i []).length ∧ firstE (errK P i) a.1 = 0 ∧ a.2.length = 16 ∧ (∀ x : Nat, x < 16 → a.2.getD x false = decide ((x : Int) ∈ preM P i a.1)) ∧ hasH ((n2, .row 87 0 0 (bools a.2)) :: M) (n2 + 1) H') (fun a => (P.getD i []).length - a.1) (0, s) (by repeat' (first | exact .nil | refine .cons rfl ?_)) rfl
          ⟨Nat.zero_le _, rfl, hsl, hs, hH⟩ ?_
        clear hH hs hsl hbl
        rintro ⟨k, s2⟩ H5 ⟨hk, h0k, hsl, hs, hH⟩
        simp only at hk h0k hsl hs hH
        have hbl := bools_one s2
        dsimp only [List.cons_append, List.nil_append]
        repeat' (first | refine zP ?_ | refine zA ?_ | (refine zM ?_; intro _ _) | refine zX ?_ | (refine zC ?_; intro _ _ _ _) | (refine zS ?_; intro _ _) | (apply Ws <;> intro hg))
        refine WC.condP rfl (fun hlt2 => ?_) (fun hlt2 => ?_)
        · have hk' : k < (P.getD i []).length := by omega
          have hat : errK P i k ≠ 0 → errM P = errK P i k := fun hne => by
            have h1 := firstE_at h0k hne hk'
            have h2 : errI P i = errK P i k := by unfold errI; rw [if_neg (by omega), h1]
            have h3 := firstE_at h0 (by rw [h2]; exact hne) hi'
            unfold errM
            rw [if_neg hbig, if_pos (by rw [h3, h2]; exact hne), h3, h2]
          have h2 : (P.getD i []).getD k 0 < 0 ∨ (sizeL P : Int) ≤ (P.getD i []).getD k 0 → errM P = 2 := fun hx => by
            have e2 : errK P i k = 2 := by unfold errK; rw [if_pos hx]
            rw [hat (by rw [e2]; decide), e2]
          repeat' (first | refine zP ?_ | refine zA ?_ | (refine zM ?_; intro _ _) | refine zX ?_ | (refine zC ?_; intro _ _ _ _) | (refine zS ?_; intro _ _) | (apply Ws <;> intro hg))
          · exact Ends.ret1 rfl ⟨n2 + 1, by omega, hH.tail, by rw [h2 (.inl hg)]⟩
          · refine WC.condP rfl (fun hge => ?_) (fun hge => ?_)
            · repeat' (first | refine zP ?_ | refine zA ?_ | (refine zM ?_; intro _ _) | refine zX ?_ | (refine zC ?_; intro _ _ _ _) | (refine zS ?_; intro _ _) | (apply Ws <;> intro hg))
              exact Ends.ret1 rfl ⟨n2 + 1, by omega, hH.tail, by rw [h2 (.inr hge)]⟩
            · obtain ⟨y, hy⟩ : ∃ y : Nat, (P.getD i []).getD k 0 = (y : Int) := ⟨((P.getD i []).getD k 0).toNat, by omega⟩
              have hpre := preM_succ hk'
              rw [hy] at hg hge hpre ⊢
              have hy16 : y < 16 := by omega
              repeat' (first | refine zP ?_ | refine zA ?_ | (refine zM ?_; intro _ _) | refine zX ?_ | (refine zC ?_; intro _ _ _ _) | (refine zS ?_; intro _ _) | (apply Ws <;> intro hg))
              rw [hs y hy16]
              refine WC.condP rfl (fun hmem => ?_) (fun hmem => ?_)
              · repeat' (first | refine zP ?_ | refine zA ?_ | (refine zM ?_; intro _ _) | refine zX ?_ | (refine zC ?_; intro _ _ _ _) | (refine zS ?_; intro _ _) | (apply Ws <;> intro hg))
                refine Ends.ret1 rfl ⟨n2 + 1, by omega, hH.tail, ?_⟩
                have e2 : errK P i k = 6 := by unfold errK; rw [hy, if_neg (by omega), if_pos hmem]
                rw [hat (by rw [e2]; decide), e2]
              · repeat' (first | refine zP ?_ | refine zA ?_ | (refine zM ?_; intro _ _) | refine zX ?_ | (refine zC ?_; intro _ _ _ _) | (refine zS ?_; intro _ _) | (apply Ws <;> intro hg))
                rename_i H6 hH6
                have e2 : errK P i k = 0 := by unfold errK; rw [hy, if_neg (by omega), if_neg hmem]
                refine Ends.loop (k + 1, s2.set y true) (by simp only; omega) (by repeat' (first | exact .nil | refine .cons rfl ?_)) rfl ⟨hk', firstE_succ h0k e2, by simp [hsl], ?_, hH6⟩
                simp only
                rw [hpre]
                exact seen_set hsl hy16 hs
        · have hkl : k = (P.getD i []).length := by omega
          subst hkl
          repeat' (first | refine zP ?_ | refine zA ?_ | (refine zM ?_; intro _ _) | refine zX ?_ | (refine zC ?_; intro _ _ _ _) | (refine zS ?_; intro _ _) | (apply Ws <;> intro hg))
          refine Ends.loop (i + 1, s2) (by simp only; omega) (by repeat' (first | exact .nil | refine .cons rfl ?_)) rfl ⟨hi', firstE_succ h0 ?_, hsl, ?_, hH⟩
          · unfold errI
            rw [if_neg (by omega), h0k]
          · simp only
            rw [preM_next hi']
            exact hs
    · have hin : i = P.length := by omega
      subst hin
      repeat' (first | refine zP ?_ | refine zA ?_ | (refine zM ?_; intro _ _) | refine zX ?_ | (refine zC ?_; intro _ _ _ _) | (refine zS ?_; intro _ _) | (apply Ws <;> intro hg))
      rw [show (sizeL P : Int) % 2 = ((sizeL P % 2 : Nat) : Int) by simp]
      refine WC.condP rfl (fun hodd => ?_) (fun hodd => ?_)
      · repeat' (first | refine zP ?_ | refine zA ?_ | (refine zM ?_; intro _ _) | refine zX ?_ | (refine zC ?_; intro _ _ _ _) | (refine zS ?_; intro _ _) | (apply Ws <;> intro hg))
        refine Ends.ret1 rfl ⟨n2 + 1, by omega, hH.tail, ?_⟩
        unfold errM
        rw [if_neg hbig, if_neg (by rw [h0]; decide), if_pos (by omega)]
      · repeat' (first | refine zP ?_ | refine zA ?_ | (refine zM ?_; intro _ _) | refine zX ?_ | (refine zC ?_; intro _ _ _ _) | (refine zS ?_; intro _ _) | (apply Ws <;> intro hg))
        refine Ends.ret1 rfl ⟨n2 + 1, by omega, hH.tail, ?_⟩
        unfold errM
        rw [if_neg hbig, if_neg (by rw [h0]; decide), if_neg (by omega)]
end
end Go.Proofs.YtmgmkglmjmaipaaDoor.Ct

/- draw: a map by its ends. -/
namespace Go.Proofs.YtmgmkglmjmaipaaDoor.Ct
open Go Go.Abs Go.Mth
set_option linter.unusedVariables false
set_option linter.unusedSimpArgs false
def nxt (l : List Nat) (j : Nat) : Nat := l.getD ((j + 1) % l.length) 0
def prv (l : List Nat) (j : Nat) : Nat := if j = 0 then l.getD (l.length - 1) 0 else l.getD (j - 1) 0
/-- A drawing's numbers. -/
def dw (V c : Nat) (A F B : List Nat) : List Nat := V :: c :: (A ++ (F ++ B))
theorem dw_A {V c i y : Nat} {A F B : List Nat} (h : y < A.length) : (dw V c A F B).set (2 + y) i = dw V c (A.set y i) F B := by
  rw [show 2 + y = y + 1 + 1 by omega]
  simp only [dw, List.set_cons_succ]
  rw [List.set_append_left _ _ h]
theorem dw_F {V c i y : Nat} {A F B : List Nat} (hA : A.length = 16) (h : y < F.length) : (dw V c A F B).set (18 + y) i = dw V c A (F.set y i) B := by
  rw [show 18 + y = (16 + y) + 1 + 1 by omega]
  simp only [dw, List.set_cons_succ]
  rw [List.set_append_right _ _ (by omega), hA, show 16 + y - 16 = y by omega, List.set_append_left _ _ h]
theorem dw_B {V c i y : Nat} {A F B : List Nat} (hA : A.length = 16) (hF : F.length = 16) : (dw V c A F B).set (34 + y) i = dw V c A F (B.set y i) := by
  rw [show 34 + y = (32 + y) + 1 + 1 by omega]
  simp only [dw, List.set_cons_succ]
  rw [List.set_append_right _ _ (by omega), hA, List.set_append_right _ _ (by omega), hF, show 32 + y - 16 - 16 = y by omega]
theorem dw_len {V c : Nat} {A F B : List Nat} (hA : A.length = 16) (hF : F.length = 16) (hB : B.length = 16) : (dw V c A F B).length = 50 := by simp [dw, hA, hF, hB]
/-- What a drawing says of the first lists, and of the first ends of the next one. -/
structure DrawTo (Q : List (List Nat)) (i j : Nat) (A F B : List Nat) : Prop where
  hA : A.length = 16
  hF : F.length = 16
  hB : B.length = 16
  full : ∀ q, q < i → ∀ t, t < (Q.getD q []).length → A.getD ((Q.getD q []).getD t 0) 0 = q ∧ F.getD (prv (Q.getD q []) t) 0 = (Q.getD q []).getD t 0 ∧ B.getD ((Q.getD q []).getD t 0) 0 = prv (Q.getD q []) t
  part : ∀ t, t < j → A.getD ((Q.getD i []).getD t 0) 0 = i ∧ F.getD (prv (Q.getD i []) t) 0 = (Q.getD i []).getD t 0 ∧ B.getD ((Q.getD i []).getD t 0) 0 = prv (Q.getD i []) t
theorem OKM.row {Q : List (List Nat)} (h : OKM Q) {q : Nat} (hq : q < Q.length) : (Q.getD q []).Nodup ∧ 1 ≤ (Q.getD q []).length ∧ ∀ t, t < (Q.getD q []).length → (Q.getD q []).getD t 0 < sizeL Q := by
  have hm := getD_mem (a := []) hq
  refine ⟨(flat_nodup h.nd).1 _ hm, ?_, fun t ht => h.lt _ hm _ (getD_mem ht)⟩
  have := h.ne _ hm
  have := List.length_pos_iff.2 this
  omega
theorem OKM.apart {Q : List (List Nat)} (h : OKM Q) {p q : Nat} (hp : p < Q.length) (hq : q < Q.length) (hpq : p ≠ q) {x : Nat} (hx : x ∈ Q.getD p []) : x ∉ Q.getD q [] := by
  have hd := (flat_nodup h.nd).2
  rw [List.pairwise_iff_getElem] at hd
  rw [getD_eq hp] at hx
  rw [getD_eq hq]
  rcases Nat.lt_or_ge p q with h1 | h1
  · exact hd p q hp hq h1 x hx
  · intro hy
    exact hd q p hq hp (by omega) x hy hx
theorem nodup_inj {l : List Nat} (h : l.Nodup) {a b : Nat} (ha : a < l.length) (hb : b < l.length) (e : l.getD a 0 = l.getD b 0) : a = b := by
  rw [getD_eq ha, getD_eq hb] at e
  exact (List.getElem_inj h).1 e
theorem prv_mem {l : List Nat} {t : Nat} (ht : t < l.length) : prv l t ∈ l := by
  unfold prv; split <;> exact getD_mem (by omega)
theorem prv_inj {l : List Nat} (h : l.Nodup) {a b : Nat} (ha : a < l.length) (hb : b < l.length) (e : prv l a = prv l b) : a = b := by
  unfold prv at e
  split at e <;> split at e <;> have := nodup_inj h (by omega) (by omega) e <;> omega
theorem DrawTo.step {Q : List (List Nat)} (h : OKM Q) {i j : Nat} {A F B : List Nat} (hi : i < Q.length) (hj : j < (Q.getD i []).length) (hd : DrawTo Q i j A F B) :
    DrawTo Q i (j + 1) (A.set ((Q.getD i []).getD j 0) i) (F.set (prv (Q.getD i []) j) ((Q.getD i []).getD j 0)) (B.set ((Q.getD i []).getD j 0) (prv (Q.getD i []) j)) := by
  obtain ⟨hnd, h1, hlt⟩ := h.row hi
  have hle := h.le
  have hA := hd.hA; have hF := hd.hF; have hB := hd.hB
  have hjl := hlt j hj
  have hpl : prv (Q.getD i []) j < 16 := by
    have := h.lt _ (getD_mem hi) _ (prv_mem hj)
    omega
  refine ⟨by simp [hA], by simp [hF], by simp [hB], fun q hq t ht => ?_, fun t ht => ?_⟩
  · obtain ⟨k1, k2, k3⟩ := hd.full q hq t ht
    have n1 : (Q.getD q []).getD t 0 ≠ (Q.getD i []).getD j 0 := fun e => h.apart (by omega) hi (by omega) (getD_mem (a := 0) ht) (e ▸ getD_mem hj)
    have n2 : prv (Q.getD q []) t ≠ prv (Q.getD i []) j := fun e => h.apart (by omega) hi (by omega) (prv_mem ht) (e ▸ prv_mem hj)
    rw [getD_set' (by omega), if_neg n1, getD_set' (by omega), if_neg n2, getD_set' (by omega), if_neg n1]
    exact ⟨k1, k2, k3⟩
  · rw [getD_set' (by omega), getD_set' (by omega), getD_set' (by omega)]
    by_cases e : t = j
    · subst e
      rw [if_pos rfl, if_pos rfl, if_pos rfl]; exact ⟨rfl, rfl, rfl⟩
    · obtain ⟨k1, k2, k3⟩ := hd.part t (by omega)
      rw [if_neg fun q => e (nodup_inj hnd (by omega) hj q), if_neg fun q => e (prv_inj hnd (by omega) hj q), if_neg fun q => e (nodup_inj hnd (by omega) hj q)]
      exact ⟨k1, k2, k3⟩
theorem DrawTo.next {Q : List (List Nat)} {i : Nat} {A F B : List Nat} (hd : DrawTo Q i (Q.getD i []).length A F B) : DrawTo Q (i + 1) 0 A F B :=
  ⟨hd.hA, hd.hF, hd.hB, fun q hq t ht => by
    by_cases e : q = i
    · subst e; exact hd.part t ht
    · exact hd.full q (by omega) t ht, fun t ht => absurd ht (Nat.not_lt_zero _)⟩
/-- A drawing of a map. -/
structure DrawR (Q : List (List Nat)) (A F B : List Nat) : Prop where
  hA : A.length = 16
  hF : F.length = 16
  hB : B.length = 16
  pt : PtOf Q (fun e => A.getD e 0)
  aft : CycS (fun e => F.getD e 0) (sizeL Q) Q
  bef : ∀ e, e < sizeL Q → B.getD (F.getD e 0) 0 = e ∧ F.getD (B.getD e 0) 0 = e ∧ B.getD e 0 < sizeL Q
theorem run_of {f : Nat → Nat} : ∀ {l : List Nat} {x z : Nat}, (∀ j, j < l.length → f ((x :: l).getD j 0) = l.getD j 0) → f ((x :: l).getD l.length 0) = z → Run f x l z
  | [], x, z, _, h => h
  | y :: l, x, z, h, hz => ⟨h 0 (by simp), run_of (fun j hj => h (j + 1) (by simpa using hj)) hz⟩
theorem cyc_of {f : Nat → Nat} {l : List Nat} (hne : l ≠ []) (hnd : l.Nodup) (h : ∀ t, t < l.length → f (prv l t) = l.getD t 0) : Cyc f l := by
  cases l with
  | nil => exact absurd rfl hne
  | cons x l =>
    refine ⟨run_of (fun j hj => ?_) ?_, hnd⟩
    · have := h (j + 1) (by simp; omega)
      exact this
    · have := h 0 (by simp)
      exact this
theorem all_lt {Q : List (List Nat)} (h : OKM Q) {x : Nat} (hx : x < sizeL Q) : ∃ q, q < Q.length ∧ ∃ t, t < (Q.getD q []).length ∧ (Q.getD q []).getD t 0 = x := by
  have := nodup_all h.nd (fun y hy => by obtain ⟨l, hl, hy⟩ := List.mem_flatten.1 hy; exact h.lt l hl y hy) (size_flat Q) hx
  obtain ⟨l, hl, hm⟩ := List.mem_flatten.1 this
  obtain ⟨q, hq, rfl⟩ := mem_getD hl
  obtain ⟨t, ht, he⟩ := List.mem_iff_getElem.1 hm
  exact ⟨q, hq, t, ht, by rw [getD_eq ht]; exact he⟩
theorem DrawTo.all {Q : List (List Nat)} (h : OKM Q) {A F B : List Nat} (hd : DrawTo Q Q.length 0 A F B) : DrawR Q A F B := by
  have hcyc : ∀ l ∈ Q, Cyc (fun e => F.getD e 0) l := fun l hl => by
    obtain ⟨q, hq, rfl⟩ := mem_getD hl
    obtain ⟨hnd, h1, hlt⟩ := h.row hq
    exact cyc_of (h.ne _ hl) hnd fun t ht => (hd.full q hq t ht).2.1
  have hS : CycS (fun e => F.getD e 0) (sizeL Q) Q := ⟨hcyc, h.lt, h.nd, fun x hx => by
    obtain ⟨q, hq, t, ht, he⟩ := all_lt h hx
    exact ⟨_, getD_mem hq, by rw [← he]; exact getD_mem ht⟩⟩
  have hB : ∀ e, e < sizeL Q → F.getD (B.getD e 0) 0 = e ∧ B.getD e 0 < sizeL Q := fun e he => by
    obtain ⟨q, hq, t, ht, rfl⟩ := all_lt h he
    obtain ⟨k1, k2, k3⟩ := hd.full q hq t ht
    rw [k3]
    exact ⟨k2, h.lt _ (getD_mem hq) _ (prv_mem ht)⟩
  refine ⟨hd.hA, hd.hF, hd.hB, fun q hq e he => ?_, hS, fun e he => ?_⟩
  · obtain ⟨t, ht, rfl⟩ := List.mem_iff_getElem.1 he
    have := (hd.full q hq t ht).1
    rwa [getD_eq ht] at this
  · obtain ⟨h1, h2⟩ := hB e he
    refine ⟨?_, h1, h2⟩
    have h3 := hS.perm.lt e he
    obtain ⟨h4, h5⟩ := hB _ h3
    exact hS.perm.inj _ _ h5 he h4
theorem nodes_one' (l : List Nat) : (nodes l).all one = true := by
  rw [List.all_eq_true]; intro q hq; obtain ⟨z, _, rfl⟩ := List.mem_map.1 hq; rfl
theorem readAll {M : HL} {n : Nat} {H : Heap} {b e u k : Nat} {cs : List Value} (hH : hasH M n H) (hm : (b, Ch.row e u 0 cs) ∈ M) (hs : cs.length = k) : H.readN ⟨b, 0, some u⟩ k = some cs := by
  have := hH.readN (b := b) (u := u) (lo := 0) (o := 0) (k := k) hm (.row _ _ _ _) (Nat.le_refl _) (by omega)
  rw [this, Nat.sub_zero, List.drop_zero, List.take_of_length_le (by omega)]
attribute [local irreducible] gOK WS WC WR WD Ends FS YS OpV seqK blockK loopK midK retK rdK asgK rangeEnd sat Cell
section
variable {M : HL} {n0 : Nat} {H : Heap} {v w : Value}
/-- What drawing a map comes to. -/
def DrawV (P : List (List Int)) (e : Value) : Prop := (errM P ≠ 0 ∧ e = .tuple #[.agg (nodes (List.replicate 50 0)).toArray, .int .i64 (errM P)]) ∨ ∃ Q A F B, P = castP Q ∧ OKM Q ∧ DrawR Q A F B ∧ e = .tuple #[.agg (nodes (dw Q.length (sizeL Q) A F B)).toArray, .int .i64 0]
set_option maxHeartbeats 2000000 in
theorem draw_fs (hH : hasH M n0 H) {P : List (List Int)} (hR : RowsI M v P) (hl : P.length ≤ 1000) (hr : ∀ i, i < P.length → (P.getD i []).length ≤ 1000) :
    FS C 64 [.agg [v].toArray] H (fun e H' => ∃ n', n0 ≤ n' ∧ hasH M n' H' ∧ DrawV P e) := by
  have hv : one v = true := hR.one_
  refine FS.intro (pf := pf64) rfl rfl rfl ?_
  repeat' (first | refine zP ?_ | refine zA ?_ | (refine zM ?_; intro _ _) | refine zX ?_ | (refine zC ?_; intro _ _ _ _) | (refine zS ?_; intro _ _) | (apply Ws <;> intro hg))
  rename_i H1 hH1 H2 hH2
  refine WR.call (by first | exact gN | exact gS rfl) rfl rfl (Check_fs hH2 hR.cons.cons hl hr) ?_
  rintro _ H3 ⟨n3, hn3, hH3, rfl⟩
  clear hH1 hH2
  by_cases h0 : errM P = 0
  · obtain ⟨Q, rfl, hQ⟩ := err_nat h0
    rw [h0]
    obtain ⟨ws, hS, hwl, hrow⟩ := hR
    rw [castP_len] at hwl hl
    have hrow' : ∀ i, i < Q.length → Sl M 1 (ws.getD i undef) (nodes (Q.getD i [])) := fun i hi => by
      have := hrow i (by rw [castP_len]; exact hi)
      rw [castP_get] at this
      rwa [nodesI]
    have hle := hQ.le
    repeat' (first | refine zP ?_ | refine zA ?_ | (refine zM ?_; intro _ _) | refine zX ?_ | (refine zC ?_; intro _ _ _ _) | (refine zS ?_; intro _ _) | refine zO ?_ | (apply Ws <;> intro hg))
    rw [hwl]
    refine WR.op (by first | exact gN | exact gS rfl) rfl (OpV.bldT (vs := [(0, .int .i64 (Q.length : Int))]) rfl (cs := (nodes (dw Q.length 0 (List.replicate 16 0) (List.replicate 16 0) (List.replicate 16 0))).toArray) (by rfl)) ?_
    repeat' (first | refine zP ?_ | refine zA ?_ | (refine zM ?_; intro _ _) | refine zX ?_ | (refine zC ?_; intro _ _ _ _) | (refine zS ?_; intro _ _) | (apply Ws <;> intro hg))
    rename_i H4 hH4
    refine WR.storeAll (by first | exact gN | exact gS rfl) hH4 rfl rfl (ls := nodes (dw Q.length 0 (List.replicate 16 0) (List.replicate 16 0) (List.replicate 16 0))) (by simp [Value.cells]) rfl .here (nodes_one' _) rfl fun H5 hH5 => ?_
    clear hH3 hH4
    obtain ⟨M1, hM1⟩ : ∃ M1, M1 = ((n0 + 1, Ch.row 77 0 0 (nodes (List.replicate 50 0))) :: (n0, .row 24 0 0 [v]) :: M) := ⟨_, rfl⟩
    have hS1 : Sl M1 1 v ws := by rw [hM1]; exact hS.cons.cons
    have hrow1 : ∀ i, i < Q.length → Sl M1 1 (ws.getD i undef) (nodes (Q.getD i [])) := fun i hi => by rw [hM1]; exact (hrow' i hi).cons.cons
    have hn0 : (n0, Ch.row 24 0 0 [v]) ∈ M1 := by rw [hM1]; simp
    replace hH5 : hasH ((n3, .row 77 0 0 (nodes (dw Q.length (sizeTo Q 0) (List.replicate 16 0) (List.replicate 16 0) (List.replicate 16 0)))) :: M1) (n3 + 1) H5 := by rw [hM1]; exact hH5
    clear hrow' hS
    repeat' (first | refine zP ?_ | refine zA ?_ | (refine zM ?_; intro _ _) | refine zX ?_ | (refine zC ?_; intro _ _ _ _) | (refine zS ?_; intro _ _) | (apply Ws <;> intro hg))
    rw [hwl]
    refine WC.loopX [(2, .pointer (some ⟨n0 + 1, 0, some 0⟩)), (5, .pointer (some ⟨n3, 0, some 0⟩)), (22, v), (23, .int .i64 (Q.length : Int))] (fun a : Nat × List Nat × List Nat × List Nat => [(24, .int .i64 (a.1 : Int))]) []
      (fun a H' => a.1 ≤ Q.length ∧ DrawTo Q a.1 0 a.2.1 a.2.2.1 a.2.2.2 ∧ hasH ((n3, .row 77 0 0 (nodes (dw Q.length (sizeTo Q a.1) a.2.1 a.2.2.1 a.2.2.2))) :: M1) (n3 + 1) H') (fun a => Q.length - a.1) (0, List.replicate 16 0, List.replicate 16 0, List.replicate 16 0) (by repeat' (first | exact .nil | refine .cons rfl ?_)) rfl
      ⟨Nat.zero_le _, ⟨rfl, rfl, rfl, fun q hq => absurd hq (Nat.not_lt_zero _), fun t ht => absurd ht (Nat.not_lt_zero _)⟩, hH5⟩ ?_
    clear hH5
    rintro ⟨i, A, F, B⟩ H6 ⟨hi, hD, hH6⟩
    simp only at hi hD hH6
    dsimp only [List.cons_append, List.nil_append]
    repeat' (first | refine zP ?_ | refine zA ?_ | (refine zM ?_; intro _ _) | refine zX ?_ | (refine zC ?_; intro _ _ _ _) | (refine zS ?_; intro _ _) | (apply Ws <;> intro hg))
    refine WC.condP rfl (fun hlt => ?_) (fun hlt => ?_)
    · have hi' : i < Q.length := by omega
      obtain ⟨hnd, hl1, hlt16⟩ := hQ.row hi'
      have hSi := hrow1 i hi'
      have hli : (Q.getD i []).length ≤ 1000 := by have := hr i (by rw [castP_len]; exact hi'); rwa [castP_get, castL_len] at this
      have hsz := sizeTo_succ hi'
      have hst := sizeTo_le (P := Q) (j := i + 1) (k := Q.length) hi' (Nat.le_refl _)
      rw [sizeTo_all] at hst
      repeat' (first | refine zP ?_ | refine zA ?_ | (refine zM ?_; intro _ _) | refine zX ?_ | (refine zC ?_; intro _ _ _ _) | (refine zS ?_; intro _ _) | (apply Ws <;> intro hg))
      refine WC.loopX [(2, .pointer (some ⟨n0 + 1, 0, some 0⟩)), (5, .pointer (some ⟨n3, 0, some 0⟩)), (22, v), (23, .int .i64 (Q.length : Int)), (24, .int .i64 (i : Int)), (6, .int .i64 (i : Int)), (7, ws.getD i undef), (35, ws.getD i undef), (36, .int .i64 ((Q.getD i []).length : Int))] (fun a : Nat × List Nat × List Nat × List Nat => [(8, .int .i64 (prv (Q.getD i []) a.1 : Int)), (37, .int .i64 (a.1 : Int))]) []
        (fun a H' => a.1 ≤ (Q.getD i []).length ∧ DrawTo Q i a.1 a.2.1 a.2.2.1 a.2.2.2 ∧ hasH ((n3, .row 77 0 0 (nodes (dw Q.length (sizeTo Q i) a.2.1 a.2.2.1 a.2.2.2))) :: M1) (n3 + 1) H') (fun a => (Q.getD i []).length - a.1) (0, A, F, B) (by repeat' (first | exact .nil | refine .cons rfl ?_)) rfl
        ⟨Nat.zero_le _, hD, hH6⟩ ?_
      clear hH6 hD
      rintro ⟨j, A2, F2, B2⟩ H7 ⟨hj, hD, hH7⟩
      simp only at hj hD hH7
      dsimp only [List.cons_append, List.nil_append]
      repeat' (first | refine zP ?_ | refine zA ?_ | (refine zM ?_; intro _ _) | refine zX ?_ | (refine zC ?_; intro _ _ _ _) | (refine zS ?_; intro _ _) | (apply Ws <;> intro hg))
      refine WC.condP rfl (fun hlt2 => ?_) (fun hlt2 => ?_)
      · have hj' : j < (Q.getD i []).length := by omega
        have hy := hlt16 j hj'
        have hst2 := hD.step hQ hi' hj'
        have hp16 : prv (Q.getD i []) j < 16 := by
          have := hQ.lt _ (getD_memL hi') _ (prv_mem hj')
          omega
        have hnx : prv (Q.getD i []) (j + 1) = (Q.getD i []).getD j 0 := rfl
        have hA := hD.hA; have hF := hD.hF; have hB := hD.hB
        generalize prv (Q.getD i []) j = p at hp16 hst2 ⊢
        repeat' (first | refine zP ?_ | refine zA ?_ | (refine zM ?_; intro _ _) | refine zX ?_ | (refine zC ?_; intro _ _ _ _) | (refine zS ?_; intro _ _) | (apply Ws <;> intro hg))
        generalize (Q.getD i []).getD j 0 = y at hy hst2 hnx ⊢
        have hA' : (A2.set y i).length = 16 := by simp [hA]
        have hF' : (F2.set p y).length = 16 := by simp [hF]
        have hdl := dw_len (V := Q.length) (c := sizeTo Q i) hA hF hB
        repeat' (first | refine zP ?_ | refine zA ?_ | (refine zM ?_; intro _ _) | refine zX ?_ | (refine zC ?_; intro _ _ _ _) | (refine zS ?_; intro _ _) | (apply Ws <;> intro hg))
        rename_i H8 hH8
        rw [dw_A (by omega)] at hH8
        have hdl2 := dw_len (V := Q.length) (c := sizeTo Q i) hA' hF hB
        clear hH7 hdl
        repeat' (first | refine zP ?_ | refine zA ?_ | (refine zM ?_; intro _ _) | refine zX ?_ | (refine zC ?_; intro _ _ _ _) | (refine zS ?_; intro _ _) | (apply Ws <;> intro hg))
        rename_i H9 hH9
        rw [dw_F hA' (by omega)] at hH9
        have hdl3 := dw_len (V := Q.length) (c := sizeTo Q i) hA' hF' hB
        clear hH8 hdl2
        repeat' (first | refine zP ?_ | refine zA ?_ | (refine zM ?_; intro _ _) | refine zX ?_ | (refine zC ?_; intro _ _ _ _) | (refine zS ?_; intro _ _) | (apply Ws <;> intro hg))
        rename_i H10 hH10
        rw [dw_B hA' hF'] at hH10
        exact Ends.loop (j + 1, A2.set y i, F2.set p y, B2.set y p) (by simp only; omega) (by simp only [hnx]; repeat' (first | exact .nil | refine .cons rfl ?_)) rfl ⟨hj', hst2, hH10⟩
      · have hjl : j = (Q.getD i []).length := by omega
        subst hjl
        have hdl := dw_len (V := Q.length) (c := sizeTo Q i) hD.hA hD.hF hD.hB
        have hg1 : (dw Q.length (sizeTo Q i) A2 F2 B2).getD 1 0 = sizeTo Q i := rfl
        repeat' (first | refine zP ?_ | refine zA ?_ | (refine zM ?_; intro _ _) | refine zX ?_ | (refine zC ?_; intro _ _ _ _) | (refine zS ?_; intro _ _) | (apply Ws <;> intro hg))
        rename_i H8 hH8
        replace hH8 : hasH ((n3, .row 77 0 0 (nodes (dw Q.length (sizeTo Q (i + 1)) A2 F2 B2))) :: M1) (n3 + 1) H8 := by rw [hsz]; exact hH8
        exact Ends.loop (i + 1, A2, F2, B2) (by simp only; omega) (by repeat' (first | exact .nil | refine .cons rfl ?_)) rfl ⟨hi', hD.next, hH8⟩
    · have hin : i = Q.length := by omega
      subst hin
      rw [sizeTo_all] at hH6
      have hdl := dw_len (V := Q.length) (c := sizeL Q) hD.hA hD.hF hD.hB
      repeat' (first | refine zP ?_ | refine zA ?_ | (refine zM ?_; intro _ _) | refine zX ?_ | (refine zC ?_; intro _ _ _ _) | (refine zS ?_; intro _ _) | (apply Ws <;> intro hg))
      refine WR.op (by first | exact gN | exact gS rfl) rfl (OpV.loadAll rfl hH6 (.head _) (.row _ _ _ _) (by simp [hdl])) ?_
      subst hM1
      refine WR.storeAll (by first | exact gN | exact gS rfl) hH6 rfl rfl (ls := nodes (dw Q.length (sizeL Q) A F B)) (by simp [Value.cells]) (by simp [hdl]) (.there .here) (nodes_one' _) (by simp [hdl]) fun H7 hH7 => ?_
      repeat' (first | refine zP ?_ | refine zA ?_ | (refine zM ?_; intro _ _) | refine zX ?_ | (refine zC ?_; intro _ _ _ _) | (refine zS ?_; intro _ _) | (apply Ws <;> intro hg))
      exact Ends.retCN1 rfl (readAll hH7 (.tail _ (.head _)) (by simp [hdl])) rfl ⟨n3 + 1, by omega, hH7.tail.tail.tail, .inr ⟨Q, A, F, B, rfl, hQ, hD.all hQ, rfl⟩⟩
  · repeat' (first | refine zP ?_ | refine zA ?_ | (refine zM ?_; intro _ _) | refine zX ?_ | (refine zC ?_; intro _ _ _ _) | (refine zS ?_; intro _ _) | refine zO ?_ | (apply Ws <;> intro hg))
    refine WR.op (by first | exact gN | exact gS rfl) rfl (OpV.bldT (vs := []) rfl (cs := (nodes (List.replicate 50 0)).toArray) (by rfl)) ?_
    repeat' (first | refine zP ?_ | refine zA ?_ | (refine zM ?_; intro _ _) | refine zX ?_ | (refine zC ?_; intro _ _ _ _) | (refine zS ?_; intro _ _) | (apply Ws <;> intro hg))
    refine WR.storeAll (by first | exact gN | exact gS rfl) hH3 rfl rfl (ls := nodes (List.replicate 50 0)) (by simp [Value.cells]) rfl .here (nodes_one' _) rfl fun H5 hH5 => ?_
    repeat' (first | refine zP ?_ | refine zA ?_ | (refine zM ?_; intro _ _) | refine zX ?_ | (refine zC ?_; intro _ _ _ _) | (refine zS ?_; intro _ _) | (apply Ws <;> intro hg))
    exact Ends.retCN1 rfl (readAll hH5 (.head _) rfl) rfl ⟨n3, by omega, hH5.tail.tail, .inl ⟨h0, rfl⟩⟩
end
end Go.Proofs.YtmgmkglmjmaipaaDoor.Ct

/- lists: the cycles of what comes next. -/
namespace Go.Proofs.YtmgmkglmjmaipaaDoor.Ct
open Go Go.Abs Go.Mth
set_option linter.unusedVariables false
set_option linter.unusedSimpArgs false
theorem run_back {f : Nat → Nat} {N : Nat} (hp : PermN f N) {s e : Nat} {A : List Nat} (hr : Run f s A e) (hnd : (s :: A).Nodup) (hlt : ∀ x ∈ s :: A, x < N) (he : e ∈ s :: A) : e = s := by
  rcases List.mem_cons.1 he with h | h
  · exact h
  · exfalso
    obtain ⟨A1, A2, rfl⟩ := List.append_of_mem h
    obtain ⟨h1, h2⟩ := Run.split.1 hr
    obtain ⟨B1, w1, e1, f1⟩ := h1.last
    obtain ⟨B2, w2, e2, f2⟩ := h2.last
    have m1 : w1 ∈ s :: A1 := by rw [e1]; simp
    have m2 : w2 ∈ e :: A2 := by rw [e2]; simp
    have hnd' : ((s :: A1) ++ (e :: A2)).Nodup := hnd
    have hw : w1 = w2 := hp.inj _ _ (hlt _ (by rw [← List.cons_append]; exact List.mem_append_left _ m1)) (hlt _ (by rw [← List.cons_append]; exact List.mem_append_right _ m2)) (f1.trans f2.symm)
    exact (List.nodup_append.1 hnd').2.2 w1 m1 w2 m2 hw
/-- The cycles with an element below a number. -/
structure CycP (f : Nat → Nat) (N s : Nat) (ls : List (List Nat)) : Prop where
  cyc : ∀ l ∈ ls, Cyc f l
  low : ∀ l ∈ ls, ∀ x ∈ l, l.headD 0 ≤ x ∧ x < N
  hd : ∀ l ∈ ls, l.headD 0 < s
  asc : ls.Pairwise (fun a b => a.headD 0 < b.headD 0)
  all : ∀ x, x < s → x < N → ∃ l ∈ ls, x ∈ l
theorem CycP.zero (f : Nat → Nat) (N : Nat) : CycP f N 0 [] := ⟨fun l h => (by cases h), fun l h => (by cases h), fun l h => (by cases h), .nil, fun x h => absurd h (Nat.not_lt_zero _)⟩
theorem CycP.fin {f : Nat → Nat} {N : Nat} {ls : List (List Nat)} (h : CycP f N N ls) : CycL f N ls := ⟨h.cyc, h.low, h.asc, fun x hx => h.all x hx hx⟩
/-- A cycle that is being followed. -/
structure InR (f : Nat → Nat) (N s : Nat) (ls : List (List Nat)) (l : List Nat) (e : Nat) : Prop where
  lt : e < N
  is : (l = [] ∧ e = s) ∨ ∃ A, l = s :: A ∧ Run f s A e
  nd : l.Nodup
  low : ∀ x ∈ l, x < N ∧ s ≤ x ∧ x ∉ ls.flatten
theorem InR.begin (f : Nat → Nat) {N s : Nat} (ls : List (List Nat)) (h : s < N) : InR f N s ls [] s := ⟨h, .inl ⟨rfl, rfl⟩, List.nodup_nil, fun x h => (by cases h)⟩
theorem InR.len {f : Nat → Nat} {N s e : Nat} {ls : List (List Nat)} {l : List Nat} (h : InR f N s ls l e) : l.length ≤ N := nodup_le N l h.nd fun y hy => (h.low y hy).1
theorem InR.step {f : Nat → Nat} {N s e : Nat} {ls : List (List Nat)} {l : List Nat} (hp : PermN f N) (hc : CycP f N s ls) (h : InR f N s ls l e) (h1 : e ∉ ls.flatten) (h2 : e ∉ l) : InR f N s ls (l ++ [e]) (f e) := by
  have hse : s ≤ e := by
    rcases Nat.lt_or_ge e s with h3 | h3
    · obtain ⟨m, hm, hx⟩ := hc.all e h3 h.lt
      exact absurd (List.mem_flatten.2 ⟨m, hm, hx⟩) h1
    · exact h3
  refine ⟨hp.lt _ h.lt, .inr ?_, ?_, fun x hx => ?_⟩
  · rcases h.is with ⟨rfl, rfl⟩ | ⟨A, rfl, hr⟩
    · exact ⟨[], rfl, rfl⟩
    · exact ⟨A ++ [e], rfl, hr.snoc⟩
  · refine List.nodup_append.2 ⟨h.nd, by simp, fun a ha b hb e' => ?_⟩
    rw [List.mem_singleton] at hb
    exact h2 (by rw [← hb, ← e']; exact ha)
  · rcases List.mem_append.1 hx with hx | hx
    · exact h.low x hx
    · rw [List.mem_singleton] at hx
      subst hx
      exact ⟨h.lt, hse, h1⟩
theorem InR.done {f : Nat → Nat} {N s e : Nat} {ls : List (List Nat)} {l : List Nat} (hp : PermN f N) (hs : s < N) (hc : CycP f N s ls) (h : InR f N s ls l e) (h1 : e ∈ ls.flatten ∨ e ∈ l) :
    (l = [] ∧ CycP f N (s + 1) ls) ∨ (l ≠ [] ∧ CycP f N (s + 1) (ls ++ [l])) := by
  rcases h.is with ⟨rfl, rfl⟩ | ⟨A, rfl, hr⟩
  · left
    have h2 : e ∈ ls.flatten := by
      rcases h1 with h | h
      · exact h
      · cases h
    refine ⟨rfl, hc.cyc, hc.low, fun l hl => Nat.lt_succ_of_lt (hc.hd l hl), hc.asc, fun x hx hN => ?_⟩
    by_cases ex : x = e
    · rw [ex]; obtain ⟨l, hl, hm⟩ := List.mem_flatten.1 h2; exact ⟨l, hl, hm⟩
    · exact hc.all x (by omega) hN
  · right
    have he : e ∈ s :: A := by
      rcases h1 with h2 | h2
      · obtain ⟨m, hm, hx⟩ := List.mem_flatten.1 h2
        obtain ⟨w, hw, hf⟩ := (hc.cyc m hm).pred hx
        obtain ⟨A', w2, e1, f2⟩ := hr.last
        have hw2 : w2 ∈ s :: A := by rw [e1]; simp
        have : w = w2 := hp.inj _ _ (hc.low m hm w hw).2 (h.low w2 hw2).1 (hf.trans f2.symm)
        subst this
        exact absurd (List.mem_flatten.2 ⟨m, hm, hw⟩) (h.low w hw2).2.2
      · exact h2
    have hes := run_back hp hr h.nd (fun x hx => (h.low x hx).1) he
    subst hes
    refine ⟨by simp, fun l hl => ?_, fun l hl x hx => ?_, fun l hl => ?_, ?_, fun x hx hN => ?_⟩
    · rcases List.mem_append.1 hl with hl | hl
      · exact hc.cyc l hl
      · rw [List.mem_singleton] at hl; subst hl; exact ⟨hr, h.nd⟩
    · rcases List.mem_append.1 hl with hl | hl
      · exact hc.low l hl x hx
      · rw [List.mem_singleton] at hl; subst hl; exact ⟨(h.low x hx).2.1, (h.low x hx).1⟩
    · rcases List.mem_append.1 hl with hl | hl
      · exact Nat.lt_succ_of_lt (hc.hd l hl)
      · rw [List.mem_singleton] at hl; subst hl; exact Nat.lt_succ_self _
    · refine List.pairwise_append.2 ⟨hc.asc, List.pairwise_singleton _ _, fun a ha b hb => ?_⟩
      rw [List.mem_singleton] at hb; subst hb; exact hc.hd a ha
    · by_cases ex : x = e
      · exact ⟨e :: A, by simp, by simp [ex]⟩
      · obtain ⟨l, hl, hm⟩ := hc.all x (by omega) hN
        exact ⟨l, by simp [hl], hm⟩
theorem CycP.count {f : Nat → Nat} {N s : Nat} {ls : List (List Nat)} (h : CycP f N s ls) : ls.length ≤ s := by
  have h1 : (ls.map fun l => l.headD 0).Nodup := List.pairwise_map.2 (h.asc.imp fun hab e => by omega)
  have := nodup_le s _ h1 fun y hy => by
    obtain ⟨l, hl, rfl⟩ := List.mem_map.1 hy
    exact h.hd l hl
  simpa using this
def RowsN (M : HL) (ws : List Value) (vs : List (List Nat)) : Prop := ws.length = vs.length ∧ ∀ i, i < vs.length → Sl M 1 (ws.getD i undef) (nodes (vs.getD i []))
theorem RowsN.mono {M M' : HL} {ws : List Value} {vs : List (List Nat)} (h : RowsN M ws vs) (k : ∀ p ∈ M, p ∈ M') : RowsN M' ws vs := ⟨h.1, fun i hi => (h.2 i hi).mono k⟩
/-- Lists that have been made. -/
def ListsR (M : HL) (n0 : Nat) (ls : List (List Nat)) (e : Value) (H' : Heap) : Prop := ∃ M2 n', n0 ≤ n' ∧ hasH (M2 ++ M) n' H' ∧ RowsI M2 e (castP ls)
theorem rowsI_nat {M : HL} {v : Value} {ls : List (List Nat)} (h : RowsI M v (castP ls)) : ∃ ws, Sl M 1 v ws ∧ RowsN M ws ls := by
  obtain ⟨ws, h1, h2, h3⟩ := h
  rw [castP_len] at h2 h3
  refine ⟨ws, h1, h2, fun i hi => ?_⟩
  have := h3 i hi
  rw [castP_get] at this
  rwa [nodesI]
def seenOK (S : List Bool) (ls : List (List Nat)) (l : List Nat) : Prop := S.length = 16 ∧ ∀ x, x < 16 → S.getD x false = decide (x ∈ ls.flatten ∨ x ∈ l)
structure LO where
  s : Nat
  v : Value
  ws : List Value
  Mo : HL
  Mi : HL
  n : Nat
  ls : List (List Nat)
  S : List Bool
structure LI where
  u : Value
  Mr : HL
  n : Nat
  l : List Nat
  e : Nat
  S : List Bool
attribute [local irreducible] gOK WS WC WR WD Ends FS YS OpV seqK blockK loopK midK retK rdK asgK rangeEnd sat Cell
section
variable {M : HL} {n0 : Nat} {H : Heap} {v w : Value}
end
end Go.Proofs.YtmgmkglmjmaipaaDoor.Ct

/- faces, line, lines; Tidy, Faces, Back, Dual. -/
namespace Go.Abs
set_option linter.unusedSectionVars false
open Go
section
variable [Globs] {C : CW} {nt : Nat} {L : Env} {D : List Nat} {H : Heap} {K : St → Prop} {M M' : HL} {n : Nat} {gd : Option (Tmp × Bool)} {lo : List Nat} {l : List POp}
theorem OpV.idxG {x ix : Operand} {k : FloatKind} {g o m n sz : Nat} {kd : IntKind} (hx : ev L x = some (.complex k g o)) (hi : ev L ix = some (.int kd (m : Int))) (hm : m < n) : OpV C (.idxA x ix n sz) L H (.complex k g (o + m * sz)) H := fun t ht => by
  have e1 : natOf (.int kd (m : Int)) = some m := rfl
  simp only [opA, ev_ok ht hx, ev_ok ht hi, oIdxA, e1, blt_of hm, cond_true]
theorem OpV.loadG {x : Operand} {k : FloatKind} {g o : Nat} {v : Value} (hx : ev L x = some (.complex k g o)) (hv : gRead g o = some v) : OpV C (.load1 x) L H v H := fun t ht => by
  simp only [opA, ev_ok ht hx, oLoad1, hv, asVal]
end
end Go.Abs
namespace Go.Proofs.YtmgmkglmjmaipaaDoor.Ct
open Go Go.Abs Go.Mth
set_option linter.unusedVariables false
set_option linter.unusedSimpArgs false
theorem gread_oth {m : Nat} (h : m < 16) : gRead 0 (0 + m * 1) = some (.int .i64 ((oth m : Nat) : Int)) := by
  match m, h with
  | 0, _ => rfl
  | 1, _ => rfl
  | 2, _ => rfl
  | 3, _ => rfl
  | 4, _ => rfl
  | 5, _ => rfl
  | 6, _ => rfl
  | 7, _ => rfl
  | 8, _ => rfl
  | 9, _ => rfl
  | 10, _ => rfl
  | 11, _ => rfl
  | 12, _ => rfl
  | 13, _ => rfl
  | 14, _ => rfl
  | 15, _ => rfl
  | n + 16, h => omega
def TidyOf (Q ls : List (List Nat)) : Prop := ∃ f, CycS f (sizeL Q) Q ∧ CycL f (sizeL Q) ls
def FacesOf (Q ls : List (List Nat)) : Prop := ∃ f, CycS f (sizeL Q) Q ∧ CycL (fun e => f (oth e)) (sizeL Q) ls
def BackOf (Q ls : List (List Nat)) : Prop := ∃ f g, CycS f (sizeL Q) Q ∧ (∀ e, e < sizeL Q → g (f e) = e ∧ f (g e) = e ∧ g e < sizeL Q) ∧ CycL g (sizeL Q) ls
theorem castL_inj {l m : List Nat} (h : castL l = castL m) : l = m := by
  refine ext_getD (a := 0) (by have := congrArg List.length h; rwa [castL_len, castL_len] at this) fun i hi => ?_
  have hm : i < m.length := by have := congrArg List.length h; rw [castL_len, castL_len] at this; omega
  have h1 := castL_get hi
  have h2 := castL_get hm
  rw [h] at h1
  omega
theorem castP_inj {P Q : List (List Nat)} (h : castP P = castP Q) : P = Q := by
  have hl : P.length = Q.length := by have := congrArg List.length h; rwa [castP_len, castP_len] at this
  refine ext_getD (a := []) hl fun i hi => ?_
  have h1 := castP_get (P := P) i
  have h2 := castP_get (P := Q) i
  rw [h] at h1
  exact castL_inj (h1.symm.trans h2)
/-- The result: an error, or lists. -/
def ResM (M : HL) (n0 : Nat) (P : List (List Int)) (spec : List (List Nat) → List (List Nat) → Prop) (wrap : Value → Value) (e : Value) (H' : Heap) : Prop :=
  (errM P ≠ 0 ∧ ∃ n', n0 ≤ n' ∧ hasH M n' H' ∧ e = .tuple #[wrap (.slice none 0 0), .int .i64 (errM P)]) ∨
  ∃ Q ls M2 n' u, P = castP Q ∧ OKM Q ∧ spec Q ls ∧ n0 ≤ n' ∧ hasH (M2 ++ M) n' H' ∧ RowsI M2 u (castP ls) ∧ e = .tuple #[wrap u, .int .i64 0]
theorem ResM.ok {M : HL} {n0 : Nat} {Q : List (List Nat)} {spec : List (List Nat) → List (List Nat) → Prop} {wrap : Value → Value} {e : Value} {H' : Heap} (h : ResM M n0 (castP Q) spec wrap e H') (hQ : OKM Q) :
    ∃ ls M2 n' u, spec Q ls ∧ n0 ≤ n' ∧ hasH (M2 ++ M) n' H' ∧ RowsI M2 u (castP ls) ∧ e = .tuple #[wrap u, .int .i64 0] := by
  rcases h with ⟨h0, _⟩ | ⟨Q', ls, M2, n', u, h1, h2, h3, h4⟩
  · exact absurd (ok_err hQ) h0
  · obtain rfl := castP_inj h1
    exact ⟨ls, M2, n', u, h3, h4⟩
abbrev wrapM (u : Value) : Value := .agg [u].toArray
/-- What comes next on a face, for the first ends. -/
def faceTo (F : List Nat) (N k : Nat) : List Nat := (List.range 16).map fun e => if e < k then F.getD (oth e) 0 else 0
theorem dw_getA {V c e : Nat} {A F B : List Nat} (h : e < A.length) : (dw V c A F B).getD (2 + e) 0 = A.getD e 0 := by
  rw [show 2 + e = e + 1 + 1 by omega]
  simp only [dw, List.getD_cons_succ]
  rw [List.getD_eq_getElem?_getD, List.getElem?_append_left h, ← List.getD_eq_getElem?_getD]
attribute [local irreducible] gOK WS WC WR WD Ends FS YS OpV seqK blockK loopK midK retK rdK asgK rangeEnd sat Cell
section
variable {M : HL} {n0 : Nat} {H : Heap} {v w : Value}
theorem lines_fs (hH : hasH M n0 H) {V N : Nat} {A F B : List Nat} (hA : A.length = 16) (hF : F.length = 16) (hB : B.length = 16) (hN : N ≤ 16) :
    FS C 76 [.agg (nodes (dw V N A F B)).toArray] H (fun e H' => ∃ n', n0 ≤ n' ∧ hasH M n' H' ∧ e = .int .i64 ((N / 2 : Nat) : Int)) := by
  have hd1 := nodes_one' (dw V N A F B)
  have hdl := dw_len (V := V) (c := N) hA hF hB
  refine FS.intro (pf := pf76) rfl rfl rfl ?_
  repeat' (first | refine zP ?_ | refine zA ?_ | (refine zM ?_; intro _ _) | refine zX ?_ | (refine zC ?_; intro _ _ _ _) | (refine zS ?_; intro _ _) | (apply Ws <;> intro hg))
  rename_i H1 hH1
  exact Ends.ret1 rfl ⟨n0 + 1, by omega, hH1.tail, by simp [dw]⟩
theorem line_fs (hH : hasH M n0 H) {V N k : Nat} {A F B : List Nat} (hA : A.length = 16) (hF : F.length = 16) (hB : B.length = 16) (hk : k < 8) :
    FS C 96 [.agg (nodes (dw V N A F B)).toArray, .int .i64 (k : Int)] H (fun e H' => ∃ n', n0 ≤ n' ∧ hasH M n' H' ∧ e = .tuple #[.int .i64 (A.getD (2 * k) 0 : Nat), .int .i64 (A.getD (2 * k + 1) 0 : Nat)]) := by
  have hd1 := nodes_one' (dw V N A F B)
  have hdl := dw_len (V := V) (c := N) hA hF hB
  refine FS.intro (pf := pf96) rfl rfl rfl ?_
  repeat' (first | refine zP ?_ | refine zA ?_ | (refine zM ?_; intro _ _) | refine zX ?_ | (refine zC ?_; intro _ _ _ _) | (refine zS ?_; intro _ _) | (apply Ws <;> intro hg))
  rw [show (2 : Int) * (k : Int) = ((2 * k : Nat) : Int) by omega]
  have hg1 := dw_getA (V := V) (c := N) (F := F) (B := B) (show 2 * k < A.length by omega)
  have hg2 := dw_getA (V := V) (c := N) (F := F) (B := B) (show 2 * k + 1 < A.length by omega)
  have ho := oth_even k
  repeat' (first | refine zP ?_ | refine zA ?_ | (refine zM ?_; intro _ _) | refine zX ?_ | (refine zC ?_; intro _ _ _ _) | (refine zS ?_; intro _ _) | (apply Ws <;> intro hg))
  refine WR.op (by first | exact gN | exact gS rfl) rfl (OpV.idxG rfl rfl (by omega)) ?_
  refine WR.op (by first | exact gN | exact gS rfl) rfl (OpV.loadG rfl (gread_oth (by omega))) ?_
  rw [ho]
  repeat' (first | refine zP ?_ | refine zA ?_ | (refine zM ?_; intro _ _) | refine zX ?_ | (refine zC ?_; intro _ _ _ _) | (refine zS ?_; intro _ _) | (apply Ws <;> intro hg))
  rename_i H1 hH1
  exact Ends.ret2 rfl rfl ⟨n0 + 1, by omega, hH1.tail, by rw [hg1, hg2]⟩
theorem OKM.pair {Q : List (List Nat)} (h : OKM Q) : sizeL Q = 2 * (sizeL Q / 2) := by have := h.even; omega
theorem one_one {v : Value} (h : one v = true) : [v].all one = true := by simp [h]
end
end Go.Proofs.YtmgmkglmjmaipaaDoor.Ct

/- parts, Parts, Genus. -/
namespace Go.Proofs.YtmgmkglmjmaipaaDoor.Ct
open Go Go.Abs Go.Mth
set_option linter.unusedVariables false
set_option linter.unusedSimpArgs false
/-- Labels tell which points are joined. -/
def LabR (pt : Nat → Nat) (V k : Nat) (lab : List Nat) : Prop := lab.length = V ∧ ∀ p q, p < V → q < V → (lab.getD p 0 = lab.getD q 0 ↔ conn pt k p q)
def relabTo (lab : List Nat) (g h j : Nat) : List Nat := (lab.take j).map (fun x => if x = g then h else x) ++ lab.drop j
theorem OKM.len {Q : List (List Nat)} (h : OKM Q) : Q.length ≤ sizeL Q := by
  have key : ∀ {P : List (List Nat)}, (∀ l ∈ P, l ≠ []) → P.length ≤ sizeL P := by
    intro P
    induction P with
    | nil => intro _; exact Nat.zero_le _
    | cons l P ih =>
      intro hne
      have := ih fun m hm => hne m (by simp [hm])
      have h1 := List.length_pos_iff.2 (hne l (by simp))
      show P.length + 1 ≤ ((l :: P).map List.length).sum
      simp only [List.map_cons, List.sum_cons]
      unfold sizeL at this
      omega
  exact key h.ne
theorem DrawR.pt_lt {Q : List (List Nat)} {A F B : List Nat} (h : DrawR Q A F B) {e : Nat} (he : e < sizeL Q) : A.getD e 0 < Q.length := by
  obtain ⟨l, hl, hm⟩ := h.aft.all e he
  obtain ⟨q, hq, rfl⟩ := mem_getD hl
  have := h.pt q hq e hm
  simp only at this
  omega
def initTo (V k : Nat) : List Nat := (List.range V).map fun i => if i < k then i else 0
structure PS where
  k : Nat
  lab : List Nat
attribute [local irreducible] gOK WS WC WR WD Ends FS YS OpV seqK blockK loopK midK retK rdK asgK rangeEnd sat Cell
section
variable {M : HL} {n0 : Nat} {H : Heap} {v w : Value}
end
end Go.Proofs.YtmgmkglmjmaipaaDoor.Ct

/- Genus. -/
namespace Go.Proofs.YtmgmkglmjmaipaaDoor.Ct
open Go Go.Abs Go.Mth
set_option linter.unusedVariables false
set_option linter.unusedSimpArgs false
/-- The genus, by what is counted. -/
def GenusOf (Q : List (List Nat)) (g : Nat) : Prop := ∃ f pt ls, CycS f (sizeL Q) Q ∧ PtOf Q pt ∧ CycL (fun e => f (oth e)) (sizeL Q) ls ∧ (Q.length : Int) - (sizeL Q / 2 : Nat) + ls.length = 2 * partsN pt Q.length (sizeL Q / 2) - 2 * g
theorem CycL.count {f : Nat → Nat} {N : Nat} {ls : List (List Nat)} (h : CycL f N ls) : ls.length ≤ N := by
  have h1 : (ls.map fun l => l.headD 0).Nodup := List.pairwise_map.2 (h.asc.imp fun hab e => by omega)
  have := nodup_le N _ h1 fun y hy => by
    obtain ⟨l, hl, rfl⟩ := List.mem_map.1 hy
    exact (h.low l hl _ (h.cyc l hl).head).2
  simpa using this
attribute [local irreducible] gOK WS WC WR WD Ends FS YS OpV seqK blockK loopK midK retK rdK asgK rangeEnd sat Cell
section
variable {M : HL} {n0 : Nat} {H : Heap} {v w : Value}
end
end Go.Proofs.YtmgmkglmjmaipaaDoor.Ct

/- The reference's index, ends, point, Check. -/
namespace Go.Proofs.YtmgmkglmjmaipaaDoor.Ct
open Go Go.Abs Go.Mth
set_option linter.unusedVariables false
set_option linter.unusedSimpArgs false
theorem mem_preM {P : List (List Int)} {i k : Nat} {x : Int} (hi : i ≤ P.length) : x ∈ preM P i k ↔ (∃ j, j < i ∧ x ∈ P.getD j []) ∨ x ∈ (P.getD i []).take k := by
  unfold preM
  rw [List.mem_append, List.mem_flatten]
  refine or_congr ⟨?_, ?_⟩ Iff.rfl
  · rintro ⟨l, hl, hx⟩
    obtain ⟨j, hj, rfl⟩ := List.mem_iff_getElem.1 hl
    rw [List.length_take] at hj
    refine ⟨j, by omega, ?_⟩
    rw [getD_eq (by omega)]
    rwa [List.getElem_take] at hx
  · rintro ⟨j, hj, hx⟩
    refine ⟨P.getD j [], ?_, hx⟩
    rw [getD_eq (by omega)]
    exact List.mem_iff_getElem.2 ⟨j, by rw [List.length_take]; omega, by rw [List.getElem_take]⟩
attribute [local irreducible] gOK WS WC WR WD Ends FS YS OpV seqK blockK loopK midK retK rdK asgK rangeEnd sat Cell
section
variable {M : HL} {n0 : Nat} {H : Heap} {v w : Value}
theorem rin_fs (a lo hi : Int) : FS C 71 [.int .i64 a, .int .i64 lo, .int .i64 hi] H (fun e H' => H' = H ∧ e = .bool (decide (lo ≤ a ∧ a ≤ hi))) := by
  refine FS.intro (pf := pf71) rfl rfl rfl ?_
  repeat' (first | refine zP ?_ | refine zA ?_ | (refine zM ?_; intro _ _) | refine zX ?_ | (refine zC ?_; intro _ _ _ _) | (refine zS ?_; intro _ _) | (apply Ws <;> intro hg))
  · refine Ends.ret1 rfl ⟨rfl, ?_⟩
    simp_all
  · refine Ends.ret1 rfl ⟨rfl, ?_⟩
    rw [decide_eq_false (by omega)]
theorem rindex_fs (hH : hasH M n0 H) {xs : List Int} (hS : Sl M 1 v (ints xs)) (hx : xs.length ≤ 100000) (a : Int) :
    FS C 72 [v, .int .i64 a] H (fun e H' => H' = H ∧ ((∃ k, k < xs.length ∧ xs.getD k 0 = a ∧ (∀ j, j < k → xs.getD j 0 ≠ a) ∧ e = .int .i64 (k : Int)) ∨ (a ∉ xs ∧ e = .int .i64 (-1)))) := by
  refine FS.intro (pf := pf72) rfl rfl rfl ?_
  repeat' (first | refine zP ?_ | refine zA ?_ | (refine zM ?_; intro _ _) | refine zX ?_ | (refine zC ?_; intro _ _ _ _) | (refine zS ?_; intro _ _) | (apply Ws <;> intro hg))
  refine WC.loopX [(0, _), (1, _)] (fun k : Nat => [(5, .int .i64 (k : Int))]) [] (fun k H' => H' = H ∧ k ≤ xs.length ∧ ∀ j, j < k → xs.getD j 0 ≠ a) (fun k => xs.length - k) 0 (by repeat' (first | exact .nil | refine .cons rfl ?_)) rfl ⟨rfl, Nat.zero_le _, fun j h => absurd h (Nat.not_lt_zero _)⟩ ?_
  rintro k H' ⟨rfl, hk, hno⟩
  dsimp only [List.cons_append, List.nil_append]
  repeat' (first | refine zP ?_ | refine zA ?_ | (refine zM ?_; intro _ _) | refine zX ?_ | (refine zC ?_; intro _ _ _ _) | (refine zS ?_; intro _ _) | (apply Ws <;> intro hg))
  refine WC.condP rfl (fun hlt => ?_) (fun hlt => ?_)
  · have hk' : k < xs.length := by omega
    repeat' (first | refine zP ?_ | refine zA ?_ | (refine zM ?_; intro _ _) | refine zX ?_ | (refine zC ?_; intro _ _ _ _) | (refine zS ?_; intro _ _) | (apply Ws <;> intro hg))
    refine WC.condP rfl (fun h => ?_) (fun h => ?_)
    · repeat' (first | refine zP ?_ | refine zA ?_ | (refine zM ?_; intro _ _) | refine zX ?_ | (refine zC ?_; intro _ _ _ _) | (refine zS ?_; intro _ _) | (apply Ws <;> intro hg))
      exact Ends.ret1 rfl ⟨rfl, .inl ⟨k, hk', h, hno, rfl⟩⟩
    · repeat' (first | refine zP ?_ | refine zA ?_ | (refine zM ?_; intro _ _) | refine zX ?_ | (refine zC ?_; intro _ _ _ _) | (refine zS ?_; intro _ _) | (apply Ws <;> intro hg))
      refine Ends.loop (k + 1) (by omega) (by repeat' (first | exact .nil | refine .cons rfl ?_)) rfl ⟨rfl, hk', fun j hj => ?_⟩
      rcases Nat.lt_or_ge j k with h2 | h2
      · exact hno j h2
      · have : j = k := by omega
        subst this
        exact h
  · repeat' (first | refine zP ?_ | refine zA ?_ | (refine zM ?_; intro _ _) | refine zX ?_ | (refine zC ?_; intro _ _ _ _) | (refine zS ?_; intro _ _) | (apply Ws <;> intro hg))
    refine Ends.ret1 rfl ⟨rfl, .inr ⟨fun hm => ?_, rfl⟩⟩
    obtain ⟨j, hj, he⟩ := List.mem_iff_getElem.1 hm
    exact hno j (by omega) (by rw [getD_eq hj]; exact he)
theorem rpoint_fs (hH : hasH M n0 H) {P : List (List Int)} (hR : RowsI M v P) (hl : P.length ≤ 1000) (hr : ∀ i, i < P.length → (P.getD i []).length ≤ 1000) {many : Nat} (hm : many ≤ P.length) (a : Int) :
    FS C 73 [.agg [v].toArray, .int .i64 (many : Int), .int .i64 a] H (fun e H' => ∃ n', n0 ≤ n' ∧ hasH M n' H' ∧ ((∃ i, i < many ∧ a ∈ P.getD i [] ∧ (∀ j, j < i → a ∉ P.getD j []) ∧ e = .int .i64 (i : Int)) ∨ ((∀ j, j < many → a ∉ P.getD j []) ∧ e = .int .i64 (-1)))) := by
  obtain ⟨ws, hS, hwl, hrow⟩ := hR
  have hv := hS.one_
  refine FS.intro (pf := pf73) rfl rfl rfl ?_
  repeat' (first | refine zP ?_ | refine zA ?_ | (refine zM ?_; intro _ _) | refine zX ?_ | (refine zC ?_; intro _ _ _ _) | (refine zS ?_; intro _ _) | (apply Ws <;> intro hg))
  rename_i H1 hH1
  refine WC.loopX [(1, _), (2, _), (3, _)] (fun k : Nat => [(7, .int .i64 (k : Int))]) [] (fun k H' => H' = H1 ∧ k ≤ many ∧ ∀ j, j < k → a ∉ P.getD j []) (fun k => many - k) 0 (by repeat' (first | exact .nil | refine .cons rfl ?_)) rfl ⟨rfl, Nat.zero_le _, fun j h => absurd h (Nat.not_lt_zero _)⟩ ?_
  rintro k H' ⟨rfl, hk, hno⟩
  dsimp only [List.cons_append, List.nil_append]
  repeat' (first | refine zP ?_ | refine zA ?_ | (refine zM ?_; intro _ _) | refine zX ?_ | (refine zC ?_; intro _ _ _ _) | (refine zS ?_; intro _ _) | (apply Ws <;> intro hg))
  refine WC.condP rfl (fun hlt => ?_) (fun hlt => ?_)
  · have hk' : k < many := by omega
    have hSi := hrow k (by omega)
    have hli := hr k (by omega)
    repeat' (first | refine zP ?_ | refine zA ?_ | (refine zM ?_; intro _ _) | refine zX ?_ | (refine zC ?_; intro _ _ _ _) | (refine zS ?_; intro _ _) | (apply Ws <;> intro hg))
    refine WR.call (by first | exact gN | exact gS rfl) rfl rfl (rindex_fs hH1 hSi.cons (by omega) a) ?_
    rintro _ H2 ⟨rfl, ⟨j, hj, he, _, rfl⟩ | ⟨hn, rfl⟩⟩
    · repeat' (first | refine zP ?_ | refine zA ?_ | (refine zM ?_; intro _ _) | refine zX ?_ | (refine zC ?_; intro _ _ _ _) | (refine zS ?_; intro _ _) | refine zO ?_ | (apply Ws <;> intro hg))
      exact Ends.ret1 rfl ⟨n0 + 1, by omega, hH1.tail, .inl ⟨k, hk', by rw [← he]; exact getD_mem hj, hno, rfl⟩⟩
    · repeat' (first | refine zP ?_ | refine zA ?_ | (refine zM ?_; intro _ _) | refine zX ?_ | (refine zC ?_; intro _ _ _ _) | (refine zS ?_; intro _ _) | refine zO ?_ | (apply Ws <;> intro hg))
      refine Ends.loop (k + 1) (by omega) (by repeat' (first | exact .nil | refine .cons rfl ?_)) rfl ⟨rfl, hk', fun j hj => ?_⟩
      by_cases e : j = k
      · subst e; exact hn
      · exact hno j (by omega)
  · have hkm : k = many := by omega
    subst hkm
    repeat' (first | refine zP ?_ | refine zA ?_ | (refine zM ?_; intro _ _) | refine zX ?_ | (refine zC ?_; intro _ _ _ _) | (refine zS ?_; intro _ _) | (apply Ws <;> intro hg))
    exact Ends.ret1 rfl ⟨n0 + 1, by omega, hH1.tail, .inr ⟨hno, rfl⟩⟩
theorem rends_fs (hH : hasH M n0 H) {P : List (List Int)} (hR : RowsI M v P) (hl : P.length ≤ 1000) (hr : ∀ i, i < P.length → (P.getD i []).length ≤ 1000) :
    FS C 67 [.agg [v].toArray] H (fun e H' => ∃ n', n0 ≤ n' ∧ hasH M n' H' ∧ e = .int .i64 (sizeL P : Int)) := by
  obtain ⟨ws, hS, hwl, hrow⟩ := hR
  have hv := hS.one_
  refine FS.intro (pf := pf67) rfl rfl rfl ?_
  repeat' (first | refine zP ?_ | refine zA ?_ | (refine zM ?_; intro _ _) | refine zX ?_ | (refine zC ?_; intro _ _ _ _) | (refine zS ?_; intro _ _) | (apply Ws <;> intro hg))
  rename_i H1 hH1
  refine WC.loopX [(1, _)] (fun k : Nat => [(4, .int .i64 (k : Int)), (3, .int .i64 (sizeTo P k : Int))]) [] (fun k H' => H' = H1 ∧ k ≤ P.length ∧ sizeTo P k ≤ 1000 * k) (fun k => P.length - k) 0 (by repeat' (first | exact .nil | refine .cons rfl ?_)) rfl ⟨rfl, Nat.zero_le _, by simp [sizeTo]⟩ ?_
  rintro k H' ⟨rfl, hk, hb⟩
  dsimp only [List.cons_append, List.nil_append]
  repeat' (first | refine zP ?_ | refine zA ?_ | (refine zM ?_; intro _ _) | refine zX ?_ | (refine zC ?_; intro _ _ _ _) | (refine zS ?_; intro _ _) | (apply Ws <;> intro hg))
  refine WC.condP rfl (fun hlt => ?_) (fun hlt => ?_)
  · have hk' : k < P.length := by omega
    have hSi := hrow k hk'
    have hli := hr k hk'
    have hsu := sizeTo_succ hk'
    repeat' (first | refine zP ?_ | refine zA ?_ | (refine zM ?_; intro _ _) | refine zX ?_ | (refine zC ?_; intro _ _ _ _) | (refine zS ?_; intro _ _) | (apply Ws <;> intro hg))
    rw [show (sizeTo P k : Int) + ((P.getD k []).length : Int) = ((sizeTo P (k + 1) : Nat) : Int) by omega]
    exact Ends.loop (k + 1) (by omega) (by repeat' (first | exact .nil | refine .cons rfl ?_)) rfl ⟨rfl, hk', by omega⟩
  · have hkm : k = P.length := by omega
    subst hkm
    repeat' (first | refine zP ?_ | refine zA ?_ | (refine zM ?_; intro _ _) | refine zX ?_ | (refine zC ?_; intro _ _ _ _) | (refine zS ?_; intro _ _) | (apply Ws <;> intro hg))
    exact Ends.ret1 rfl ⟨n0 + 1, by omega, hH1.tail, by rw [sizeTo_all]⟩
end
end Go.Proofs.YtmgmkglmjmaipaaDoor.Ct

/- The law's same, lists, size, after. -/
namespace Go.Proofs.YtmgmkglmjmaipaaDoor.Ct
open Go Go.Abs Go.Mth
set_option linter.unusedVariables false
set_option linter.unusedSimpArgs false
/-- What comes next, and which point, for the first lists, and for the first ends of the next one. -/
structure AftTo (Q : List (List Nat)) (i j : Nat) (X A : List Nat) : Prop where
  hX : X.length = sizeL Q
  hA : A.length = sizeL Q
  full : ∀ q, q < i → ∀ t, t < (Q.getD q []).length → A.getD ((Q.getD q []).getD t 0) 0 = q ∧ X.getD ((Q.getD q []).getD t 0) 0 = nxt (Q.getD q []) t
  part : ∀ t, t < j → A.getD ((Q.getD i []).getD t 0) 0 = i ∧ X.getD ((Q.getD i []).getD t 0) 0 = nxt (Q.getD i []) t
theorem AftTo.step {Q : List (List Nat)} (h : OKM Q) {i j : Nat} {X A : List Nat} (hi : i < Q.length) (hj : j < (Q.getD i []).length) (hd : AftTo Q i j X A) :
    AftTo Q i (j + 1) (X.set ((Q.getD i []).getD j 0) (nxt (Q.getD i []) j)) (A.set ((Q.getD i []).getD j 0) i) := by
  obtain ⟨hnd, h1, hlt⟩ := h.row hi
  have hX := hd.hX; have hA := hd.hA
  have hjl := hlt j hj
  refine ⟨by simp [hX], by simp [hA], fun q hq t ht => ?_, fun t ht => ?_⟩
  · obtain ⟨k1, k2⟩ := hd.full q hq t ht
    have n1 : (Q.getD q []).getD t 0 ≠ (Q.getD i []).getD j 0 := fun e => h.apart (by omega) hi (by omega) (getD_mem (a := 0) ht) (e ▸ getD_mem hj)
    rw [getD_set' (by omega), if_neg n1, getD_set' (by omega), if_neg n1]
    exact ⟨k1, k2⟩
  · rw [getD_set' (by omega), getD_set' (by omega)]
    by_cases e : t = j
    · subst e
      rw [if_pos rfl, if_pos rfl]; exact ⟨rfl, rfl⟩
    · obtain ⟨k1, k2⟩ := hd.part t (by omega)
      rw [if_neg fun q => e (nodup_inj hnd (by omega) hj q), if_neg fun q => e (nodup_inj hnd (by omega) hj q)]
      exact ⟨k1, k2⟩
theorem AftTo.next {Q : List (List Nat)} {i : Nat} {X A : List Nat} (hd : AftTo Q i (Q.getD i []).length X A) : AftTo Q (i + 1) 0 X A :=
  ⟨hd.hX, hd.hA, fun q hq t ht => by
    by_cases e : q = i
    · subst e; exact hd.part t ht
    · exact hd.full q (by omega) t ht, fun t ht => absurd ht (Nat.not_lt_zero _)⟩
structure AftR (Q : List (List Nat)) (X A : List Nat) : Prop where
  hX : X.length = sizeL Q
  hA : A.length = sizeL Q
  pt : PtOf Q (fun e => A.getD e 0)
  aft : CycS (fun e => X.getD e 0) (sizeL Q) Q
  lt : ∀ e, e < sizeL Q → A.getD e 0 < Q.length
theorem nxt_prv {f : Nat → Nat} {l : List Nat} (h : ∀ t, t < l.length → f (l.getD t 0) = nxt l t) {t : Nat} (ht : t < l.length) : f (prv l t) = l.getD t 0 := by
  unfold prv
  by_cases e : t = 0
  · rw [if_pos e, h _ (by omega), nxt, e, show l.length - 1 + 1 = l.length by omega, Nat.mod_self]
  · rw [if_neg e, h _ (by omega), nxt, show t - 1 + 1 = t by omega, Nat.mod_eq_of_lt ht]
theorem AftTo.all {Q : List (List Nat)} (h : OKM Q) {X A : List Nat} (hd : AftTo Q Q.length 0 X A) : AftR Q X A := by
  refine ⟨hd.hX, hd.hA, fun q hq e he => ?_, ⟨fun l hl => ?_, h.lt, h.nd, fun x hx => ?_⟩, fun e he => ?_⟩
  · obtain ⟨t, ht, rfl⟩ := List.mem_iff_getElem.1 he
    have := (hd.full q hq t ht).1
    rwa [getD_eq ht] at this
  · obtain ⟨q, hq, rfl⟩ := mem_getD hl
    obtain ⟨hnd, h1, hlt⟩ := h.row hq
    exact cyc_of (h.ne _ hl) hnd fun t ht => nxt_prv (f := fun e => X.getD e 0) (fun t ht => (hd.full q hq t ht).2) ht
  · obtain ⟨q, hq, t, ht, he⟩ := all_lt h hx
    exact ⟨_, getD_mem hq, by rw [← he]; exact getD_mem ht⟩
  · obtain ⟨q, hq, t, ht, rfl⟩ := all_lt h he
    rw [(hd.full q hq t ht).1]; exact hq
attribute [local irreducible] gOK WS WC WR WD Ends FS YS OpV seqK blockK loopK midK retK rdK asgK rangeEnd sat Cell
section
variable {M : HL} {n0 : Nat} {H : Heap} {v w : Value}
theorem same_fs (hH : hasH M n0 H) {a b : List Int} (hS : Sl M 1 v (ints a)) (hT : Sl M 1 w (ints b)) (ha : a.length ≤ 100000) :
    FS C 40 [v, w] H (fun e H' => H' = H ∧ e = .bool (decide (a = b))) := by
  refine FS.intro (pf := pf40) rfl rfl rfl ?_
  repeat' (first | refine zP ?_ | refine zA ?_ | (refine zM ?_; intro _ _) | refine zX ?_ | (refine zC ?_; intro _ _ _ _) | (refine zS ?_; intro _ _) | (apply Ws <;> intro hg))
  refine WC.condP rfl (fun hne => ?_) (fun hne => ?_)
  · repeat' (first | refine zP ?_ | refine zA ?_ | (refine zM ?_; intro _ _) | refine zX ?_ | (refine zC ?_; intro _ _ _ _) | (refine zS ?_; intro _ _) | (apply Ws <;> intro hg))
    refine Ends.ret1 rfl ⟨rfl, ?_⟩
    rw [decide_eq_false fun e => by subst e; exact hne rfl]
  · have hab : a.length = b.length := by omega
    repeat' (first | refine zP ?_ | refine zA ?_ | (refine zM ?_; intro _ _) | refine zX ?_ | (refine zC ?_; intro _ _ _ _) | (refine zS ?_; intro _ _) | (apply Ws <;> intro hg))
    refine WC.loopX [(0, v), (1, w)] (fun k : Nat => [(5, .int .i64 (k : Int))]) [] (fun k H' => H' = H ∧ k ≤ a.length ∧ ∀ j, j < k → a.getD j 0 = b.getD j 0) (fun k => a.length - k) 0 (by repeat' (first | exact .nil | refine .cons rfl ?_)) rfl ⟨rfl, Nat.zero_le _, fun j h => absurd h (Nat.not_lt_zero _)⟩ ?_
    rintro k H' ⟨rfl, hk, hs⟩
    dsimp only [List.cons_append, List.nil_append]
    repeat' (first | refine zP ?_ | refine zA ?_ | (refine zM ?_; intro _ _) | refine zX ?_ | (refine zC ?_; intro _ _ _ _) | (refine zS ?_; intro _ _) | (apply Ws <;> intro hg))
    refine WC.condP rfl (fun hlt => ?_) (fun hlt => ?_)
    · have hk' : k < a.length := by omega
      repeat' (first | refine zP ?_ | refine zA ?_ | (refine zM ?_; intro _ _) | refine zX ?_ | (refine zC ?_; intro _ _ _ _) | (refine zS ?_; intro _ _) | (apply Ws <;> intro hg))
      refine WC.condP rfl (fun hd => ?_) (fun hd => ?_)
      · repeat' (first | refine zP ?_ | refine zA ?_ | (refine zM ?_; intro _ _) | refine zX ?_ | (refine zC ?_; intro _ _ _ _) | (refine zS ?_; intro _ _) | (apply Ws <;> intro hg))
        refine Ends.ret1 rfl ⟨rfl, ?_⟩
        rw [decide_eq_false fun e => by subst e; exact hd rfl]
      · repeat' (first | refine zP ?_ | refine zA ?_ | (refine zM ?_; intro _ _) | refine zX ?_ | (refine zC ?_; intro _ _ _ _) | (refine zS ?_; intro _ _) | (apply Ws <;> intro hg))
        refine Ends.loop (k + 1) (by omega) (by repeat' (first | exact .nil | refine .cons rfl ?_)) rfl ⟨rfl, hk', fun j hj => ?_⟩
        by_cases e : j = k
        · subst e; exact Decidable.not_not.1 hd
        · exact hs j (by omega)
    · repeat' (first | refine zP ?_ | refine zA ?_ | (refine zM ?_; intro _ _) | refine zX ?_ | (refine zC ?_; intro _ _ _ _) | (refine zS ?_; intro _ _) | (apply Ws <;> intro hg))
      refine Ends.ret1 rfl ⟨rfl, ?_⟩
      rw [decide_eq_true (ext_getD (a := 0) hab fun i hi => hs i (by omega))]
end
end Go.Proofs.YtmgmkglmjmaipaaDoor.Ct

/- The law's after. -/
namespace Go.Proofs.YtmgmkglmjmaipaaDoor.Ct
open Go Go.Abs Go.Mth
set_option linter.unusedVariables false
set_option linter.unusedSimpArgs false
attribute [local irreducible] gOK WS WC WR WD Ends FS YS OpV seqK blockK loopK midK retK rdK asgK rangeEnd sat Cell
section
variable {M : HL} {n0 : Nat} {H : Heap} {v w : Value}
abbrev slN (b N : Nat) : Value := .slice (some ⟨b, 0, some 0⟩) N (2 * N + 1)
end
end Go.Proofs.YtmgmkglmjmaipaaDoor.Ct

/- The law's faces, parts, genus. -/
namespace Go.Abs
set_option linter.unusedSectionVars false
variable [Globs]
open Go Go.Mth
set_option linter.unusedVariables false
set_option linter.unusedSimpArgs false
/-- A set of numbers: a map from them to true. -/
def entsB : Nat → List Nat → List ME
  | _, [] => []
  | b, x :: l => ⟨.int .i64 (x : Int), .bool true, b⟩ :: entsB (b + 1) l
section
variable {C : CW} {nt : Nat} {L : Env} {D : List Nat} {H : Heap} {K : St → Prop} {M M' : HL} {n i d : Nat} {gd : Option (Tmp × Bool)} {lo : List Nat} {l : List POp}
attribute [local irreducible] gOK WS WC WR WD Ends FS YS seqK blockK loopK midK retK rdK asgK rangeEnd sat Cell
end
end Go.Abs
namespace Go.Proofs.YtmgmkglmjmaipaaDoor.Ct
open Go Go.Abs Go.Mth
set_option linter.unusedVariables false
set_option linter.unusedSimpArgs false
structure LF where
  u : Value
  Mr : HL
  n : Nat
  l : List Nat
  e : Nat
  m : List Nat
structure LG where
  s : Nat
  v : Value
  ws : List Value
  Mo : HL
  Mi : HL
  n : Nat
  ls : List (List Nat)
  m : List Nat
attribute [local irreducible] gOK WS WC WR WD Ends FS YS OpV seqK blockK loopK midK retK rdK asgK rangeEnd sat Cell
section
variable {M : HL} {n0 : Nat} {H : Heap} {v w : Value}
end
end Go.Proofs.YtmgmkglmjmaipaaDoor.Ct

/- The law's parts and genus. -/
namespace Go.Proofs.YtmgmkglmjmaipaaDoor.Ct
open Go Go.Abs Go.Mth
set_option linter.unusedVariables false
set_option linter.unusedSimpArgs false
attribute [local irreducible] gOK WS WC WR WD Ends FS YS OpV seqK blockK loopK midK retK rdK asgK rangeEnd sat Cell
section
variable {M : HL} {n0 : Nat} {H : Heap} {v w : Value}
end
end Go.Proofs.YtmgmkglmjmaipaaDoor.Ct

/- Sketches: a map by numbers. -/
namespace Go.Abs
set_option linter.unusedSectionVars false
open Go
section
variable [Globs] {C : CW} {nt : Nat} {L : Env} {D : List Nat} {H H' : Heap} {K : St → Prop} {M M' : HL} {n i d : Nat} {gd : Option (Tmp × Bool)} {lo : List Nat} {l : List POp} {rs : List Rd}
theorem WD.append {e sz : Nat} {s x : Operand} {v y : Value} {cs : List Value} {Mx M0 : HL} {k : Nat} {new : List Value} (hg : gOK L gd) (hd : Nat.blt d nt = true) (hs : ev L s = some v) (hy : ev L x = some y)
    (hO : Own e sz v cs Mx) (hH : hasH M n H) (hM : M'.Sublist M) (hp : M'.Perm (Mx ++ M0)) (hk : srcLen y = some k) (hx : srcCells H sz k y = some new) (hl : new.length = k * sz) (h1 : 1 ≤ k) (hone : new.all one = true) (hs1 : 1 ≤ sz) (hs2 : sz ≤ 1000)
    (hsm : cs.length + new.length ≤ 100000) (kk : ∀ v' Mx' n' H', OwnR e sz v' (cs ++ new) Mx' → hasH (Mx' ++ M0) n' H' → n ≤ n' → stands H' lo rs = true ∧ WD C nt l rs ((d, v') :: L) D H' K) :
    WD C nt (⟨i, some d, .append e sz s x, gd, lo⟩ :: l) rs L D H K := by
  obtain ⟨v', Mx', n', H', q1, q2, q3, q4⟩ := append_ownR (P := C.c.P) hO ((hH.sub hM).perm hp) hk hx hl h1 hone hs1 hs2 hsm
  obtain ⟨k1, k2⟩ := kk v' Mx' n' H' q2 q3 q4
  refine WD.op hg hd (H' := H') (v := v') (fun t ht => ?_) rfl k1 k2
  simp only [opA, ev_ok ht hs, ev_ok ht hy, q1]
/-- One element more, what was read before may be read after. -/
theorem WD.append1F {j d2 : Nat} {e : Nat} {z : List Value} {s x : Operand} {lo2 : List Nat} {v y : Value} {cs : List Value} {new : Value} (F Mx T : HL) (hd : Nat.blt d nt = true) (hd2 : Nat.blt d2 nt = true)
    (hx : ev L x = some y) (hs : ev ((d, .slice (some ⟨n, 0, some 0⟩) 1 (2 * 1 + 1)) :: L) s = some v) (hO : Own e 1 v cs Mx) (hH : hasH (F ++ (Mx ++ T)) n H)
    (hc : Instr.fill (fun j => some (j * 1, 1)) z.toArray [(0, y)] = some [new].toArray) (hone : one new = true) (hsm : cs.length + 1 ≤ 100000)
    (hst : ∀ H', hasH ((n, .row e 0 0 [new]) :: (F ++ (Mx ++ T))) (n + 1) H' → stands H' lo rs = true)
    (kk : ∀ v' Mx' n' H', OwnR e 1 v' (cs ++ [new]) Mx' → hasH (F ++ (Mx' ++ T)) n' H' → n ≤ n' → stands H' lo2 rs = true ∧ WD C nt l rs ((d2, v') :: (d, .slice (some ⟨n, 0, some 0⟩) 1 (2 * 1 + 1)) :: L) D H' K) :
    WD C nt (⟨i, some d, .bldS e 1 z 1 [(0, x)], none, lo⟩ :: ⟨j, some d2, .append e 1 s (.tmp d), none, lo2⟩ :: l) rs L D H K := by
  refine WD.bldS True.intro hd hH (vs := [(0, y)]) (by simp only [evp, hx]) hc (by simp [hone]) hst fun H1 hH1 => ?_
  have hx2 : srcCells H1 1 1 (.slice (some ⟨n, 0, some 0⟩) 1 (2 * 1 + 1)) = some [new] := by
    have := hH1.readN (b := n) (u := 0) (lo := 0) (o := 0) (k := 1 * 1) (ch := .row e 0 0 [new]) (cs := [new]) (by simp) (.row _ _ _ _) (Nat.le_refl _) (by simp)
    simpa [srcCells] using this
  have hy : ev ((d, .slice (some ⟨n, 0, some 0⟩) 1 (2 * 1 + 1)) :: L) (.tmp d) = some (.slice (some ⟨n, 0, some 0⟩) 1 (2 * 1 + 1)) := by simp [ev, Env.get]
  refine WD.append True.intro hd2 hs hy hO hH1 (M' := F ++ (Mx ++ T)) (List.sublist_cons_self _ _) (M0 := F ++ T) (List.perm_append_comm_assoc F Mx T) rfl hx2 (by simp) (Nat.le_refl _) (by simp [hone]) (Nat.le_refl _) (by omega) (by simpa using hsm) fun v' Mx' n' H' q1 q2 q3 => ?_
  exact kk v' Mx' n' H' q1 (q2.perm (List.perm_append_comm_assoc Mx' F T)) (by omega)
end
end Go.Abs
namespace Go.Proofs.YtmgmkglmjmaipaaDoor.Ct
open Go Go.Abs Go.Mth
set_option linter.unusedVariables false
set_option linter.unusedSimpArgs false
/-- A sketch's cells. -/
def skV (x : Nat) (ord : List Nat) (b : Nat) : List Value := numsK .u8 (x :: ord) ++ [.int .u16 (b : Int)]
structure KV where
  k : Nat
  v : Value
  Mx : HL
  n : Nat
structure MS where
  k : Nat
  cp : Nat
  R : Nat
  ys : List Int
  pv : Value
  ws : List Value
  Mo : HL
  Mi : HL
  n : Nat
  P : List (List Nat)
  left : List Nat
structure MJ where
  pv : Value
  wi : List Value
  u : Value
  Mo : HL
  Mr : HL
  Mi : HL
  n : Nat
  Pi : List (List Nat)
  r : List Nat
attribute [local irreducible] gOK WS WC WR WD Ends FS YS OpV seqK blockK loopK midK retK rdK asgK rangeEnd sat Cell
section
variable {M : HL} {n0 : Nat} {H : Heap} {v w : Value}
end
end Go.Proofs.YtmgmkglmjmaipaaDoor.Ct

/- The first list of which each beginning fits: a search that goes back. -/
namespace Go.Abs
set_option linter.unusedSectionVars false
set_option linter.unusedVariables false
variable [Globs]
open Go
section
variable {C : CW} {ro : Option Nat} {fn : FuncId} {nt : Nat} {L : Env} {D : List Nat} {H : Heap} {K : Ex → St → Prop}
/-- A body to one of whose labels it goes back, each time lower. -/
def gotoK {α : Type} (l : Nat) (I : α → St → Prop) (m : α → Nat) (a : α) (K : Ex → St → Prop) : Ex → St → Prop
  | .goto j, s => j = l ∧ ∃ a', m a' < m a ∧ I a' s
  | e, s => K e s
theorem WC.scopeG {α : Type} {l : Nat} {b rest : PC} (hf : findLabelA b l = some rest) (Lf : α → Env) (Df : List Nat) (hp : α → Heap → Prop) (m : α → Nat) (a0 : α)
    (h0 : WC C ro fn nt b L D H (gotoK l (fun a => sat (Lf a) Df (hp a)) m a0 K))
    (hb : ∀ a H, hp a H → WC C ro fn nt rest (Lf a) Df H (gotoK l (fun a => sat (Lf a) Df (hp a)) m a K)) : WC C ro fn nt (.scope b) L D H K := by
  have key : ∀ (k : Nat) (a : α) (s : St), m a < k → sat (Lf a) Df (hp a) s → ∃ n e s', runW C n (.scope ro fn nt b rest s) = some (.code e s') ∧ K e s' := by
    intro k
    induction k with
    | zero => intro a s h; exact absurd h (Nat.not_lt_zero _)
    | succ k ih =>
      rintro a s hk ⟨q1, q2, q3⟩
      have hw := hb a s.H q3 s.t q1
      cases s with
      | mk t d H =>
      simp only at q2
      subst q2
      obtain ⟨n, e, s1, h1, h2⟩ := hw
      cases e with
      | goto j =>
        obtain ⟨rfl, a', hl, hi⟩ := h2
        obtain ⟨n2, e2, s2, h3, h4⟩ := ih a' s1 (by omega) hi
        refine ⟨max n n2 + 1, e2, s2, ?_, h4⟩
        show scopeC (runW C (max n n2)) ro fn nt b (stepC C.c (runW C (max n n2)) ro fn nt rest ⟨t, d, H⟩) = _
        rw [stepC_up (Nat.le_max_left n n2) h1]
        simp only [scopeC, hf]
        exact run_mono (Nat.le_max_right n n2) _ _ h3
      | normal => exact ⟨n + 1, _, s1, by show scopeC (runW C n) ro fn nt b (stepC C.c (runW C n) ro fn nt rest ⟨t, d, H⟩) = _; rw [h1]; rfl, h2⟩
      | ret => exact ⟨n + 1, _, s1, by show scopeC (runW C n) ro fn nt b (stepC C.c (runW C n) ro fn nt rest ⟨t, d, H⟩) = _; rw [h1]; rfl, h2⟩
      | exit j => exact ⟨n + 1, _, s1, by show scopeC (runW C n) ro fn nt b (stepC C.c (runW C n) ro fn nt rest ⟨t, d, H⟩) = _; rw [h1]; rfl, h2⟩
  intro t ht
  obtain ⟨n, e, s1, h1, h2⟩ := h0 t ht
  cases e with
  | goto j =>
    obtain ⟨rfl, a', hl, hi⟩ := h2
    obtain ⟨n2, e2, s2, h3, h4⟩ := key _ a' s1 (Nat.lt_succ_self _) hi
    refine ⟨max n n2, e2, s2, ?_, h4⟩
    simp only [stepC, stepC_up (Nat.le_max_left n n2) h1, scopeC, hf]
    exact run_mono (Nat.le_max_right n n2) _ _ h3
  | normal => exact ⟨n, _, s1, by simp only [stepC, h1, scopeC], h2⟩
  | ret => exact ⟨n, _, s1, by simp only [stepC, h1, scopeC], h2⟩
  | exit j => exact ⟨n, _, s1, by simp only [stepC, h1, scopeC], h2⟩
theorem WC.scopeL {α : Type} {l : Nat} {R : PC} (Lf : α → Env) (Df : List Nat) (hp : α → Heap → Prop) (m : α → Nat) (a0 : α) (hs : Sub L (Lf a0)) (hD : D = Df) (hH : hp a0 H)
    (hb : ∀ a H, hp a H → WC C ro fn nt R (Lf a) Df H (gotoK l (fun a => sat (Lf a) Df (hp a)) m a K)) : WC C ro fn nt (.scope (.seq (.label l) R)) L D H K := by
  subst hD
  refine WC.scopeG (rest := .seq .skip R) (l := l) ?_ Lf D hp m a0 (WC.seq (WC.label (Ends.seq ((hb a0 H hH).weaken hs)))) fun a H h => WC.seq (WC.skip (Ends.seq (hb a H h)))
  simp only [findLabelA, Nat.beq_refl, cond_true]
theorem Ends.goto_to {α : Type} {l : Nat} {Lf : α → Env} {Df : List Nat} {hp : α → Heap → Prop} {m : α → Nat} {a : α} (a' : α) (hm : m a' < m a) (h0 : Sub L (Lf a')) (hD : D = Df) (hH : hp a' H) :
    Ends (gotoK l (fun a => sat (Lf a) Df (hp a)) m a K) (.goto l) L D H :=
  fun t ht => ⟨rfl, a', hm, ht.weaken h0.mem, hD, hH⟩
end
section
variable {C : CW} {nt : Nat} {L : Env} {D : List Nat} {H : Heap} {K : St → Prop} {M M' : HL} {n i d : Nat} {gd : Option (Tmp × Bool)} {lo' : List Nat} {l : List POp}
open Go.Mth
/-- The first numbers of a slice. -/
theorem WR.cutHiN {x hi : Operand} {v : Value} {xs : List Nat} {m : Nat} {kd : IntKind} (hg : gOK L gd) (hd : Nat.blt d nt = true) (hx : ev L x = some v) (hS : Sl M 1 v (nodes xs)) (hh : ev L hi = some (.int kd (m : Int))) (hm : m ≤ xs.length)
    (k : ∀ v', Sl M 1 v' (nodes (xs.take m)) → WR C nt l ((d, v') :: L) D H K) : WR C nt (⟨i, some d, .slS x 1 none (some hi) none, gd, lo'⟩ :: l) L D H K := by
  refine WR.slS (vl := none) (vh := some (.int kd (m : Int))) (a := 0) (b := m) hg hd hx hS rfl (by simp [bnd, hh]) rfl (fun _ _ => rfl) (Nat.zero_le _) (by simpa using hm) (Nat.le_refl _) fun v' h => k v' ?_
  simpa [List.map_take] using h
end
end Go.Abs
namespace Go.Proofs.YtmgmkglmjmaipaaDoor.Ct
open Go Go.Abs Go.Mth
set_option linter.unusedVariables false
set_option linter.unusedSimpArgs false
/-- Each beginning fits. -/
def okP (fits : List Nat → Bool) (bound : Nat) (l : List Nat) : Prop := ∀ j, j < l.length → l.getD j 0 < bound ∧ fits (l.take (j + 1)) = true
/-- A list that is smaller than all that begin so. -/
def lexP (l q : List Nat) : Prop := ∃ p, p < q.length ∧ l.take p = q.take p ∧ l.getD p 0 < q.getD p 0
def FirstR (fits : List Nat → Bool) (bound n : Nat) (l : List Nat) : Prop := l.length = n ∧ okP fits bound l ∧ ∀ l', l'.length = n → okP fits bound l' → ¬ lexP l' l
structure SInv (fits : List Nat → Bool) (bound n : Nat) (pre : List Nat) (c : Nat) : Prop where
  ok : okP fits bound pre
  le : c ≤ bound
  lt : pre.length < n
  lex : ∀ l', l'.length = n → okP fits bound l' → ¬ lexP l' (pre ++ [c])
theorem snoc_get {pre : List Nat} {c : Nat} : (pre ++ [c]).getD pre.length 0 = c := getD_snoc
theorem okP_snoc {fits : List Nat → Bool} {bound c : Nat} {pre : List Nat} (h : okP fits bound pre) (hc : c < bound) (hf : fits (pre ++ [c]) = true) : okP fits bound (pre ++ [c]) := by
  intro j hj
  rw [List.length_append, List.length_singleton] at hj
  by_cases e : j < pre.length
  · rw [getD_app_l e, List.take_append_of_le_length (by omega)]; exact h j e
  · have : j = pre.length := by omega
    subst this
    rw [snoc_get, List.take_of_length_le (by simp)]
    exact ⟨hc, hf⟩
theorem okP_init {fits : List Nat → Bool} {bound a : Nat} {pre : List Nat} (h : okP fits bound (pre ++ [a])) : okP fits bound pre ∧ a < bound := by
  refine ⟨fun j hj => ?_, ?_⟩
  · have := h j (by simp; omega)
    rwa [getD_app_l hj, List.take_append_of_le_length (by omega)] at this
  · have := h pre.length (by simp)
    rw [snoc_get] at this
    exact this.1
theorem lexP_snoc {l pre : List Nat} {c : Nat} (h : lexP l (pre ++ [c])) : (∃ p, p < pre.length ∧ l.take p = pre.take p ∧ l.getD p 0 < pre.getD p 0) ∨ (l.take pre.length = pre ∧ l.getD pre.length 0 < c) := by
  obtain ⟨p, hp, h1, h2⟩ := h
  rw [List.length_append, List.length_singleton] at hp
  by_cases e : p < pre.length
  · rw [getD_app_l e] at h2
    rw [List.take_append_of_le_length (by omega)] at h1
    exact .inl ⟨p, e, h1, h2⟩
  · have : p = pre.length := by omega
    subst this
    rw [snoc_get] at h2
    rw [List.take_append_of_le_length (Nat.le_refl _), List.take_length] at h1
    exact .inr ⟨h1, h2⟩
theorem lexP_of {l pre : List Nat} {c : Nat} (h : (∃ p, p < pre.length ∧ l.take p = pre.take p ∧ l.getD p 0 < pre.getD p 0) ∨ (l.take pre.length = pre ∧ l.getD pre.length 0 < c)) : lexP l (pre ++ [c]) := by
  rcases h with ⟨p, hp, h1, h2⟩ | ⟨h1, h2⟩
  · exact ⟨p, by simp; omega, by rw [List.take_append_of_le_length (by omega)]; exact h1, by rw [getD_app_l hp]; exact h2⟩
  · exact ⟨pre.length, by simp, by rw [List.take_append_of_le_length (Nat.le_refl _), List.take_length]; exact h1, by rw [snoc_get]; exact h2⟩
theorem take_snoc {l pre : List Nat} {c : Nat} (h1 : l.take pre.length = pre) (h2 : l.getD pre.length 0 = c) (h3 : pre.length < l.length) : l.take (pre.length + 1) = pre ++ [c] := by
  rw [List.take_succ_eq_append_getElem h3, h1, ← getD_eq (a := 0) h3, h2]
theorem SInv.zero (fits : List Nat → Bool) {bound n : Nat} (h : 0 < n) : SInv fits bound n [] 0 :=
  ⟨fun j hj => absurd hj (Nat.not_lt_zero _), Nat.zero_le _, h, fun l' _ _ hl => by
    rcases lexP_snoc (pre := []) hl with ⟨p, hp, _⟩ | ⟨_, h⟩
    · exact absurd hp (Nat.not_lt_zero _)
    · exact absurd h (Nat.not_lt_zero _)⟩
theorem SInv.skip {fits : List Nat → Bool} {bound n c : Nat} {pre : List Nat} (h : SInv fits bound n pre c) (hc : c < bound) (hf : fits (pre ++ [c]) = false) : SInv fits bound n pre (c + 1) :=
  ⟨h.ok, hc, h.lt, fun l' hl hok hx => by
    rcases lexP_snoc hx with h1 | ⟨h1, h2⟩
    · exact h.lex l' hl hok (lexP_of (.inl h1))
    · by_cases e : l'.getD pre.length 0 = c
      · have := (hok pre.length (by rw [hl]; exact h.lt)).2
        rw [take_snoc h1 e (by rw [hl]; exact h.lt), hf] at this
        cases this
      · exact h.lex l' hl hok (lexP_of (.inr ⟨h1, by omega⟩))⟩
theorem lexP_zero {l pre : List Nat} {c : Nat} (h : lexP l ((pre ++ [c]) ++ [0])) : lexP l (pre ++ [c]) := by
  rcases lexP_snoc h with h1 | ⟨_, h2⟩
  · exact h1
  · exact absurd h2 (Nat.not_lt_zero _)
theorem SInv.next {fits : List Nat → Bool} {bound n c : Nat} {pre : List Nat} (h : SInv fits bound n pre c) (hc : c < bound) (hf : fits (pre ++ [c]) = true) (hn : pre.length + 1 < n) : SInv fits bound n (pre ++ [c]) 0 :=
  ⟨okP_snoc h.ok hc hf, Nat.zero_le _, by simpa using hn, fun l' hl hok hx => h.lex l' hl hok (lexP_zero hx)⟩
theorem SInv.last {fits : List Nat → Bool} {bound n c : Nat} {pre : List Nat} (h : SInv fits bound n pre c) (hc : c < bound) (hf : fits (pre ++ [c]) = true) (hn : pre.length + 1 = n) : FirstR fits bound n (pre ++ [c]) :=
  ⟨by simpa using hn, okP_snoc h.ok hc hf, h.lex⟩
theorem SInv.none {fits : List Nat → Bool} {bound n c : Nat} (h : SInv fits bound n [] c) (hc : ¬ c < bound) : ∀ l', l'.length = n → ¬ okP fits bound l' := fun l' hl hok => by
  have hlt : 0 < n := h.lt
  have := (hok 0 (by omega)).1
  exact h.lex l' hl hok (lexP_of (pre := []) (.inr ⟨rfl, by show l'.getD 0 0 < c; omega⟩))
theorem SInv.back {fits : List Nat → Bool} {bound n c a : Nat} {pre : List Nat} (h : SInv fits bound n (pre ++ [a]) c) (hc : ¬ c < bound) : SInv fits bound n pre (a + 1) := by
  obtain ⟨h1, h2⟩ := okP_init h.ok
  have hlt := h.lt
  rw [List.length_append, List.length_singleton] at hlt
  refine ⟨h1, by omega, by omega, fun l' hl hok hx => ?_⟩
  rcases lexP_snoc hx with h3 | ⟨h3, h4⟩
  · refine h.lex l' hl hok (lexP_of (.inl ?_))
    obtain ⟨p, hp, k1, k2⟩ := h3
    exact ⟨p, by simp; omega, by rw [List.take_append_of_le_length (by omega)]; exact k1, by rw [getD_app_l hp]; exact k2⟩
  · by_cases e : l'.getD pre.length 0 = a
    · have ht := take_snoc h3 e (by omega)
      refine h.lex l' hl hok (lexP_of (.inr ⟨by simpa using ht, ?_⟩))
      have := (hok (pre.length + 1) (by omega)).1
      simp only [List.length_append, List.length_singleton]
      omega
    · refine h.lex l' hl hok (lexP_of (.inl ⟨pre.length, by simp, ?_, ?_⟩))
      · rw [List.take_append_of_le_length (Nat.le_refl _), List.take_length]; exact h3
      · rw [snoc_get]; omega
/-- A list as a number. -/
def numB (B : Nat) : List Nat → Nat
  | [] => 0
  | d :: l => d * B ^ l.length + numB B l
theorem numB_append (B : Nat) : ∀ (a b : List Nat), numB B (a ++ b) = numB B a * B ^ b.length + numB B b
  | [], b => by simp [numB]
  | d :: a, b => by
    simp only [List.cons_append, numB, numB_append B a b, List.length_append, Nat.pow_add, Nat.add_mul, Nat.mul_assoc, Nat.add_assoc]
theorem numB_zeros (B k : Nat) : numB B (List.replicate k 0) = 0 := by
  induction k with
  | zero => rfl
  | succ k ih => simp [List.replicate_succ, numB, ih]
theorem numB_lt {B : Nat} : ∀ {l : List Nat}, (∀ x ∈ l, x < B) → numB B l < B ^ l.length
  | [], _ => by simp [numB]
  | d :: l, h => by
    have h1 := numB_lt (l := l) fun x hx => h x (by simp [hx])
    have h2 := h d (by simp)
    have h3 : (d + 1) * B ^ l.length ≤ B * B ^ l.length := Nat.mul_le_mul_right _ h2
    rw [Nat.add_mul, Nat.one_mul] at h3
    rw [numB, List.length_cons, Nat.pow_succ, Nat.mul_comm (B ^ l.length) B]
    omega
/-- The row of a search. -/
def flx (n : Nat) (pre : List Nat) (c : Nat) : List Nat := pre ++ c :: List.replicate (n - 1 - pre.length) 0
theorem fl_len {n c : Nat} {pre : List Nat} (h : pre.length < n) : (flx n pre c).length = n := by simp [flx]; omega
theorem fl_get {n c : Nat} {pre : List Nat} : (flx n pre c).getD pre.length 0 = c := by
  unfold flx
  rw [List.getD_eq_getElem?_getD, List.getElem?_append_right (Nat.le_refl _)]; simp
theorem fl_set {n c d : Nat} {pre : List Nat} : (flx n pre c).set pre.length d = flx n pre d := by
  unfold flx
  rw [List.set_append_right _ _ (Nat.le_refl _)]; simp
theorem fl_take {n c : Nat} {pre : List Nat} : (flx n pre c).take (pre.length + 1) = pre ++ [c] := by
  unfold flx
  rw [List.take_append, List.take_of_length_le (by omega)]; simp
theorem fl_next {n c : Nat} {pre : List Nat} (h : pre.length + 1 < n) : flx n (pre ++ [c]) 0 = flx n pre c := by
  unfold flx
  rw [show n - 1 - pre.length = (n - 1 - (pre ++ [c]).length) + 1 by simp; omega, List.replicate_succ]; simp
theorem fl_last {n c : Nat} {pre : List Nat} (h : pre.length + 1 = n) : flx n pre c = pre ++ [c] := by
  unfold flx
  rw [show n - 1 - pre.length = 0 by omega]; rfl
theorem fl_back {n a c : Nat} {pre : List Nat} (h : pre.length + 1 < n) : (((flx n (pre ++ [a]) c).set (pre.length + 1) 0).set pre.length (a + 1)) = flx n pre (a + 1) := by
  have e1 : (pre ++ [a]).length = pre.length + 1 := by simp
  rw [← e1, fl_set, fl_next h, fl_set]
theorem fl_get2 {n a c : Nat} {pre : List Nat} : ((flx n (pre ++ [a]) c).set (pre.length + 1) 0).getD pre.length 0 = a := by
  have e1 : (pre ++ [a]).length = pre.length + 1 := by simp
  rw [← e1, fl_set]
  unfold flx
  rw [List.append_assoc, List.getD_eq_getElem?_getD, List.getElem?_append_right (Nat.le_refl _)]; simp
def nf (B n : Nat) (pre : List Nat) (c : Nat) : Nat := numB B (flx n pre c)
theorem nf_eq {B n c : Nat} {pre : List Nat} : nf B n pre c = numB B pre * B ^ (n - 1 - pre.length + 1) + c * B ^ (n - 1 - pre.length) := by
  unfold nf flx
  rw [numB_append, numB, List.length_cons, List.length_replicate, numB_zeros]; omega
theorem nf_succ {B n c : Nat} {pre : List Nat} (hB : 0 < B) : nf B n pre c < nf B n pre (c + 1) := by
  have := Nat.pow_pos (n := n - 1 - pre.length) hB
  rw [nf_eq, nf_eq, Nat.add_mul, Nat.one_mul]; omega
theorem nf_back {B n a c : Nat} {pre : List Nat} (hc : c < B) (h : pre.length + 1 < n) : nf B n (pre ++ [a]) c < nf B n pre (a + 1) := by
  rw [nf_eq, nf_eq, numB_append]
  have e1 : n - 1 - (pre ++ [a]).length + 1 = n - 1 - pre.length := by simp; omega
  rw [e1]
  have e2 : n - 1 - pre.length = (n - 1 - (pre ++ [a]).length) + 1 := by simp; omega
  have h1 : c * B ^ (n - 1 - (pre ++ [a]).length) < B ^ (n - 1 - pre.length) := by
    rw [e2, Nat.pow_succ, Nat.mul_comm _ B]
    exact Nat.mul_lt_mul_of_pos_right hc (Nat.pow_pos (by omega))
  have h2 : numB B [a] = a := by simp [numB]
  rw [h2, List.length_singleton, Nat.pow_one, Nat.pow_succ, Nat.add_mul, Nat.add_mul, Nat.one_mul, Nat.mul_comm (B ^ (n - 1 - pre.length)) B, Nat.mul_assoc]
  omega
theorem nf_lt {fits : List Nat → Bool} {bound n c : Nat} {pre : List Nat} (h : SInv fits bound n pre c) : nf (bound + 1) n pre c < (bound + 1) ^ n := by
  have := numB_lt (B := bound + 1) (l := flx n pre c) fun x hx => by
    unfold flx at hx
    rcases List.mem_append.1 hx with hx | hx
    · obtain ⟨j, hj, rfl⟩ := List.mem_iff_getElem.1 hx
      have := (h.ok j hj).1
      rw [getD_eq hj] at this
      omega
    · rcases List.mem_cons.1 hx with rfl | hx
      · have := h.le; omega
      · rw [(List.mem_replicate.1 hx).2]; omega
  rwa [fl_len h.lt] at this
end Go.Proofs.YtmgmkglmjmaipaaDoor.Ct
