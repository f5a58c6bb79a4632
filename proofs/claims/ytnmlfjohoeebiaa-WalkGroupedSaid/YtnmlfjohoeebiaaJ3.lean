/- Texts of the law, joined. -/
import Derived.Test.YtnmlfjohoeebiaaJ2
import Derived.Test.YtnmlfjohoeebiaaJ1
import Derived.Test.YtnmlfjohoeebiaaSymB
/- The law WalkEven. -/
namespace Go.Proofs.Ytnmlfjohoeebiaa.Wk
open Go Go.Abs Go.Mth
set_option linter.unusedVariables false
set_option linter.unusedSimpArgs false
def evF (r y : Nat) : Nat := if 4 < r then [1, 2, 6, 6].getD (y % 4) 0 else if r = 4 then [1, 3, 3, 6].getD (y % 4) 0 else 2 ^ (y % 4)
def evT (r : Nat) (ys : List Nat) (n : Nat) : List Nat := (List.range n).map fun i => evF r (ys.getD i 0)
attribute [local irreducible] gOK WS WC WR WD Ends FS YS OpV seqK blockK loopK midK retK rdK asgK rangeEnd sat Cell
section
variable {M : HL} {n0 : Nat} {H : Heap} {v w : Value}
end
end Go.Proofs.Ytnmlfjohoeebiaa.Wk

/- The law WalkWalked. -/
namespace Go.Proofs.Ytnmlfjohoeebiaa.Wk
open Go Go.Abs Go.Mth
set_option linter.unusedVariables false
set_option linter.unusedSimpArgs false
def modF (N y : Nat) : Nat := y % N
theorem made_ok {ys : List Nat} {most n : Nat} (hn : n ≤ 4) (ho : 1 ≤ most ∧ most ≤ 8) : TOK (firstT (madeF most) ys n) :=
  firstT_ok hn fun y => by
    have := Nat.mod_lt y (show 0 < most by omega)
    unfold madeF; omega
attribute [local irreducible] gOK WS WC WR WD Ends FS YS OpV seqK blockK loopK midK retK rdK asgK rangeEnd sat Cell
section
variable {M : HL} {n0 : Nat} {H : Heap} {v w : Value}
end
end Go.Proofs.Ytnmlfjohoeebiaa.Wk

/- Other numbers of stretches, a greater number, a stretch less. -/
namespace Go.Proofs.Ytnmlfjohoeebiaa.Wk
open Go Go.Abs Go.Mth
set_option linter.unusedVariables false
set_option linter.unusedSimpArgs false
/-- Stretches with names. -/
abbrev NmT := List (Int × Int)
structure NmW (P : NmT) (W : List Int) : Prop where
  nd : (P.map (·.1)).Nodup
  mem : ∀ x ∈ W, x ∈ P.map (·.1)
  win : ∀ p ∈ P, ∀ f, f + p.2.toNat ≤ W.length → p.1 ∈ (W.drop f).take p.2.toNat
def canN (T : List Int) (k : Nat) : Prop := ∃ P W, P.map (·.2) = T ∧ W.length = k ∧ NmW P W
def zipI : Nat → List Int → NmT
  | _, [] => []
  | i, t :: T => ((i : Int), t) :: zipI (i + 1) T
theorem NmW.perm {P P' : NmT} {W : List Int} (h : NmW P W) (k : P.Perm P') : NmW P' W :=
  ⟨(k.map _).nodup_iff.1 h.nd, fun x hx => (k.map _).mem_iff.1 (h.mem x hx), fun p hp => h.win p (k.mem_iff.2 hp)⟩
end Go.Proofs.Ytnmlfjohoeebiaa.Wk

/- As few inspectors: other numbers of stretches, and a stretch less. -/
namespace Go.Proofs.Ytnmlfjohoeebiaa.Wk
open Go Go.Abs Go.Mth
set_option linter.unusedVariables false
set_option linter.unusedSimpArgs false
/-- Stretches with inspectors. -/
abbrev InQ := List (Nat × Int)
def ownQ (Q : InQ) (j : Nat) : List Int := (Q.filter fun q => decide (q.1 = j)).map (·.2)
def validQ (Q : InQ) (g : Nat) : Prop := ∀ j, j < g → everB (ownQ Q j) (startS (ownQ Q j)) = true
def HasG (T : List Int) (g : Nat) : Prop := ∃ Q : InQ, Q.map (·.2) = T ∧ (∀ q ∈ Q, q.1 < g) ∧ validQ Q g
theorem tok_mem {T : List Int} (hT : TOK T) : ∀ x ∈ T, 1 ≤ x ∧ x ≤ 8 := fun x hx => by
  obtain ⟨i, hi, rfl⟩ := List.mem_iff_getElem.1 hx
  have := hT.mem hi
  rwa [getD_eq hi] at this
theorem ownK_zip {T : List Int} {l : List Nat} (hl : l.length = T.length) (j : Nat) : ∀ k, k ≤ T.length → ownK T l j k = ownQ ((l.take k).zip (T.take k)) j
  | 0, _ => by simp [ownK, ownQ]
  | k + 1, hk => by
    have hkT : k < T.length := by omega
    have hkl : k < l.length := by omega
    rw [List.take_succ_eq_append_getElem hkT, List.take_succ_eq_append_getElem hkl, List.zip_append (by simp; omega)]
    simp only [ownK, ownQ, List.filter_append, List.map_append]
    rw [ownK_zip hl j k (by omega), getD_eq hkl, getD_eq hkT]
    by_cases h : l[k] = j
    · rw [if_pos h]; simp [ownQ, h]
    · rw [if_neg h]; simp [ownQ, h]
theorem zip_snd {T : List Int} {l : List Nat} (hl : l.length = T.length) : (l.zip T).map (·.2) = T := by
  have := List.map_snd_zip (l₁ := l) (l₂ := T) (by omega)
  exact this
theorem goJ_zip {T : List Int} {l : List Nat} (hl : l.length = T.length) (j : Nat) : goJ T l j = everB (ownQ (l.zip T) j) (startS (ownQ (l.zip T) j)) := by
  unfold goJ
  rw [ownK_zip hl j _ (Nat.le_refl _), List.take_length, ← hl, List.take_length]
theorem valid_zip {T : List Int} {l : List Nat} (hl : l.length = T.length) (g : Nat) : validB T g l = true ↔ validQ (l.zip T) g := by
  rw [valid_iff]
  exact ⟨fun h j hj => by rw [← goJ_zip hl]; exact h j hj, fun h j hj => by rw [goJ_zip hl]; exact h j hj⟩
theorem FirstG.has {T : List Int} {g k : Nat} (h : FirstG T g k) : HasG T g := by
  have hl := divK_len g T.length k
  refine ⟨(divK g T.length k).zip T, zip_snd hl, fun q hq => ?_, (valid_zip hl g).1 h.ok⟩
  exact divK_lt h.g1 _ _ _ (List.of_mem_zip hq).1
theorem zip_of {Q : InQ} : (Q.map (·.1)).zip (Q.map (·.2)) = Q := by
  induction Q with
  | nil => rfl
  | cons q Q ih => simp [ih]
theorem FirstG.least {T : List Int} {g k f : Nat} (h : FirstG T g k) (hf : 1 ≤ f) (hG : HasG T f) : g ≤ f := by
  refine Nat.le_of_not_lt fun hlt => ?_
  obtain ⟨Q, hQ, hb, hv⟩ := hG
  have hl : (Q.map (·.1)).length = T.length := by rw [← hQ]; simp
  obtain ⟨i, hi, he⟩ := divK_all hf T.length hl fun x hx => by
    obtain ⟨q, hq, rfl⟩ := List.mem_map.1 hx
    exact hb q hq
  have h1 := h.few f hf hlt i hi
  have h2 : validB T f (Q.map (·.1)) = true := (valid_zip hl f).2 (by rw [← hQ, zip_of]; exact hv)
  rw [he, h2] at h1
  cases h1
theorem ever_nil : everB [] (startS []) = false := by
  cases h : everB [] (startS []) with
  | false => rfl
  | true =>
    obtain ⟨j, hj, _⟩ := everB_true.1 h 1
    simp at hj
/-- The last inspector has a stretch. -/
theorem FirstG.max {T : List Int} {g k : Nat} (h : FirstG T g k) : g - 1 ∈ divK g T.length k := by
  have hl := divK_len g T.length k
  have := valid_iff.1 h.ok (g - 1) (by have := h.g1; omega)
  rw [goJ_zip hl] at this
  refine Classical.byContradiction fun hn => ?_
  have h0 : ownQ ((divK g T.length k).zip T) (g - 1) = [] := by
    unfold ownQ
    rw [List.map_eq_nil_iff, List.filter_eq_nil_iff]
    intro q hq
    simp only [decide_eq_true_eq]
    intro e
    exact hn (e ▸ (List.of_mem_zip hq).1)
  rw [h0, ever_nil] at this
  cases this
end Go.Proofs.Ytnmlfjohoeebiaa.Wk

/- All lists of inspectors, as the law tries them: the mathematics of WalkGrouped. -/
namespace Go.Proofs.Ytnmlfjohoeebiaa.Wk
open Go Go.Abs Go.Mth
set_option linter.unusedVariables false
set_option linter.unusedSimpArgs false
/-- The number of a list. -/
def numF (g v : Nat) (l : List Nat) : Nat := l.foldl (fun v x => v * g + x) v
theorem num_div {g : Nat} (hg : 1 ≤ g) : ∀ m i, i < g ^ m → numF g 0 (divK g m i) = i
  | 0, i, h => by
    have : i = 0 := by simpa using h
    subst this; rfl
  | m + 1, i, h => by
    have h1 : i / g < g ^ m := by
      rw [Nat.pow_succ] at h
      exact Nat.div_lt_of_lt_mul (by rw [Nat.mul_comm]; exact h)
    simp only [divK, numF, List.foldl_append, List.foldl_cons, List.foldl_nil]
    have := num_div hg m (i / g) h1
    unfold numF at this
    rw [this, Nat.mul_comm]
    exact Nat.div_add_mod i g
theorem num_bd {g : Nat} (hg : 1 ≤ g) : ∀ (l : List Nat) (v : Nat), (∀ x ∈ l, x < g) → v * g ^ l.length ≤ numF g v l ∧ numF g v l < (v + 1) * g ^ l.length
  | [], v, _ => by simp [numF]
  | x :: l, v, h => by
    have hx := h x (by simp)
    obtain ⟨h1, h2⟩ := num_bd hg l (v * g + x) fun y hy => h y (by simp [hy])
    have e : numF g v (x :: l) = numF g (v * g + x) l := rfl
    rw [e]
    have p : (v * g) * g ^ l.length = v * g ^ (l.length + 1) := by rw [Nat.pow_succ, Nat.mul_assoc, Nat.mul_comm g]
    have p2 : ((v + 1) * g) * g ^ l.length = (v + 1) * g ^ (l.length + 1) := by rw [Nat.pow_succ, Nat.mul_assoc, Nat.mul_comm g]
    have q1 : (v * g) * g ^ l.length ≤ (v * g + x) * g ^ l.length := Nat.mul_le_mul_right _ (by omega)
    have q2 : (v * g + x + 1) * g ^ l.length ≤ ((v + 1) * g) * g ^ l.length := Nat.mul_le_mul_right _ (by rw [Nat.add_mul]; omega)
    rw [List.length_cons]
    omega
theorem num_lex {g a b : Nat} (hg : 1 ≤ g) {P S S' : List Nat} (hab : a < b) (hS : ∀ x ∈ S, x < g) (hS' : ∀ x ∈ S', x < g) (hl : S.length = S'.length) : numF g 0 (P ++ a :: S) < numF g 0 (P ++ b :: S') := by
  unfold numF
  rw [List.foldl_append, List.foldl_append, List.foldl_cons, List.foldl_cons]
  generalize P.foldl (fun v x => v * g + x) 0 = v
  have h1 := (num_bd hg S (v * g + a) hS).2
  have h2 := (num_bd hg S' (v * g + b) hS').1
  unfold numF at h1 h2
  rw [hl] at h1
  have h3 : (v * g + a + 1) * g ^ S'.length ≤ (v * g + b) * g ^ S'.length := Nat.mul_le_mul_right _ (by omega)
  omega
theorem split_at {l : List Nat} {j : Nat} (h : j < l.length) : l = l.take j ++ l.getD j 0 :: l.drop (j + 1) := by
  rw [getD_eq h, List.getElem_cons_drop, List.take_append_drop]
/-- No valid list comes before the first one. -/
theorem FirstG.lex {T : List Int} {g k : Nat} (h : FirstG T g k) {l : List Nat} (hl : l.length = T.length) (hb : ∀ x ∈ l, x < g) (hv : validB T g l = true) {j : Nat} (hj : j < T.length) (ht : l.take j = (divK g T.length k).take j) (hlt : l.getD j 0 < (divK g T.length k).getD j 0) : False := by
  obtain ⟨i, hi, he⟩ := divK_all h.g1 T.length hl hb
  have hdl := divK_len g T.length k
  have hlex : numF g 0 l < numF g 0 (divK g T.length k) := by
    rw [split_at (l := l) (j := j) (by omega), split_at (l := divK g T.length k) (j := j) (by omega), ht]
    exact num_lex h.g1 hlt (fun x hx => hb x (List.mem_of_mem_drop hx)) (fun x hx => divK_lt h.g1 _ _ x (List.mem_of_mem_drop hx)) (by simp; omega)
  rw [← he, num_div h.g1 _ _ hi, num_div h.g1 _ _ h.kn] at hlex
  have := h.no i hlex
  rw [he, hv] at this
  cases this
/-- Inspectors so far. -/
def nxt (l : List Nat) : Nat := l.foldl (fun q x => max q (x + 1)) 0
theorem nxt_snoc (l : List Nat) (x : Nat) : nxt (l ++ [x]) = max (nxt l) (x + 1) := by simp [nxt]
theorem nxt_lt : ∀ (l : List Nat) (q : Nat), (∀ x ∈ l, x < l.foldl (fun q x => max q (x + 1)) q) ∧ q ≤ l.foldl (fun q x => max q (x + 1)) q
  | [], q => ⟨fun x hx => (by cases hx), Nat.le_refl _⟩
  | y :: l, q => by
    obtain ⟨h1, h2⟩ := nxt_lt l (max q (y + 1))
    refine ⟨fun x hx => ?_, by simp only [List.foldl_cons]; omega⟩
    simp only [List.foldl_cons]
    rcases List.mem_cons.1 hx with rfl | hx
    · omega
    · exact h1 x hx
theorem lt_nxt {l : List Nat} {x : Nat} (h : x ∈ l) : x < nxt l := (nxt_lt l 0).1 x h
theorem nxt_le : ∀ (l : List Nat) {q g : Nat}, q ≤ g → (∀ x ∈ l, x < g) → l.foldl (fun q x => max q (x + 1)) q ≤ g
  | [], q, g, h, _ => h
  | y :: l, q, g, h, hb => by
    simp only [List.foldl_cons]
    have := hb y (by simp)
    exact nxt_le l (by omega) fun x hx => hb x (by simp [hx])
/-- Two inspectors change places. -/
def swp (q a x : Nat) : Nat := if x = q then a else if x = a then q else x
theorem swp_eq {q a x y : Nat} : swp q a x = y ↔ x = swp q a y := by
  unfold swp
  constructor <;> intro h <;> (repeat' split at h) <;> (repeat' split) <;> omega
theorem own_map {T : List Int} {l : List Nat} {q a j : Nat} (hl : l.length = T.length) : ∀ k, k ≤ T.length → ownK T (l.map (swp q a)) j k = ownK T l (swp q a j) k
  | 0, _ => rfl
  | k + 1, hk => by
    simp only [ownK]
    rw [own_map hl k (by omega), show (l.map (swp q a)).getD k 0 = swp q a (l.getD k 0) by
      rw [getD_eq (by simp; omega), getD_eq (by omega)]; simp]
    by_cases h : swp q a (l.getD k 0) = j
    · rw [if_pos h, if_pos (swp_eq.1 h)]
    · rw [if_neg h, if_neg fun e => h (swp_eq.2 e)]
theorem swp_lt {q a g x : Nat} (hq : q < g) (ha : a < g) (hx : x < g) : swp q a x < g := by
  unfold swp
  repeat' split
  all_goals omega
/-- The first list is one that the law tries. -/
theorem FirstG.grow {T : List Int} {g k : Nat} (h : FirstG T g k) {j : Nat} (hj : j < T.length) : (divK g T.length k).getD j 0 ≤ nxt ((divK g T.length k).take j) := by
  refine Nat.le_of_not_lt fun hlt => ?_
  have hdl := divK_len g T.length k
  have hb := divK_lt h.g1 T.length k
  have hok := h.ok
  have hlx := @FirstG.lex T g k h
  generalize divK g T.length k = L at *
  obtain ⟨q, hq⟩ : ∃ q, nxt (L.take j) = q := ⟨_, rfl⟩
  obtain ⟨a, ha⟩ : ∃ a, L.getD j 0 = a := ⟨_, rfl⟩
  rw [hq, ha] at hlt
  have hag : a < g := by rw [← ha]; exact hb _ (getD_mem (by omega))
  refine hlx (l := L.map (swp q a)) (by simp [hdl]) (fun x hx => ?_) ?_ hj ?_ ?_
  · obtain ⟨y, hy, rfl⟩ := List.mem_map.1 hx
    exact swp_lt (by omega) hag (hb y hy)
  · rw [valid_iff] at hok ⊢
    intro i hi
    have := hok (swp q a i) (swp_lt (by omega) hag hi)
    unfold goJ at this ⊢
    rw [own_map hdl _ (Nat.le_refl _)]
    exact this
  · rw [← List.map_take]
    conv => rhs; rw [← List.map_id (L.take j)]
    refine List.map_congr_left fun x hx => ?_
    have := lt_nxt hx
    unfold swp
    rw [if_neg (by omega), if_neg (by omega)]; rfl
  · rw [show (L.map (swp q a)).getD j 0 = swp q a (L.getD j 0) by rw [getD_eq (by simp; omega), getD_eq (by omega)]; simp, ha]
    unfold swp
    rw [if_neg (by omega), if_pos rfl]; omega
theorem ever_nilB : everB [] (startS []) = false := by
  cases h : everB [] (startS []) with
  | false => rfl
  | true =>
    obtain ⟨j, hj, _⟩ := (everB_true.1 h) 1
    exact absurd hj (Nat.not_lt_zero _)
theorem own_some {T : List Int} {l : List Nat} {j : Nat} (hl : l.length = T.length) (h : goJ T l j = true) : j ∈ l := by
  refine Classical.byContradiction fun hn => ?_
  have key : ∀ k, k ≤ T.length → ownK T l j k = [] := by
    intro k
    induction k with
    | zero => exact fun _ => rfl
    | succ k ih =>
      intro hk
      simp only [ownK]
      rw [if_neg, ih (by omega)]
      intro e
      exact hn (by rw [← e]; exact getD_mem (by omega))
  unfold goJ at h
  rw [key _ (Nat.le_refl _), ever_nilB] at h
  cases h
theorem valid_nxt {T : List Int} {l : List Nat} {g : Nat} (hl : l.length = T.length) (hb : ∀ x ∈ l, x < g) (hg : 1 ≤ g) (hv : validB T g l = true) : nxt l = g := by
  have h1 : nxt l ≤ g := nxt_le l (Nat.zero_le _) hb
  have h2 := lt_nxt (own_some hl (valid_iff.1 hv (g - 1) (by omega)))
  omega
/-- The best so far, list by list. -/
noncomputable def putB (T : List Int) : Nat → List Nat → List Nat × Nat → List Nat × Nat
  | 0, l, B => if validB T (nxt l) l = true ∧ nxt l < B.2 then (l, nxt l) else B
  | k + 1, l, B => (List.range (nxt l + 1)).foldl (fun B x => putB T k (l ++ [x]) B) B
/-- Lists that the law tries have no fewer. -/
theorem FirstG.few2 {T : List Int} {g k : Nat} (h : FirstG T g k) {l : List Nat} (hl : l.length = T.length) (hv : validB T (nxt l) l = true) : g ≤ nxt l := by
  refine Nat.le_of_not_lt fun hlt => ?_
  have h1 : 1 ≤ nxt l := by
    have hT := h.gn
    have := h.g1
    have := lt_nxt (l := l) (getD_mem (a := 0) (show 0 < l.length by omega))
    omega
  obtain ⟨i, hi, he⟩ := divK_all h1 T.length hl fun x hx => lt_nxt hx
  have := h.few _ h1 hlt i hi
  rw [he, hv] at this
  cases this
theorem fold_inv {α β : Type} {f : β → α → β} {P : β → Prop} : ∀ (l : List α) (b : β), P b → (∀ b x, x ∈ l → P b → P (f b x)) → P (l.foldl f b)
  | [], b, h, _ => h
  | x :: l, b, h, hs => fold_inv l (f b x) (hs b x (by simp) h) fun b y hy => hs b y (by simp [hy])
theorem put_stay {T : List Int} {g k0 : Nat} (h : FirstG T g k0) {B : List Nat × Nat} (hB : B.2 = g) : ∀ k l, l.length + k = T.length → putB T k l B = B
  | 0, l, hl => by
    unfold putB
    rw [if_neg]
    rintro ⟨h1, h2⟩
    have := h.few2 (by omega) h1
    omega
  | k + 1, l, hl => by
    unfold putB
    exact fold_inv (P := fun B' => B' = B) _ _ rfl fun b x _ hb => by
      subst hb
      exact put_stay h hB k (l ++ [x]) (by simp; omega)
theorem put_keep {T : List Int} {g k0 : Nat} (h : FirstG T g k0) : ∀ k l B, l.length + k = T.length → g < B.2 → (∀ r, r.length = k → (∀ x ∈ l ++ r, x < g) → validB T g (l ++ r) = true → False) → g < (putB T k l B).2
  | 0, l, B, hl, hB, hno => by
    unfold putB
    split
    · rename_i hv
      have h1 := h.few2 (by omega) hv.1
      refine Nat.lt_of_le_of_ne h1 fun e => ?_
      refine hno [] rfl (fun x hx => ?_) ?_
      · rw [List.append_nil] at hx; rw [e]; exact lt_nxt hx
      · rw [List.append_nil, e]; exact hv.1
    · exact hB
  | k + 1, l, B, hl, hB, hno => by
    unfold putB
    refine fold_inv (P := fun B' : List Nat × Nat => g < B'.2) _ _ hB fun b x _ hb => ?_
    refine put_keep h k (l ++ [x]) b (by simp; omega) hb fun r hr hx hv => ?_
    rw [List.append_assoc] at hx hv
    exact hno (x :: r) (by simp [hr]) hx hv
theorem put_on {T : List Int} {g k0 : Nat} (h : FirstG T g k0) : ∀ k l B, l.length + k = T.length → l = (divK g T.length k0).take l.length → g < B.2 → putB T k l B = (divK g T.length k0, g)
  | 0, l, B, hl, he, hB => by
    have hdl := divK_len g T.length k0
    have hL : l = divK g T.length k0 := by rw [he, List.take_of_length_le (by omega)]
    have hn : nxt l = g := by rw [hL]; exact valid_nxt hdl (divK_lt h.g1 _ _) h.g1 h.ok
    unfold putB
    rw [hn, if_pos ⟨by rw [hL]; exact h.ok, hB⟩, hL]
  | k + 1, l, B, hl, he, hB => by
    have hdl := divK_len g T.length k0
    have hj : l.length < T.length := by omega
    have hgr := h.grow hj
    rw [← he] at hgr
    obtain ⟨a, ha⟩ : ∃ a, (divK g T.length k0).getD l.length 0 = a := ⟨_, rfl⟩
    rw [ha] at hgr
    unfold putB
    have hsp : List.range (nxt l + 1) = List.range a ++ a :: (List.range (nxt l - a)).map (fun x => a + 1 + x) := by
      rw [show nxt l + 1 = a + 1 + (nxt l - a) by omega, List.range_add, List.range_succ, List.append_assoc]; rfl
    rw [hsp, List.foldl_append, List.foldl_cons]
    have h1 : g < ((List.range a).foldl (fun B x => putB T k (l ++ [x]) B) B).2 := by
      refine fold_inv (P := fun B' : List Nat × Nat => g < B'.2) _ _ hB fun b x hx hb => ?_
      have hxa := List.mem_range.1 hx
      refine put_keep h k (l ++ [x]) b (by simp; omega) hb fun r hr hx hv => ?_
      refine h.lex (l := l ++ [x] ++ r) (j := l.length) (by simp; omega) hx hv hj ?_ ?_
      · rw [List.append_assoc, List.take_left]; exact he
      · rw [ha, List.append_assoc, List.getD_eq_getElem?_getD, List.getElem?_append_right (Nat.le_refl _), Nat.sub_self]
        exact hxa
    generalize (List.range a).foldl (fun B x => putB T k (l ++ [x]) B) B = B1 at h1
    have h2 := put_on h k (l ++ [a]) B1 (by simp; omega) (by
      rw [List.length_append, List.length_singleton, List.take_succ_eq_append_getElem (by omega), ← he, ← ha, getD_eq (by omega)]) h1
    rw [h2]
    refine fold_inv (P := fun B' => B' = (divK g T.length k0, g)) _ _ rfl fun b x _ hb => ?_
    subst hb
    exact put_stay h rfl k (l ++ [x]) (by simp; omega)
end Go.Proofs.Ytnmlfjohoeebiaa.Wk

/- A plan, repeated nine times. -/
namespace Go.Proofs.Ytnmlfjohoeebiaa.Wk
open Go Go.Abs Go.Mth
set_option linter.unusedVariables false
set_option linter.unusedSimpArgs false
/-- So many times the same. -/
def repI (P : List Int) (m : Nat) : List Int := (List.replicate m P).flatten
structure KR where
  k : Nat
  ys : List Int
attribute [local irreducible] gOK WS WC WR WD Ends FS YS OpV seqK blockK loopK midK retK rdK asgK rangeEnd sat Cell
section
variable {M : HL} {n0 : Nat} {H : Heap} {v w : Value}
end
end Go.Proofs.Ytnmlfjohoeebiaa.Wk

/- A plan that is repeated meets all. -/
namespace Go.Proofs.Ytnmlfjohoeebiaa.Wk
open Go Go.Abs Go.Mth
set_option linter.unusedVariables false
set_option linter.unusedSimpArgs false
/-- A plan, around its end. -/
def CycG (T P : List Int) : Prop := ∀ i, i < T.length → ∀ f, ∃ k, k < (T.getD i 0).toNat ∧ P.getD ((f + k) % P.length) 0 = (i : Int)
noncomputable def meetE (T P : List Int) : Int := if errT T ≠ 0 then errT T else if P.length = 0 then 4 else if walkE T.length P ≠ 0 then walkE T.length P else if goodB T (repI P 9) = true then 0 else 14
attribute [local irreducible] gOK WS WC WR WD Ends FS YS OpV seqK blockK loopK midK retK rdK asgK rangeEnd sat Cell
section
variable {M : HL} {n0 : Nat} {H : Heap} {v w : Value}
end
end Go.Proofs.Ytnmlfjohoeebiaa.Wk

/- Rows of elements of several cells each. -/
namespace Go.Abs
set_option linter.unusedSectionVars false
variable [Globs]
open Go Go.Mth
set_option linter.unusedVariables false
def cellsF {α : Type} (F : α → List Value) (l : List α) : List Value := (l.map F).flatten
section
variable {α : Type} {F : α → List Value} {K : Nat}
theorem cellsF_len (hF : ∀ a, (F a).length = K) : ∀ l : List α, (cellsF F l).length = l.length * K
  | [] => by simp [cellsF]
  | a :: l => by
    have := cellsF_len hF l
    simp only [cellsF, List.map_cons, List.flatten_cons, List.length_append, List.length_cons, hF] at this ⊢
    rw [this, Nat.succ_mul]; omega
theorem cellsF_drop (hF : ∀ a, (F a).length = K) : ∀ (l : List α) (m : Nat), (cellsF F l).drop (m * K) = cellsF F (l.drop m)
  | l, 0 => by simp
  | [], m + 1 => by simp [cellsF]
  | a :: l, m + 1 => by
    have := cellsF_drop hF l m
    simp only [cellsF, List.map_cons, List.flatten_cons, List.drop_succ_cons] at this ⊢
    rw [← this, Nat.succ_mul, Nat.add_comm, ← List.drop_drop, List.drop_left' (hF a)]
theorem cellsF_at (hF : ∀ a, (F a).length = K) {l : List α} {m : Nat} (h : m < l.length) : ((cellsF F l).drop (m * K)).take K = F l[m] := by
  rw [cellsF_drop hF, List.drop_eq_getElem_cons h]
  simp only [cellsF, List.map_cons, List.flatten_cons]
  exact List.take_left' (hF _)
/-- Several cells, one behind another. -/
def KCell (M : HL) (b o u : Nat) (vs : List Value) : Prop := ∃ ch lo cs, (b, ch) ∈ M ∧ ch.cellsAre u lo cs ∧ lo ≤ o ∧ o - lo + vs.length ≤ cs.length ∧ (cs.drop (o - lo)).take vs.length = vs
theorem KCell.at {M : HL} {b o u j : Nat} {vs : List Value} {v : Value} (h : KCell M b o u vs) (hv : vs[j]? = some v) : Cell M b (o + j) u v := by
  obtain ⟨ch, lo, cs, h1, h2, h3, h4, h5⟩ := h
  have hj : j < vs.length := (List.getElem?_eq_some_iff.1 hv).1
  refine ⟨ch, lo, cs, h1, h2, by omega, ?_⟩
  rw [← h5, List.getElem?_take_of_lt hj, List.getElem?_drop] at hv
  rw [← hv]; congr 1; omega
theorem KCell.mono {M M' : HL} {b o u : Nat} {vs : List Value} (h : KCell M b o u vs) (k : ∀ p ∈ M, p ∈ M') : KCell M' b o u vs := by
  obtain ⟨ch, lo, cs, h1, h2⟩ := h
  exact ⟨ch, lo, cs, k _ h1, h2⟩
theorem Sl.lenK {M : HL} {v : Value} {l : List α} (hF : ∀ a, (F a).length = K) (hK : 1 ≤ K) (h : Sl M K v (cellsF F l)) : ∃ a c, v = .slice a l.length c := by
  have hl := cellsF_len hF l
  generalize cellsF F l = cs at h hl
  have h0 : ∀ {n : Nat}, n * K = 0 → n = 0 := fun {n} h => by rcases Nat.mul_eq_zero.1 h with h | h <;> omega
  cases h with
  | nil c => have := h0 (n := l.length) (by simp at hl; omega)
             exact ⟨none, c, by rw [this]⟩
  | emp a => have := h0 (n := l.length) (by simp at hl; omega)
             exact ⟨some a, _, by rw [this]⟩
  | row hm hcl hlo hln hv hin hcap =>
    rename_i b o u lo len cap ch cs'
    have : l.length = len := Nat.eq_of_mul_eq_mul_right hK (by omega)
    exact ⟨_, _, by rw [this]⟩
end
section
variable {C : CW} {nt : Nat} {L : Env} {D : List Nat} {H : Heap} {K : St → Prop} {M M' : HL} {n i d : Nat} {gd : Option (Tmp × Bool)} {lo : List Nat} {l : List POp} {rs : List Rd}
variable {α : Type} {F : α → List Value} {z : Nat}
theorem OpV.lenK {x : Operand} {v : Value} {ps : List α} (hF : ∀ a, (F a).length = z) (hz : 1 ≤ z) (hx : ev L x = some v) (hS : Sl M z v (cellsF F ps)) : OpV C (.len x) L H (.int .i64 (ps.length : Int)) H := by
  obtain ⟨a, c, rfl⟩ := hS.lenK hF hz
  exact OpV.len hx
theorem OpV.idxK {x ix : Operand} {kd : IntKind} {m : Nat} {v : Value} {ps : List α} (hF : ∀ a, (F a).length = z) (hz : 1 ≤ z) (hx : ev L x = some v) (hS : Sl M z v (cellsF F ps)) (hi : ev L ix = some (.int kd (m : Int))) (hm : m < ps.length) :
    ∃ b o u, OpV C (.idxS x ix z) L H (.pointer (some ⟨b, o, some u⟩)) H ∧ KCell M b o u (F ps[m]) := by
  have hg := cellsF_at hF hm
  have hl := cellsF_len hF ps
  generalize cellsF F ps = cs at hS hg hl
  have hm1 : m * z + z ≤ ps.length * z := by
    have := Nat.mul_le_mul_right z (show m + 1 ≤ ps.length by omega)
    rwa [Nat.succ_mul] at this
  cases hS with
  | nil c =>
    have h : ps.length * z = 0 := by simp only [List.length_nil] at hl; omega
    rcases Nat.mul_eq_zero.1 h with h | h <;> omega
  | emp a =>
    have h : ps.length * z = 0 := by simp only [List.length_nil] at hl; omega
    rcases Nat.mul_eq_zero.1 h with h | h <;> omega
  | row hm2 hc hlo hln hv hin hp =>
    rename_i b o u lo' len cap ch cs'
    have hlen : ps.length = len := Nat.eq_of_mul_eq_mul_right hz (by omega)
    refine ⟨b, o + m * z, u, OpV.idxS hx hi rfl (by omega) rfl, ch, lo', cs', hm2, hc, by omega, by rw [hF]; omega, ?_⟩
    rw [hF, ← hg, ← hv, List.drop_take, List.take_take, List.drop_drop, show o + m * z - lo' = o - lo' + m * z by omega, Nat.min_eq_left (by omega)]
theorem WR.idxK {x ix : Operand} {kd : IntKind} {m : Nat} {v : Value} {ps : List α} (hF : ∀ a, (F a).length = z) (hz : 1 ≤ z) (hg : gOK L gd) (hd : Nat.blt d nt = true) (hx : ev L x = some v) (hS : Sl M z v (cellsF F ps)) (hi : ev L ix = some (.int kd (m : Int))) (hm : m < ps.length)
    (k : ∀ b o u, KCell M b o u (F ps[m]) → WR C nt l ((d, .pointer (some ⟨b, o, some u⟩)) :: L) D H K) : WR C nt (⟨i, some d, .idxS x ix z, gd, lo⟩ :: l) L D H K := by
  obtain ⟨b, o, u, h1, h2⟩ := OpV.idxK (C := C) (H := H) hF hz hx hS hi hm
  exact WR.op hg hd h1 (k b o u h2)
theorem OpV.loadK {x : Operand} {b o u k : Nat} {vs : List Value} (hx : ev L x = some (.pointer (some ⟨b, o, some u⟩))) (hP : KCell M b o u vs) (hH : hasH M n H) (hk : vs.length = k) : OpV C (.loadN x k) L H (.agg vs.toArray) H := by
  obtain ⟨ch, lo', cs, h1, h2, h3, h4, h5⟩ := hP
  subst hk
  exact OpV.loadN hx hH h1 h2 h3 h4 h5
end
end Go.Abs

/- The mathematics of the law's search: all that can be left, by numbers; and its helpers. -/
namespace Go.Proofs.Ytnmlfjohoeebiaa.Wk
open Go Go.Abs Go.Mth
set_option linter.unusedVariables false
set_option linter.unusedSimpArgs false
abbrev St4 := {s : List Int // s.length = 4}
def F4 (a : St4) : List Value := ints a.1
theorem F4_len (a : St4) : (F4 a).length = 4 := by simp [F4, a.2]
theorem F4_one (a : St4) : (F4 a).all one = true := ints_one a.1
theorem fill4 : ∀ {s : List Int}, s.length = 4 → Instr.fill (fun j => some (j * 4, 4)) [Value.int .i64 0, .int .i64 0, .int .i64 0, .int .i64 0].toArray [(0, keyI s)] = some (ints s).toArray
  | [a, b, c, d], _ => rfl
/-- What was found: each with its number. -/
structure Bfs (T : List Int) (A : List St4) (m : MapI) : Prop where
  ok : ∀ i (h : i < A.length), SOK T (A[i]).1
  num : ∀ i (h : i < A.length), findI m (A[i]).1 = some (i : Int)
  inv : ∀ s r, findI m s = some r → ∃ i, ∃ h : i < A.length, r = (i : Int) ∧ (A[i]).1 = s
  cnt : A.length + restM m ≤ 6561
  keys : KeysN 4 m
  first : ∃ h : 0 < A.length, (A[0]).1 = startS T
theorem rest_nil : restM [] = 6561 := by
  unfold restM
  have : (allS 4).filter (fun s => (findI [] s).isNone) = allS 4 := List.filter_eq_self.2 fun a _ => rfl
  rw [this, all_count]
theorem bfs_one {T : List Int} (hT : TOK T) : Bfs T [⟨startS T, startS_len hT.len⟩] [(startS T, 0)] where
  ok i h := by have : i = 0 := by simpa using h
               subst this; exact start_ok hT
  num i h := by have : i = 0 := by simpa using h
                subst this; simp [findI]
  inv s r h := by
    simp only [findI] at h
    split at h
    · rename_i e; cases h; exact ⟨0, by simp, rfl, e⟩
    · cases h
  cnt := by
    have := rest_put (m := []) (s := startS T) ((start_ok hT).mem hT) rfl 0
    rw [rest_nil] at this
    simp only [List.length_singleton, putI] at this ⊢
    omega
  keys p hp := by rw [List.mem_singleton] at hp; subst hp; exact startS_len hT.len
  first := ⟨by simp, rfl⟩
theorem bfs_more {T : List Int} (hT : TOK T) {A : List St4} {m : MapI} (h : Bfs T A m) {a : St4} (ha : SOK T a.1) (hn : findI m a.1 = none) : Bfs T (A ++ [a]) (putI m a.1 (A.length : Int)) where
  ok i hi := by
    by_cases e : i < A.length
    · rw [List.getElem_append_left e]; exact h.ok i e
    · have : i = A.length := by simp at hi; omega
      subst this; simpa using ha
  num i hi := by
    rw [findI_put]
    by_cases e : i < A.length
    · rw [List.getElem_append_left e, if_neg, h.num i e]
      intro e2; rw [← e2, h.num i e] at hn; cases hn
    · have : i = A.length := by simp at hi; omega
      subst this; simp
  inv s r hs := by
    rw [findI_put] at hs
    split at hs
    · rename_i e; cases hs; exact ⟨A.length, by simp, rfl, by simp [e]⟩
    · obtain ⟨i, hi, h1, h2⟩ := h.inv s r hs
      exact ⟨i, by simp; omega, h1, by rw [List.getElem_append_left hi]; exact h2⟩
  cnt := by
    have := rest_put (m := m) (ha.mem hT) hn (A.length : Int)
    have := h.cnt
    simp only [List.length_append, List.length_singleton]
    omega
  keys := h.keys.put ha.len _
  first := by
    obtain ⟨h0, h1⟩ := h.first
    exact ⟨by simp, by rw [List.getElem_append_left h0]; exact h1⟩
/-- What comes behind something, by the first stretches. -/
structure SuccR (T : List Int) (A : List St4) (s : List Int) (k : Nat) (own : List Int) : Prop where
  sound : ∀ x ∈ own, ∃ i j, ∃ h : i < A.length, x = (i : Int) ∧ j < k ∧ goodS T.length (metS T s j) ∧ (A[i]).1 = metS T s j
  full : ∀ j, j < k → goodS T.length (metS T s j) → ∃ i, ∃ h : i < A.length, (i : Int) ∈ own ∧ (A[i]).1 = metS T s j
theorem succ_nil (T : List Int) (A : List St4) (s : List Int) : SuccR T A s 0 [] := ⟨fun x hx => (by cases hx), fun j hj => absurd hj (Nat.not_lt_zero _)⟩
theorem SuccR.mono {T : List Int} {A : List St4} {s : List Int} {k : Nat} {own : List Int} (h : SuccR T A s k own) (X : List St4) : SuccR T (A ++ X) s k own where
  sound x hx := by
    obtain ⟨i, j, hi, h1, h2, h3, h4⟩ := h.sound x hx
    exact ⟨i, j, by simp; omega, h1, h2, h3, by rw [List.getElem_append_left hi]; exact h4⟩
  full j hj hg := by
    obtain ⟨i, hi, h1, h2⟩ := h.full j hj hg
    exact ⟨i, by simp; omega, h1, by rw [List.getElem_append_left hi]; exact h2⟩
theorem SuccR.bad {T : List Int} {A : List St4} {s : List Int} {k : Nat} {own : List Int} (h : SuccR T A s k own) (hb : ¬ goodS T.length (metS T s k)) : SuccR T A s (k + 1) own where
  sound x hx := by
    obtain ⟨i, j, hi, h1, h2, h3, h4⟩ := h.sound x hx
    exact ⟨i, j, hi, h1, by omega, h3, h4⟩
  full j hj hg := by
    rcases Nat.lt_or_ge j k with h1 | h1
    · exact h.full j h1 hg
    · rw [show j = k by omega] at hg; exact absurd hg hb
theorem SuccR.good {T : List Int} {A : List St4} {s : List Int} {k : Nat} {own : List Int} (h : SuccR T A s k own) (hb : goodS T.length (metS T s k)) {i : Nat} (hi : i < A.length) (he : (A[i]).1 = metS T s k) : SuccR T A s (k + 1) (own ++ [(i : Int)]) where
  sound x hx := by
    rcases List.mem_append.1 hx with hx | hx
    · obtain ⟨i, j, hi, h1, h2, h3, h4⟩ := h.sound x hx
      exact ⟨i, j, hi, h1, by omega, h3, h4⟩
    · rw [List.mem_singleton] at hx
      exact ⟨i, k, hi, hx, by omega, hb, he⟩
  full j hj hg := by
    rcases Nat.lt_or_ge j k with h1 | h1
    · obtain ⟨i, hi, h2, h3⟩ := h.full j h1 hg
      exact ⟨i, hi, List.mem_append_left _ h2, h3⟩
    · have : j = k := by omega
      subst this
      exact ⟨i, hi, by simp, he⟩
def BehR (T : List Int) (A : List St4) (B : List (List Int)) : Prop := ∀ i (h : i < A.length), i < B.length → SuccR T A (A[i]).1 T.length (B.getD i [])
theorem BehR.mono {T : List Int} {A : List St4} {B : List (List Int)} (h : BehR T A B) (hl : B.length ≤ A.length) (X : List St4) : BehR T (A ++ X) B := fun i hi hb => by
  rw [List.getElem_append_left (show i < A.length by omega)]
  exact (h i (by omega) hb).mono X
theorem BehR.snoc {T : List Int} {A : List St4} {B : List (List Int)} {own : List Int} (h : BehR T A B) (hl : B.length < A.length) (hn : SuccR T A (A[B.length]).1 T.length own) : BehR T A (B ++ [own]) := fun i hi hb => by
  by_cases e : i < B.length
  · rw [getD_app_l e]; exact h i hi e
  · have : i = B.length := by simp at hb; omega
    subst this
    rw [getD_snoc]; exact hn
open Classical in
/-- What is gone after so many rounds. -/
noncomputable def goneB (T : List Int) (k : Nat) (s : List Int) : Bool := !decide (canS T k s)
theorem goneB_false {T : List Int} {k : Nat} {s : List Int} : goneB T k s = false ↔ canS T k s := by unfold goneB; simp
theorem goneB_true {T : List Int} {k : Nat} {s : List Int} : goneB T k s = true ↔ ¬ canS T k s := by unfold goneB; simp
def GoneR (T : List Int) (A : List St4) (k : Nat) (G : List Bool) : Prop := G.length = A.length ∧ ∀ i (h : i < A.length), G.getD i false = goneB T k (A[i]).1
theorem gone_next {T : List Int} {A : List St4} {B : List (List Int)} {k : Nat} {G : List Bool} (hB : BehR T A B) (hG : GoneR T A k G) {i : Nat} (hi : i < A.length) (hb : i < B.length) :
    (!((B.getD i []).any fun x => !(G.getD x.toNat false))) = goneB T (k + 1) (A[i]).1 := by
  have hS := hB i hi hb
  cases hg : goneB T (k + 1) (A[i]).1 with
  | false =>
    obtain ⟨j, h1, h2, h3⟩ := goneB_false.1 hg
    obtain ⟨p, hp, h4, h5⟩ := hS.full j h1 h2
    rw [Bool.not_eq_false', List.any_eq_true]
    refine ⟨(p : Int), h4, ?_⟩
    rw [Int.toNat_natCast, hG.2 p hp, h5, goneB_false.2 h3]; rfl
  | true =>
    rw [Bool.not_eq_true', List.any_eq_false]
    intro x hx
    obtain ⟨p, j, hp, rfl, h1, h2, h3⟩ := hS.sound x hx
    rw [Int.toNat_natCast, hG.2 p hp, h3]
    cases h4 : goneB T k (metS T (A[i]).1 j) with
    | true => simp
    | false => exact absurd ⟨j, h1, h2, goneB_false.1 h4⟩ (goneB_true.1 hg)
/-- Nothing more goes: what is there goes on for ever. -/
theorem gone_stop {T : List Int} {A : List St4} {B : List (List Int)} {m : MapI} {k : Nat} (hA : Bfs T A m) (hB : BehR T A B) (hl : B.length = A.length) (h : ∀ i (h : i < A.length), goneB T (k + 1) (A[i]).1 = goneB T k (A[i]).1) (h0 : canS T k (startS T)) : everS T (startS T) := by
  have key : ∀ d i (hi : i < A.length), canS T k (A[i]).1 → canS T (k + d) (A[i]).1 := by
    intro d
    induction d with
    | zero => exact fun i hi hc => hc
    | succ d ih =>
      intro i hi hc
      have h1 : canS T (k + 1) (A[i]).1 := by rw [← goneB_false, h i hi, goneB_false]; exact hc
      obtain ⟨j, h2, h3, h4⟩ := h1
      obtain ⟨p, hp, _, h5⟩ := (hB i hi (by omega)).full j h2 h3
      rw [← h5] at h4
      have := ih p hp h4
      rw [h5] at this
      exact ⟨j, h2, h3, this⟩
  obtain ⟨h1, h2⟩ := hA.first
  intro n
  have := key n 0 h1 (by rw [h2]; exact h0)
  rw [h2] at this
  exact canS_le this (by omega)
theorem bools_one (l : List Bool) : (bools l).all one = true := by
  rw [List.all_eq_true]; intro q hq; obtain ⟨z, _, rfl⟩ := List.mem_map.1 hq; rfl
theorem neqB : ∀ a b : Bool, pureRun C.c.P (binOp .neq 4 (.bool a) (.bool b)) = some (.bool (a != b)) := by
  intro a b
  cases a <;> cases b <;> kernel_rfl
attribute [local irreducible] gOK WS WC WR WD Ends FS YS OpV seqK blockK loopK midK retK rdK asgK rangeEnd sat Cell
section
variable {M : HL} {n0 : Nat} {H : Heap} {v w : Value}
theorem IndexFunc_fs {g : FuncId} {vb : List Value} {P : Int → Bool} {ns : List Int} (hH : hasH M n0 H) (hS : Sl M 1 v (ints ns)) (hl : ns.length ≤ 1000)
    (hy : ∀ c ∈ ns, FS C g ([] ++ [.int .i64 c] ++ vb) H (fun e H' => e = .bool (P c) ∧ H' = H)) :
    FS C 86 [v, .func (.func g) [].toArray vb.toArray] H (fun e H' => (∃ r : Int, e = .int .i64 r ∧ (0 ≤ r ↔ ns.any P = true)) ∧ H' = H) := by
  refine FS.intro (pf := pf86) rfl rfl rfl ?_
  repeat' (first | refine zP ?_ | refine zA ?_ | (refine zM ?_; intro _ _) | refine zX ?_ | (refine zC ?_; intro _ _ _ _) | (refine zS ?_; intro _ _) | (apply Ws <;> intro hg))
  refine WC.loopX [(0, _), (1, _), (7, _)] (fun s : Nat => [(8, .int .i64 (s : Int))]) [] (fun s H' => H' = H ∧ s ≤ ns.length ∧ ∀ i, i < s → P (ns.getD i 0) = false) (fun s => ns.length - s) 0 (by repeat' (first | exact .nil | refine .cons rfl ?_)) rfl ⟨rfl, Nat.zero_le _, fun i h => absurd h (Nat.not_lt_zero _)⟩ ?_
  rintro s _ ⟨rfl, hs, hno⟩
  dsimp only [List.cons_append, List.nil_append]
  repeat' (first | refine zP ?_ | refine zA ?_ | (refine zM ?_; intro _ _) | refine zX ?_ | (refine zC ?_; intro _ _ _ _) | (refine zS ?_; intro _ _) | (apply Ws <;> intro hg))
  refine WC.condP rfl (fun hlt => ?_) (fun hlt => ?_)
  · have hs' : s < ns.length := by omega
    repeat' (first | refine zP ?_ | refine zA ?_ | (refine zM ?_; intro _ _) | refine zX ?_ | (refine zC ?_; intro _ _ _ _) | (refine zS ?_; intro _ _) | (apply Ws <;> intro hg))
    refine WR.callV (by first | exact gN | exact gS rfl) rfl rfl rfl (hy _ (getD_mem hs')) ?_
    rintro _ _ ⟨rfl, rfl⟩
    cases hP : P (ns.getD s 0) with
    | true =>
      repeat' (first | refine zP ?_ | refine zA ?_ | (refine zM ?_; intro _ _) | refine zX ?_ | (refine zC ?_; intro _ _ _ _) | (refine zS ?_; intro _ _) | (apply Ws <;> intro hg))
      refine Ends.ret1 rfl ⟨⟨_, rfl, ?_⟩, rfl⟩
      exact ⟨fun _ => List.any_eq_true.2 ⟨_, getD_mem hs', hP⟩, fun _ => by omega⟩
    | false =>
      repeat' (first | refine zP ?_ | refine zA ?_ | (refine zM ?_; intro _ _) | refine zX ?_ | (refine zC ?_; intro _ _ _ _) | (refine zS ?_; intro _ _) | (apply Ws <;> intro hg))
      refine Ends.loop (s + 1) (by omega) (by repeat' (first | exact .nil | refine .cons rfl ?_)) rfl ⟨rfl, hs', fun i hi => ?_⟩
      by_cases h : i = s
      · rw [h]; exact hP
      · exact hno i (by omega)
  have hsl : ns.length = s := by omega
  subst hsl
  repeat' (first | refine zP ?_ | refine zA ?_ | (refine zM ?_; intro _ _) | refine zX ?_ | (refine zC ?_; intro _ _ _ _) | (refine zS ?_; intro _ _) | (apply Ws <;> intro hg))
  refine Ends.ret1 rfl ⟨⟨_, rfl, ?_⟩, rfl⟩
  refine ⟨fun h => absurd h (by decide), fun h => ?_⟩
  obtain ⟨x, hx, hx2⟩ := List.any_eq_true.1 h
  obtain ⟨i, hi, rfl⟩ := List.mem_iff_getElem.1 hx
  have := hno i hi
  rw [getD_eq hi, hx2] at this
  cases this
theorem ContainsFunc_fs {g : FuncId} {vb : List Value} {P : Int → Bool} {ns : List Int} (hH : hasH M n0 H) (hS : Sl M 1 v (ints ns)) (hl : ns.length ≤ 1000)
    (hy : ∀ c ∈ ns, FS C g ([] ++ [.int .i64 c] ++ vb) H (fun e H' => e = .bool (P c) ∧ H' = H)) :
    FS C 76 [v, .func (.func g) [].toArray vb.toArray] H (fun e H' => e = .bool (ns.any P) ∧ H' = H) := by
  refine FS.intro (pf := pf76) rfl rfl rfl ?_
  repeat' (first | refine zP ?_ | refine zA ?_ | (refine zM ?_; intro _ _) | refine zX ?_ | (refine zC ?_; intro _ _ _ _) | (refine zS ?_; intro _ _) | (apply Ws <;> intro hg))
  refine WR.call (by first | exact gN | exact gS rfl) rfl rfl (IndexFunc_fs hH hS hl hy) ?_
  rintro _ _ ⟨⟨r, rfl, hr⟩, rfl⟩
  repeat' (first | refine zP ?_ | refine zA ?_ | (refine zM ?_; intro _ _) | refine zX ?_ | (refine zC ?_; intro _ _ _ _) | (refine zS ?_; intro _ _) | (apply Ws <;> intro hg))
  refine Ends.ret1 rfl ⟨?_, rfl⟩
  congr 1
  cases ha : ns.any P with
  | true => exact decide_eq_true (hr.2 ha)
  | false => exact decide_eq_false fun h => by rw [hr.1 h] at ha; cases ha
/-- Is it still there? -/
theorem there_fs {p : Nat} {gv : Value} {G : List Bool} (hH : hasH M n0 H) (hm : (p, Ch.row 60 0 0 [gv]) ∈ M) (hS : Sl M 1 gv (bools G)) {c : Int} (hc : 0 ≤ c ∧ c < (G.length : Int)) :
    FS C 77 ([] ++ [.int .i64 c] ++ [.pointer (some ⟨p, 0, some 0⟩)]) H (fun e H' => e = .bool (!(G.getD c.toNat false)) ∧ H' = H) := by
  obtain ⟨k, rfl⟩ : ∃ k : Nat, c = k := ⟨c.toNat, by omega⟩
  refine FS.intro (pf := pf77) rfl rfl rfl ?_
  repeat' (first | refine zP ?_ | refine zA ?_ | (refine zM ?_; intro _ _) | refine zX ?_ | (refine zC ?_; intro _ _ _ _) | (refine zS ?_; intro _ _) | (apply Ws <;> intro hg))
  exact Ends.ret1 rfl ⟨rfl, rfl⟩
theorem EqualB_fs (hH : hasH M n0 H) {xs ys : List Bool} (hS : Sl M 1 v (bools xs)) (hU : Sl M 1 w (bools ys)) (hx : xs.length ≤ 10000) (hy : ys.length ≤ 10000) :
    FS C 78 [v, w] H (fun e H' => e = .bool (decide (xs = ys)) ∧ H' = H) := by
  refine FS.intro (pf := pf78) rfl rfl rfl ?_
  repeat' (first | refine zP ?_ | refine zA ?_ | (refine zM ?_; intro _ _) | refine zX ?_ | (refine zC ?_; intro _ _ _ _) | (refine zS ?_; intro _ _) | (apply Ws <;> intro hg))
  refine WC.condP rfl (fun hne => ?_) (fun hne => ?_)
  · repeat' (first | refine zP ?_ | refine zA ?_ | (refine zM ?_; intro _ _) | refine zX ?_ | (refine zC ?_; intro _ _ _ _) | (refine zS ?_; intro _ _) | (apply Ws <;> intro hg))
    exact Ends.ret1 rfl ⟨by rw [decide_eq_false (fun h => hne (by rw [h]))], rfl⟩
  have hle : xs.length = ys.length := by omega
  repeat' (first | refine zP ?_ | refine zA ?_ | (refine zM ?_; intro _ _) | refine zX ?_ | (refine zC ?_; intro _ _ _ _) | (refine zS ?_; intro _ _) | (apply Ws <;> intro hg))
  refine WC.loopX [(0, _), (1, _), (12, _)] (fun k : Nat => [(13, .int .i64 (k : Int))]) [] (fun k H' => H' = H ∧ k ≤ xs.length ∧ ∀ j, j < k → xs.getD j false = ys.getD j false) (fun k => xs.length - k) 0 (by repeat' (first | exact .nil | refine .cons rfl ?_)) rfl ⟨rfl, Nat.zero_le _, fun j h => absurd h (Nat.not_lt_zero _)⟩ ?_
  rintro k H' ⟨rfl, hk, hno⟩
  dsimp only [List.cons_append, List.nil_append]
  repeat' (first | refine zP ?_ | refine zA ?_ | (refine zM ?_; intro _ _) | refine zX ?_ | (refine zC ?_; intro _ _ _ _) | (refine zS ?_; intro _ _) | (apply Ws <;> intro hg))
  refine WC.condP rfl (fun hlt => ?_) (fun hlt => ?_)
  · have hk' : k < xs.length := by omega
    have hk2 : k < ys.length := by omega
    repeat' (first | refine zP ?_ | refine zA ?_ | (refine zM ?_; intro _ _) | refine zX ?_ | (refine zC ?_; intro _ _ _ _) | (refine zS ?_; intro _ _) | (apply Ws <;> intro hg))
    refine WR.op (by first | exact gN | exact gS rfl) rfl (OpV.neB (neqB _ _) rfl rfl) ?_
    by_cases he : xs.getD k false = ys.getD k false
    · rw [show (xs.getD k false != ys.getD k false) = false by simpa using he]
      repeat' (first | refine zP ?_ | refine zA ?_ | (refine zM ?_; intro _ _) | refine zX ?_ | (refine zC ?_; intro _ _ _ _) | (refine zS ?_; intro _ _) | (apply Ws <;> intro hg))
      refine Ends.loop (k + 1) (by omega) (by repeat' (first | exact .nil | refine .cons rfl ?_)) rfl ⟨rfl, hk', fun j hj => ?_⟩
      rcases Nat.lt_or_ge j k with h | h
      · exact hno j h
      · have : j = k := by omega
        subst this; exact he
    · rw [show (xs.getD k false != ys.getD k false) = true by simpa using he]
      repeat' (first | refine zP ?_ | refine zA ?_ | (refine zM ?_; intro _ _) | refine zX ?_ | (refine zC ?_; intro _ _ _ _) | (refine zS ?_; intro _ _) | (apply Ws <;> intro hg))
      exact Ends.ret1 rfl ⟨by rw [decide_eq_false (fun h => he (by rw [h]))], rfl⟩
  · repeat' (first | refine zP ?_ | refine zA ?_ | (refine zM ?_; intro _ _) | refine zX ?_ | (refine zC ?_; intro _ _ _ _) | (refine zS ?_; intro _ _) | (apply Ws <;> intro hg))
    exact Ends.ret1 rfl ⟨by rw [decide_eq_true (ext_getD (a := false) hle fun i hi => hno i (by omega))], rfl⟩
theorem CloneB_fs (hH : hasH M n0 H) {xs : List Bool} (hS : Sl M 1 v (bools xs)) (hx : xs.length ≤ 10000) (h0 : 1 ≤ xs.length) :
    FS C 75 [v] H (fun e H' => ∃ b n', e = .slice (some ⟨b, 0, some 0⟩) xs.length (2 * 1) ∧ n0 ≤ n' ∧ hasH ((b, .row 4 0 0 (bools xs)) :: M) n' H') := by
  have hne : bools xs ≠ [] := fun h => by have h9 := congrArg List.length h; rw [List.length_map, List.length_nil] at h9; omega
  have hsm : ∃ a len cap, v = .slice (some a) len cap := by
    generalize bools xs = cs at hS hne
    cases hS with
    | nil c => exact absurd rfl hne
    | emp a => exact ⟨_, _, _, rfl⟩
    | row => exact ⟨_, _, _, rfl⟩
  obtain ⟨a, len, cap, rfl⟩ := hsm
  refine FS.intro (pf := pf75) rfl rfl rfl ?_
  repeat' (first | refine zP ?_ | refine zA ?_ | (refine zM ?_; intro _ _) | refine zX ?_ | (refine zC ?_; intro _ _ _ _) | (refine zS ?_; intro _ _) | (apply Ws <;> intro hg))
  refine WR.bldS (by first | exact gN | exact gS rfl) rfl hH (vs := []) rfl (cs := []) (by rfl) rfl fun H3 hH3 => ?_
  repeat' (first | refine zP ?_ | refine zA ?_ | (refine zM ?_; intro _ _) | refine zX ?_ | (refine zC ?_; intro _ _ _ _) | (refine zS ?_; intro _ _) | (apply Ws <;> intro hg))
  obtain ⟨hk, hsr⟩ := (hS.cons (p := (n0, .row 4 0 0 []))).src hH3 hne
  rw [show (bools xs).length = xs.length by simp] at hk
  refine WR.appendNew (by first | exact gN | exact gS rfl) rfl rfl rfl hH3 (.head _) (.row _ _ _ _) (Nat.zero_le _) (Nat.zero_le _) hk (by have := hsr _ (Nat.le_refl _); rw [List.take_length, show (bools xs).length = xs.length by simp] at this; exact this) (by simp) h0 (bools_one _) (by omega) (by omega) (by omega) fun H' hH' => ?_
  repeat' (first | refine zP ?_ | refine zA ?_ | (refine zM ?_; intro _ _) | refine zX ?_ | (refine zC ?_; intro _ _ _ _) | (refine zS ?_; intro _ _) | (apply Ws <;> intro hg))
  exact Ends.ret1 rfl ⟨n0 + 1, n0 + 2, rfl, by omega, hH'.sub (.cons_cons _ (List.sublist_cons_self _ _))⟩
end
end Go.Proofs.Ytnmlfjohoeebiaa.Wk

/- The law's search: how many tides the longest good walk has. -/
namespace Go.Proofs.Ytnmlfjohoeebiaa.Wk
open Go Go.Abs Go.Mth
set_option linter.unusedVariables false
set_option linter.unusedSimpArgs false
theorem mgetV {C : CW} {L : Env} {H : Heap} {M : HL} {n b : Nat} {x y : Operand} {m : MapI} {s : List Int} {r : Int} (hx : ev L x = some (.map (some b))) (hy : ev L y = some (keyI s)) (hH : hasH M n H) (hm : (b, .map (ents m)) ∈ M) (hk : KeysN 4 m) (hs : s.length = 4) (hf : findI m s = some r) :
    OpV C (.mget 7 (.int .i64 0) x y false) L H (.int .i64 r) H := fun t ht => by
  obtain ⟨e, he, hok⟩ := hH.mem hm
  cases e with
  | map l' c =>
    obtain ⟨rfl, _⟩ := hok
    have hb : isKeyK 7 (keyI s) = true := isKeyK_ints (k := 4) hs
    simp only [opA, ev_ok ht hx, ev_ok ht hy, oMget, hb, cond_true, withMap, he]
    rcases find_ents (k := 4) hs (b := 0) (i := 0) hk with ⟨h1, h2⟩ | ⟨v, j, c, h1, h2⟩
    · rw [h1] at hf; cases hf
    · rw [h1] at hf; cases hf
      have h2' : findM 7 (keyI s) (ents m) 0 = some (some (j, ⟨keyI s, .int .i64 r, c⟩)) := h2
      rw [h2']; rfl
  | _ => exact hok.elim
theorem goodS_dec {T s : List Int} {j : Nat} (hT : TOK T) (hs : SOK T s) (hj : j < T.length) : goodS T.length (metS T s j) ↔ ∀ i, i < T.length → i ≠ j → s.getD i 0 - 1 ≠ 0 := by
  rw [not_good (by rw [metS_len, hs.len]) hT.len]
  have get := metS_get (T := T) (s := s) (by rw [hs.len]; exact hT.len) hj
  constructor
  · intro h i hi hne
    have := h i hi
    rwa [get, if_neg hne, if_pos hi] at this
  · intro h i hi
    rw [get]
    by_cases e : i = j
    · rw [if_pos e]; have := hT.lo j hj; omega
    · rw [if_neg e, if_pos hi]; exact h i hi e
structure OV where
  k : Nat
  va : Value
  A : List St4
  MA : HL
  m : MapI
  vb : Value
  ws : List Value
  B : List (List Int)
  MB : HL
  Mi : HL
  n : Nat
structure IV where
  k : Nat
  va : Value
  A : List St4
  MA : HL
  m : MapI
  vo : Value
  own : List Int
  MO : HL
  n : Nat
structure DV where
  k : Nat
  g : Bool
structure GV where
  k : Nat
  gb : Nat
  cp : Nat
  G : List Bool
  n : Nat
def RowsB (M : HL) (ws : List Value) (B : List (List Int)) : Prop := ws.length = B.length ∧ ∀ i, i < B.length → Sl M 1 (ws.getD i undef) (ints (B.getD i []))
theorem rowsB_snoc {M Mi Mr : HL} {ws : List Value} {vs : List (List Int)} {w : Value} {l : List Int} (h : RowsB (Mi ++ M) ws vs) (hw : Sl (Mr ++ M) 1 w (ints l)) : RowsB ((Mr ++ Mi) ++ M) (ws ++ [w]) (vs ++ [l]) := by
  refine ⟨by simp [h.1], fun i hi => ?_⟩
  rw [List.length_append, List.length_singleton] at hi
  by_cases e : i < vs.length
  · rw [getD_app_l (by rw [h.1]; exact e), getD_app_l e]
    refine (h.2 i e).mono fun q hq => ?_
    rw [List.append_assoc]; exact List.mem_append_right _ hq
  · have : i = vs.length := by omega
    subst this
    rw [getD_snoc, show (ws ++ [w]).getD vs.length undef = w by rw [← h.1]; exact getD_snoc]
    refine hw.mono fun q hq => ?_
    rcases List.mem_append.1 hq with h | h
    · exact List.mem_append_left _ (List.mem_append_left _ h)
    · exact List.mem_append_right _ h
theorem RowsB.one {M : HL} {ws : List Value} {B : List (List Int)} (h : RowsB M ws B) : ws.all one = true := by
  rw [List.all_eq_true]
  intro q hq
  obtain ⟨i, hi, rfl⟩ := List.mem_iff_getElem.1 hq
  have := (h.2 i (by rw [← h.1]; exact hi)).one_
  rwa [getD_eq hi] at this
theorem fill1 {v : Value} (h : one v = true) : Instr.fill (fun j => some (j * 1, 1)) [Value.slice none 0 0].toArray [(0, v)] = some [v].toArray := by
  cases v <;> first | rfl | cases h
theorem cellsF_snoc (A : List St4) (a : St4) : cellsF F4 (A ++ [a]) = cellsF F4 A ++ ints a.1 := by simp [cellsF, F4]
attribute [local irreducible] gOK WS WC WR WD Ends FS YS OpV seqK blockK loopK midK retK rdK asgK rangeEnd sat Cell
section
variable {M : HL} {n0 : Nat} {H : Heap} {v w : Value}
set_option maxHeartbeats 2000000 in
theorem longest_fs (hH : hasH M n0 H) {T : List Int} (hS : Sl M 1 v (ints T)) (hT : TOK T) (h1 : 1 ≤ T.length) :
    FS C 42 [v] H (fun e H' => ∃ r n', e = .int .i64 r ∧ MoreR T (startS T) r ∧ n0 ≤ n' ∧ hasH M n' H') := by
  have hTl := hT.len
  have hsl := startS_len hTl
  have hsli : (ints (startS T)).length = 4 := by simp [hsl]
  refine FS.intro (pf := pf42) rfl rfl rfl ?_
  repeat' (first | refine zP ?_ | refine zA ?_ | (refine zM ?_; intro _ _) | refine zX ?_ | (refine zC ?_; intro _ _ _ _) | (refine zS ?_; intro _ _) | (apply Ws <;> intro hg))
  rename_i H1 hH1
  refine WR.op (by first | exact gN | exact gS rfl) rfl (OpV.slA rfl (by omega)) ?_
  repeat' (first | refine zP ?_ | refine zA ?_ | (refine zM ?_; intro _ _) | refine zX ?_ | (refine zC ?_; intro _ _ _ _) | (refine zS ?_; intro _ _) | (apply Ws <;> intro hg))
  refine WR.copyMin (by first | exact gN | exact gS rfl) rfl rfl rfl hS.cons hH1 .here (ints_one _) (Nat.le_refl _) (m := T.length) (by rw [List.length_map]; exact Nat.min_eq_left hTl) h1 (by simp only [List.length_cons, List.length_nil]; omega) rfl fun H3 hH3 => ?_
  rw [start_splice hTl] at hH3
  repeat' (first | refine zP ?_ | refine zA ?_ | (refine zM ?_; intro _ _) | refine zX ?_ | (refine zC ?_; intro _ _ _ _) | (refine zS ?_; intro _ _) | (apply Ws <;> intro hg))
  refine WR.bldS (by first | exact gN | exact gS rfl) rfl hH3 (vs := [(0, keyI (startS T))]) rfl (cs := ints (startS T)) (fill4 hsl) (ints_one _) fun H4 hH4 => ?_
  repeat' (first | refine zP ?_ | refine zA ?_ | (refine zM ?_; intro _ _) | refine zX ?_ | (refine zC ?_; intro _ _ _ _) | (refine zS ?_; intro _ _) | (apply Ws <;> intro hg))
  refine WR.mkM (by first | exact gN | exact gS rfl) rfl hH4 fun H5 hH5 => ?_
  repeat' (first | refine zP ?_ | refine zA ?_ | (refine zM ?_; intro _ _) | refine zX ?_ | (refine zC ?_; intro _ _ _ _) | (refine zS ?_; intro _ _) | (apply Ws <;> intro hg))
  refine WR.mput (kn := 4) (s := startS T) (v := 0) (by first | exact gN | exact gS rfl) rfl rfl rfl hH5 .here (KeysN.nil 4) hsl fun H6 hH6 => ?_
  replace hH6 : hasH ((n0 + 1 + 1, .map (ents [(startS T, 0)])) :: ((n0 + 1, .row 53 0 0 (ints (startS T))) :: M)) (n0 + 1 + 1 + 1) H6 := hH6.sub (.cons_cons _ (.cons_cons _ (List.sublist_cons_self _ _)))
  clear hH1 hH3 hH4 hH5 hH
  repeat' (first | refine zP ?_ | refine zA ?_ | (refine zM ?_; intro _ _) | refine zX ?_ | (refine zC ?_; intro _ _ _ _) | (refine zS ?_; intro _ _) | (apply Ws <;> intro hg))
  have hH7 : hasH ((n0 + 1 + 1, .map (ents [(startS T, 0)])) :: ([(n0 + 1, .inp 53 0 0 (cellsF F4 [⟨startS T, hsl⟩]))] ++ ([] ++ ([] ++ M)))) (n0 + 1 + 1 + 1) H6 := by
    have := hH6.asInp (.there .here)
    simpa [cellsF, F4] using this
  refine WC.loopX [(0, v), (5, .map (some (n0 + 1 + 1)))] (fun z : OV => [(7, .int .i64 (z.k : Int)), (4, z.va), (6, z.vb)]) []
    (fun z H' => z.k ≤ z.A.length ∧ z.B.length = z.k ∧ Bfs T z.A z.m ∧ BehR T z.A z.B ∧ (∀ l ∈ z.B, l.length ≤ 4) ∧ Own 53 4 z.va (cellsF F4 z.A) z.MA ∧ Own 22 1 z.vb z.ws z.MB ∧ RowsB (z.Mi ++ M) z.ws z.B ∧ n0 + 1 + 1 < z.n ∧ hasH ((n0 + 1 + 1, .map (ents z.m)) :: (z.MA ++ (z.MB ++ (z.Mi ++ M)))) z.n H')
    (fun z => 7000 - z.k) ⟨0, .slice (some ⟨n0 + 1, 0, some 0⟩) 1 (2 * 1 + 1), [⟨startS T, hsl⟩], [(n0 + 1, .inp 53 0 0 (cellsF F4 [⟨startS T, hsl⟩]))], [(startS T, 0)], .slice none 0 0, [], [], [], [], n0 + 1 + 1 + 1⟩ (by repeat' (first | exact .nil | refine .cons rfl ?_)) rfl
    ⟨Nat.zero_le _, rfl, bfs_one hT, fun i _ hb => absurd hb (Nat.not_lt_zero _), fun l hl => (by cases hl), .full (by simp [cellsF, F4, hsl]) (by simp only [cellsF, List.map_cons, List.map_nil, List.flatten_cons, List.flatten_nil, List.append_nil]; exact F4_one _), .nil, ⟨rfl, fun i hi => absurd hi (Nat.not_lt_zero _)⟩, by simp only; omega, hH7⟩ ?_
  clear hH6 hH7
  generalize hbb : n0 + 1 + 1 = b
  rintro ⟨k, va, A, MA, m, vb, ws, B, MB, Mi, n1⟩ H8 ⟨hk, hBl, hA, hB, hB4, hOA, hOB, hR, hn1, hH8⟩
  simp only at hk hBl hA hB hB4 hOA hOB hR hn1 hH8
  have hcnt := hA.cnt
  have hSA : Sl ((b, .map (ents m)) :: (MA ++ (MB ++ (Mi ++ M)))) 4 va (cellsF F4 A) := (hOA.sl _).cons
  dsimp only [List.cons_append, List.nil_append]
  repeat' (first | refine zP ?_ | refine zA ?_ | (refine zM ?_; intro _ _) | refine zX ?_ | (refine zC ?_; intro _ _ _ _) | (refine zS ?_; intro _ _) | (apply Ws <;> intro hg))
  refine WR.op (by first | exact gN | exact gS rfl) rfl (OpV.lenK F4_len (by decide) rfl hSA) ?_
  repeat' (first | refine zP ?_ | refine zA ?_ | (refine zM ?_; intro _ _) | refine zX ?_ | (refine zC ?_; intro _ _ _ _) | (refine zS ?_; intro _ _) | (apply Ws <;> intro hg))
  refine WC.condP rfl (fun hlt => ?_) (fun hlt => ?_)
  · have hk' : k < A.length := by omega
    have hST : Sl ((b, .map (ents m)) :: (MA ++ (MB ++ (Mi ++ M)))) 1 v (ints T) := (hS.mono fun q hq => List.mem_append_right _ (List.mem_append_right _ (List.mem_append_right _ hq))).cons
    repeat' (first | refine zP ?_ | refine zA ?_ | (refine zM ?_; intro _ _) | refine zX ?_ | (refine zC ?_; intro _ _ _ _) | (refine zS ?_; intro _ _) | (apply Ws <;> intro hg))
    refine WC.loopX [(0, v), (5, .map (some b)), (6, vb), (7, .int .i64 (k : Int)), (35, .int .i64 (T.length : Int))] (fun z : IV => [(36, .int .i64 (z.k : Int)), (4, z.va), (8, z.vo)]) []
      (fun z H' => z.k ≤ T.length ∧ k < z.A.length ∧ Bfs T z.A z.m ∧ BehR T z.A B ∧ Own 53 4 z.va (cellsF F4 z.A) z.MA ∧ Own 3 1 z.vo (ints z.own) z.MO ∧ z.own.length ≤ z.k ∧ (∀ h : k < z.A.length, SuccR T z.A (z.A[k]).1 z.k z.own) ∧ b < z.n ∧ hasH ((b, .map (ents z.m)) :: (z.MA ++ (z.MO ++ (MB ++ (Mi ++ M))))) z.n H')
      (fun z => T.length - z.k) ⟨0, va, A, MA, m, .slice none 0 0, [], [], n1⟩ (by repeat' (first | exact .nil | refine .cons rfl ?_)) rfl
      ⟨Nat.zero_le _, hk', hA, hB, hOA, .nil, Nat.le_refl _, fun _ => succ_nil _ _ _, by simp only; omega, hH8⟩ ?_
    clear hH8 hST hSA hOA hA hB hk hk' hcnt hlt
    rintro ⟨k2, va2, A2, MA2, m2, vo, own, MO, n2⟩ H9 ⟨hk2, hkA, hA2, hB2, hOA2, hOO, hol, hSu, hn2, hH9⟩
    simp only at hk2 hkA hA2 hB2 hOA2 hOO hol hSu hn2 hH9
    have hcnt2 := hA2.cnt
    have hST : Sl ((b, .map (ents m2)) :: (MA2 ++ (MO ++ (MB ++ (Mi ++ M))))) 1 v (ints T) := (hS.mono fun q hq => List.mem_append_right _ (List.mem_append_right _ (List.mem_append_right _ (List.mem_append_right _ hq)))).cons
    have hSA : Sl ((b, .map (ents m2)) :: (MA2 ++ (MO ++ (MB ++ (Mi ++ M))))) 4 va2 (cellsF F4 A2) := (hOA2.sl _).cons
    dsimp only [List.cons_append, List.nil_append]
    repeat' (first | refine zP ?_ | refine zA ?_ | (refine zM ?_; intro _ _) | refine zX ?_ | (refine zC ?_; intro _ _ _ _) | (refine zS ?_; intro _ _) | (apply Ws <;> intro hg))
    refine WC.condP rfl (fun hlt2 => ?_) (fun hlt2 => ?_)
    · have hk2' : k2 < T.length := by omega
      have hsk := hA2.ok k hkA
      repeat' (first | refine zP ?_ | refine zA ?_ | (refine zM ?_; intro _ _) | refine zX ?_ | (refine zC ?_; intro _ _ _ _) | (refine zS ?_; intro _ _) | (apply Ws <;> intro hg))
      refine WR.idxK F4_len (by decide) (by first | exact gN | exact gS rfl) rfl rfl hSA rfl hkA fun b3 o3 u3 hP => ?_
      refine WR.op (by first | exact gN | exact gS rfl) rfl (OpV.loadK rfl hP hH9 (F4_len _)) ?_
      obtain ⟨s, hse⟩ : ∃ s, (A2[k]).1 = s := ⟨_, rfl⟩
      have hF : F4 A2[k] = ints s := by rw [← hse]; rfl
      rw [hF]
      rw [hse] at hsk
      have hli : (ints s).length = 4 := by simp [hsk.len]
      repeat' (first | refine zP ?_ | refine zA ?_ | (refine zM ?_; intro _ _) | refine zX ?_ | (refine zC ?_; intro _ _ _ _) | (refine zS ?_; intro _ _) | (apply Ws <;> intro hg))
      rename_i H10 hH10
      refine WR.storeA (s := s) (by first | exact gN | exact gS rfl) hH10 rfl rfl hsk.len .here rfl fun H11 hH11 => ?_
      clear hH10 hH9
      replace hH11 : hasH ((n2, .row 53 0 0 (ints (decS 0 s))) :: (b, .map (ents m2)) :: (MA2 ++ (MO ++ (MB ++ (Mi ++ M))))) (n2 + 1) H11 := by simpa [decS] using hH11
      have hST' := hST.cons (p := (n2, .row 53 0 0 (ints (decS 0 s))))
      repeat' (first | refine zP ?_ | refine zA ?_ | (refine zM ?_; intro _ _) | refine zX ?_ | (refine zC ?_; intro _ _ _ _) | (refine zS ?_; intro _ _) | (apply Ws <;> intro hg))
      clear hST'
      refine WC.loopX [(0, v), (4, va2), (5, .map (some b)), (6, vb), (7, .int .i64 (k : Int)), (8, vo), (9, .int .i64 (k2 : Int)), (10, .pointer (some ⟨n2, 0, some 0⟩)), (35, .int .i64 (T.length : Int)), (36, .int .i64 (k2 : Int)), (44, .int .i64 (T.length : Int))] (fun z : DV => [(45, .int .i64 (z.k : Int)), (11, .bool z.g)]) []
        (fun z H' => z.k ≤ T.length ∧ (z.g = true ↔ ∀ i, i < z.k → i ≠ k2 → s.getD i 0 - 1 ≠ 0) ∧ hasH ((n2, .row 53 0 0 (ints (decS z.k s))) :: (b, .map (ents m2)) :: (MA2 ++ (MO ++ (MB ++ (Mi ++ M))))) (n2 + 1) H')
        (fun z => T.length - z.k) ⟨0, true⟩ (by repeat' (first | exact .nil | refine .cons rfl ?_)) rfl ⟨Nat.zero_le _, ⟨fun _ i hi => absurd hi (Nat.not_lt_zero _), fun _ => rfl⟩, hH11⟩ ?_
      clear hH11
      rintro ⟨k3, g⟩ H12 ⟨hk3, hg, hH12⟩
      simp only at hk3 hg hH12
      dsimp only [List.cons_append, List.nil_append]
      repeat' (first | refine zP ?_ | refine zA ?_ | (refine zM ?_; intro _ _) | refine zX ?_ | (refine zC ?_; intro _ _ _ _) | (refine zS ?_; intro _ _) | (apply Ws <;> intro hg))
      refine WC.condP rfl (fun hlt3 => ?_) (fun hlt3 => ?_)
      · have hk3' : k3 < T.length := by omega
        have hdl : (decS k3 s).length = 4 := by rw [decS_len, hsk.len]
        have hdg := decS_get (n := k3) (s := s) (by rw [hsk.len]; omega) k3
        rw [if_neg (Nat.lt_irrefl k3)] at hdg
        have hb8 := hsk.bnd hT k3 (by omega)
        have hdn := decS_next (k := k3) (s := s) (by rw [hsk.len]; omega)
        have hdl2 : (decS (k3 + 1) s).length = 4 := by rw [decS_len, hsk.len]
        have hdg2 := decS_get (n := k3 + 1) (s := s) (by rw [hsk.len]; omega) k3
        rw [if_pos (Nat.lt_succ_self k3)] at hdg2
        by_cases e1 : k3 = k2
        · repeat' (first | refine zP ?_ | refine zA ?_ | (refine zM ?_; intro _ _) | refine zX ?_ | (refine zC ?_; intro _ _ _ _) | (refine zS ?_; intro _ _) | refine zO ?_ | (apply Ws <;> intro hg))
          rename_i H13 hH13
          rw [hdn] at hH13
          refine Ends.loop ⟨k3 + 1, g⟩ (by simp only; omega) (by repeat' (first | exact .nil | refine .cons rfl ?_)) rfl ⟨hk3', ?_, hH13⟩
          show g = true ↔ ∀ i, i < k3 + 1 → i ≠ k2 → s.getD i 0 - 1 ≠ 0
          rw [hg]
          exact ⟨fun h i hi hne => h i (by omega) hne, fun h i hi hne => h i (by omega) hne⟩
        · have hvv : ((decS k3 s).set k3 ((decS k3 s).getD k3 0 - 1)).getD k3 0 = s.getD k3 0 - 1 := by rw [hdn, hdg2]
          have hsl9 : ((decS k3 s).set k3 ((decS k3 s).getD k3 0 - 1)).length = 4 := by rw [List.length_set, hdl]
          by_cases e2 : s.getD k3 0 - 1 = 0
          · repeat' (first | refine zP ?_ | refine zA ?_ | (refine zM ?_; intro _ _) | refine zX ?_ | (refine zC ?_; intro _ _ _ _) | (refine zS ?_; intro _ _) | refine zO ?_ | (apply Ws <;> intro hg))
            rename_i H13 hH13
            rw [hdn] at hH13
            refine Ends.loop ⟨k3 + 1, false⟩ (by simp only; omega) (by repeat' (first | exact .nil | refine .cons rfl ?_)) rfl ⟨hk3', ?_, hH13⟩
            show false = true ↔ ∀ i, i < k3 + 1 → i ≠ k2 → s.getD i 0 - 1 ≠ 0
            exact ⟨fun h => (by cases h), fun h => absurd e2 (h k3 (by omega) e1)⟩
          · repeat' (first | refine zP ?_ | refine zA ?_ | (refine zM ?_; intro _ _) | refine zX ?_ | (refine zC ?_; intro _ _ _ _) | (refine zS ?_; intro _ _) | refine zO ?_ | (apply Ws <;> intro hg))
            rename_i H13 hH13
            rw [hdn] at hH13
            refine Ends.loop ⟨k3 + 1, g⟩ (by simp only; omega) (by repeat' (first | exact .nil | refine .cons rfl ?_)) rfl ⟨hk3', ?_, hH13⟩
            show g = true ↔ ∀ i, i < k3 + 1 → i ≠ k2 → s.getD i 0 - 1 ≠ 0
            rw [hg]
            refine ⟨fun h i hi hne => ?_, fun h i hi hne => h i (by omega) hne⟩
            rcases Nat.lt_or_ge i k3 with h3 | h3
            · exact h i h3 hne
            · rw [show i = k3 by omega]; exact e2
      · have hk3n : k3 = T.length := by omega
        subst hk3n
        have hdl : (decS T.length s).length = 4 := by rw [decS_len, hsk.len]
        have hgood : g = true ↔ goodS T.length (metS T s k2) := by rw [hg, goodS_dec hT hsk hk2']
        have hST' := hST.cons (p := (n2, .row 53 0 0 (ints (decS T.length s))))
        repeat' (first | refine zP ?_ | refine zA ?_ | (refine zM ?_; intro _ _) | refine zX ?_ | (refine zC ?_; intro _ _ _ _) | (refine zS ?_; intro _ _) | (apply Ws <;> intro hg))
        rename_i H13 hH13
        clear hH12 hST'
        have hml : (metS T s k2).length = 4 := by rw [metS_len, hsk.len]
        have hmi : (ints (metS T s k2)).length = 4 := by simp [hml]
        replace hH13 : hasH ((n2, .row 53 0 0 (ints (metS T s k2))) :: (b, .map (ents m2)) :: (MA2 ++ (MO ++ (MB ++ (Mi ++ M))))) (n2 + 1) H13 := hH13
        cases hgv : g with
        | false =>
          have hbad : ¬ goodS T.length (metS T s k2) := fun h => by rw [hgood.2 h] at hgv; cases hgv
          repeat' (first | refine zP ?_ | refine zA ?_ | (refine zM ?_; intro _ _) | refine zX ?_ | (refine zC ?_; intro _ _ _ _) | (refine zS ?_; intro _ _) | (apply Ws <;> intro hg))
          refine Ends.loop ⟨k2 + 1, va2, A2, MA2, m2, vo, own, MO, n2 + 1⟩ (by simp only; omega) (by repeat' (first | exact .nil | refine .cons rfl ?_)) rfl ⟨hk2', hkA, hA2, hB2, hOA2, hOO, by simp only; omega, fun h => ?_, by simp only; omega, hH13.tail⟩
          have := (hSu h).bad (by rw [hse]; exact hbad)
          exact this
        | true =>
          have hgd : goodS T.length (metS T s k2) := hgood.1 hgv
          have hmok := met_ok hT hsk hk2' hgd
          have hone10 := ints_one (metS T s k2)
          repeat' (first | refine zP ?_ | refine zA ?_ | (refine zM ?_; intro _ _) | refine zX ?_ | (refine zC ?_; intro _ _ _ _) | (refine zS ?_; intro _ _) | (apply Ws <;> intro hg))
          cases hf : findI m2 (metS T s k2) with
          | some r =>
            obtain ⟨i, hi, rfl, he⟩ := hA2.inv _ _ hf
            refine WR.op (by first | exact gN | exact gS rfl) rfl (mgetS (s := metS T s k2) rfl rfl hH13 (.tail _ (.head _)) hA2.keys hml hf) ?_
            repeat' (first | refine zP ?_ | refine zA ?_ | (refine zM ?_; intro _ _) | refine zX ?_ | (refine zC ?_; intro _ _ _ _) | (refine zS ?_; intro _ _) | (apply Ws <;> intro hg))
            refine WR.op (by first | exact gN | exact gS rfl) rfl (mgetV (s := metS T s k2) rfl rfl hH13 (.tail _ (.head _)) hA2.keys hml hf) ?_
            refine WR.append1F ((n2, .row 53 0 0 (ints (metS T s k2))) :: (b, .map (ents m2)) :: MA2) MO (MB ++ (Mi ++ M)) rfl rfl rfl rfl hOO hH13 (new := [.int .i64 (i : Int)]) (by rfl) rfl rfl (Nat.le_refl _) (by omega) (by simp; omega) fun v3 M3 n4 H14 hO3 hH14 hn4 => ?_
            replace hH14 : hasH ((n2, .row 53 0 0 (ints (metS T s k2))) :: (b, .map (ents m2)) :: (MA2 ++ (M3 ++ (MB ++ (Mi ++ M))))) n4 H14 := hH14
            repeat' (first | refine zP ?_ | refine zA ?_ | (refine zM ?_; intro _ _) | refine zX ?_ | (refine zC ?_; intro _ _ _ _) | (refine zS ?_; intro _ _) | (apply Ws <;> intro hg))
            refine Ends.loop ⟨k2 + 1, va2, A2, MA2, m2, v3, own ++ [(i : Int)], M3, n4⟩ (by simp only; omega) (by repeat' (first | exact .nil | refine .cons rfl ?_)) rfl ⟨hk2', hkA, hA2, hB2, hOA2, ?_, by simp only [List.length_append, List.length_singleton]; omega, fun h => ?_, by simp only; omega, hH14.tail⟩
            · show Own _ 1 v3 (List.map (Value.int .i64) (own ++ [(i : Int)])) M3
              rw [List.map_append]; exact hO3
            · have := (hSu h).good (by rw [hse]; exact hgd) hi (by rw [hse]; exact he)
              exact this
          | none =>
            refine WR.op (by first | exact gN | exact gS rfl) rfl (mgetN (s := metS T s k2) rfl rfl hH13 (.tail _ (.head _)) hA2.keys hml hf) ?_
            repeat' (first | refine zP ?_ | refine zA ?_ | (refine zM ?_; intro _ _) | refine zX ?_ | (refine zC ?_; intro _ _ _ _) | (refine zS ?_; intro _ _) | (apply Ws <;> intro hg))
            refine WR.op (by first | exact gN | exact gS rfl) rfl (OpV.lenK F4_len (by decide) rfl (hSA.cons (p := (n2, .row 53 0 0 (ints (metS T s k2)))))) ?_
            refine WR.mput (kn := 4) (s := metS T s k2) (v := (A2.length : Int)) (by first | exact gN | exact gS rfl) rfl rfl rfl hH13 (.there .here) hA2.keys hml fun H14 hH14 => ?_
            obtain ⟨a, ha⟩ : ∃ a : St4, a.1 = metS T s k2 := ⟨⟨metS T s k2, hml⟩, rfl⟩
            have hA3 := bfs_more hT hA2 (a := a) (by rw [ha]; exact hmok) (by rw [ha]; exact hf)
            have hf3 : findI (putI m2 (metS T s k2) (A2.length : Int)) (metS T s k2) = some (A2.length : Int) := by rw [findI_put, if_pos rfl]
            have hk9 := hA2.keys.put hml (A2.length : Int)
            rw [ha] at hA3
            have hB3 := hB2.mono (by omega) [a]
            repeat' (first | refine zP ?_ | refine zA ?_ | (refine zM ?_; intro _ _) | refine zX ?_ | (refine zC ?_; intro _ _ _ _) | (refine zS ?_; intro _ _) | (apply Ws <;> intro hg))
            refine WR.append1F [(n2, .row 53 0 0 (ints (metS T s k2))), (b, .map (ents (putI m2 (metS T s k2) (A2.length : Int))))] MA2 (MO ++ (MB ++ (Mi ++ M))) rfl rfl rfl rfl hOA2 hH14 (new := ints (metS T s k2)) (fill4 hml) hone10 hmi (by omega) (by omega) (by rw [cellsF_len F4_len, hmi]; omega) fun v3 M3 n4 H15 hO3 hH15 hn4 => ?_
            replace hH15 : hasH ((n2, .row 53 0 0 (ints (metS T s k2))) :: (b, .map (ents (putI m2 (metS T s k2) (A2.length : Int)))) :: (M3 ++ (MO ++ (MB ++ (Mi ++ M))))) n4 H15 := hH15
            clear hH14 hH13
            generalize putI m2 (metS T s k2) (A2.length : Int) = m4 at *
            repeat' (first | refine zP ?_ | refine zA ?_ | (refine zM ?_; intro _ _) | refine zX ?_ | (refine zC ?_; intro _ _ _ _) | (refine zS ?_; intro _ _) | (apply Ws <;> intro hg))
            refine WR.op (by first | exact gN | exact gS rfl) rfl (mgetV (s := metS T s k2) rfl rfl hH15 (.tail _ (.head _)) hk9 hml hf3) ?_
            refine WR.append1F ((n2, .row 53 0 0 (ints (metS T s k2))) :: (b, .map (ents m4)) :: M3) MO (MB ++ (Mi ++ M)) rfl rfl rfl rfl hOO hH15 (new := [.int .i64 (A2.length : Int)]) (by rfl) rfl rfl (Nat.le_refl _) (by omega) (by simp; omega) fun v5 M5 n5 H16 hO5 hH16 hn5 => ?_
            replace hH16 : hasH ((n2, .row 53 0 0 (ints (metS T s k2))) :: (b, .map (ents m4)) :: (M3 ++ (M5 ++ (MB ++ (Mi ++ M))))) n5 H16 := hH16
            repeat' (first | refine zP ?_ | refine zA ?_ | (refine zM ?_; intro _ _) | refine zX ?_ | (refine zC ?_; intro _ _ _ _) | (refine zS ?_; intro _ _) | (apply Ws <;> intro hg))
            refine Ends.loop ⟨k2 + 1, v3, A2 ++ [a], M3, m4, v5, own ++ [(A2.length : Int)], M5, n5⟩ (by simp only; omega) (by repeat' (first | exact .nil | refine .cons rfl ?_)) rfl ⟨hk2', by simp only [List.length_append, List.length_singleton]; omega, hA3, hB3, ?_, ?_, by simp only [List.length_append, List.length_singleton]; omega, fun h => ?_, by simp only; omega, hH16.tail⟩
            · show Own _ 4 v3 (cellsF F4 (A2 ++ [a])) M3
              rw [cellsF_snoc, ha]; exact hO3
            · show Own _ 1 v5 (List.map (Value.int .i64) (own ++ [(A2.length : Int)])) M5
              rw [List.map_append]; exact hO5
            · show SuccR T (A2 ++ [a]) ((A2 ++ [a])[k]).1 (k2 + 1) (own ++ [(A2.length : Int)])
              rw [List.getElem_append_left hkA]
              exact ((hSu hkA).mono [a]).good (by rw [hse]; exact hgd) (by simp) (by rw [hse]; simpa using ha)
    · have hk2n : k2 = T.length := by omega
      subst hk2n
      have hvo1 := (hOO.sl (MB ++ (Mi ++ M))).one_
      have hwl := hR.1
      have hw1 := hR.one
      repeat' (first | refine zP ?_ | refine zA ?_ | (refine zM ?_; intro _ _) | refine zX ?_ | (refine zC ?_; intro _ _ _ _) | (refine zS ?_; intro _ _) | (apply Ws <;> intro hg))
      refine WR.append1F ((b, .map (ents m2)) :: (MA2 ++ MO)) MB (Mi ++ M) rfl rfl rfl rfl hOB (by have := hH9; rw [← List.append_assoc] at this; exact this) (new := [vo]) (fill1 hvo1) (by simp [hvo1]) rfl (Nat.le_refl _) (by omega) (by simp; omega) fun v3 M3 n4 H14 hO3 hH14 hn4 => ?_
      have hH15 : hasH ((b, .map (ents m2)) :: (MA2 ++ (M3 ++ ((MO ++ Mi) ++ M)))) n4 H14 := by
        refine hH14.perm (List.Perm.cons _ ?_)
        show (MA2 ++ MO ++ (M3 ++ (Mi ++ M))).Perm _
        rw [List.append_assoc, List.append_assoc MO]
        exact List.Perm.append_left _ (List.perm_append_comm_assoc _ _ _)
      repeat' (first | refine zP ?_ | refine zA ?_ | (refine zM ?_; intro _ _) | refine zX ?_ | (refine zC ?_; intro _ _ _ _) | (refine zS ?_; intro _ _) | (apply Ws <;> intro hg))
      refine Ends.loop ⟨k + 1, va2, A2, MA2, m2, v3, ws ++ [vo], B ++ [own], M3, MO ++ Mi, n4⟩ (by simp only; omega) (by repeat' (first | exact .nil | refine .cons rfl ?_)) rfl ⟨by simp only; omega, by simp [hBl], hA2, ?_, ?_, hOA2, hO3, rowsB_snoc hR (hOO.sl M), by simp only; omega, hH15⟩
      · refine hB2.snoc (by omega) ?_
        have := hSu hkA
        simpa only [hBl] using this
      · intro l hl
        rcases List.mem_append.1 hl with hl | hl
        · exact hB4 l hl
        · rw [List.mem_singleton] at hl; subst hl; omega
  · have hkn : k = A.length := by omega
    have hBA : B.length = A.length := by omega
    have hwl := hR.1
    have hZM : M.Sublist ((b, .map (ents m)) :: (MA ++ (MB ++ (Mi ++ M)))) := .cons _ (((List.sublist_append_right _ _).trans (List.sublist_append_right _ _)).trans (List.sublist_append_right _ _))
    have hSB : Sl ((b, .map (ents m)) :: (MA ++ (MB ++ (Mi ++ M)))) 1 vb ws := ((hOB.sl (Mi ++ M)).mono fun q hq => List.mem_append_right _ hq).cons
    have hRB : RowsB ((b, .map (ents m)) :: (MA ++ (MB ++ (Mi ++ M)))) ws B := ⟨hwl, fun i hi => (hR.2 i hi).mono fun q hq => List.mem_cons_of_mem _ (List.mem_append_right _ (List.mem_append_right _ hq))⟩
    obtain ⟨h0, hA0⟩ := hA.first
    obtain ⟨k0, hk0, hst⟩ := stab hT
    generalize (b, Ch.map (ents m)) :: (MA ++ (MB ++ (Mi ++ M))) = Z at hH8 hSA hZM hSB hRB
    clear hOA hOB hR
    repeat' (first | refine zP ?_ | refine zA ?_ | (refine zM ?_; intro _ _) | refine zX ?_ | (refine zC ?_; intro _ _ _ _) | (refine zS ?_; intro _ _) | (apply Ws <;> intro hg))
    refine WR.op (by first | exact gN | exact gS rfl) rfl (OpV.lenK F4_len (by decide) rfl hSA) ?_
    refine WR.mkS (m := A.length) (by first | exact gN | exact gS rfl) rfl hH8 rfl rfl (by omega) rfl fun H9 hH9 => ?_
    replace hH9 : hasH ((n1, .row 4 0 0 (bools (List.replicate A.length false))) :: Z) (n1 + 1) H9 := by rw [bools, List.map_replicate]; exact hH9
    repeat' (first | refine zP ?_ | refine zA ?_ | (refine zM ?_; intro _ _) | refine zX ?_ | (refine zC ?_; intro _ _ _ _) | (refine zS ?_; intro _ _) | (apply Ws <;> intro hg))
    rename_i H10 hH10 H11 hH11
    clear hH8 hH9 hH10
    refine WC.loopX [(6, vb), (15, .pointer (some ⟨n1 + 1, 0, some 0⟩))] (fun z : GV => [(16, .int .i64 (z.k : Int))]) []
      (fun z H' => z.k ≤ k0 ∧ canS T z.k (startS T) ∧ GoneR T A z.k z.G ∧ (z.cp = 2 * 1 ∨ z.cp = 2 * A.length + 1) ∧ n1 + 1 < z.n ∧ hasH ((n1 + 1, .row 60 0 0 [.slice (some ⟨z.gb, 0, some 0⟩) A.length z.cp]) :: (z.gb, .row 4 0 0 (bools z.G)) :: Z) z.n H')
      (fun z => k0 + 1 - z.k) ⟨0, n1, 2 * A.length + 1, List.replicate A.length false, n1 + 1 + 1⟩ (by repeat' (first | exact .nil | refine .cons rfl ?_)) rfl
      ⟨Nat.zero_le _, trivial, ⟨by simp, fun i hi => by
        rw [getD_eq (by simpa using hi), List.getElem_replicate]
        exact (goneB_false.2 (show canS T 0 _ from trivial)).symm⟩, .inr rfl, by simp only; omega, hH11⟩ ?_
    clear hH11
    rintro ⟨many, gb, cp, G, n3⟩ H12 ⟨hmk, hcan, hG, hcp, hn3, hH12⟩
    simp only at hmk hcan hG hcp hn3 hH12
    have hGl := hG.1
    have hgS : ∀ X : HL, Sl (X ++ ((n1 + 1, .row 60 0 0 [.slice (some ⟨gb, 0, some 0⟩) A.length cp]) :: (gb, .row 4 0 0 (bools G)) :: Z)) 1 (.slice (some ⟨gb, 0, some 0⟩) A.length cp) (bools G) := fun X =>
      .row (lo := 0) (cs := bools G) (List.mem_append_right _ (.tail _ (.head _))) (.row _ _ _ _) (Nat.zero_le _) (by simp [hGl]) (by rw [Nat.sub_zero, List.drop_zero, List.take_length]) (by simp) (by
        rcases hcp with rfl | rfl
        · exact .inl (.inl rfl)
        · exact .inr ⟨A.length, rfl, Nat.le_refl _⟩)
    dsimp only [List.cons_append, List.nil_append]
    repeat' (first | refine zP ?_ | refine zA ?_ | (refine zM ?_; intro _ _) | refine zX ?_ | (refine zC ?_; intro _ _ _ _) | (refine zS ?_; intro _ _) | (apply Ws <;> intro hg))
    refine WR.call (by first | exact gN | exact gS rfl) rfl rfl (CloneB_fs hH12 (hgS []) (by omega) (by omega)) ?_
    rintro _ H13 ⟨b1, n4, rfl, hn4, hH13⟩
    have hcS := hgS [(b1, .row 4 0 0 (bools G))]
    have hSB3 : Sl ((b1, Ch.row 4 0 0 (bools G)) :: (n1 + 1, .row 60 0 0 [.slice (some ⟨gb, 0, some 0⟩) A.length cp]) :: (gb, .row 4 0 0 (bools G)) :: Z) 1 vb ws := hSB.cons.cons.cons
    repeat' (first | refine zP ?_ | refine zA ?_ | (refine zM ?_; intro _ _) | refine zX ?_ | (refine zC ?_; intro _ _ _ _) | (refine zS ?_; intro _ _) | (apply Ws <;> intro hg))
    refine WC.loopX [(6, vb), (15, .pointer (some ⟨n1 + 1, 0, some 0⟩)), (16, .int .i64 (many : Int)), (17, .slice (some ⟨b1, 0, some 0⟩) G.length (2 * 1)), (105, vb), (106, .int .i64 (ws.length : Int))] (fun z : Nat × List Bool => [(107, .int .i64 (z.1 : Int))]) []
      (fun z H' => z.1 ≤ A.length ∧ z.2.length = A.length ∧ (∀ i (h : i < A.length), i < z.1 → z.2.getD i false = goneB T (many + 1) (A[i]).1) ∧ hasH ((b1, .row 4 0 0 (bools z.2)) :: (n1 + 1, .row 60 0 0 [.slice (some ⟨gb, 0, some 0⟩) A.length cp]) :: (gb, .row 4 0 0 (bools G)) :: Z) n4 H')
      (fun z => A.length - z.1) (0, G) (by repeat' (first | exact .nil | refine .cons rfl ?_)) rfl ⟨Nat.zero_le _, hGl, fun i _ h => absurd h (Nat.not_lt_zero _), hH13⟩ ?_
    clear hH12 hH13 hcS hSB3
    rintro ⟨i, nx⟩ H14 ⟨hi, hnl, hnx, hH14⟩
    simp only at hi hnl hnx hH14
    have hcS := hgS [(b1, .row 4 0 0 (bools nx))]
    have hSB3 : Sl ((b1, Ch.row 4 0 0 (bools nx)) :: (n1 + 1, .row 60 0 0 [.slice (some ⟨gb, 0, some 0⟩) A.length cp]) :: (gb, .row 4 0 0 (bools G)) :: Z) 1 vb ws := hSB.cons.cons.cons
    replace hcS : Sl ((b1, Ch.row 4 0 0 (bools nx)) :: (n1 + 1, .row 60 0 0 [.slice (some ⟨gb, 0, some 0⟩) A.length cp]) :: (gb, .row 4 0 0 (bools G)) :: Z) 1 (.slice (some ⟨gb, 0, some 0⟩) A.length cp) (bools G) := hcS
    dsimp only [List.cons_append, List.nil_append]
    repeat' (first | refine zP ?_ | refine zA ?_ | (refine zM ?_; intro _ _) | refine zX ?_ | (refine zC ?_; intro _ _ _ _) | (refine zS ?_; intro _ _) | (apply Ws <;> intro hg))
    refine WC.condP rfl (fun hlt => ?_) (fun hlt => ?_)
    · have hi' : i < A.length := by omega
      have hib : i < B.length := by omega
      have hiw : i < ws.length := by omega
      have hSr : Sl ((b1, Ch.row 4 0 0 (bools nx)) :: (n1 + 1, .row 60 0 0 [.slice (some ⟨gb, 0, some 0⟩) A.length cp]) :: (gb, .row 4 0 0 (bools G)) :: Z) 1 (ws.getD i undef) (ints (B.getD i [])) := (hRB.2 i hib).cons.cons.cons
      have hr1 := hSr.one_
      repeat' (first | refine zP ?_ | refine zA ?_ | (refine zM ?_; intro _ _) | refine zX ?_ | (refine zC ?_; intro _ _ _ _) | (refine zS ?_; intro _ _) | (apply Ws <;> intro hg))
      have hle4 : (B.getD i []).length ≤ 4 := hB4 _ (getD_mem hib)
      refine WR.call (by first | exact gN | exact gS rfl) rfl rfl (ContainsFunc_fs (P := fun c => !(G.getD c.toNat false)) (g := 77) (vb := [.pointer (some ⟨n1 + 1, 0, some 0⟩)]) hH14 hSr (by omega) (fun c hc => there_fs hH14 (.tail _ (.head _)) hcS (by
        obtain ⟨q, j, hq, rfl, _⟩ := (hB i hi' hib).sound c hc
        omega))) ?_
      rintro _ _ ⟨rfl, rfl⟩
      have hnext := gone_next hB hG hi' hib
      generalize (B.getD i []).any (fun c => !(G.getD c.toNat false)) = an at hnext ⊢
      repeat' (first | refine zP ?_ | refine zA ?_ | (refine zM ?_; intro _ _) | refine zX ?_ | (refine zC ?_; intro _ _ _ _) | (refine zS ?_; intro _ _) | (apply Ws <;> intro hg))
      rename_i H15 hH15
      rw [hnext] at hH15
      refine Ends.loop (i + 1, nx.set i (goneB T (many + 1) (A[i]).1)) (by simp only; omega) (by repeat' (first | exact .nil | refine .cons rfl ?_)) rfl ⟨hi', by simp [hnl], fun j hj hji => ?_, hH15⟩
      show (nx.set i (goneB T (many + 1) (A[i]).1)).getD j false = _
      rw [getD_set' (by omega)]
      by_cases e : j = i
      · subst e; rw [if_pos rfl]
      · rw [if_neg e]; exact hnx j hj (by simp only at hji; omega)
    · have hin : i = A.length := by omega
      subst hin
      have hG2 : GoneR T A (many + 1) nx := ⟨hnl, fun j hj => hnx j hj hj⟩
      have hn0 := hG2.2 0 h0
      rw [hA0] at hn0
      have hbS : Sl ((b1, Ch.row 4 0 0 (bools nx)) :: (n1 + 1, .row 60 0 0 [.slice (some ⟨gb, 0, some 0⟩) A.length cp]) :: (gb, .row 4 0 0 (bools G)) :: Z) 1 (.slice (some ⟨b1, 0, some 0⟩) G.length (2 * 1)) (bools nx) :=
        .row (lo := 0) (cs := bools nx) (.head _) (.row _ _ _ _) (Nat.zero_le _) (by simp [hnl, hGl]) (by rw [Nat.sub_zero, List.drop_zero, List.take_length]) (by simp) (.inl (.inl rfl))
      have hnl0 : 0 < nx.length := by omega
      repeat' (first | refine zP ?_ | refine zA ?_ | (refine zM ?_; intro _ _) | refine zX ?_ | (refine zC ?_; intro _ _ _ _) | (refine zS ?_; intro _ _) | (apply Ws <;> intro hg))
      rw [hn0]
      cases hg0 : goneB T (many + 1) (startS T) with
      | true =>
        repeat' (first | refine zP ?_ | refine zA ?_ | (refine zM ?_; intro _ _) | refine zX ?_ | (refine zC ?_; intro _ _ _ _) | (refine zS ?_; intro _ _) | (apply Ws <;> intro hg))
        exact Ends.ret1 rfl ⟨many, n4, rfl, .inr ⟨many, rfl, hcan, goneB_true.1 hg0⟩, by omega, hH14.sub ((hZM.cons _).cons _ |>.cons _)⟩
      | false =>
        repeat' (first | refine zP ?_ | refine zA ?_ | (refine zM ?_; intro _ _) | refine zX ?_ | (refine zC ?_; intro _ _ _ _) | (refine zS ?_; intro _ _) | (apply Ws <;> intro hg))
        refine WR.call (by first | exact gN | exact gS rfl) rfl rfl (EqualB_fs hH14 hbS hcS (by omega) (by omega)) ?_
        rintro _ _ ⟨rfl, rfl⟩
        by_cases he : nx = G
        · rw [decide_eq_true he]
          repeat' (first | refine zP ?_ | refine zA ?_ | (refine zM ?_; intro _ _) | refine zX ?_ | (refine zC ?_; intro _ _ _ _) | (refine zS ?_; intro _ _) | (apply Ws <;> intro hg))
          refine Ends.ret1 rfl ⟨-1, n4, rfl, .inl ⟨rfl, gone_stop hA hB hBA (fun j hj => ?_) hcan⟩, by omega, hH14.sub ((hZM.cons _).cons _ |>.cons _)⟩
          rw [← hG2.2 j hj, ← hG.2 j hj, he]
        · rw [decide_eq_false he]
          have hlt0 : many ≠ k0 := fun e => he (ext_getD (a := false) (by omega) fun j hj => by
            have hj' : j < A.length := by omega
            rw [hG2.2 j hj', hG.2 j hj']
            cases hc : goneB T many (A[j]).1 with
            | true => exact goneB_true.2 fun h => goneB_true.1 hc (canS_less h)
            | false => exact goneB_false.2 (by rw [e]; exact hst _ (hA.ok j hj') (by rw [← e]; exact goneB_false.1 hc)))
          repeat' (first | refine zP ?_ | refine zA ?_ | (refine zM ?_; intro _ _) | refine zX ?_ | (refine zC ?_; intro _ _ _ _) | (refine zS ?_; intro _ _) | (apply Ws <;> intro hg))
          rename_i H15 hH15
          refine Ends.loop ⟨many + 1, b1, 2 * 1, nx, n4⟩ (by simp only; omega) (by repeat' (first | exact .nil | refine .cons rfl ?_)) rfl ⟨by simp only; omega, goneB_false.1 hg0, hG2, .inl rfl, by simp only; omega, ?_⟩
          have := hH15.swap
          rw [hGl] at this
          exact this.sub (.cons_cons _ (.cons_cons _ (List.sublist_cons_self _ _)))
end
end Go.Proofs.Ytnmlfjohoeebiaa.Wk

/- Beginnings of a slice, that may be empty, are copied. -/
namespace Go.Abs
set_option linter.unusedSectionVars false
variable [Globs]
open Go
section
variable {C : CW} {nt : Nat} {L : Env} {D : List Nat} {H : Heap} {K : St → Prop} {M M' : HL} {n i d : Nat} {gd : Option (Tmp × Bool)} {lo' : List Nat} {l : List POp}
/-- A slice that can be read, though it is empty. -/
def RdS (M : HL) (v : Value) : Prop := v = .slice none 0 0 ∨ ∃ (b u o lo len cap : Nat) (ch : Ch) (cs : List Value), v = .slice (some ⟨b, o, some u⟩) len cap ∧ (b, ch) ∈ M ∧ ch.cellsAre u lo cs ∧ lo ≤ o ∧ o - lo ≤ cs.length
theorem RdS.mono {M M' : HL} {v : Value} (h : RdS M v) (k : ∀ q ∈ M, q ∈ M') : RdS M' v := by
  rcases h with h | ⟨b, u, o, lo, len, cap, ch, cs, h1, h2, h3⟩
  · exact .inl h
  · exact .inr ⟨b, u, o, lo, len, cap, ch, cs, h1, k _ h2, h3⟩
end
end Go.Abs
namespace Go.Proofs.Ytnmlfjohoeebiaa.Wk
open Go Go.Abs Go.Mth
set_option linter.unusedVariables false
set_option linter.unusedSimpArgs false
attribute [local irreducible] gOK WS WC WR WD Ends FS YS OpV seqK blockK loopK midK retK rdK asgK rangeEnd sat Cell
section
variable {M : HL} {n0 : Nat} {H : Heap} {v w : Value}
end
/-- The first walk, and each of its beginnings. -/
theorem WalkR.take {T s W t : List Int} (h : WalkR T s W t) : ∀ i (hi : i < W.length), ∃ u j, WalkR T s (W.take i) u ∧ NextR T u j ∧ W.getD i 0 = (j : Int) := by
  induction h with
  | nil => intro i hi; simp at hi
  | @snoc W t j h hj ih =>
    intro i hi
    rcases Nat.lt_or_ge i W.length with h1 | h1
    · obtain ⟨u, k, h2, h3, h4⟩ := ih i h1
      exact ⟨u, k, by rw [List.take_append_of_le_length (by omega)]; exact h2, h3, by rw [getD_app_l h1]; exact h4⟩
    · have : i = W.length := by simp at hi; omega
      subst this
      exact ⟨t, j, by rw [List.take_append_of_le_length (Nat.le_refl _), List.take_length]; exact h, hj, getD_snoc⟩
end Go.Proofs.Ytnmlfjohoeebiaa.Wk

/- Slices joined. -/
namespace Go.Abs
set_option linter.unusedSectionVars false
set_option linter.unusedSimpArgs false
set_option linter.unusedVariables false
variable [Globs]
open Go
section
variable {C : CW} {nt : Nat} {L : Env} {D : List Nat} {H : Heap} {K : St → Prop} {M M' : HL} {n i d : Nat} {gd : Option (Tmp × Bool)} {lo' : List Nat} {l : List POp}
theorem WR.appZ {e m : Nat} {z : Value} {s x : Operand} (hg : gOK L gd) (hd : Nat.blt d nt = true) (hs : ev L s = some (.slice none 0 0)) (hx : ev L x = some (.int .i64 (m : Int))) (hH : hasH M n H) (hm : 1 ≤ m) (hm2 : m ≤ 70000) (hz : one z = true)
    (kk : ∀ H', hasH ((n, .row e 0 0 (List.replicate m z)) :: M) (n + 1) H' → WR C nt l ((d, .slice (some ⟨n, 0, some 0⟩) m (2 * 1)) :: L) D H' K) : WR C nt (⟨i, some d, .appZ e 1 [z] s x, gd, lo'⟩ :: l) L D H K := by
  have hf : (List.replicate m [z]).flatten = List.replicate m z := by
    clear hx hm hm2 kk
    induction m with
    | zero => rfl
    | succ m ih => simp [List.replicate_succ, ih]
  refine WR.op hg hd (H' := H.row e (List.replicate m z)) (v := .slice (some ⟨n, 0, some 0⟩) m (2 * 1)) (fun t ht => ?_) (kk _ (hH.row e (by rw [List.all_eq_true]; intro q hq; rw [(List.mem_replicate.1 hq).2]; exact hz)))
  have b1 : Nat.ble 1 m = true := Nat.ble_eq_true_of_le hm
  have b2 : small 1 m = true := by unfold small; rw [Nat.ble_eq_true_of_le (show m ≤ 100000 by omega)]; rfl
  have hmi : ((m : Nat) : Int) = Int.ofNat m := rfl
  rw [hmi] at hx
  simp only [opA, ev_ok ht hs, ev_ok ht hx, oAppZ, b1, b2, Bool.and_self, cond_true, newAddr, hH.next, hf]
end
end Go.Abs
namespace Go.Proofs.Ytnmlfjohoeebiaa.Wk
open Go Go.Abs Go.Mth
set_option linter.unusedVariables false
set_option linter.unusedSimpArgs false
def lenS (Ls : List (List Int)) : Nat := (Ls.map List.length).sum
structure PartsM (M : HL) (ws : List Value) (Ls : List (List Int)) : Prop where
  len : ws.length = Ls.length
  sl : ∀ i, i < Ls.length → Sl M 1 (ws.getD i undef) (ints (Ls.getD i []))
  rd : ∀ i, i < Ls.length → Ls.getD i [] = [] → RdS M (ws.getD i undef)
theorem PartsM.mono {M M' : HL} {ws : List Value} {Ls : List (List Int)} (h : PartsM M ws Ls) (k : ∀ q ∈ M, q ∈ M') : PartsM M' ws Ls := ⟨h.len, fun i hi => (h.sl i hi).mono k, fun i hi h0 => (h.rd i hi h0).mono k⟩
attribute [local irreducible] gOK WS WC WR WD Ends FS YS OpV seqK blockK loopK midK retK rdK asgK rangeEnd sat Cell
section
variable {M : HL} {n0 : Nat} {H : Heap} {v w : Value}
end
end Go.Proofs.Ytnmlfjohoeebiaa.Wk

/- The law WalkFirst. -/
namespace Go.Proofs.Ytnmlfjohoeebiaa.Wk
open Go Go.Abs Go.Mth
set_option linter.unusedVariables false
set_option linter.unusedSimpArgs false
theorem everB_false {T s : List Int} (h : ¬ everS T s) : everB T s = false := by
  cases hb : everB T s with
  | false => rfl
  | true => exact absurd (everB_true.1 hb) h
theorem WalkR.good {T W t : List Int} (hT : TOK T) (h : WalkR T (startS T) W t) : GoodW T W := by
  rcases go_good hT h.go.2 with ⟨h1, _⟩ | ⟨h1, _⟩
  · rw [h.go.1] at h1; cases h1
  · exact h1
attribute [local irreducible] gOK WS WC WR WD Ends FS YS OpV seqK blockK loopK midK retK rdK asgK rangeEnd sat Cell
section
variable {M : HL} {n0 : Nat} {H : Heap} {v w : Value}
end
end Go.Proofs.Ytnmlfjohoeebiaa.Wk

/- The weight of numbers of tides; long walks. -/
namespace Go.Proofs.Ytnmlfjohoeebiaa.Wk
open Go Go.Abs Go.Mth
set_option linter.unusedVariables false
set_option linter.unusedSimpArgs false
structure GP where
  a : Nat
  b : Nat
structure WP3 where
  k : Nat
  a : Nat
  b : Nat
/-- What the weight is. -/
structure WghtR (T : List Int) (a b : Nat) : Prop where
  a1 : 1 ≤ a
  b1 : 1 ≤ b
  le : a ≤ 4 * b
  dv : b ∣ 840
  cop : Nat.Coprime a b
  eq : sumW T * (b : Int) = 840 * (a : Int)
attribute [local irreducible] gOK WS WC WR WD Ends FS YS OpV seqK blockK loopK midK retK rdK asgK rangeEnd sat Cell
section
variable {M : HL} {n0 : Nat} {H : Heap} {v w : Value}
end
end Go.Proofs.Ytnmlfjohoeebiaa.Wk

/- From where on the first walk repeats itself. -/
namespace Go.Abs
set_option linter.unusedSectionVars false
variable [Globs]
open Go
section
variable {C : CW} {nt : Nat} {L : Env} {D : List Nat} {H : Heap} {K : St → Prop} {M M' : HL} {n i d : Nat} {gd : Option (Tmp × Bool)} {lo' : List Nat} {l : List POp}
theorem WD.idxK {α : Type} {F : α → List Value} {z : Nat} {rs : List Rd} {x ix : Operand} {kd : IntKind} {m : Nat} {v : Value} {ps : List α} (hF : ∀ a, (F a).length = z) (hz : 1 ≤ z) (hg : gOK L gd) (hd : Nat.blt d nt = true) (hx : ev L x = some v) (hS : Sl M z v (cellsF F ps)) (hi : ev L ix = some (.int kd (m : Int))) (hm : m < ps.length)
    (k : ∀ b o u, KCell M b o u (F ps[m]) → WD C nt l rs ((d, .pointer (some ⟨b, o, some u⟩)) :: L) D H K) : WD C nt (⟨i, some d, .idxS x ix z, gd, []⟩ :: l) rs L D H K := by
  obtain ⟨b, o, u, h1, h2⟩ := OpV.idxK (C := C) (H := H) hF hz hx hS hi hm
  exact WD.op hg hd h1 rfl (stands_nil _ _) (k b o u h2)
theorem KCell.readN {b o u k : Nat} {vs : List Value} (h : KCell M b o u vs) (hH : hasH M n H) (hk : vs.length = k) : H.readN ⟨b, o, some u⟩ k = some vs := by
  obtain ⟨ch, lo, cs, h1, h2, h3, h4, h5⟩ := h
  subst hk
  rw [hH.readN h1 h2 h3 h4, h5]
end
end Go.Abs
namespace Go.Proofs.Ytnmlfjohoeebiaa.Wk
open Go Go.Abs Go.Mth
set_option linter.unusedVariables false
set_option linter.unusedSimpArgs false
theorem WalkR.trans {T a b c W U : List Int} (h : WalkR T a W b) (k : WalkR T b U c) : WalkR T a (W ++ U) c := by
  induction k with
  | nil => rwa [List.append_nil]
  | snoc _ hj ih => rw [← List.append_assoc]; exact .snoc ih hj
/-- What was left, tide by tide. -/
structure PathR (T : List Int) (A : List St4) (W c : List Int) : Prop where
  len : A.length = W.length + 1
  to : ∀ i (h : i < A.length), WalkR T (startS T) (W.take i) (A[i]).1
  on : ∀ i (h : i < A.length), WalkR T (A[i]).1 (W.drop i) c
theorem PathR.end_ {T : List Int} {A : List St4} {W c : List Int} (h : PathR T A W c) (hi : W.length < A.length) : (A[W.length]).1 = c := by
  have := h.on W.length hi
  rw [List.drop_length] at this
  exact (WalkR.one rfl this (.nil (s := (A[W.length]).1))).2.symm
theorem PathR.snoc {T : List Int} {A : List St4} {W c : List Int} {j : Nat} (h : PathR T A W c) (hj : NextR T c j) {a : St4} (ha : a.1 = metS T c j) : PathR T (A ++ [a]) (W ++ [(j : Int)]) a.1 where
  len := by simp [h.len]
  to i hi := by
    have hl := h.len
    by_cases e : i < A.length
    · rw [List.getElem_append_left e, List.take_append_of_le_length (by omega)]; exact h.to i e
    · have : i = A.length := by simp at hi; omega
      subst this
      rw [List.take_of_length_le (by simp; omega)]
      have h1 := h.to W.length (by omega)
      rw [List.take_length, h.end_ (by omega)] at h1
      simp only [List.getElem_concat_length]
      rw [ha]
      exact .snoc h1 hj
  on i hi := by
    have hl := h.len
    by_cases e : i < A.length
    · rw [List.getElem_append_left e, List.drop_append_of_le_length (by omega), ha]
      exact .snoc (h.on i e) hj
    · have : i = A.length := by simp at hi; omega
      subst this
      rw [List.drop_of_length_le (by simp; omega)]
      simp only [List.getElem_concat_length]
      exact .nil
structure LoopR (T Bg Lp s : List Int) : Prop where
  bg : WalkR T (startS T) Bg s
  lp : WalkR T s Lp s
  pos : 1 ≤ Lp.length
  bd : Bg.length + Lp.length ≤ 6561
theorem PathR.loop {T : List Int} {A : List St4} {W c : List Int} {j i : Nat} (h : PathR T A W c) (hj : NextR T c j) (hi : i < A.length) (he : (A[i]).1 = metS T c j) (hb : A.length ≤ 6561) : LoopR T ((W ++ [(j : Int)]).take i) ((W ++ [(j : Int)]).drop i) (A[i]).1 := by
  have hl := h.len
  refine ⟨?_, ?_, by simp; omega, by simp; omega⟩
  · rw [List.take_append_of_le_length (by omega)]; exact h.to i hi
  · rw [List.drop_append_of_le_length (by omega)]
    have := WalkR.snoc (h.on i hi) hj
    rwa [← he] at this
structure LV where
  va : Value
  A : List St4
  MA : HL
  wv : Value
  W : List Int
  MW : HL
  c : List Int
  m : MapI
  g : MapI
  n : Nat
attribute [local irreducible] gOK WS WC WR WD Ends FS YS OpV seqK blockK loopK midK retK rdK asgK rangeEnd sat Cell
section
variable {M : HL} {n0 : Nat} {H : Heap} {v w : Value}
end
end Go.Proofs.Ytnmlfjohoeebiaa.Wk

/- Stretches as sets; lists that are cut to their length and appended to. -/
namespace Go.Abs
set_option linter.unusedSectionVars false
set_option linter.unusedSimpArgs false
variable [Globs]
open Go
section
variable {C : CW} {nt : Nat} {L : Env} {D : List Nat} {H : Heap} {K : St → Prop} {M M' : HL} {n i d : Nat} {gd : Option (Tmp × Bool)} {lo : List Nat} {l : List POp} {rs : List Rd}
/-- A list: nothing, or a row that may be open or full. -/
def LstV (M : HL) (v : Value) (cs : List Value) : Prop := (cs = [] ∧ v = .slice none 0 0) ∨ (cs ≠ [] ∧ ∃ b o u cap, v = .slice (some ⟨b, o, some u⟩) cs.length cap ∧ KCell M b o u cs ∧ (cap = 2 * 1 ∨ cap = 2 * cs.length + 1))
/-- One that is full. -/
def ClipV (M : HL) (v : Value) (cs : List Value) : Prop := (cs = [] ∧ v = .slice none 0 0) ∨ (cs ≠ [] ∧ ∃ b o u, v = .slice (some ⟨b, o, some u⟩) cs.length (2 * cs.length + 1) ∧ KCell M b o u cs)
theorem LstV.mono {v : Value} {cs : List Value} (h : LstV M v cs) (k : ∀ q ∈ M, q ∈ M') : LstV M' v cs := by
  rcases h with h | ⟨h0, b, o, u, cap, h1, h2, h3⟩
  · exact .inl h
  · exact .inr ⟨h0, b, o, u, cap, h1, h2.mono k, h3⟩
theorem LstV.sl {v : Value} {cs : List Value} (h : LstV M v cs) : Sl M 1 v cs := by
  rcases h with ⟨rfl, rfl⟩ | ⟨h0, b, o, u, cap, rfl, ⟨ch, lo, cells, h1, h2, h3, h4, h5⟩, h6⟩
  · exact .nil 0
  · refine .row h1 h2 h3 (by simp) h5 h4 ?_
    rcases h6 with rfl | rfl
    · exact .inl (.inl rfl)
    · exact .inr ⟨_, rfl, Nat.le_refl _⟩
theorem LstV.one_ {v : Value} {cs : List Value} (h : LstV M v cs) : one v = true := h.sl.one_
theorem OpV.clip {x hi mx : Operand} {v : Value} {cs : List Value} {kb kc : IntKind} (hx : ev L x = some v) (hS : LstV M v cs) (h2 : ev L hi = some (.int kb (cs.length : Int))) (h3 : ev L mx = some (.int kc (cs.length : Int))) :
    ∃ v', OpV C (.slS x 1 none (some hi) (some mx)) L H v' H ∧ ClipV M v' cs := by
  rcases hS with ⟨rfl, rfl⟩ | ⟨h0, b, o, u, cap, rfl, h1, h6⟩
  · refine ⟨.slice none 0 0, fun t ht => ?_, .inl ⟨rfl, rfl⟩⟩
    simp only [opA, ev_ok ht hx, Option.map_some, Option.map_none, ev_ok ht h2, ev_ok ht h3, oSlS, sliceA, loOf, hiOf, nat_of, Option.isSome_some, Option.isNone_some, Bool.and_false, cond_false, capOf, sliceTo]
    rfl
  · obtain ⟨len, hlen⟩ : ∃ len, cs.length = len := ⟨_, rfl⟩
    have hl0 : 1 ≤ len := by have := List.length_pos_iff.2 h0; omega
    have hb0 : Nat.beq len 0 = false := by cases hb : Nat.beq len 0 with | false => rfl | true => have := Nat.eq_of_beq_eq_true hb; omega
    have hk : cutKnown 1 (some ⟨b, o, some u⟩) 0 len len = some (.slice (some ⟨b, o, some u⟩) len (2 * len + 1)) := by
      have : (bif Nat.beq len 0 then (⟨b, o, some u⟩ : Addr) else Addr.plus ⟨b, o, some u⟩ (0 * 1)) = ⟨b, o, some u⟩ := by
        cases Nat.beq len 0 <;> rfl
      simp only [cutKnown, this, Nat.sub_zero]
    refine ⟨.slice (some ⟨b, o, some u⟩) len (2 * len + 1), fun t ht => ?_, .inr ⟨h0, b, o, u, by rw [hlen], h1⟩⟩
    rw [hlen] at hx h2 h3 h6
    rcases h6 with rfl | rfl
    · simp only [opA, ev_ok ht hx, Option.map_some, Option.map_none, ev_ok ht h2, ev_ok ht h3, oSlS, sliceA, loOf, hiOf, nat_of, Option.isSome_some, Option.isNone_some, Bool.and_false, cond_false, capOf_open _ (show 1 ≤ 1000 by decide), sliceTo]
      rw [cond_some (by simp [Nat.ble_eq])]
      simp only [cutOpenMax, hb0, cond_false, hk, asVal]
    · simp only [opA, ev_ok ht hx, Option.map_some, Option.map_none, ev_ok ht h2, ev_ok ht h3, oSlS, sliceA, loOf, hiOf, nat_of, Option.isSome_some, Option.isNone_some, Bool.and_false, cond_false, capOf_known, sliceTo]
      rw [cond_some (by simp [Nat.ble_eq])]
      simp only [hk, asVal]
theorem WR.clip {x hi mx : Operand} {v : Value} {cs : List Value} {kb kc : IntKind} (hg : gOK L gd) (hd : Nat.blt d nt = true) (hx : ev L x = some v) (hS : LstV M v cs) (h2 : ev L hi = some (.int kb (cs.length : Int))) (h3 : ev L mx = some (.int kc (cs.length : Int)))
    (k : ∀ v', ClipV M v' cs → WR C nt l ((d, v') :: L) D H K) : WR C nt (⟨i, some d, .slS x 1 none (some hi) (some mx), gd, lo⟩ :: l) L D H K := by
  obtain ⟨v', h4, h5⟩ := OpV.clip (C := C) (H := H) hx hS h2 h3
  exact WR.op hg hd h4 (k v' h5)
/-- Appended to a list that is full: a new row. -/
theorem OpV.appFull {e b2 : Nat} {s x : Operand} {v y : Value} {cs : List Value} (hH : hasH M n H) (hs : ev L s = some v) (hS : ClipV M v cs) (hx : ev L x = some (.slice (some ⟨b2, 0, some 0⟩) 1 (2 * 1 + 1))) (hm : (b2, .row e 0 0 [y]) ∈ M) (hone : cs.all one = true) (hy : one y = true) (hl : cs.length ≤ 1000) :
    ∃ H', OpV C (.append e 1 s x) L H (.slice (some ⟨n, 0, some 0⟩) (cs.length + 1) (2 * 1)) H' ∧ hasH ((n, .row e 0 0 (cs ++ [y])) :: M) (n + 1) H' := by
  have hone2 : (cs ++ [y]).all one = true := by rw [List.all_append, hone]; simp [hy]
  refine ⟨H.row e (cs ++ [y]), fun t ht => ?_, hH.row e hone2⟩
  have hr := hH.readN (b := b2) (u := 0) (lo := 0) (o := 0) (k := 1) hm (.row _ _ _ _) (Nat.le_refl _) (by simp)
  have hr2 : H.readN ⟨b2, 0, some 0⟩ 1 = some [y] := by simpa using hr
  have hsx : srcCells H 1 1 (.slice (some ⟨b2, 0, some 0⟩) 1 (2 * 1 + 1)) = some [y] := by simpa [srcCells] using hr
  have hsm : ∀ len, len ≤ 1000 → small 1 (len + 1) = true := fun len h => by simp only [small, Bool.and_eq_true]; exact ⟨⟨Nat.ble_eq_true_of_le (by omega), Nat.ble_eq_true_of_le (by omega)⟩, Nat.ble_eq_true_of_le (by omega)⟩
  rcases hS with ⟨rfl, rfl⟩ | ⟨h0, b, o, u, rfl, h1⟩
  · have := hsm 0 (by omega)
    simp only [opA, ev_ok ht hs, ev_ok ht hx, appendA, srcLen, hsx, appWith, capOf, appNew, newAddr, hH.next]
    have hs0 : srcCells H 1 0 (.slice none 0 0) = some [] := rfl
    simp only [hs0]
    have e1 : Nat.ble (0 + 1) 0 = false := rfl
    simp only [e1, cond_false, this, List.all_nil, List.all_cons, hy, Bool.and_self, cond_true, List.length_nil, List.length_singleton, List.nil_append, Nat.zero_add, Nat.mul_one]
    rfl
  · obtain ⟨len, hlen⟩ : ∃ len, cs.length = len := ⟨_, rfl⟩
    have hrd := h1.readN hH hlen
    have hsr : srcCells H 1 len (.slice (some ⟨b, o, some u⟩) len (2 * len + 1)) = some cs := by simpa [srcCells] using hrd
    have e1 : Nat.ble (len + 1) len = false := by
      cases hb : Nat.ble (len + 1) len with
      | false => rfl
      | true => have := Nat.le_of_ble_eq_true hb; omega
    have e2 : Nat.beq (cs.length + [y].length) ((len + 1) * 1) = true := by rw [hlen, Nat.mul_one]; exact Nat.beq_refl _
    have := hsm len (by omega)
    rw [hlen] at hs
    rw [hlen]
    simp only [opA, ev_ok ht hs, ev_ok ht hx, appendA, srcLen, hsx, appWith, capOf_known, e1, cond_false, hsr, appNew, this, hone, List.all_cons, List.all_nil, hy, Bool.and_self, e2, cond_true, newAddr, hH.next]
theorem ClipV.mono {v : Value} {cs : List Value} (h : ClipV M v cs) (k : ∀ q ∈ M, q ∈ M') : ClipV M' v cs := by
  rcases h with h | ⟨h0, b, o, u, h1, h2⟩
  · exact .inl h
  · exact .inr ⟨h0, b, o, u, h1, h2.mono k⟩
theorem WD.appFull {e b2 : Nat} {s x : Operand} {v y : Value} {cs : List Value} (hg : gOK L gd) (hd : Nat.blt d nt = true) (hH : hasH M n H) (hs : ev L s = some v) (hS : ClipV M v cs) (hx : ev L x = some (.slice (some ⟨b2, 0, some 0⟩) 1 (2 * 1 + 1))) (hm : (b2, .row e 0 0 [y]) ∈ M) (hone : cs.all one = true) (hy : one y = true) (hl : cs.length ≤ 1000)
    (kk : ∀ H', hasH ((n, .row e 0 0 (cs ++ [y])) :: M) (n + 1) H' → stands H' lo rs = true ∧ WD C nt l rs ((d, .slice (some ⟨n, 0, some 0⟩) (cs.length + 1) (2 * 1)) :: L) D H' K) : WD C nt (⟨i, some d, .append e 1 s x, gd, lo⟩ :: l) rs L D H K := by
  obtain ⟨H', h4, h5⟩ := OpV.appFull (C := C) hH hs hS hx hm hone hy hl
  obtain ⟨k1, k2⟩ := kk H' h5
  exact WD.op hg hd h4 rfl k1 k2
end
end Go.Abs
namespace Go.Proofs.Ytnmlfjohoeebiaa.Wk
open Go Go.Abs Go.Mth
set_option linter.unusedVariables false
set_option linter.unusedSimpArgs false
/-- The numbers of a set of stretches. -/
def ownB (T : List Int) (s : Nat) : Nat → List Int
  | 0 => []
  | k + 1 => if s.testBit k = true then ownB T s k ++ [T.getD k 0] else ownB T s k
def setO (l : List Nat) (g : Nat) : Nat → Nat
  | 0 => 0
  | k + 1 => if l.getD k 0 = g then setO l g k ||| 2 ^ k else setO l g k
theorem setO_lt (l : List Nat) (g : Nat) : ∀ k, setO l g k < 2 ^ k
  | 0 => by simp [setO]
  | k + 1 => by
    have h := setO_lt l g k
    have h2 : 2 ^ k < 2 ^ (k + 1) := Nat.pow_lt_pow_right (by omega) (by omega)
    simp only [setO]
    split
    · exact Nat.or_lt_two_pow (by omega) h2
    · omega
theorem setO_bit (l : List Nat) (g : Nat) : ∀ k s, (setO l g k).testBit s = (decide (s < k) && decide (l.getD s 0 = g))
  | 0, s => by simp [setO]
  | k + 1, s => by
    have ih := setO_bit l g k s
    simp only [setO]
    by_cases h : l.getD k 0 = g
    · rw [if_pos h, Nat.testBit_or, ih, Nat.testBit_two_pow]
      by_cases e : s = k
      · subst e; rw [decide_eq_true (Nat.lt_succ_self s), decide_eq_true h]; simp
      · have : decide (k = s) = false := decide_eq_false fun q => e q.symm
        rw [this, Bool.or_false]
        congr 1
        rw [decide_eq_decide]; omega
    · rw [if_neg h, ih]
      by_cases e : s = k
      · subst e; rw [decide_eq_false h]; simp
      · congr 1
        rw [decide_eq_decide]; omega
theorem ownB_set {T : List Int} {l : List Nat} {g m : Nat} : ∀ k, k ≤ m → ownB T (setO l g m) k = ownK T l g k
  | 0, _ => rfl
  | k + 1, hk => by
    simp only [ownB, ownK]
    rw [ownB_set k (by omega), setO_bit, decide_eq_true (show k < m by omega), Bool.true_and]
    by_cases h : l.getD k 0 = g
    · rw [if_pos (decide_eq_true h), if_pos h]
    · rw [if_neg (by simpa using h), if_neg h]
theorem ownB_len (T : List Int) (s : Nat) : ∀ k, (ownB T s k).length ≤ k
  | 0 => Nat.le_refl _
  | k + 1 => by
    have := ownB_len T s k
    simp only [ownB]; split <;> simp <;> omega
theorem ownB_mem {T : List Int} {s : Nat} : ∀ {k : Nat} {x : Int}, k ≤ T.length → x ∈ ownB T s k → x ∈ T
  | k + 1, x, hk, h => by
    simp only [ownB] at h
    split at h
    · rcases List.mem_append.1 h with h | h
      · exact ownB_mem (by omega) h
      · rw [List.mem_singleton] at h; rw [h]; exact getD_mem (by omega)
    · exact ownB_mem (by omega) h
theorem ownB_ok {T : List Int} (hT : TOK T) (s : Nat) {k : Nat} (hk : k ≤ T.length) : TOK (ownB T s k) := by
  have h1 := ownB_len T s k
  have h3 := hT.len
  exact tok_of (by omega) fun x hx => tok_mem hT x (ownB_mem hk hx)
noncomputable def everE (T : List Int) (s : Nat) : Bool := everB (ownB T s T.length) (startS (ownB T s T.length))
theorem everE_set {T : List Int} {l : List Nat} {g : Nat} : everE T (setO l g T.length) = goJ T l g := by
  unfold everE goJ
  rw [ownB_set _ (Nat.le_refl _)]
theorem ownB_none {T : List Int} : ∀ k, ownB T 0 k = []
  | 0 => rfl
  | k + 1 => by simp only [ownB]; rw [Nat.zero_testBit, if_neg (by simp), ownB_none k]
theorem everE_zero (T : List Int) : everE T 0 = false := by
  unfold everE
  rw [ownB_none]; exact ever_nil
theorem ownB_some {T : List Int} {s : Nat} (h1 : 1 ≤ s) {m : Nat} (h2 : s < 2 ^ m) (hm : m ≤ T.length) : 1 ≤ (ownB T s m).length := by
  refine Classical.byContradiction fun hn => ?_
  have key : ∀ k, k ≤ m → (ownB T s k).length ≤ (ownB T s m).length := by
    intro k hk
    obtain ⟨d, rfl⟩ := Nat.le.dest hk
    clear hm h2 hk hn
    induction d with
    | zero => exact Nat.le_refl _
    | succ d ih =>
      refine Nat.le_trans ih ?_
      show _ ≤ (ownB T s (k + d + 1)).length
      simp only [ownB]; split <;> simp
  have hz : s = 0 := Nat.eq_of_testBit_eq fun i => by
    rw [Nat.zero_testBit]
    rcases Nat.lt_or_ge i m with h | h
    · cases hb : s.testBit i with
      | false => rfl
      | true =>
        have := key (i + 1) (by omega)
        simp only [ownB, hb, if_true, List.length_append, List.length_singleton] at this
        omega
    · exact Nat.testBit_lt_two_pow (Nat.lt_of_lt_of_le h2 (Nat.pow_le_pow_right (by omega) h))
  omega
attribute [local irreducible] gOK WS WC WR WD Ends FS YS OpV seqK blockK loopK midK retK rdK asgK rangeEnd sat Cell
section
variable {M : HL} {n0 : Nat} {H : Heap} {v w : Value}
theorem Clip_fs (hH : hasH M n0 H) {cs : List Value} (hS : LstV M v cs) (hl : cs.length ≤ 1000) :
    FS C 47 [v] H (fun e H' => ClipV M e cs ∧ H' = H) := by
  have hs := hS.sl
  have hlen : ∃ a c, v = .slice a cs.length c := by
    rcases hS with ⟨rfl, rfl⟩ | ⟨h0, b, o, u, cap, rfl, h1, h6⟩
    · exact ⟨_, _, rfl⟩
    · exact ⟨_, _, rfl⟩
  obtain ⟨a, c, hv⟩ := hlen
  refine FS.intro (pf := pf47) rfl rfl rfl ?_
  repeat' (first | refine zP ?_ | refine zA ?_ | (refine zM ?_; intro _ _) | refine zX ?_ | (refine zC ?_; intro _ _ _ _) | (refine zS ?_; intro _ _) | (apply Ws <;> intro hg))
  refine WR.clip (by first | exact gN | exact gS rfl) rfl rfl hS rfl rfl fun v' h => ?_
  repeat' (first | refine zP ?_ | refine zA ?_ | (refine zM ?_; intro _ _) | refine zX ?_ | (refine zC ?_; intro _ _ _ _) | (refine zS ?_; intro _ _) | (apply Ws <;> intro hg))
  exact Ends.ret1 rfl ⟨h, rfl⟩
end
end Go.Proofs.Ytnmlfjohoeebiaa.Wk
