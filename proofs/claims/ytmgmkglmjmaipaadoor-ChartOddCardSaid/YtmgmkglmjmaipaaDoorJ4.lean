/- Texts of the law, joined. -/
import Derived.Test.YtmgmkglmjmaipaaDoorJ3
/- Rings of an odd number of points: mathematics. -/
namespace Go.Proofs.YtmgmkglmjmaipaaDoor.Ct
open Go Go.Abs Go.Mth
set_option linter.unusedVariables false
set_option linter.unusedSimpArgs false
/-- A walk from x by way of some points to y. -/
def WL (adj : Nat → Nat → Prop) : Nat → List Nat → Nat → Prop
  | x, [], y => adj x y
  | x, a :: A, y => adj x a ∧ WL adj a A y
theorem WL.split {adj : Nat → Nat → Prop} : ∀ {A : List Nat} {x b y : Nat} {B : List Nat}, WL adj x (A ++ b :: B) y ↔ WL adj x A b ∧ WL adj b B y
  | [], _, _, _, _ => Iff.rfl
  | a :: A, x, b, y, B => by
    show adj x a ∧ WL adj a (A ++ b :: B) y ↔ (adj x a ∧ WL adj a A b) ∧ WL adj b B y
    rw [WL.split, and_assoc]
theorem WL.snoc {adj : Nat → Nat → Prop} {A : List Nat} {x p y : Nat} : WL adj x (A ++ [p]) y ↔ WL adj x A p ∧ adj p y := WL.split
theorem WL.mono {adj adj2 : Nat → Nat → Prop} (h : ∀ p q, adj p q → adj2 p q) : ∀ {A : List Nat} {x y : Nat}, WL adj x A y → WL adj2 x A y
  | [], _, _, k => h _ _ k
  | _ :: _, _, _, k => ⟨h _ _ k.1, k.2.mono h⟩
theorem WL.mem {adj : Nat → Nat → Prop} {V : Nat} (h : ∀ p q, adj p q → p < V ∧ q < V) : ∀ {A : List Nat} {x y : Nat}, WL adj x A y → x < V ∧ y < V ∧ ∀ a ∈ A, a < V
  | [], _, _, k => ⟨(h _ _ k).1, (h _ _ k).2, fun a ha => by cases ha⟩
  | b :: A, x, y, k => by
    obtain ⟨h1, h2, h3⟩ := k.2.mem h
    refine ⟨(h _ _ k.1).1, h2, fun a ha => ?_⟩
    rcases List.mem_cons.1 ha with rfl | ha
    · exact h1
    · exact h3 a ha
theorem dup_of : ∀ {l : List Nat}, ¬ l.Nodup → ∃ b A1 A2 A3, l = A1 ++ b :: (A2 ++ b :: A3)
  | [], h => absurd List.nodup_nil h
  | a :: t, h => by
    by_cases ha : a ∈ t
    · obtain ⟨A2, A3, rfl⟩ := List.append_of_mem ha
      exact ⟨a, [], A2, A3, rfl⟩
    · obtain ⟨b, A1, A2, A3, rfl⟩ := dup_of (l := t) fun hn => h (List.nodup_cons.2 ⟨ha, hn⟩)
      exact ⟨b, a :: A1, A2, A3, rfl⟩
/-- A ring: all points of it differ. -/
def Rg (adj : Nat → Nat → Prop) (x : Nat) (A : List Nat) : Prop := WL adj x A x ∧ (x :: A).Nodup
theorem ring_ex {adj : Nat → Nat → Prop} : ∀ (m : Nat) {x : Nat} {A : List Nat}, A.length ≤ m → WL adj x A x → A.length % 2 = 0 → ∃ x' A', Rg adj x' A' ∧ A'.length ≤ A.length ∧ A'.length % 2 = 0
  | m, x, A, hm, hw, he => by
    by_cases hn : (x :: A).Nodup
    · exact ⟨x, A, ⟨hw, hn⟩, Nat.le_refl _, he⟩
    obtain ⟨b, A1, A2, A3, h⟩ := dup_of hn
    match A1, h with
    | [], h =>
      obtain ⟨rfl, hA⟩ := List.cons.inj h
      replace hA : A = A2 ++ x :: A3 := hA
      rw [hA] at hw
      obtain ⟨w1, w2⟩ := WL.split.1 hw
      have hAl : A.length = A2.length + (A3.length + 1) := by rw [hA, List.length_append, List.length_cons]
      match m, hm with
      | 0, hm => exfalso; omega
      | m + 1, hm =>
        by_cases e2 : A2.length % 2 = 0
        · obtain ⟨x', A', r1, r2, r3⟩ := ring_ex m (by omega) w1 e2
          exact ⟨x', A', r1, by omega, r3⟩
        · obtain ⟨x', A', r1, r2, r3⟩ := ring_ex m (by omega) w2 (by omega)
          exact ⟨x', A', r1, by omega, r3⟩
    | a :: A1, h =>
      obtain ⟨rfl, hA⟩ := List.cons.inj h
      replace hA : A = A1 ++ b :: (A2 ++ b :: A3) := hA
      rw [hA] at hw
      obtain ⟨w1, w23⟩ := WL.split.1 hw
      obtain ⟨w2, w3⟩ := WL.split.1 w23
      have hAl : A.length = A1.length + (A2.length + (A3.length + 1) + 1) := by rw [hA]; simp only [List.length_append, List.length_cons]
      match m, hm with
      | 0, hm => exfalso; omega
      | m + 1, hm =>
        by_cases e2 : A2.length % 2 = 0
        · obtain ⟨x', A', r1, r2, r3⟩ := ring_ex m (by omega) w2 e2
          exact ⟨x', A', r1, by omega, r3⟩
        · obtain ⟨x', A', r1, r2, r3⟩ := ring_ex m (x := x) (A := A1 ++ b :: A3) (by simp only [List.length_append, List.length_cons]; omega) (WL.split.2 ⟨w1, w3⟩) (by simp only [List.length_append, List.length_cons]; omega)
          simp only [List.length_append, List.length_cons] at r2
          exact ⟨x', A', r1, by omega, r3⟩
theorem Rg.len {adj : Nat → Nat → Prop} {V x : Nat} {A : List Nat} (hV : ∀ p q, adj p q → p < V ∧ q < V) (h : Rg adj x A) : A.length + 1 ≤ V := by
  obtain ⟨h1, h2, h3⟩ := h.1.mem hV
  exact nodup_le V (x :: A) h.2 fun y hy => by
    rcases List.mem_cons.1 hy with rfl | hy
    · exact h1
    · exact h3 y hy
theorem Rg.rot {adj : Nat → Nat → Prop} {x p : Nat} {A B : List Nat} (h : Rg adj x (A ++ p :: B)) : Rg adj p (B ++ x :: A) := by
  obtain ⟨w1, w2⟩ := WL.split.1 h.1
  refine ⟨WL.split.2 ⟨w2, w1⟩, ?_⟩
  have : (p :: (B ++ x :: A)).Perm (x :: (A ++ p :: B)) := by
    have := List.perm_append_comm (l₁ := p :: B) (l₂ := x :: A)
    simpa using this
  exact this.nodup_iff.2 h.2
/-- A walk by numbers of steps. -/
def wlk (adj : Nat → Nat → Prop) (x : Nat) : Nat → Nat → Prop
  | 0, q => q = x
  | s + 1, q => ∃ p, wlk adj x s p ∧ adj p q
theorem wlk_iff {adj : Nat → Nat → Prop} {x : Nat} : ∀ {s y : Nat}, wlk adj x (s + 1) y ↔ ∃ A : List Nat, A.length = s ∧ WL adj x A y
  | 0, y => by
    constructor
    · rintro ⟨p, rfl, h⟩; exact ⟨[], rfl, h⟩
    · rintro ⟨A, hA, h⟩
      obtain rfl := List.length_eq_zero_iff.1 hA
      exact ⟨x, rfl, h⟩
  | s + 1, y => by
    constructor
    · rintro ⟨p, h1, h2⟩
      obtain ⟨A, hA, hw⟩ := wlk_iff.1 h1
      exact ⟨A ++ [p], by simp [hA], WL.snoc.2 ⟨hw, h2⟩⟩
    · rintro ⟨A, hA, h⟩
      rcases List.eq_nil_or_concat A with rfl | ⟨A, p, rfl⟩
      · cases hA
      · rw [List.concat_eq_append] at h hA
        obtain ⟨h1, h2⟩ := WL.snoc.1 h
        exact ⟨p, wlk_iff.2 ⟨A, by simpa using hA, h1⟩, h2⟩
/-- Two points of a line. -/
def adjP (pt : Nat → Nat) (N p q : Nat) : Prop := ∃ e, e < N ∧ pt e = p ∧ pt (oth e) = q
theorem adjP.symm {pt : Nat → Nat} {N p q : Nat} (he : N % 2 = 0) (h : adjP pt N p q) : adjP pt N q p := by
  obtain ⟨e, h1, h2, h3⟩ := h
  have := oth_lt (L := N / 2) (e := e) (by omega)
  exact ⟨oth e, by omega, h3, by rw [oth_oth]; exact h2⟩
theorem adjP.line {pt : Nat → Nat} {L p q : Nat} (h : adjP pt (2 * L) p q) : ∃ k, k < L ∧ ((p = pt (2 * k) ∧ q = pt (2 * k + 1)) ∨ (q = pt (2 * k) ∧ p = pt (2 * k + 1))) := by
  obtain ⟨e, h1, rfl, rfl⟩ := h
  refine ⟨e / 2, by omega, ?_⟩
  unfold oth
  split
  · exact .inl ⟨by congr 1; omega, by congr 1; omega⟩
  · exact .inr ⟨by congr 1; omega, by congr 1; omega⟩
theorem walk_col {adj : Nat → Nat → Prop} {c : Nat → Nat} (h : ∀ p q, adj p q → c p < 2 ∧ c q < 2 ∧ c p ≠ c q) : ∀ {A : List Nat} {x y : Nat}, WL adj x A y → (c x + A.length + 1 + c y) % 2 = 0
  | [], x, y, k => by
    have := h _ _ k
    simp only [List.length_nil]; omega
  | a :: A, x, y, k => by
    have := h _ _ k.1
    have := walk_col h k.2
    simp only [List.length_cons]; omega
/-- Two colours are not enough for a walk around of an odd number of lines. -/
theorem cols_even {pt : Nat → Nat} {L V f : Nat} {l : List Nat} (hpt : ∀ e, e < 2 * L → pt e < V) (hc : colsOK pt L V f l) (hf : f ≤ 2) {x : Nat} {A : List Nat} (hw : WL (adjP pt (2 * L)) x A x) : A.length % 2 = 1 := by
  have := walk_col (adj := adjP pt (2 * L)) (c := fun p => l.getD p 0) (fun p q h => by
    obtain ⟨k, hk, h⟩ := h.line
    have h1 := hpt (2 * k) (by omega)
    have h2 := hpt (2 * k + 1) (by omega)
    have g1 := hc.2.1 (l.getD (pt (2 * k)) 0) (getD_mem (by rw [hc.1]; exact h1))
    have g2 := hc.2.1 (l.getD (pt (2 * k + 1)) 0) (getD_mem (by rw [hc.1]; exact h2))
    have g3 := hc.2.2 k hk
    rcases h with ⟨rfl, rfl⟩ | ⟨rfl, rfl⟩ <;> omega) hw
  omega
theorem conn_walk {pt : Nat → Nat} {p q : Nat} : ∀ {k : Nat}, conn pt k p q → p = q ∨ ∃ A, WL (adjP pt (2 * k)) p A q := by
  intro k
  induction k generalizing p q with
  | zero => intro h; exact .inl h
  | succ k ih =>
    have up : ∀ {a b A}, WL (adjP pt (2 * k)) a A b → WL (adjP pt (2 * (k + 1))) a A b := fun h => h.mono fun p q ⟨e, h1, h2⟩ => ⟨e, by omega, h2⟩
    have ih' : ∀ {a b}, conn pt k a b → a = b ∨ ∃ A, WL (adjP pt (2 * (k + 1))) a A b := fun h => (ih h).imp id fun ⟨A, h⟩ => ⟨A, up h⟩
    have glue : ∀ {p a b q}, adjP pt (2 * (k + 1)) a b → conn pt k p a → conn pt k b q → ∃ A, WL (adjP pt (2 * (k + 1))) p A q := by
      intro p a b q hab h1 h2
      have h3 : ∃ A, WL (adjP pt (2 * (k + 1))) p A b := by
        rcases ih' h1 with rfl | ⟨A, hA⟩
        · exact ⟨[], hab⟩
        · exact ⟨A ++ [a], WL.snoc.2 ⟨hA, hab⟩⟩
      obtain ⟨A, hA⟩ := h3
      rcases ih' h2 with rfl | ⟨B, hB⟩
      · exact ⟨A, hA⟩
      · exact ⟨A ++ b :: B, WL.split.2 ⟨hA, hB⟩⟩
    rintro (h | ⟨h1, h2⟩ | ⟨h1, h2⟩)
    · exact ih' h
    · exact .inr (glue ⟨2 * k, by omega, rfl, by rw [oth_even]⟩ h1 h2)
    · exact .inr (glue ⟨2 * k + 1, by omega, rfl, by rw [oth_odd]⟩ h1 h2)
open Classical in
theorem two_cols {pt : Nat → Nat} {L : Nat} (hno : ∀ x A, WL (adjP pt (2 * L)) x A x → A.length % 2 = 1) : ∀ k, k ≤ L → ∃ c : Nat → Nat, (∀ p, c p < 2) ∧ ∀ j, j < k → c (pt (2 * j)) ≠ c (pt (2 * j + 1)) := by
  intro k
  induction k with
  | zero => exact fun _ => ⟨fun _ => 0, fun _ => Nat.zero_lt_two, fun j h => absurd h (Nat.not_lt_zero _)⟩
  | succ k ih =>
    intro hk
    obtain ⟨c, h1, h2⟩ := ih (by omega)
    by_cases e : c (pt (2 * k)) = c (pt (2 * k + 1))
    · have hn : ¬ conn pt k (pt (2 * k + 1)) (pt (2 * k)) := by
        intro hc
        have hl : adjP pt (2 * L) (pt (2 * k)) (pt (2 * k + 1)) := ⟨2 * k, by omega, rfl, by rw [oth_even]⟩
        rcases conn_walk hc with h | ⟨A, hA⟩
        · have := hno (pt (2 * k)) [] (by rw [h] at hl; exact hl)
          simp at this
        · have hp := walk_col (adj := adjP pt (2 * k)) (c := c) (fun p q h => by
            obtain ⟨j, hj, h⟩ := h.line
            have g3 := h2 j hj
            rcases h with ⟨rfl, rfl⟩ | ⟨rfl, rfl⟩
            · exact ⟨h1 _, h1 _, g3⟩
            · exact ⟨h1 _, h1 _, g3.symm⟩) hA
          have := hno (pt (2 * k)) (pt (2 * k + 1) :: A) ⟨hl, hA.mono fun p q ⟨e, g1, g2⟩ => ⟨e, by omega, g2⟩⟩
          simp only [List.length_cons] at this
          have := h1 (pt (2 * k))
          omega
      refine ⟨fun p => if conn pt k (pt (2 * k)) p then 1 - c p else c p, fun p => ?_, fun j hj => ?_⟩
      · have := h1 p
        simp only; split <;> omega
      · by_cases ej : j = k
        · subst ej
          simp only
          rw [if_pos (conn_refl _ _ _), if_neg (fun h => hn (conn_symm h))]
          have := h1 (pt (2 * j))
          omega
        · have hj' : j < k := by omega
          have h3 := h2 j hj'
          have h4 := h1 (pt (2 * j))
          have h5 := h1 (pt (2 * j + 1))
          have h6 : conn pt k (pt (2 * j)) (pt (2 * j + 1)) := conn_up (show j + 1 ≤ k by omega) (conn_line j)
          simp only
          by_cases g : conn pt k (pt (2 * k)) (pt (2 * j))
          · rw [if_pos g, if_pos (conn_trans g h6)]; omega
          · rw [if_neg g, if_neg (fun q => g (conn_trans q (conn_symm h6)))]; exact h3
    · refine ⟨c, h1, fun j hj => ?_⟩
      by_cases ej : j = k
      · subst ej; exact e
      · exact h2 j (by omega)
theorem two_ok {pt : Nat → Nat} {L V : Nat} (hpt : ∀ e, e < 2 * L → pt e < V) (hno : ∀ x A, WL (adjP pt (2 * L)) x A x → A.length % 2 = 1) : ∃ l, colsOK pt L V 2 l := by
  obtain ⟨c, h1, h2⟩ := two_cols hno L (Nat.le_refl _)
  refine ⟨(List.range V).map c, by simp, fun x hx => ?_, fun k hk => ?_⟩
  · obtain ⟨p, _, rfl⟩ := List.mem_map.1 hx; exact h1 p
  · have g1 := hpt (2 * k) (by omega)
    have g2 := hpt (2 * k + 1) (by omega)
    rw [map_getD (a := 0) (by simpa using g1), map_getD (a := 0) (by simpa using g2), getD_eq (by simpa using g1), getD_eq (by simpa using g2), List.getElem_range, List.getElem_range]
    exact h2 k hk
end Go.Proofs.YtmgmkglmjmaipaaDoor.Ct

/- Index, Contains, joined, goesOn. -/
namespace Go.Proofs.YtmgmkglmjmaipaaDoor.Ct
open Go Go.Abs Go.Mth
set_option linter.unusedVariables false
set_option linter.unusedSimpArgs false
def adjB (A : List Nat) (N p q : Nat) : Bool := (List.range N).any fun e => decide (A.getD e 0 = p) && decide (A.getD (oth e) 0 = q)
theorem adjB_iff {A : List Nat} {N p q : Nat} : adjB A N p q = true ↔ adjP (fun e => A.getD e 0) N p q := by
  simp [adjB, adjP]
def goB (A : List Nat) (N : Nat) (l : List Nat) : Bool := decide (l.length = 1) || (adjB A N (l.getD (l.length - 2) 0) (l.getD (l.length - 1) 0) && !decide (l.getD (l.length - 1) 0 ∈ l.take (l.length - 1)))
def fitO (A : List Nat) (N n : Nat) (l : List Nat) : Bool := goB A N l && (decide (l.length < n) || adjB A N (l.getD (n - 1) 0) (l.getD 0 0))
theorem nodup_take {l : List Nat} : l.Nodup ↔ ∀ j, j < l.length → l.getD j 0 ∉ l.take j := by
  constructor
  · intro h j hj hm
    obtain ⟨i, hi, he⟩ := List.mem_iff_getElem.1 hm
    rw [List.getElem_take] at he
    rw [List.length_take] at hi
    rw [getD_eq hj] at he
    exact (List.pairwise_iff_getElem.1 h) i j (by omega) hj (by omega) he
  · intro h
    refine List.pairwise_iff_getElem.2 fun i j hi hj hij he => h j hj ?_
    rw [getD_eq hj, ← he]
    exact List.mem_iff_getElem.2 ⟨i, by simp; omega, by rw [List.getElem_take]⟩
theorem WL_get {adj : Nat → Nat → Prop} : ∀ {A : List Nat} {x y : Nat}, WL adj x A y ↔ (∀ j, j < A.length → adj ((x :: A).getD j 0) ((x :: A).getD (j + 1) 0)) ∧ adj ((x :: A).getD A.length 0) y
  | [], x, y => ⟨fun h => ⟨fun j hj => absurd hj (Nat.not_lt_zero _), h⟩, fun h => h.2⟩
  | a :: A, x, y => by
    show adj x a ∧ WL adj a A y ↔ _
    rw [WL_get]
    constructor
    · rintro ⟨h1, h2, h3⟩
      refine ⟨fun j hj => ?_, h3⟩
      cases j with
      | zero => exact h1
      | succ j => exact h2 j (by simpa using hj)
    · rintro ⟨h1, h2⟩
      exact ⟨h1 0 (by simp), fun j hj => h1 (j + 1) (by simpa using hj), h2⟩
theorem fit_ring {A : List Nat} {N n V x : Nat} {B : List Nat} (hV : ∀ p q, adjP (fun e => A.getD e 0) N p q → p < V ∧ q < V) (hl : B.length + 1 = n) : okP (fitO A N n) V (x :: B) ↔ Rg (adjP (fun e => A.getD e 0) N) x B := by
  have hlen : (x :: B).length = n := by simpa using hl
  constructor
  · intro h
    have hg : ∀ j, j < n → goB A N ((x :: B).take (j + 1)) = true := fun j hj => by
      have := (h j (by omega)).2
      unfold fitO at this
      rw [Bool.and_eq_true] at this
      exact this.1
    have hg2 : ∀ j, 0 < j → j < n → adjP (fun e => A.getD e 0) N ((x :: B).getD (j - 1) 0) ((x :: B).getD j 0) ∧ (x :: B).getD j 0 ∉ (x :: B).take j := fun j h0 hj => by
      have := hg j hj
      unfold goB at this
      have e1 : ((x :: B).take (j + 1)).length = j + 1 := by rw [List.length_take]; omega
      rw [e1, decide_eq_false (by omega), Bool.false_or, Bool.and_eq_true, adjB_iff, getD_take (by omega), getD_take (by omega), List.take_take, Bool.not_eq_true', decide_eq_false_iff_not, show min (j + 1 - 1) (j + 1) = j by omega, show j + 1 - 2 = j - 1 by omega, show j + 1 - 1 = j by omega] at this
      exact this
    refine ⟨WL_get.2 ⟨fun j hj => (hg2 (j + 1) (by omega) (by omega)).1, ?_⟩, nodup_take.2 fun j hj => ?_⟩
    · have := (h (n - 1) (by omega)).2
      rw [show n - 1 + 1 = n by omega, ← hlen, List.take_length] at this
      unfold fitO at this
      rw [Bool.and_eq_true, decide_eq_false (by omega), Bool.false_or, adjB_iff] at this
      have h2 := this.2
      rw [hlen, show n - 1 = B.length by omega] at h2
      exact h2
    · cases j with
      | zero => simp
      | succ j => exact (hg2 (j + 1) (by omega) (by omega)).2
  · rintro ⟨hw, hn⟩ j hj
    obtain ⟨g1, g2, g3⟩ := hw.mem hV
    obtain ⟨w1, w2⟩ := WL_get.1 hw
    refine ⟨?_, ?_⟩
    · rcases List.mem_cons.1 (getD_mem (a := 0) hj) with e | e
      · rw [e]; exact g1
      · exact g3 _ e
    · have e1 : ((x :: B).take (j + 1)).length = j + 1 := by rw [List.length_take]; omega
      unfold fitO goB
      rw [e1, Bool.and_eq_true]
      constructor
      · by_cases h0 : j = 0
        · subst h0; rfl
        · have hz := w1 (j - 1) (by omega)
          rw [show j - 1 + 1 = j by omega] at hz
          rw [decide_eq_false (by omega), Bool.false_or, Bool.and_eq_true, adjB_iff, getD_take (by omega), getD_take (by omega), List.take_take, Bool.not_eq_true', decide_eq_false_iff_not, show min (j + 1 - 1) (j + 1) = j by omega, show j + 1 - 2 = j - 1 by omega, show j + 1 - 1 = j by omega]
          exact ⟨hz, nodup_take.1 hn j hj⟩
      · by_cases h0 : j + 1 < n
        · rw [decide_eq_true h0, Bool.true_or]
        · rw [decide_eq_false h0, Bool.false_or, adjB_iff, show j + 1 = (x :: B).length by omega, List.take_length, show n - 1 = B.length by omega]
          exact w2
theorem adjP.lt {A : List Nat} {L V : Nat} (hpt : ∀ e, e < 2 * L → A.getD e 0 < V) : ∀ p q, adjP (fun e => A.getD e 0) (2 * L) p q → p < V ∧ q < V := by
  rintro p q ⟨e, h1, rfl, rfl⟩
  exact ⟨hpt e h1, hpt _ (oth_lt h1)⟩
attribute [local irreducible] gOK WS WC WR WD Ends FS YS OpV seqK blockK loopK midK retK rdK asgK rangeEnd sat Cell
section
variable {M : HL} {n0 : Nat} {H : Heap} {v w : Value}
theorem Index_fs (hH : hasH M n0 H) {xs : List Nat} (hS : Sl M 1 v (nodes xs)) (hx : xs.length ≤ 100000) (a : Nat) :
    FS C 90 [v, .int .i64 (a : Int)] H (fun e H' => H' = H ∧ ((∃ k, k < xs.length ∧ xs.getD k 0 = a ∧ (∀ j, j < k → xs.getD j 0 ≠ a) ∧ e = .int .i64 (k : Int)) ∨ (a ∉ xs ∧ e = .int .i64 (-1)))) := by
  refine FS.intro (pf := pf90) rfl rfl rfl ?_
  repeat' (first | refine zP ?_ | refine zA ?_ | (refine zM ?_; intro _ _) | refine zX ?_ | (refine zC ?_; intro _ _ _ _) | (refine zS ?_; intro _ _) | (apply Ws <;> intro hg))
  refine WC.loopX [(0, _), (1, _), (6, _), (7, _)] (fun k : Nat => [(8, .int .i64 (k : Int))]) [] (fun k H' => H' = H ∧ k ≤ xs.length ∧ ∀ j, j < k → xs.getD j 0 ≠ a) (fun k => xs.length - k) 0 (by repeat' (first | exact .nil | refine .cons rfl ?_)) rfl ⟨rfl, Nat.zero_le _, fun j h => absurd h (Nat.not_lt_zero _)⟩ ?_
  rintro k H' ⟨rfl, hk, hno⟩
  dsimp only [List.cons_append, List.nil_append]
  repeat' (first | refine zP ?_ | refine zA ?_ | (refine zM ?_; intro _ _) | refine zX ?_ | (refine zC ?_; intro _ _ _ _) | (refine zS ?_; intro _ _) | (apply Ws <;> intro hg))
  refine WC.condP rfl (fun hlt => ?_) (fun hlt => ?_)
  · have hk' : k < xs.length := by omega
    repeat' (first | refine zP ?_ | refine zA ?_ | (refine zM ?_; intro _ _) | refine zX ?_ | (refine zC ?_; intro _ _ _ _) | (refine zS ?_; intro _ _) | (apply Ws <;> intro hg))
    refine WC.condP rfl (fun h => ?_) (fun h => ?_)
    · repeat' (first | refine zP ?_ | refine zA ?_ | (refine zM ?_; intro _ _) | refine zX ?_ | (refine zC ?_; intro _ _ _ _) | (refine zS ?_; intro _ _) | (apply Ws <;> intro hg))
      exact Ends.ret1 rfl ⟨rfl, .inl ⟨k, hk', by omega, hno, rfl⟩⟩
    · repeat' (first | refine zP ?_ | refine zA ?_ | (refine zM ?_; intro _ _) | refine zX ?_ | (refine zC ?_; intro _ _ _ _) | (refine zS ?_; intro _ _) | (apply Ws <;> intro hg))
      refine Ends.loop (k + 1) (by omega) (by repeat' (first | exact .nil | refine .cons rfl ?_)) rfl ⟨rfl, hk', fun j hj => ?_⟩
      rcases Nat.lt_or_ge j k with h2 | h2
      · exact hno j h2
      · have : j = k := by omega
        subst this
        omega
  · repeat' (first | refine zP ?_ | refine zA ?_ | (refine zM ?_; intro _ _) | refine zX ?_ | (refine zC ?_; intro _ _ _ _) | (refine zS ?_; intro _ _) | (apply Ws <;> intro hg))
    refine Ends.ret1 rfl ⟨rfl, .inr ⟨fun hm => ?_, rfl⟩⟩
    obtain ⟨j, hj, he⟩ := List.mem_iff_getElem.1 hm
    exact hno j (by omega) (by rw [getD_eq hj]; exact he)
theorem Contains_fs (hH : hasH M n0 H) {xs : List Nat} (hS : Sl M 1 v (nodes xs)) (hx : xs.length ≤ 100000) (a : Nat) :
    FS C 56 [v, .int .i64 (a : Int)] H (fun e H' => H' = H ∧ e = .bool (decide (a ∈ xs))) := by
  refine FS.intro (pf := pf56) rfl rfl rfl ?_
  repeat' (first | refine zP ?_ | refine zA ?_ | (refine zM ?_; intro _ _) | refine zX ?_ | (refine zC ?_; intro _ _ _ _) | (refine zS ?_; intro _ _) | (apply Ws <;> intro hg))
  refine WR.call (by first | exact gN | exact gS rfl) rfl rfl (Index_fs hH hS hx a) ?_
  rintro _ _ ⟨rfl, ⟨k, hk, he, _, rfl⟩ | ⟨hn, rfl⟩⟩
  · repeat' (first | refine zP ?_ | refine zA ?_ | (refine zM ?_; intro _ _) | refine zX ?_ | (refine zC ?_; intro _ _ _ _) | (refine zS ?_; intro _ _) | (apply Ws <;> intro hg))
    refine Ends.ret1 rfl ⟨rfl, ?_⟩
    have hm : a ∈ xs := by rw [← he]; exact getD_mem hk
    rw [decide_eq_true hm, decide_eq_true (by omega)]
  · repeat' (first | refine zP ?_ | refine zA ?_ | (refine zM ?_; intro _ _) | refine zX ?_ | (refine zC ?_; intro _ _ _ _) | (refine zS ?_; intro _ _) | (apply Ws <;> intro hg))
    refine Ends.ret1 rfl ⟨rfl, ?_⟩
    rw [decide_eq_false hn, decide_eq_false (by omega)]
set_option maxHeartbeats 2000000 in
theorem joined_fs (hH : hasH M n0 H) {V N : Nat} {A F B : List Nat} (hA : A.length = 16) (hF : F.length = 16) (hB : B.length = 16) (hN : N ≤ 16) (hE : N % 2 = 0) (p q : Nat) :
    FS C 103 [.agg (nodes (dw V N A F B)).toArray, .int .i64 (p : Int), .int .i64 (q : Int)] H (fun e H' => ∃ n', n0 ≤ n' ∧ hasH M n' H' ∧ e = .bool (adjB A N p q)) := by
  have hd1 := nodes_one' (dw V N A F B)
  have hdl := dw_len (V := V) (c := N) hA hF hB
  have hN1 : (dw V N A F B).getD 1 0 = N := rfl
  refine FS.intro (pf := pf103) rfl rfl rfl ?_
  repeat' (first | refine zP ?_ | refine zA ?_ | (refine zM ?_; intro _ _) | refine zX ?_ | (refine zC ?_; intro _ _ _ _) | (refine zS ?_; intro _ _) | (apply Ws <;> intro hg))
  rename_i H1 hH1
  have hf : ∀ k, k < N → ¬ (A.getD k 0 = p ∧ A.getD (oth k) 0 = q) → ∀ z : Bool, True := fun _ _ _ _ => trivial
  clear hf
  refine WC.loopX [(1, _), (2, _), (3, _), (9, .int .i64 (N : Int))] (fun k : Nat => [(10, .int .i64 (k : Int))]) []
    (fun k H' => k ≤ N ∧ (∀ j, j < k → ¬ (A.getD j 0 = p ∧ A.getD (oth j) 0 = q)) ∧ H' = H1) (fun k => N - k) 0 (by repeat' (first | exact .nil | refine .cons rfl ?_)) rfl
    ⟨Nat.zero_le _, fun j h => absurd h (Nat.not_lt_zero _), rfl⟩ ?_
  rintro k _ ⟨hk, hno, rfl⟩
  dsimp only [List.cons_append, List.nil_append]
  repeat' (first | refine zP ?_ | refine zA ?_ | (refine zM ?_; intro _ _) | refine zX ?_ | (refine zC ?_; intro _ _ _ _) | (refine zS ?_; intro _ _) | (apply Ws <;> intro hg))
  refine WC.condP rfl (fun hlt => ?_) (fun hlt => ?_)
  · have hk' : k < N := by omega
    have ho : oth k < 16 := by unfold oth; split <;> omega
    have hg1 := dw_getA (V := V) (c := N) (F := F) (B := B) (show k < A.length by omega)
    have hg2 := dw_getA (V := V) (c := N) (F := F) (B := B) (show oth k < A.length by omega)
    have hno2 : ¬ (A.getD k 0 = p ∧ A.getD (oth k) 0 = q) → ∀ j, j < k + 1 → ¬ (A.getD j 0 = p ∧ A.getD (oth j) 0 = q) := fun h j hj => by
      by_cases e : j = k
      · subst e; exact h
      · exact hno j (by omega)
    repeat' (first | refine zP ?_ | refine zA ?_ | (refine zM ?_; intro _ _) | refine zX ?_ | (refine zC ?_; intro _ _ _ _) | (refine zS ?_; intro _ _) | (apply Ws <;> intro hg))
    · rename_i hg
      rw [hg1] at hg
      refine WR.op (by first | exact gN | exact gS rfl) rfl (OpV.idxG rfl rfl (by omega)) ?_
      refine WR.op (by first | exact gN | exact gS rfl) rfl (OpV.loadG rfl (gread_oth (by omega))) ?_
      repeat' (first | refine zP ?_ | refine zA ?_ | (refine zM ?_; intro _ _) | refine zX ?_ | (refine zC ?_; intro _ _ _ _) | (refine zS ?_; intro _ _) | (apply Ws <;> intro hg))
      rw [hg2]
      refine WC.condP rfl (fun heq => ?_) (fun heq => ?_)
      · repeat' (first | refine zP ?_ | refine zA ?_ | (refine zM ?_; intro _ _) | refine zX ?_ | (refine zC ?_; intro _ _ _ _) | (refine zS ?_; intro _ _) | (apply Ws <;> intro hg))
        refine Ends.ret1 rfl ⟨n0 + 1, by omega, hH1.tail, ?_⟩
        have : adjB A N p q = true := adjB_iff.2 ⟨k, hk', by show A.getD k 0 = p; omega, by show A.getD (oth k) 0 = q; omega⟩
        rw [this]
      · repeat' (first | refine zP ?_ | refine zA ?_ | (refine zM ?_; intro _ _) | refine zX ?_ | (refine zC ?_; intro _ _ _ _) | (refine zS ?_; intro _ _) | (apply Ws <;> intro hg))
        exact Ends.loop (k + 1) (by omega) (by repeat' (first | exact .nil | refine .cons rfl ?_)) rfl ⟨hk', hno2 fun h => heq (by omega), rfl⟩
    · rename_i hg
      rw [hg1] at hg
      exact Ends.loop (k + 1) (by omega) (by repeat' (first | exact .nil | refine .cons rfl ?_)) rfl ⟨hk', hno2 fun h => hg (by omega), rfl⟩
  · have hkN : k = N := by omega
    subst hkN
    repeat' (first | refine zP ?_ | refine zA ?_ | (refine zM ?_; intro _ _) | refine zX ?_ | (refine zC ?_; intro _ _ _ _) | (refine zS ?_; intro _ _) | (apply Ws <;> intro hg))
    refine Ends.ret1 rfl ⟨n0 + 1, by omega, hH1.tail, ?_⟩
    have : adjB A k p q = false := by
      cases hq : adjB A k p q with
      | false => rfl
      | true =>
        obtain ⟨e, h1, h2, h3⟩ := adjB_iff.1 hq
        exact absurd ⟨h2, h3⟩ (hno e h1)
    rw [this]
set_option maxHeartbeats 2000000 in
theorem goesOn_fs (hH : hasH M n0 H) {V N : Nat} {A F B : List Nat} (hA : A.length = 16) (hF : F.length = 16) (hB : B.length = 16) (hN : N ≤ 16) (hE : N % 2 = 0) {l : List Nat} (hS : Sl M 1 v (nodes l)) (h0 : 0 < l.length) (hl : l.length ≤ 1000) :
    FS C 102 [.agg (nodes (dw V N A F B)).toArray, v] H (fun e H' => ∃ n', n0 ≤ n' ∧ hasH M n' H' ∧ e = .bool (goB A N l)) := by
  have hd1 := nodes_one' (dw V N A F B)
  have hdl := dw_len (V := V) (c := N) hA hF hB
  refine FS.intro (pf := pf102) rfl rfl rfl ?_
  repeat' (first | refine zP ?_ | refine zA ?_ | (refine zM ?_; intro _ _) | refine zX ?_ | (refine zC ?_; intro _ _ _ _) | (refine zS ?_; intro _ _) | (apply Ws <;> intro hg))
  rename_i H1 hH1
  refine WC.condP rfl (fun h1 => ?_) (fun h1 => ?_)
  · repeat' (first | refine zP ?_ | refine zA ?_ | (refine zM ?_; intro _ _) | refine zX ?_ | (refine zC ?_; intro _ _ _ _) | (refine zS ?_; intro _ _) | (apply Ws <;> intro hg))
    refine Ends.ret1 rfl ⟨n0 + 1, by omega, hH1.tail, ?_⟩
    unfold goB
    rw [decide_eq_true (by omega), Bool.true_or]
  · have hl2 : 2 ≤ l.length := by omega
    rw [show (l.length : Int) - 1 = ((l.length - 1 : Nat) : Int) by omega]
    repeat' (first | refine zP ?_ | refine zA ?_ | (refine zM ?_; intro _ _) | refine zX ?_ | (refine zC ?_; intro _ _ _ _) | (refine zS ?_; intro _ _) | (apply Ws <;> intro hg))
    refine WR.op (by first | exact gN | exact gS rfl) rfl (OpV.loadAll rfl hH1 (.head _) (.row _ _ _ _) (by simp [hdl])) ?_
    rw [show ((l.length - 1 : Nat) : Int) = ((l.length - 2 : Nat) : Int) + 1 by omega]
    repeat' (first | refine zP ?_ | refine zA ?_ | (refine zM ?_; intro _ _) | refine zX ?_ | (refine zC ?_; intro _ _ _ _) | (refine zS ?_; intro _ _) | (apply Ws <;> intro hg))
    refine WR.call (by first | exact gN | exact gS rfl) rfl rfl (joined_fs hH1 hA hF hB hN hE _ _) ?_
    rintro _ H2 ⟨n2, hn2, hH2, rfl⟩
    clear hH hH1
    have hj : adjB A N (l.getD (l.length - 2) 0) (l.getD (l.length - 1) 0) = adjB A N (l.getD (l.length - 2) 0) (l.getD (l.length - 2 + 1) 0) := by rw [show l.length - 1 = l.length - 2 + 1 by omega]
    rw [show (((l.length - 2 : Nat) : Int) + 1 - 1).toNat = l.length - 2 by omega, show (((l.length - 2 : Nat) : Int) + 1).toNat = l.length - 2 + 1 by omega]
    cases hb : adjB A N (l.getD (l.length - 2) 0) (l.getD (l.length - 2 + 1) 0) with
    | false =>
      repeat' (first | refine zP ?_ | refine zA ?_ | (refine zM ?_; intro _ _) | refine zX ?_ | (refine zC ?_; intro _ _ _ _) | (refine zS ?_; intro _ _) | (apply Ws <;> intro hg))
      refine Ends.ret1 rfl ⟨n2, by omega, hH2.tail, ?_⟩
      unfold goB
      rw [hj, hb, decide_eq_false (by omega)]
      rfl
    | true =>
      rw [show ((l.length - 2 : Nat) : Int) + 1 = ((l.length - 1 : Nat) : Int) by omega]
      repeat' (first | refine zP ?_ | refine zA ?_ | (refine zM ?_; intro _ _) | refine zX ?_ | (refine zC ?_; intro _ _ _ _) | (refine zS ?_; intro _ _) | (apply Ws <;> intro hg))
      refine WR.cutHiN (m := l.length - 1) (by first | exact gN | exact gS rfl) rfl rfl hS rfl (by omega) fun s hs => ?_
      repeat' (first | refine zP ?_ | refine zA ?_ | (refine zM ?_; intro _ _) | refine zX ?_ | (refine zC ?_; intro _ _ _ _) | (refine zS ?_; intro _ _) | (apply Ws <;> intro hg))
      refine WR.call (by first | exact gN | exact gS rfl) rfl rfl (Contains_fs hH2 hs.cons (by rw [List.length_take]; omega) _) ?_
      rintro _ _ ⟨rfl, rfl⟩
      repeat' (first | refine zP ?_ | refine zA ?_ | (refine zM ?_; intro _ _) | refine zX ?_ | (refine zC ?_; intro _ _ _ _) | (refine zS ?_; intro _ _) | refine zO ?_ | (apply Ws <;> intro hg))
      refine Ends.ret1 rfl ⟨n2, by omega, hH2.tail, ?_⟩
      unfold goB
      rw [hj, hb, show decide (l.length = 1) = false from decide_eq_false (by omega), Bool.false_or, Bool.true_and, decide_not]
end
end Go.Proofs.YtmgmkglmjmaipaaDoor.Ct

/- The closure of oddRing, oddRing, Odd. -/
namespace Go.Proofs.YtmgmkglmjmaipaaDoor.Ct
open Go Go.Abs Go.Mth
set_option linter.unusedVariables false
set_option linter.unusedSimpArgs false
attribute [local irreducible] gOK WS WC WR WD Ends FS YS OpV seqK blockK loopK midK retK rdK asgK rangeEnd sat Cell
section
variable {M : HL} {n0 : Nat} {H : Heap} {v w : Value}
set_option maxHeartbeats 2000000 in
theorem fitO_fs (hH : hasH M n0 H) {V N n b c : Nat} {A F B : List Nat} (hA : A.length = 16) (hF : F.length = 16) (hB : B.length = 16) (hN : N ≤ 16) (hE : N % 2 = 0) (h1 : (b, Ch.row 77 0 0 (nodes (dw V N A F B))) ∈ M) (h2 : (c, Ch.row 3 0 0 [Value.int .i64 (n : Int)]) ∈ M) (hn : n ≤ 1000) (hn0 : 0 < n) {l : List Nat} (hS : Sl M 1 v (nodes l)) (h0 : 0 < l.length) (hl : l.length ≤ n) :
    FS C 101 [v, .pointer (some ⟨b, 0, some 0⟩), .pointer (some ⟨c, 0, some 0⟩)] H (fun e H' => ∃ n', n0 ≤ n' ∧ hasH M n' H' ∧ e = .bool (fitO A N n l)) := by
  have hd1 := nodes_one' (dw V N A F B)
  have hdl := dw_len (V := V) (c := N) hA hF hB
  refine FS.intro (pf := pf101) rfl rfl rfl ?_
  repeat' (first | refine zP ?_ | refine zA ?_ | (refine zM ?_; intro _ _) | refine zX ?_ | (refine zC ?_; intro _ _ _ _) | (refine zS ?_; intro _ _) | (apply Ws <;> intro hg))
  refine WR.op (by first | exact gN | exact gS rfl) rfl (OpV.loadAll rfl hH h1 (.row _ _ _ _) (by simp [hdl])) ?_
  repeat' (first | refine zP ?_ | refine zA ?_ | (refine zM ?_; intro _ _) | refine zX ?_ | (refine zC ?_; intro _ _ _ _) | (refine zS ?_; intro _ _) | (apply Ws <;> intro hg))
  refine WR.call (by first | exact gN | exact gS rfl) rfl rfl (goesOn_fs hH hA hF hB hN hE hS h0 (by omega)) ?_
  rintro _ H2 ⟨n2, hn2, hH2, rfl⟩
  clear hH
  cases hb : goB A N l with
  | false =>
    repeat' (first | refine zP ?_ | refine zA ?_ | (refine zM ?_; intro _ _) | refine zX ?_ | (refine zC ?_; intro _ _ _ _) | (refine zS ?_; intro _ _) | (apply Ws <;> intro hg))
    refine Ends.ret1 rfl ⟨n2, by omega, hH2, ?_⟩
    unfold fitO
    rw [hb]; rfl
  | true =>
    repeat' (first | refine zP ?_ | refine zA ?_ | (refine zM ?_; intro _ _) | refine zX ?_ | (refine zC ?_; intro _ _ _ _) | (refine zS ?_; intro _ _) | (apply Ws <;> intro hg))
    · refine Ends.ret1 rfl ⟨n2, by omega, hH2, ?_⟩
      unfold fitO
      rw [hb, decide_eq_true (show l.length < n by omega)]; rfl
    · refine WR.op (by first | exact gN | exact gS rfl) rfl (OpV.loadAll rfl hH2 h1 (.row _ _ _ _) (by simp [hdl])) ?_
      repeat' (first | refine zP ?_ | refine zA ?_ | (refine zM ?_; intro _ _) | refine zX ?_ | (refine zC ?_; intro _ _ _ _) | (refine zS ?_; intro _ _) | (apply Ws <;> intro hg))
      refine WR.call (by first | exact gN | exact gS rfl) rfl rfl (joined_fs hH2 hA hF hB hN hE _ _) ?_
      rintro _ H3 ⟨n3, hn3, hH3, rfl⟩
      repeat' (first | refine zP ?_ | refine zA ?_ | (refine zM ?_; intro _ _) | refine zX ?_ | (refine zC ?_; intro _ _ _ _) | (refine zS ?_; intro _ _) | (apply Ws <;> intro hg))
      refine Ends.ret1 rfl ⟨n3, by omega, hH3, ?_⟩
      unfold fitO
      rw [hb, decide_eq_false (show ¬ l.length < n by omega)]; rfl
/-- No ring of an odd number of points, fewer than so many. -/
def noOdd (A : List Nat) (N V k : Nat) : Prop := ∀ k', k' % 2 = 1 → 3 ≤ k' → k' < k → ∀ l', l'.length = k' → ¬ okP (fitO A N k') V l'
def OddR (A : List Nat) (N V : Nat) (k : Nat) (l : List Nat) : Prop := k % 2 = 1 ∧ 3 ≤ k ∧ k ≤ V ∧ FirstR (fitO A N k) V k l ∧ noOdd A N V k
set_option maxHeartbeats 2000000 in
theorem oddRing_fs (hH : hasH M n0 H) {V N : Nat} {A F B : List Nat} (hA : A.length = 16) (hF : F.length = 16) (hB : B.length = 16) (hN : N ≤ 16) (hE : N % 2 = 0) (hV : V ≤ 16) :
    FS C 85 [.agg (nodes (dw V N A F B)).toArray] H (fun e H' => ∃ n', n0 ≤ n' ∧ ((∃ b k l, n0 ≤ b ∧ OddR A N V k l ∧ hasH ((b, .row 3 0 0 (nodes l)) :: M) n' H' ∧ e = .tuple #[slB b k, .bool true]) ∨
      (noOdd A N V (V + 1) ∧ hasH M n' H' ∧ e = .tuple #[.slice none 0 0, .bool false]))) := by
  have hd1 := nodes_one' (dw V N A F B)
  have hdl := dw_len (V := V) (c := N) hA hF hB
  have hN0 : (dw V N A F B).getD 0 0 = V := rfl
  refine FS.intro (pf := pf85) rfl rfl rfl ?_
  repeat' (first | refine zP ?_ | refine zA ?_ | (refine zM ?_; intro _ _) | refine zX ?_ | (refine zC ?_; intro _ _ _ _) | (refine zS ?_; intro _ _) | (apply Ws <;> intro hg))
  rename_i H1 hH1 H2 hH2 H3 hH3
  clear hH hH1 hH2
  refine WC.loopX [(1, _)] (fun a : Nat × Nat × Nat => [(4, .pointer (some ⟨a.2.1, 0, some 0⟩))]) []
    (fun a H' => a.1 % 2 = 1 ∧ 3 ≤ a.1 ∧ a.1 ≤ V + 3 ∧ n0 ≤ a.2.1 ∧ n0 ≤ a.2.2 ∧ noOdd A N V a.1 ∧ hasH ((a.2.1, .row 3 0 0 [Value.int .i64 (a.1 : Int)]) :: (n0, .row 77 0 0 (nodes (dw V N A F B))) :: M) a.2.2 H') (fun a => V + 3 - a.1) (3, n0 + 1, n0 + 2) (by repeat' (first | exact .nil | refine .cons rfl ?_)) rfl
    ⟨by simp only, by simp only; omega, by simp only; omega, by simp only; omega, by simp only; omega, (fun k' h1 h2 h3 => absurd h3 (by simp only; omega)), hH3⟩ ?_
  clear hH3
  rintro ⟨k, c, n1⟩ H4 ⟨hk1, hk3, hkV, hc, hn1, hno, hH4⟩
  simp only at hk1 hk3 hkV hc hn1 hno hH4
  dsimp only [List.cons_append, List.nil_append]
  repeat' (first | refine zP ?_ | refine zA ?_ | (refine zM ?_; intro _ _) | refine zX ?_ | (refine zC ?_; intro _ _ _ _) | (refine zS ?_; intro _ _) | (apply Ws <;> intro hg))
  refine WC.condP rfl (fun hlt => ?_) (fun hlt => ?_)
  · have hk' : k ≤ V := by omega
    repeat' (first | refine zP ?_ | refine zA ?_ | (refine zM ?_; intro _ _) | refine zX ?_ | (refine zC ?_; intro _ _ _ _) | (refine zS ?_; intro _ _) | (apply Ws <;> intro hg))
    refine WR.call (by first | exact gN | exact gS rfl) rfl rfl (first_fs (n := k) (bound := V) (g := 101) (va := []) (vb := [.pointer (some ⟨n0, 0, some 0⟩), .pointer (some ⟨c, 0, some 0⟩)]) (fits := fitO A N k) hH4 (by omega) hV (fun {X n' H' s l} hM hX hs hne hl => ?_)) ?_
    · exact fitO_fs hX hA hF hB hN hE (hM _ (.tail _ (.head _))) (hM _ (.head _)) (by omega) (by omega) hs (List.length_pos_iff.2 hne) hl
    rintro _ H5 ⟨n5, b, hn5, hb5, ⟨l, hl, hH5, rfl⟩ | ⟨hl, hH5, rfl⟩⟩
    · repeat' (first | refine zP ?_ | refine zA ?_ | (refine zM ?_; intro _ _) | refine zX ?_ | (refine zC ?_; intro _ _ _ _) | (refine zS ?_; intro _ _) | (apply Ws <;> intro hg))
      exact Ends.ret2 rfl rfl ⟨n5, by omega, .inl ⟨b, k, l, by omega, ⟨hk1, hk3, hk', hl, hno⟩, hH5.sub (.cons_cons _ (.cons _ (List.sublist_cons_self _ _))), rfl⟩⟩
    · clear hH4
      repeat' (first | refine zP ?_ | refine zA ?_ | (refine zM ?_; intro _ _) | refine zX ?_ | (refine zC ?_; intro _ _ _ _) | (refine zS ?_; intro _ _) | (apply Ws <;> intro hg))
      rename_i H6 hH6 H7 hH7 H8 hH8
      rw [show (k : Int) + 2 = ((k + 2 : Nat) : Int) by omega] at hH8
      refine Ends.loop (k + 2, n5, n5 + 1) (by simp only; omega) (by repeat' (first | exact .nil | refine .cons rfl ?_)) rfl ⟨by simp only; omega, by simp only; omega, by simp only; omega, by simp only; omega, by simp only; omega, (fun k' h1 h2 h3 l' hl' => ?_), hH8.sub (.cons_cons _ (List.sublist_cons_self _ _))⟩
      simp only at h3
      by_cases e : k' = k
      · subst e; exact hl l' hl'
      · exact hno k' h1 h2 (by omega) l' hl'
  · repeat' (first | refine zP ?_ | refine zA ?_ | (refine zM ?_; intro _ _) | refine zX ?_ | (refine zC ?_; intro _ _ _ _) | (refine zS ?_; intro _ _) | (apply Ws <;> intro hg))
    refine Ends.ret2 rfl rfl ⟨n1, by omega, .inr ⟨fun k' h1 h2 h3 => hno k' h1 h2 (by omega), hH4.tail.tail, rfl⟩⟩
/-- A ring of an odd number of points, or the error. -/
def OddV (P : List (List Int)) (M2 : HL) (e : Value) : Prop :=
  (errM P ≠ 0 ∧ e = .tuple #[.slice none 0 0, .int .i64 (errM P)]) ∨ ∃ Q A, P = castP Q ∧ OKM Q ∧ PtOf Q (fun e => A.getD e 0) ∧ (∀ e, e < sizeL Q → A.getD e 0 < Q.length) ∧
    ((loopy (fun e => A.getD e 0) (sizeL Q / 2) ∧ e = .tuple #[.slice none 0 0, .int .i64 12]) ∨ (¬ loopy (fun e => A.getD e 0) (sizeL Q / 2) ∧
      ((∃ k l u, OddR A (sizeL Q) Q.length k l ∧ Sl M2 1 u (nodes l) ∧ e = .tuple #[u, .int .i64 0]) ∨ (noOdd A (sizeL Q) Q.length (Q.length + 1) ∧ e = .tuple #[.slice none 0 0, .int .i64 13]))))
set_option maxHeartbeats 2000000 in
theorem Odd_fs (hH : hasH M n0 H) {P : List (List Int)} (hR : RowsI M v P) (hl : P.length ≤ 1000) (hr : ∀ i, i < P.length → (P.getD i []).length ≤ 1000) :
    FS C 41 [.agg [v].toArray] H (fun e H' => ∃ n' M2, n0 ≤ n' ∧ hasH (M2 ++ M) n' H' ∧ OddV P M2 e) := by
  have hv : one v = true := hR.one_
  refine FS.intro (pf := pf41) rfl rfl rfl ?_
  repeat' (first | refine zP ?_ | refine zA ?_ | (refine zM ?_; intro _ _) | refine zX ?_ | (refine zC ?_; intro _ _ _ _) | (refine zS ?_; intro _ _) | (apply Ws <;> intro hg))
  rename_i H1 hH1
  refine WR.call (by first | exact gN | exact gS rfl) rfl rfl (drawN_fs hH1 hR.cons hl hr) ?_
  rintro _ H3 ⟨n3, hn3, hH3, ⟨h0, rfl⟩ | ⟨Q, A, F, B, rfl, hQ, hD, ⟨hlo, rfl⟩ | ⟨hno, rfl⟩⟩⟩
  · repeat' (first | refine zP ?_ | refine zA ?_ | (refine zM ?_; intro _ _) | refine zX ?_ | (refine zC ?_; intro _ _ _ _) | (refine zS ?_; intro _ _) | (apply Ws <;> intro hg))
    rename_i H4 hH4
    refine WR.storeAll (by first | exact gN | exact gS rfl) hH4 rfl rfl (ls := nodes (List.replicate 50 0)) (by simp [Value.cells]) rfl .here (nodes_one' _) rfl fun H5 hH5 => ?_
    repeat' (first | refine zP ?_ | refine zA ?_ | (refine zM ?_; intro _ _) | refine zX ?_ | (refine zC ?_; intro _ _ _ _) | (refine zS ?_; intro _ _) | refine zO ?_ | (apply Ws <;> intro hg))
    exact Ends.ret2 rfl rfl ⟨n3 + 1, [], by omega, hH5.tail.tail, .inl ⟨h0, rfl⟩⟩
  · repeat' (first | refine zP ?_ | refine zA ?_ | (refine zM ?_; intro _ _) | refine zX ?_ | (refine zC ?_; intro _ _ _ _) | (refine zS ?_; intro _ _) | (apply Ws <;> intro hg))
    rename_i H4 hH4
    refine WR.storeAll (by first | exact gN | exact gS rfl) hH4 rfl rfl (ls := nodes (List.replicate 50 0)) (by simp [Value.cells]) rfl .here (nodes_one' _) rfl fun H5 hH5 => ?_
    repeat' (first | refine zP ?_ | refine zA ?_ | (refine zM ?_; intro _ _) | refine zX ?_ | (refine zC ?_; intro _ _ _ _) | (refine zS ?_; intro _ _) | refine zO ?_ | (apply Ws <;> intro hg))
    exact Ends.ret2 rfl rfl ⟨n3 + 1, [], by omega, hH5.tail.tail, .inr ⟨Q, A, rfl, hQ, hD.pt, fun e he => hD.pt_lt he, .inl ⟨hlo, rfl⟩⟩⟩
  · have hle := hQ.le
    have hlen := hQ.len
    have hdl := dw_len (V := Q.length) (c := sizeL Q) hD.hA hD.hF hD.hB
    repeat' (first | refine zP ?_ | refine zA ?_ | (refine zM ?_; intro _ _) | refine zX ?_ | (refine zC ?_; intro _ _ _ _) | (refine zS ?_; intro _ _) | (apply Ws <;> intro hg))
    rename_i H4 hH4
    refine WR.storeAll (by first | exact gN | exact gS rfl) hH4 rfl rfl (ls := nodes (dw Q.length (sizeL Q) A F B)) (by simp [Value.cells]) (by simp [hdl]) .here (nodes_one' _) (by simp [hdl]) fun H5 hH5 => ?_
    repeat' (first | refine zP ?_ | refine zA ?_ | (refine zM ?_; intro _ _) | refine zX ?_ | (refine zC ?_; intro _ _ _ _) | (refine zS ?_; intro _ _) | refine zO ?_ | (apply Ws <;> intro hg))
    refine WR.op (by first | exact gN | exact gS rfl) rfl (OpV.loadAll rfl hH5 (.head _) (.row _ _ _ _) (by simp [hdl])) ?_
    refine WR.call (by first | exact gN | exact gS rfl) rfl rfl (oddRing_fs hH5.tail.tail hD.hA hD.hF hD.hB hle hQ.even (by omega)) ?_
    rintro _ H6 ⟨n6, hn6, ⟨b, k, l, hb, hO, hH6, rfl⟩ | ⟨hO, hH6, rfl⟩⟩
    · repeat' (first | refine zP ?_ | refine zA ?_ | (refine zM ?_; intro _ _) | refine zX ?_ | (refine zC ?_; intro _ _ _ _) | (refine zS ?_; intro _ _) | refine zO ?_ | (apply Ws <;> intro hg))
      exact Ends.ret2 rfl rfl ⟨n6, [_], by omega, hH6, .inr ⟨Q, A, rfl, hQ, hD.pt, fun e he => hD.pt_lt he, .inr ⟨hno, .inl ⟨k, l, _, hO, slB_sl hO.2.2.2.1.1 [], rfl⟩⟩⟩⟩
    · repeat' (first | refine zP ?_ | refine zA ?_ | (refine zM ?_; intro _ _) | refine zX ?_ | (refine zC ?_; intro _ _ _ _) | (refine zS ?_; intro _ _) | refine zO ?_ | (apply Ws <;> intro hg))
      exact Ends.ret2 rfl rfl ⟨n6, [], by omega, hH6, .inr ⟨Q, A, rfl, hQ, hD.pt, fun e he => hD.pt_lt he, .inr ⟨hno, .inr ⟨hO, rfl⟩⟩⟩⟩
end
end Go.Proofs.YtmgmkglmjmaipaaDoor.Ct

/- ChartOdd: mathematics. -/
namespace Go.Proofs.YtmgmkglmjmaipaaDoor.Ct
open Go Go.Abs Go.Mth
set_option linter.unusedVariables false
set_option linter.unusedSimpArgs false
def orTo (ls : List Nat) (m : Nat) : Nat → Nat
  | 0 => 0
  | k + 1 => if m.testBit k = true then orTo ls m k ||| ls.getD k 0 else orTo ls m k
theorem orTo_bit {ls : List Nat} {m q : Nat} : ∀ {k : Nat}, (orTo ls m k).testBit q = true ↔ ∃ p, p < k ∧ m.testBit p = true ∧ (ls.getD p 0).testBit q = true
  | 0 => by simp [orTo]
  | k + 1 => by
    unfold orTo
    by_cases h : m.testBit k = true
    · rw [if_pos h, Nat.testBit_or, Bool.or_eq_true, orTo_bit]
      constructor
      · rintro (⟨p, h1, h2⟩ | h1)
        · exact ⟨p, by omega, h2⟩
        · exact ⟨k, Nat.lt_succ_self _, h, h1⟩
      · rintro ⟨p, h1, h2, h3⟩
        by_cases e : p = k
        · subst e; exact .inr h3
        · exact .inl ⟨p, by omega, h2, h3⟩
    · rw [if_neg h, orTo_bit]
      constructor
      · rintro ⟨p, h1, h2⟩
        exact ⟨p, by omega, h2⟩
      · rintro ⟨p, h1, h2, h3⟩
        by_cases e : p = k
        · subst e; exact absurd h2 h
        · exact ⟨p, by omega, h2, h3⟩
theorem orTo_lt {ls : List Nat} {m V : Nat} : ∀ {k : Nat}, (∀ p, p < k → ls.getD p 0 < 2 ^ V) → orTo ls m k < 2 ^ V
  | 0, _ => Nat.pow_pos (by decide)
  | k + 1, h => by
    unfold orTo
    split
    · exact Nat.or_lt_two_pow (orTo_lt fun p hp => h p (by omega)) (h k (by omega))
    · exact orTo_lt fun p hp => h p (by omega)
def mskW (ls : List Nat) (V x : Nat) : Nat → Nat
  | 0 => 2 ^ x
  | s + 1 => orTo ls (mskW ls V x s) V
theorem mskW_lt {ls : List Nat} {V x : Nat} (hx : x < V) (h : ∀ p, p < V → ls.getD p 0 < 2 ^ V) : ∀ s, mskW ls V x s < 2 ^ V
  | 0 => Nat.pow_lt_pow_right (by decide) hx
  | s + 1 => orTo_lt h
theorem mskW_bit {ls : List Nat} {V x : Nat} {adj : Nat → Nat → Prop} (hV : ∀ p q, adj p q → p < V ∧ q < V) (hl : ∀ p q, p < V → ((ls.getD p 0).testBit q = true ↔ adj p q)) : ∀ {s q : Nat}, (mskW ls V x s).testBit q = true ↔ wlk adj x s q
  | 0, q => by
    unfold mskW wlk
    rw [Nat.testBit_two_pow, decide_eq_true_iff]
    exact eq_comm
  | s + 1, q => by
    unfold mskW wlk
    rw [orTo_bit]
    constructor
    · rintro ⟨p, h1, h2, h3⟩
      exact ⟨p, (mskW_bit hV hl).1 h2, (hl p q h1).1 h3⟩
    · rintro ⟨p, h1, h2⟩
      have := hV p q h2
      exact ⟨p, this.1, (mskW_bit hV hl).2 h1, (hl p q this.1).2 h2⟩
/-- The shortest walk of an odd number of lines that leads back, of those that were looked at. -/
def ShI (adj : Nat → Nat → Prop) (V x0 s0 : Nat) (sh : Nat) : Prop := (sh = 100 ∨ ∃ x s, x < V ∧ s % 2 = 1 ∧ s ≤ V ∧ wlk adj x s x ∧ sh = s) ∧ ∀ x s, (x < x0 ∨ (x = x0 ∧ s < s0)) → s % 2 = 1 → s ≤ V → wlk adj x s x → sh ≤ s
theorem ShI.next {adj : Nat → Nat → Prop} {V x0 sh : Nat} (h : ShI adj V x0 (V + 1) sh) : ShI adj V (x0 + 1) 1 sh := by
  refine ⟨h.1, fun x s hx hs hsV hw => ?_⟩
  by_cases e : x < x0
  · exact h.2 x s (.inl e) hs hsV hw
  · rcases hx with hx | ⟨rfl, hx⟩
    · have : x = x0 := by omega
      subst this
      exact h.2 x s (.inr ⟨rfl, by omega⟩) hs hsV hw
    · omega
theorem ShI.skip {adj : Nat → Nat → Prop} {V x0 s0 sh : Nat} (h : ShI adj V x0 s0 sh) (hn : ¬ (s0 % 2 = 1 ∧ wlk adj x0 s0 x0)) : ShI adj V x0 (s0 + 1) sh := by
  refine ⟨h.1, fun x s hx hs hsV hw => ?_⟩
  rcases hx with hx | ⟨rfl, hx⟩
  · exact h.2 x s (.inl hx) hs hsV hw
  · by_cases e : s = s0
    · subst e; exact absurd ⟨hs, hw⟩ hn
    · exact h.2 x s (.inr ⟨rfl, by omega⟩) hs hsV hw
theorem ShI.take {adj : Nat → Nat → Prop} {V x0 s0 sh : Nat} (h : ShI adj V x0 s0 sh) (hx0 : x0 < V) (hs0 : s0 ≤ V) (ho0 : s0 % 2 = 1) (hw0 : wlk adj x0 s0 x0) : ShI adj V x0 (s0 + 1) (min sh s0) := by
  refine ⟨?_, fun x s hx hs hsV hw => ?_⟩
  · by_cases e : s0 ≤ sh
    · exact .inr ⟨x0, s0, hx0, ho0, hs0, hw0, by omega⟩
    · rw [Nat.min_eq_left (by omega)]; exact h.1
  · rcases hx with hx | ⟨rfl, hx⟩
    · have := h.2 x s (.inl hx) hs hsV hw
      omega
    · by_cases e : s = s0
      · subst e; omega
      · have := h.2 x s (.inr ⟨rfl, by omega⟩) hs hsV hw
        omega
theorem PtOf.uniq {Q : List (List Nat)} {pt pt' : Nat → Nat} (hQ : OKM Q) (h : PtOf Q pt) (k : PtOf Q pt') {e : Nat} (he : e < sizeL Q) : pt e = pt' e := by
  have hm : e ∈ Q.flatten := nodup_all hQ.nd (fun y hy => by obtain ⟨l, hl, h2⟩ := List.mem_flatten.1 hy; exact hQ.lt l hl y h2) (size_flat Q) he
  obtain ⟨l, hl, hel⟩ := List.mem_flatten.1 hm
  obtain ⟨q, hq, rfl⟩ := mem_getD hl
  rw [h q hq e hel, k q hq e hel]
theorem adjP_congr {pt pt' : Nat → Nat} {L p q : Nat} (h : ∀ e, e < 2 * L → pt e = pt' e) (k : adjP pt (2 * L) p q) : adjP pt' (2 * L) p q := by
  obtain ⟨e, h1, h2, h3⟩ := k
  exact ⟨e, h1, by rw [← h e h1]; exact h2, by rw [← h _ (oth_lt h1)]; exact h3⟩
theorem no_loop {pt : Nat → Nat} {L x : Nat} (h : ¬ loopy pt L) : ¬ adjP pt (2 * L) x x := by
  intro k
  obtain ⟨j, hj, ⟨h1, h2⟩ | ⟨h1, h2⟩⟩ := k.line
  · exact h ⟨j, hj, by omega⟩
  · exact h ⟨j, hj, by omega⟩
theorem OddR.ring {A : List Nat} {L V k : Nat} {l : List Nat} (hpt : ∀ e, e < 2 * L → A.getD e 0 < V) (h : OddR A (2 * L) V k l) : l.length = k ∧ ∃ x B, l = x :: B ∧ Rg (adjP (fun e => A.getD e 0) (2 * L)) x B := by
  obtain ⟨h1, h2, h3, h4, h5⟩ := h
  refine ⟨h4.1, ?_⟩
  match l, h4 with
  | [], h4 => have := h4.1; simp at this; omega
  | x :: B, h4 => exact ⟨x, B, rfl, (fit_ring (adjP.lt hpt) (by have := h4.1; simpa using this)).1 h4.2.1⟩
theorem OddR.least {A : List Nat} {L V k x : Nat} {l B : List Nat} (hpt : ∀ e, e < 2 * L → A.getD e 0 < V) (h : OddR A (2 * L) V k l) (hr : Rg (adjP (fun e => A.getD e 0) (2 * L)) x B) (ho : B.length % 2 = 0) (hno : ¬ loopy (fun e => A.getD e 0) L) : k ≤ B.length + 1 := by
  apply Decidable.byContradiction
  intro hk
  have h3 : 3 ≤ B.length + 1 := by
    rcases B with _ | ⟨b, B⟩
    · exact absurd hr.1 (no_loop hno)
    · simp only [List.length_cons] at ho ⊢; omega
  exact h.2.2.2.2 (B.length + 1) (by omega) h3 (by omega) (x :: B) rfl ((fit_ring (adjP.lt hpt) rfl).2 hr)
/-- What the law asks of the ring. -/
theorem OddR.facts {A : List Nat} {L V k : Nat} {l : List Nat} (hpt : ∀ e, e < 2 * L → A.getD e 0 < V) (h : OddR A (2 * L) V k l) {i : Nat} (hi : i < k) :
    l.getD i 0 < V ∧ l.getD ((i + 1) % k) 0 < V ∧ adjP (fun e => A.getD e 0) (2 * L) (l.getD i 0) (l.getD ((i + 1) % k) 0) ∧ l.getD i 0 ∉ l.take i ∧ l.getD 0 0 ≤ l.getD i 0 := by
  obtain ⟨hl, x, B, rfl, hr⟩ := h.ring hpt
  have hl2 : B.length + 1 = k := by simpa using hl
  have hadj : adjP (fun e => A.getD e 0) (2 * L) ((x :: B).getD i 0) ((x :: B).getD ((i + 1) % k) 0) := by
    obtain ⟨w1, w2⟩ := WL_get.1 hr.1
    by_cases e : i < B.length
    · rw [Nat.mod_eq_of_lt (by omega)]; exact w1 i e
    · have : i = B.length := by omega
      subst this
      rw [hl2, Nat.mod_self]; exact w2
  have hlt := adjP.lt hpt _ _ hadj
  refine ⟨hlt.1, hlt.2, hadj, nodup_take.1 hr.2 i (by omega), ?_⟩
  apply Decidable.byContradiction
  intro hn
  cases i with
  | zero => exact hn (Nat.le_refl _)
  | succ i =>
    have hiB : i < B.length := by omega
    have e1 : B = B.take i ++ B.getD i 0 :: B.drop (i + 1) := by
      rw [getD_eq hiB, ← List.drop_eq_getElem_cons hiB, List.take_append_drop]
    have hg : (x :: B).getD (i + 1) 0 = B.getD i 0 := rfl
    rw [hg] at hn
    rw [e1] at hr
    have hr2 := hr.rot
    have hl3 : (B.drop (i + 1) ++ x :: B.take i).length + 1 = k := by simp; omega
    refine h.2.2.2.1.2.2 (B.getD i 0 :: (B.drop (i + 1) ++ x :: B.take i)) hl3 ((fit_ring (adjP.lt hpt) hl3).2 hr2) ⟨0, by simp, rfl, ?_⟩
    show B.getD i 0 < x
    have : (x :: B).getD 0 0 = x := rfl
    omega
theorem odd_none {A : List Nat} {ptF : Nat → Nat} {L V f sh : Nat} {lf : List Nat} (hpt : ∀ e, e < 2 * L → A.getD e 0 < V) (heq : ∀ e, e < 2 * L → A.getD e 0 = ptF e) (hV : V ≤ 16)
    (hs : ShI (adjP (fun e => A.getD e 0) (2 * L)) V V 1 sh) (hsV : V < sh) (hF : FewR ptF L V f lf) : f ≤ 2 ∧ ∀ k l, ¬ OddR A (2 * L) V k l := by
  have hno : ∀ x B, WL (adjP (fun e => A.getD e 0) (2 * L)) x B x → B.length % 2 = 1 := by
    intro x B hw
    apply Decidable.byContradiction
    intro ho
    obtain ⟨x', B', hr, h1, h2⟩ := ring_ex B.length (Nat.le_refl _) hw (by omega)
    have hlen := hr.len (adjP.lt hpt)
    have hx := (hr.1.mem (adjP.lt hpt)).1
    have := hs.2 x' (B'.length + 1) (.inl hx) (by omega) hlen (wlk_iff.2 ⟨B', rfl, hr.1⟩)
    omega
  refine ⟨?_, fun k l h => ?_⟩
  · apply Decidable.byContradiction
    intro hf
    obtain ⟨l, hl⟩ := two_ok (L := L) (V := V) (pt := ptF) (fun e he => by rw [← heq e he]; exact hpt e he) fun x B hw => hno x B (hw.mono fun p q h => adjP_congr (fun e he => (heq e he).symm) h)
    exact hF.2.2 2 (by omega) l hl
  · obtain ⟨hl, x, B, rfl, hr⟩ := h.ring hpt
    have := hno x B hr.1
    have h1 := h.1
    simp only [List.length_cons] at hl
    omega
theorem odd_some {A : List Nat} {ptF : Nat → Nat} {L V f sh : Nat} {lf : List Nat} (hpt : ∀ e, e < 2 * L → A.getD e 0 < V) (heq : ∀ e, e < 2 * L → A.getD e 0 = ptF e) (hV : V ≤ 16) (hnl : ¬ loopy (fun e => A.getD e 0) L)
    (hs : ShI (adjP (fun e => A.getD e 0) (2 * L)) V V 1 sh) (hsV : sh ≤ V) (hF : FewR ptF L V f lf) : 3 ≤ f ∧ ¬ noOdd A (2 * L) V (V + 1) ∧ ∀ k l, OddR A (2 * L) V k l → k = sh := by
  obtain ⟨x, s, hx, ho, hsV2, hw, rfl⟩ : ∃ x s, x < V ∧ s % 2 = 1 ∧ s ≤ V ∧ wlk (adjP (fun e => A.getD e 0) (2 * L)) x s x ∧ sh = s := by
    rcases hs.1 with h | h
    · omega
    · exact h
  obtain ⟨s', rfl⟩ : ∃ s', sh = s' + 1 := ⟨sh - 1, by omega⟩
  obtain ⟨B, hB, hwl⟩ := wlk_iff.1 hw
  obtain ⟨x', B', hr, h1, h2⟩ := ring_ex B.length (Nat.le_refl _) hwl (by omega)
  have hlen := hr.len (adjP.lt hpt)
  have h3 : 3 ≤ B'.length + 1 := by
    rcases B' with _ | ⟨b, B'⟩
    · exact absurd hr.1 (no_loop hnl)
    · simp only [List.length_cons] at h2 ⊢; omega
  refine ⟨?_, fun h => h (B'.length + 1) (by omega) h3 (by omega) (x' :: B') rfl ((fit_ring (adjP.lt hpt) rfl).2 hr), fun k l h => ?_⟩
  · apply Decidable.byContradiction
    intro hf
    have := cols_even (L := L) (pt := ptF) (fun e he => by rw [← heq e he]; exact hpt e he) hF.1 (by omega) (hwl.mono fun p q h => adjP_congr heq h)
    omega
  · have g1 := h.least hpt hr h2 hnl
    obtain ⟨hl, y, C, rfl, hr2⟩ := h.ring hpt
    have hk := h.1
    have hlc : C.length + 1 = k := by simpa using hl
    have hlen2 := hr2.len (adjP.lt hpt)
    have := hs.2 y (C.length + 1) (.inl (hr2.1.mem (adjP.lt hpt)).1) (by omega) hlen2 (wlk_iff.2 ⟨C, rfl, hr2.1⟩)
    omega
end Go.Proofs.YtmgmkglmjmaipaaDoor.Ct

/- ChartOdd. -/
namespace Go.Proofs.YtmgmkglmjmaipaaDoor.Ct
open Go Go.Abs Go.Mth
set_option linter.unusedVariables false
set_option linter.unusedSimpArgs false
theorem OddV.ok {Q : List (List Nat)} {M2 : HL} {e : Value} (h : OddV (castP Q) M2 e) (hQ : OKM Q) : ∃ A, PtOf Q (fun e => A.getD e 0) ∧ (∀ e, e < sizeL Q → A.getD e 0 < Q.length) ∧
    ((loopy (fun e => A.getD e 0) (sizeL Q / 2) ∧ e = .tuple #[.slice none 0 0, .int .i64 12]) ∨ (¬ loopy (fun e => A.getD e 0) (sizeL Q / 2) ∧
      ((∃ k l u, OddR A (sizeL Q) Q.length k l ∧ Sl M2 1 u (nodes l) ∧ e = .tuple #[u, .int .i64 0]) ∨ (noOdd A (sizeL Q) Q.length (Q.length + 1) ∧ e = .tuple #[.slice none 0 0, .int .i64 13])))) := by
  rcases h with ⟨h, _⟩ | ⟨Q', A, h1, h2, h3⟩
  · exact absurd (ok_err hQ) h
  · obtain rfl := castP_inj h1
    exact ⟨A, h3⟩
theorem loopy_congr {pt pt' : Nat → Nat} {L : Nat} (h : ∀ e, e < 2 * L → pt e = pt' e) (k : loopy pt L) : loopy pt' L := by
  obtain ⟨j, h1, h2⟩ := k
  exact ⟨j, h1, by rw [← h _ (by omega), ← h _ (by omega)]; exact h2⟩
attribute [local irreducible] gOK WS WC WR WD Ends FS YS OpV seqK blockK loopK midK retK rdK asgK rangeEnd sat Cell
section
variable {M : HL} {n0 : Nat} {H : Heap} {v w : Value}
set_option maxHeartbeats 4000000 in
theorem ChartOdd_fs (hH : hasH M n0 H) {x b : Nat} {ord : List Nat} (hx : x ≤ 255) (ho : ord.length = 16) (hob : ∀ y ∈ ord, y ≤ 255) (hb : b < 65536) :
    FS C 12 [.agg (skV x ord b).toArray] H (fun e H' => e = .bool true) := by
  have hone := sk_one x ord b
  have hsl : (skV x ord b).length = 18 := by simp [skV, ho]
  refine FS.intro (pf := pf12) rfl rfl rfl ?_
  repeat' (first | refine zP ?_ | refine zA ?_ | (refine zM ?_; intro _ _) | refine zX ?_ | (refine zC ?_; intro _ _ _ _) | (refine zS ?_; intro _ _))
  rename_i H1 hH1
  refine WR.call (by first | exact gN | exact gS rfl) rfl rfl (made_fs hH1.tail hx ho hob hb (most := 8) (by omega)) ?_
  rintro _ H2 ⟨Q, u, hQ, hQ8, rfl, M2, n2, hn2, hH2, hRu⟩
  clear hH hH1
  have hu1 := hRu.one_
  have hle := hQ.le
  have hlen := hQ.len
  have hev := hQ.even
  have hpair := hQ.pair
  have hcp := castP_len Q
  obtain ⟨hsm1, hsm2⟩ := hQ.small
  repeat' (first | refine zP ?_ | refine zA ?_ | (refine zM ?_; intro _ _) | refine zX ?_ | (refine zC ?_; intro _ _ _ _) | (refine zS ?_; intro _ _) | (apply Ws <;> intro hg))
  rename_i H3 hH3
  refine WR.storeAll (by first | exact gN | exact gS rfl) hH3 rfl rfl (ls := [u]) (by simp [Value.cells]) rfl .here (one_one hu1) rfl fun H4 hH4 => ?_
  obtain ⟨M3, hM3⟩ : ∃ M3, M3 = M2 ++ M := ⟨_, rfl⟩
  rw [← hM3] at hH4
  clear hH2 hH3
  have hR3 : RowsI M3 u (castP Q) := by rw [hM3]; exact hRu.mono fun q hq => List.mem_append_left _ hq
  clear hRu hM3
  repeat' (first | refine zP ?_ | refine zA ?_ | (refine zM ?_; intro _ _) | refine zX ?_ | (refine zC ?_; intro _ _ _ _) | (refine zS ?_; intro _ _) | (apply Ws <;> intro hg))
  refine WR.call (by first | exact gN | exact gS rfl) rfl rfl (Odd_fs hH4 hR3.cons hsm1 hsm2) ?_
  rintro eO H5 ⟨n5, MO, hn5, hH5, hOV⟩
  obtain ⟨A, hptA, hltA, hcase⟩ := hOV.ok hQ
  obtain ⟨M4, hM4⟩ : ∃ M4, M4 = MO ++ (n2, Ch.row 24 0 0 [u]) :: M3 := ⟨_, rfl⟩
  have hbox : (n2, Ch.row 24 0 0 [u]) ∈ M4 := by rw [hM4]; exact List.mem_append_right _ (.head _)
  have hR4 : RowsI M4 u (castP Q) := by rw [hM4]; exact hR3.mono fun q hq => List.mem_append_right _ (.tail _ hq)
  have hMO : ∀ q ∈ MO, q ∈ M4 := fun q hq => by rw [hM4]; exact List.mem_append_left _ hq
  rw [← hM4] at hH5
  clear hM4 hH4 hR3
  rcases hcase with ⟨hlo, rfl⟩ | ⟨hnl, hcase⟩
  · repeat' (first | refine zP ?_ | refine zA ?_ | (refine zM ?_; intro _ _) | refine zX ?_ | (refine zC ?_; intro _ _ _ _) | (refine zS ?_; intro _ _) | (apply Ws <;> intro hg))
    refine WR.call (by first | exact gN | exact gS rfl) rfl rfl (Fewest_fs hH5 hR4 hsm1 hsm2) ?_
    rintro _ H6 ⟨n6, hn6, hH6, h6⟩
    obtain ⟨ptF, hptF, hcF⟩ := h6.ok hQ
    clear hH5
    rcases hcF with ⟨hloF, rfl⟩ | ⟨hnlF, _⟩
    · repeat' (first | refine zP ?_ | refine zA ?_ | (refine zM ?_; intro _ _) | refine zX ?_ | (refine zC ?_; intro _ _ _ _) | (refine zS ?_; intro _ _) | (apply Ws <;> intro hg))
      refine WR.call (by first | exact gN | exact gS rfl) rfl rfl (looped_fs hH6 hQ hR4) ?_
      rintro _ H7 ⟨n7, ptL, hn7, hH7, hptL, hltL, bb, hbb, rfl⟩
      obtain rfl := hbb.2 (loopy_congr (fun e he => hptF.uniq hQ hptL (by omega)) hloF)
      repeat' (first | refine zP ?_ | refine zA ?_ | (refine zM ?_; intro _ _) | refine zX ?_ | (refine zC ?_; intro _ _ _ _) | (refine zS ?_; intro _ _) | refine zO ?_ | (apply Ws <;> intro hg))
      refine WR.call (by first | exact gN | exact gS rfl) rfl rfl (FS.works ⟨rfl, rfl⟩ : FS C _ [] _ (fun e H' => e = .bool true ∧ H' = H7)) ?_
      rintro _ _ ⟨rfl, rfl⟩
      repeat' (first | refine zP ?_ | refine zA ?_ | (refine zM ?_; intro _ _) | refine zX ?_ | (refine zC ?_; intro _ _ _ _) | (refine zS ?_; intro _ _) | (apply Ws <;> intro hg))
      exact Ends.ret1 rfl rfl
    · exact absurd (loopy_congr (fun e he => hptA.uniq hQ hptF (by omega)) hlo) hnlF
  obtain ⟨eo, lv, hres⟩ : ∃ (eo : Int) (lv : Value) , ((eo = 0 ∧ ∃ k l, OddR A (sizeL Q) Q.length k l ∧ Sl MO 1 lv (nodes l) ∧ eO = .tuple #[lv, .int .i64 eo]) ∨ (eo = 13 ∧ lv = .slice none 0 0 ∧ noOdd A (sizeL Q) Q.length (Q.length + 1) ∧ eO = .tuple #[lv, .int .i64 eo])) := by
    rcases hcase with ⟨k, l, u, h1, h2, h3⟩ | ⟨h1, h2⟩
    · exact ⟨0, u, .inl ⟨rfl, k, l, h1, h2, h3⟩⟩
    · exact ⟨13, .slice none 0 0, .inr ⟨rfl, rfl, h1, h2⟩⟩
  clear hcase hOV
  obtain rfl : eO = .tuple #[lv, .int .i64 eo] := by rcases hres with ⟨_, k, l, _, _, h⟩ | ⟨_, _, _, h⟩ <;> exact h
  have hone2 : one lv = true := by
    rcases hres with ⟨_, k, l, _, h, _⟩ | ⟨_, rfl, _⟩
    · exact h.one_
    · rfl
  repeat' (first | refine zP ?_ | refine zA ?_ | (refine zM ?_; intro _ _) | refine zX ?_ | (refine zC ?_; intro _ _ _ _) | (refine zS ?_; intro _ _) | (apply Ws <;> intro hg))
  refine WR.call (by first | exact gN | exact gS rfl) rfl rfl (Fewest_fs hH5 hR4 hsm1 hsm2) ?_
  rintro _ H6 ⟨n6, hn6, hH6, h6⟩
  obtain ⟨ptF, hptF, hcF⟩ := h6.ok hQ
  clear hH5
  have heqF : ∀ e, e < 2 * (sizeL Q / 2) → A.getD e 0 = ptF e := fun e he => hptA.uniq hQ hptF (by omega)
  rcases hcF with ⟨hloF, _⟩ | ⟨hnlF, f, lf, uf, hfV, hFR, rfl, rfl⟩
  · exact absurd (loopy_congr (fun e he => (heqF e he).symm) hloF) hnl
  repeat' (first | refine zP ?_ | refine zA ?_ | (refine zM ?_; intro _ _) | refine zX ?_ | (refine zC ?_; intro _ _ _ _) | (refine zS ?_; intro _ _) | (apply Ws <;> intro hg))
  refine WR.call (by first | exact gN | exact gS rfl) rfl rfl (looped_fs hH6 hQ hR4) ?_
  rintro _ H7 ⟨n7, ptL, hn7, hH7, hptL, hltL, bb, hbb, rfl⟩
  obtain rfl : bb = false := by
    cases bb with
    | false => rfl
    | true => exact absurd (loopy_congr (fun e he => hptL.uniq hQ hptA (by omega)) (hbb.1 rfl)) hnl
  clear hH6
  repeat' (first | refine zP ?_ | refine zA ?_ | (refine zM ?_; intro _ _) | refine zX ?_ | (refine zC ?_; intro _ _ _ _) | (refine zS ?_; intro _ _) | (apply Ws <;> intro hg))
  refine WR.call (by first | exact gN | exact gS rfl) rfl rfl (near_fs hH7 hQ hR4) ?_
  rintro _ H8 ⟨b8, n8, pt, hb8, hn8, hpt, hlt, hH8, rfl⟩
  clear hH7
  have heq : ∀ e, e < 2 * (sizeL Q / 2) → A.getD e 0 = pt e := fun e he => hptA.uniq hQ hpt (by omega)
  obtain ⟨V, hV⟩ : ∃ V, V = Q.length := ⟨_, rfl⟩
  obtain ⟨ls, hls⟩ : ∃ ls, ls = nearTo pt V (sizeL Q) := ⟨_, rfl⟩
  have hV16 : V ≤ 16 := by omega
  have hlsl : ls.length = V := by rw [hls]; exact near_len _ _ _
  have hpow : 2 ^ V ≤ 65536 := Nat.pow_le_pow_right (n := 2) (by decide) hV16
  have hlsb : ∀ p, p < V → ls.getD p 0 < 2 ^ V := fun p hp => by
    rw [hls, near_get hp]
    exact mask_lt (N := sizeL Q) (fun e he => by rw [hV]; exact hlt (oth e) (by have := oth_lt (L := sizeL Q / 2) (e := e) (by omega); omega)) (Nat.le_refl _)
  have hadj : ∀ p q, p < V → ((ls.getD p 0).testBit q = true ↔ adjP (fun e => A.getD e 0) (2 * (sizeL Q / 2)) p q) := fun p q hp => by
    rw [hls, near_get hp, mask_bit, ← hpair]
    constructor
    · rintro ⟨e, h1, h2, h3⟩
      have h4 := oth_lt (L := sizeL Q / 2) (e := e) (by omega)
      exact ⟨e, h1, by show A.getD e 0 = p; rw [heq e (by omega)]; exact h2, by show A.getD (oth e) 0 = q; rw [heq _ h4]; exact h3⟩
    · rintro ⟨e, h1, h2, h3⟩
      have h4 := oth_lt (L := sizeL Q / 2) (e := e) (by omega)
      exact ⟨e, h1, by rw [← heq e (by omega)]; exact h2, by rw [← heq _ h4]; exact h3⟩
  have hptV : ∀ e, e < 2 * (sizeL Q / 2) → A.getD e 0 < V := fun e he => by rw [hV]; exact hltA e (by omega)
  have hadV := adjP.lt hptV
  have hN2 : 2 * (sizeL Q / 2) = sizeL Q := by omega
  rw [← hV] at hH8 hres hfV hFR ⊢
  rw [← hls] at hH8
  have hend : ∀ sh, ShI (adjP (fun e => A.getD e 0) (2 * (sizeL Q / 2))) V V 1 sh → ShI (adjP (fun e => A.getD e 0) (2 * (sizeL Q / 2))) V V 1 sh := fun _ h => h
  clear hend
  obtain ⟨adj, hadE⟩ : ∃ adj, adj = adjP (fun e => A.getD e 0) (2 * (sizeL Q / 2)) := ⟨_, rfl⟩
  rw [← hadE] at hadj hadV
  repeat' (first | refine zP ?_ | refine zA ?_ | (refine zM ?_; intro _ _) | refine zX ?_ | (refine zC ?_; intro _ _ _ _) | (refine zS ?_; intro _ _) | (apply Ws <;> intro hg))
  refine WC.loopX [(4, _), (5, _), (6, _), (7, _), (8, _), (9, _), (51, _)] (fun a : Nat × Nat => [(10, .int .i64 (a.2 : Int)), (52, .int .i64 (a.1 : Int))]) []
    (fun a H' => a.1 ≤ V ∧ ShI adj V a.1 1 a.2 ∧ a.2 ≤ 100 ∧ H' = H8) (fun a => V - a.1) (0, 100) (by repeat' (first | exact .nil | refine .cons rfl ?_)) rfl
    ⟨Nat.zero_le _, ⟨.inl rfl, fun x s hx => ?_⟩, Nat.le_refl _, rfl⟩ ?_
  · rcases hx with hx | ⟨_, hx⟩
    · exact absurd hx (Nat.not_lt_zero _)
    · intro h; omega
  rintro ⟨x0, sh⟩ H9 ⟨hx0, hsh, hsh1, rfl⟩
  simp only at hx0 hsh hsh1
  dsimp only [List.cons_append, List.nil_append]
  repeat' (first | refine zP ?_ | refine zA ?_ | (refine zM ?_; intro _ _) | refine zX ?_ | (refine zC ?_; intro _ _ _ _) | (refine zS ?_; intro _ _) | (apply Ws <;> intro hg))
  refine WC.condP rfl (fun hltx => ?_) (fun hltx => ?_)
  · have hx' : x0 < V := by omega
    have hp2 : 2 ^ x0 < 65536 * 2 := Nat.lt_of_lt_of_le (Nat.pow_lt_pow_right (by decide) hx') (by omega)
    repeat' (first | refine zP ?_ | refine zA ?_ | (refine zM ?_; intro _ _) | refine zX ?_ | (refine zC ?_; intro _ _ _ _) | (refine zS ?_; intro _ _) | (apply Ws <;> intro hg))
    refine WR.op (by first | exact gN | exact gS rfl) rfl (OpV.shl1 rfl rfl (by show x0 ≤ 32; omega) (by show 2 ^ x0 < 4294967296; omega)) ?_
    repeat' (first | refine zP ?_ | refine zA ?_ | (refine zM ?_; intro _ _) | refine zX ?_ | (refine zC ?_; intro _ _ _ _) | (refine zS ?_; intro _ _) | (apply Ws <;> intro hg))
    refine WC.loopX [(4, _), (5, _), (6, _), (7, _), (8, _), (9, _), (51, _), (52, _), (11, _)] (fun a : Nat × Nat => [(13, .int .i64 ((a.1 + 1 : Nat) : Int)), (12, .int .u32 ((mskW ls V x0 a.1 : Nat) : Int)), (10, .int .i64 (a.2 : Int))]) []
      (fun a H' => a.1 ≤ V ∧ ShI adj V x0 (a.1 + 1) a.2 ∧ a.2 ≤ 100 ∧ H' = H9) (fun a => V - a.1) (0, sh) (by repeat' (first | exact .nil | refine .cons rfl ?_)) rfl
      ⟨Nat.zero_le _, hsh, hsh1, rfl⟩ ?_
    clear hsh hsh1
    rintro ⟨s, sh⟩ H10 ⟨hs, hsh, hsh1, rfl⟩
    simp only at hs hsh hsh1
    dsimp only [List.cons_append, List.nil_append]
    repeat' (first | refine zP ?_ | refine zA ?_ | (refine zM ?_; intro _ _) | refine zX ?_ | (refine zC ?_; intro _ _ _ _) | (refine zS ?_; intro _ _) | (apply Ws <;> intro hg))
    refine WC.condP rfl (fun hlts => ?_) (fun hlts => ?_)
    · have hs' : s < V := by omega
      have hnb := mskW_lt hx' hlsb s
      obtain ⟨m, hm⟩ : ∃ m, m = mskW ls V x0 s := ⟨_, rfl⟩
      rw [← hm] at hnb ⊢
      repeat' (first | refine zP ?_ | refine zA ?_ | (refine zM ?_; intro _ _) | refine zX ?_ | (refine zC ?_; intro _ _ _ _) | (refine zS ?_; intro _ _) | (apply Ws <;> intro hg))
      refine WC.loopX [(4, _), (5, _), (6, _), (7, _), (8, _), (9, _), (51, _), (52, _), (11, _), (13, _), (12, _), (10, _), (62, _)] (fun p : Nat => [(63, .int .i64 (p : Int)), (14, .int .u32 ((orTo ls m p : Nat) : Int))]) []
        (fun p H' => p ≤ V ∧ H' = H10) (fun p => V - p) 0 (by repeat' (first | exact .nil | refine .cons rfl ?_)) rfl ⟨Nat.zero_le _, rfl⟩ ?_
      rintro p H11 ⟨hp, rfl⟩
      dsimp only [List.cons_append, List.nil_append]
      repeat' (first | refine zP ?_ | refine zA ?_ | (refine zM ?_; intro _ _) | refine zX ?_ | (refine zC ?_; intro _ _ _ _) | (refine zS ?_; intro _ _) | (apply Ws <;> intro hg))
      refine WC.condP rfl (fun hltp => ?_) (fun hltp => ?_)
      · have hp' : p < V := by omega
        have hlp := hlsb p hp'
        have hob := orTo_lt (ls := ls) (m := m) (k := p) (V := V) fun p' h => hlsb p' (by omega)
        repeat' (first | refine zP ?_ | refine zA ?_ | (refine zM ?_; intro _ _) | refine zX ?_ | (refine zC ?_; intro _ _ _ _) | (refine zS ?_; intro _ _) | (apply Ws <;> intro hg))
        refine WR.op (by first | exact gN | exact gS rfl) rfl (OpV.shrN rfl rfl (by show p ≤ 32; omega)) ?_
        refine WR.op (by first | exact gN | exact gS rfl) rfl (OpV.andN (a := m >>> p) (b := 1) rfl rfl (by show m >>> p < 4294967296; have := Nat.shiftRight_le m p; omega) (by decide)) ?_
        repeat' (first | refine zP ?_ | refine zA ?_ | (refine zM ?_; intro _ _) | refine zX ?_ | (refine zC ?_; intro _ _ _ _) | (refine zS ?_; intro _ _) | (apply Ws <;> intro hg))
        refine WC.condP rfl (fun hbit => ?_) (fun hbit => ?_)
        · have hbt := shr_and_one.1 hbit
          repeat' (first | refine zP ?_ | refine zA ?_ | (refine zM ?_; intro _ _) | refine zX ?_ | (refine zC ?_; intro _ _ _ _) | (refine zS ?_; intro _ _) | (apply Ws <;> intro hg))
          refine WR.op (by first | exact gN | exact gS rfl) rfl (OpV.orN rfl rfl (by show orTo ls m p < 4294967296; omega) (by show ls.getD p 0 < 4294967296; omega)) ?_
          repeat' (first | refine zP ?_ | refine zA ?_ | (refine zM ?_; intro _ _) | refine zX ?_ | (refine zC ?_; intro _ _ _ _) | (refine zS ?_; intro _ _) | (apply Ws <;> intro hg))
          rw [show (orTo ls m p ||| ls.getD p 0) = orTo ls m (p + 1) by simp only [orTo]; rw [if_pos hbt]]
          exact Ends.loop (p + 1) (by omega) (by repeat' (first | exact .nil | refine .cons rfl ?_)) rfl ⟨hp', rfl⟩
        · have hbt := fun h => hbit (shr_and_one.2 h)
          repeat' (first | refine zP ?_ | refine zA ?_ | (refine zM ?_; intro _ _) | refine zX ?_ | (refine zC ?_; intro _ _ _ _) | (refine zS ?_; intro _ _) | (apply Ws <;> intro hg))
          rw [show orTo ls m p = orTo ls m (p + 1) by simp only [orTo]; rw [if_neg hbt]]
          exact Ends.loop (p + 1) (by omega) (by repeat' (first | exact .nil | refine .cons rfl ?_)) rfl ⟨hp', rfl⟩
      · have hpV : V = p := by omega
        subst hpV
        rw [show orTo ls m V = mskW ls V x0 (s + 1) by rw [hm]; rfl]
        have hnb2 := mskW_lt hx' hlsb (s + 1)
        have hbw : (mskW ls V x0 (s + 1)).testBit x0 = true ↔ wlk adj x0 (s + 1) x0 := mskW_bit hadV hadj
        clear hm hnb
        generalize hm2 : mskW ls V x0 (s + 1) = m2 at *
        repeat' (first | refine zP ?_ | refine zA ?_ | (refine zM ?_; intro _ _) | refine zX ?_ | (refine zC ?_; intro _ _ _ _) | (refine zS ?_; intro _ _) | (apply Ws <;> intro hg))
        · rename_i hg
          refine WR.op (by first | exact gN | exact gS rfl) rfl (OpV.shrN rfl rfl (by show x0 ≤ 32; omega)) ?_
          refine WR.op (by first | exact gN | exact gS rfl) rfl (OpV.andN (a := m2 >>> x0) (b := 1) rfl rfl (by show m2 >>> x0 < 4294967296; have := Nat.shiftRight_le m2 x0; omega) (by decide)) ?_
          repeat' (first | refine zP ?_ | refine zA ?_ | (refine zM ?_; intro _ _) | refine zX ?_ | (refine zC ?_; intro _ _ _ _) | (refine zS ?_; intro _ _) | (apply Ws <;> intro hg))
          refine WC.condP rfl (fun hbit => ?_) (fun hbit => ?_)
          · have hbt := hbw.1 (shr_and_one.1 hbit)
            have hsn := hsh.take hx' (by omega) (by omega) hbt
            repeat' (first | refine zP ?_ | refine zA ?_ | (refine zM ?_; intro _ _) | refine zX ?_ | (refine zC ?_; intro _ _ _ _) | (refine zS ?_; intro _ _) | (apply Ws <;> intro hg))
            subst hm2
            rw [show min (sh : Int) ((s + 1 : Nat) : Int) = ((min sh (s + 1) : Nat) : Int) by omega]
            refine Ends.loop (s + 1, min sh (s + 1)) (by simp only; omega) (by repeat' (first | exact .nil | refine .cons rfl ?_)) rfl ⟨by simp only; omega, hsn, by simp only; omega, rfl⟩
          · have hbt := fun h => hbit (shr_and_one.2 (hbw.2 h))
            have hsn := hsh.skip (fun h => hbt h.2)
            repeat' (first | refine zP ?_ | refine zA ?_ | (refine zM ?_; intro _ _) | refine zX ?_ | (refine zC ?_; intro _ _ _ _) | (refine zS ?_; intro _ _) | (apply Ws <;> intro hg))
            subst hm2
            exact Ends.loop (s + 1, sh) (by simp only; omega) (by repeat' (first | exact .nil | refine .cons rfl ?_)) rfl ⟨by simp only; omega, hsn, hsh1, rfl⟩
        · rename_i hg
          have hsn := hsh.skip (fun h => hg (by omega))
          subst hm2
          exact Ends.loop (s + 1, sh) (by simp only; omega) (by repeat' (first | exact .nil | refine .cons rfl ?_)) rfl ⟨by simp only; omega, hsn, hsh1, rfl⟩
    · have hsV : s = V := by omega
      rw [hsV] at hsh
      have hsn := hsh.next
      repeat' (first | refine zP ?_ | refine zA ?_ | (refine zM ?_; intro _ _) | refine zX ?_ | (refine zC ?_; intro _ _ _ _) | (refine zS ?_; intro _ _) | (apply Ws <;> intro hg))
      exact Ends.loop (x0 + 1, sh) (by simp only; omega) (by repeat' (first | exact .nil | refine .cons rfl ?_)) rfl ⟨hx', hsn, hsh1, rfl⟩
  · have hxV : x0 = V := by omega
    rw [hxV] at hsh
    clear hltx hx0 hxV
    repeat' (first | refine zP ?_ | refine zA ?_ | (refine zM ?_; intro _ _) | refine zX ?_ | (refine zC ?_; intro _ _ _ _) | (refine zS ?_; intro _ _) | (apply Ws <;> intro hg))
    refine WC.condP rfl (fun hgt => ?_) (fun hgt => ?_)
    · rw [hadE] at hsh
      obtain ⟨hf2, hnone⟩ := odd_none hptV heqF hV16 hsh (by omega) hFR
      rw [hN2] at hnone
      rcases hres with ⟨_, k, l, h, _⟩ | ⟨rfl, rfl, _⟩
      · exact absurd h (hnone k l)
      · repeat' (first | refine zP ?_ | refine zA ?_ | (refine zM ?_; intro _ _) | refine zX ?_ | (refine zC ?_; intro _ _ _ _) | (refine zS ?_; intro _ _) | refine zO ?_ | (apply Ws <;> intro hg))
        refine WR.call (by first | exact gN | exact gS rfl) rfl rfl (FS.works ⟨rfl, rfl⟩ : FS C _ [] _ (fun e H' => e = .bool true ∧ H' = H9)) ?_
        rintro _ _ ⟨rfl, rfl⟩
        repeat' (first | refine zP ?_ | refine zA ?_ | (refine zM ?_; intro _ _) | refine zX ?_ | (refine zC ?_; intro _ _ _ _) | (refine zS ?_; intro _ _) | (apply Ws <;> intro hg))
        exact Ends.ret1 rfl rfl
    · rw [hadE] at hsh
      obtain ⟨hf3, hnn, hks⟩ := odd_some hptV heqF hV16 hnl hsh (by omega) hFR
      rw [hN2] at hnn hks
      obtain ⟨rfl, k, l, hO, hSl, _⟩ := hres.resolve_right fun h => hnn h.2.2.1
      obtain rfl := hks k l hO
      have hSl8 : Sl ((b8, Ch.row 69 0 0 (numsK .u32 ls)) :: M4) 1 lv (nodes l) := hSl.mono fun q hq => .tail _ (hMO q hq)
      have hll : l.length = k := hO.2.2.2.1.1
      have hk3 : 3 ≤ k := hO.2.1
      rw [← hN2] at hO
      repeat' (first | refine zP ?_ | refine zA ?_ | (refine zM ?_; intro _ _) | refine zX ?_ | (refine zC ?_; intro _ _ _ _) | (refine zS ?_; intro _ _) | refine zO ?_ | (apply Ws <;> intro hg))
      rw [hll]
      refine WC.loopX [(4, _), (8, _), (9, _), (130, _), (131, _)] (fun i : Nat => [(132, .int .i64 (i : Int))]) [] (fun i H' => i ≤ k ∧ H' = H9) (fun i => k - i) 0 (by repeat' (first | exact .nil | refine .cons rfl ?_)) rfl ⟨Nat.zero_le _, rfl⟩ ?_
      rintro i H12 ⟨hi, rfl⟩
      dsimp only [List.cons_append, List.nil_append]
      repeat' (first | refine zP ?_ | refine zA ?_ | (refine zM ?_; intro _ _) | refine zX ?_ | (refine zC ?_; intro _ _ _ _) | (refine zS ?_; intro _ _) | (apply Ws <;> intro hg))
      refine WC.condP rfl (fun hlti => ?_) (fun hlti => ?_)
      · have hi' : i < k := by omega
        obtain ⟨f1, f2, f3, f4, f5⟩ := hO.facts hptV hi'
        have hmod : (i + 1) % k < k := Nat.mod_lt _ (by omega)
        have hbit := shr_and_one.2 ((hadj _ _ f1).2 (by rw [hadE]; exact f3))
        have hlp := Nat.lt_of_lt_of_le (hlsb _ f1) hpow
        have hk16 : k ≤ 16 := by omega
        clear h6 hFR hnn hres hsh hks hO hSl hR4 hbox hMO hnl hnlF heqF hptF hptL hltL hbb hpt hlt heq hls hptV hadV hadj hadE hptA hltA hsm1 hsm2 hQ hob hlsb hev hcp hle hlen hn2 hn5 hn6 hn7 hb8 hn8 hone hsl hu1 hQ8 hf3 hfV hsh1 hgt hpow hone2 hN2 hpair f3
        clear hV
        repeat' (first | refine zP ?_ | refine zA ?_ | (refine zM ?_; intro _ _) | refine zX ?_ | (refine zC ?_; intro _ _ _ _) | (refine zS ?_; intro _ _))
        rw [hll, show ((i : Int) + 1) % (k : Int) = (((i + 1) % k : Nat) : Int) by rw [Int.natCast_emod]; rfl]
        repeat' (first | refine zP ?_ | refine zA ?_ | (refine zM ?_; intro _ _) | refine zX ?_ | (refine zC ?_; intro _ _ _ _) | (refine zS ?_; intro _ _))
        generalize hq : l.getD ((i + 1) % k) 0 = q at *
        generalize hp : l.getD i 0 = p at *
        repeat' (first | refine zP ?_ | refine zA ?_ | (refine zM ?_; intro _ _) | refine zX ?_ | (refine zC ?_; intro _ _ _ _) | (refine zS ?_; intro _ _) | refine zO ?_ | (apply Ws <;> intro hg))
        refine WR.op (by first | exact gN | exact gS rfl) rfl (OpV.shrN rfl rfl (by show q ≤ 32; omega)) ?_
        refine WR.op (by first | exact gN | exact gS rfl) rfl (OpV.andN (a := ls.getD p 0 >>> q) (b := 1) rfl rfl (by show ls.getD p 0 >>> q < 4294967296; have := Nat.shiftRight_le (ls.getD p 0) q; omega) (by decide)) ?_
        repeat' (first | refine zP ?_ | refine zA ?_ | (refine zM ?_; intro _ _) | refine zX ?_ | (refine zC ?_; intro _ _ _ _) | (refine zS ?_; intro _ _) | refine zO ?_ | (apply Ws <;> intro hg))
        refine WR.cutHiN (m := i) (by first | exact gN | exact gS rfl) rfl rfl hSl8 rfl (by omega) fun s hs => ?_
        repeat' (first | refine zP ?_ | refine zA ?_ | (refine zM ?_; intro _ _) | refine zX ?_ | (refine zC ?_; intro _ _ _ _) | (refine zS ?_; intro _ _) | refine zO ?_ | (apply Ws <;> intro hg))
        refine WR.call (by first | exact gN | exact gS rfl) rfl rfl (Contains_fs hH8 hs (by rw [List.length_take]; omega) _) ?_
        rintro _ _ ⟨rfl, rfl⟩
        rw [decide_eq_false f4]
        repeat' (first | refine zP ?_ | refine zA ?_ | (refine zM ?_; intro _ _) | refine zX ?_ | (refine zC ?_; intro _ _ _ _) | (refine zS ?_; intro _ _) | refine zO ?_ | (apply Ws <;> intro hg))
        exact Ends.loop (i + 1) (by omega) (by repeat' (first | exact .nil | refine .cons rfl ?_)) rfl ⟨by omega, rfl⟩
      · repeat' (first | refine zP ?_ | refine zA ?_ | (refine zM ?_; intro _ _) | refine zX ?_ | (refine zC ?_; intro _ _ _ _) | (refine zS ?_; intro _ _) | refine zO ?_ | (apply Ws <;> intro hg))
        refine WR.call (by first | exact gN | exact gS rfl) rfl rfl (FS.works ⟨rfl, rfl⟩ : FS C _ [] _ (fun e H' => e = .bool true ∧ H' = H12)) ?_
        rintro _ _ ⟨rfl, rfl⟩
        repeat' (first | refine zP ?_ | refine zA ?_ | (refine zM ?_; intro _ _) | refine zX ?_ | (refine zC ?_; intro _ _ _ _) | (refine zS ?_; intro _ _) | (apply Ws <;> intro hg))
        exact Ends.ret1 rfl rfl
end
end Go.Proofs.YtmgmkglmjmaipaaDoor.Ct
