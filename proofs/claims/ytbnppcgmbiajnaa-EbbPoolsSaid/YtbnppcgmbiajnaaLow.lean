/- The lowest heights of ways: what a round of the work does, and what stands at its end. Plain mathematics. -/
namespace Go.Low

/-- The nodes beside a node, in ascending order. -/
def nbrs (c r p : Nat) : List Nat :=
  if p = r then List.range' (r - c) c
  else (if c ≤ p then [p - c] else []) ++ ((if 0 < p % c then [p - 1] else []) ++ ((if p % c < c - 1 then [p + 1] else []) ++ [min (p + c) r]))

theorem nbrs_le {c r p y : Nat} (hc : 1 ≤ c) (hcr : c ≤ r) (hp : p ≤ r) (hy : y ∈ nbrs c r p) : y ≤ r := by
  unfold nbrs at hy
  split at hy
  · simp only [List.mem_range'_1] at hy; omega
  · simp only [List.mem_append] at hy
    have hpr : p < r := by omega
    rcases hy with hy | hy | hy | hy
    · split at hy
      · simp at hy; omega
      · cases hy
    · split at hy
      · simp at hy; omega
      · cases hy
    · split at hy
      · simp at hy; omega
      · cases hy
    · simp at hy; omega

theorem nbrs_ne {c r p : Nat} (hc : 1 ≤ c) (hcr : c ≤ r) : p ∉ nbrs c r p := by
  intro hy
  unfold nbrs at hy
  split at hy
  · simp only [List.mem_range'_1] at hy; omega
  · simp only [List.mem_append] at hy
    rcases hy with hy | hy | hy | hy
    · split at hy
      · simp at hy; omega
      · cases hy
    · split at hy
      · rename_i h
        have := Nat.mod_le p c
        simp at hy; omega
      · cases hy
    · split at hy
      · simp at hy
      · cases hy
    · simp at hy; omega

abbrev S := List Int × List Nat

def relax (hs : List Int) (x : Nat) (s : S) (y : Nat) : S :=
  let ht := max (s.1.getD x 0) (hs.getD y 0)
  if ht < s.1.getD y 0 then (s.1.set y ht, s.2 ++ [y]) else s

def total (l : List Int) : Nat := (l.map Int.toNat).sum

theorem total_set : ∀ {l : List Int} {y : Nat} {v : Int}, y < l.length → 0 ≤ v → v < l.getD y 0 → total (l.set y v) + 1 ≤ total l
  | [], y, v, h, _, _ => absurd h (Nat.not_lt_zero _)
  | a :: l, 0, v, _, h0, h1 => by
    simp only [List.getD_cons_zero] at h1
    simp only [total, List.set_cons_zero, List.map_cons, List.sum_cons]
    omega
  | a :: l, y + 1, v, h, h0, h1 => by
    have ih := total_set (l := l) (y := y) (v := v) (by simpa using h) h0 (by simpa using h1)
    simp only [total, List.set_cons_succ, List.map_cons, List.sum_cons] at ih ⊢
    omega

def meas (s : S) : Nat := 2 * total s.1 + s.2.length

structure Good (r : Nat) (s : S) : Prop where
  len : s.1.length = 37
  bd : ∀ y, y < 37 → 0 ≤ s.1.getD y 0 ∧ s.1.getD y 0 ≤ 31
  wk : ∀ y ∈ s.2, y ≤ r
  ms : meas s ≤ 2400

structure HS (c r : Nat) (hs : List Int) : Prop where
  c1 : 1 ≤ c
  cr : c ≤ r
  r36 : r ≤ 36
  len : hs.length = 37
  bd : ∀ y, 0 ≤ hs.getD y 0 ∧ hs.getD y 0 ≤ 30

theorem getD_set {l : List Int} {y z : Nat} {v : Int} (h : y < l.length) : (l.set y v).getD z 0 = if z = y then v else l.getD z 0 := by
  rw [List.getD_eq_getElem?_getD, List.getD_eq_getElem?_getD, List.getElem?_set]
  by_cases e : y = z
  · subst e; simp [h]
  · rw [if_neg e, if_neg (fun q => e q.symm)]

section
variable {c r : Nat} {hs : List Int} (hh : HS c r hs)
include hh

theorem relax_good {x y : Nat} {s : S} (hx : x ≤ r) (hy : y ≤ r) (g : Good r s) : Good r (relax hs x s y) ∧ meas (relax hs x s y) ≤ meas s := by
  have h36 := hh.r36
  unfold relax
  simp only
  split
  · rename_i hlt
    have hb := g.bd x (by omega)
    have hb2 := hh.bd y
    have hylt : y < s.1.length := by rw [g.len]; omega
    have ht := total_set hylt (v := max (s.1.getD x 0) (hs.getD y 0)) (by omega) hlt
    have hm : meas (s.1.set y (max (s.1.getD x 0) (hs.getD y 0)), s.2 ++ [y]) ≤ meas s := by simp only [meas, List.length_append, List.length_singleton]; omega
    refine ⟨⟨by rw [List.length_set]; exact g.len, fun z hz => ?_, fun z hz => ?_, Nat.le_trans hm g.ms⟩, hm⟩
    · rw [getD_set hylt]
      have := g.bd y (by omega)
      split
      · omega
      · exact g.bd z hz
    · rcases List.mem_append.1 hz with h | h
      · exact g.wk z h
      · simp at h; omega
  · exact ⟨g, Nat.le_refl _⟩

/-- A way leads from a node through nodes of at most a height. -/
inductive Reach (c r : Nat) (hs : List Int) (src : Nat) (t : Int) : Nat → Prop where
  | start (h : hs.getD src 0 ≤ t) : Reach c r hs src t src
  | step {x y : Nat} (h : Reach c r hs src t x) (hy : y ∈ nbrs c r x) (ht : hs.getD y 0 ≤ t) : Reach c r hs src t y

omit hh in
theorem Reach.mono {src : Nat} {t t' : Int} (h : t ≤ t') {y : Nat} (k : Reach c r hs src t y) : Reach c r hs src t' y := by
  induction k with
  | start h1 => exact .start (by omega)
  | step _ hy ht ih => exact .step ih hy (by omega)

def Rel (hs : List Int) (b : List Int) (u y : Nat) : Prop := b.getD y 0 ≤ max (b.getD u 0) (hs.getD y 0)

/-- What holds within a round: node x, of whose neighbours some are still to come. -/
structure Core (c r : Nat) (hs : List Int) (src x : Nat) (zs : List Nat) (s : S) : Prop where
  sr : s.1.getD src 0 ≤ hs.getD src 0
  ach : ∀ y, y < 37 → s.1.getD y 0 = 31 ∨ Reach c r hs src (s.1.getD y 0) y
  rel : ∀ u, u ≤ r → u ∉ s.2.tail → ∀ y ∈ nbrs c r u, (u = x ∧ y ∈ zs) ∨ Rel hs s.1 u y

structure Out (c r : Nat) (hs : List Int) (src : Nat) (s : S) : Prop where
  sr : s.1.getD src 0 ≤ hs.getD src 0
  ach : ∀ y, y < 37 → s.1.getD y 0 = 31 ∨ Reach c r hs src (s.1.getD y 0) y
  rel : ∀ u, u ≤ r → u ∉ s.2 → ∀ y ∈ nbrs c r u, Rel hs s.1 u y

omit hh in
theorem Out.enter {src x : Nat} {s : S} {w : List Nat} (h : Out c r hs src s) (hw : s.2 = x :: w) : Core c r hs src x (nbrs c r x) s := by
  refine ⟨h.sr, h.ach, fun u hu hn y hy => ?_⟩
  by_cases hux : u = x
  · subst hux; exact .inl ⟨rfl, hy⟩
  · exact .inr (h.rel u hu (by rw [hw] at hn ⊢; simp only [List.tail_cons, List.mem_cons] at hn ⊢; exact fun q => q.elim hux hn) y hy)

omit hh in
theorem Core.leave {src x : Nat} {s : S} (h : Core c r hs src x [] s) : Out c r hs src (s.1, s.2.tail) :=
  ⟨h.sr, h.ach, fun u hu hn y hy => (h.rel u hu hn y hy).resolve_left (fun q => by cases q.2)⟩

theorem relax_core {src x y : Nat} {zs : List Nat} {s : S} (hx : x ≤ r) (hy : y ∈ nbrs c r x) (g : Good r s) (hne : s.2 ≠ []) (h : Core c r hs src x (y :: zs) s) : Core c r hs src x zs (relax hs x s y) := by
  have h36 := hh.r36
  have hyr := nbrs_le hh.c1 hh.cr hx hy
  have hxy : x ≠ y := fun e => nbrs_ne hh.c1 hh.cr (e ▸ hy)
  have hylt : y < s.1.length := by rw [g.len]; omega
  unfold relax
  simp only
  split
  · rename_i hlt
    have hgx := g.bd x (by omega)
    have hby := g.bd y (by omega)
    have hhy := hh.bd y
    refine ⟨?_, fun z hz => ?_, fun u hu hn z hz => ?_⟩
    · rw [getD_set hylt]
      split
      · rename_i e; rw [e] at h ⊢; have := h.sr; omega
      · exact h.sr
    · rw [getD_set hylt]
      split
      · rename_i e
        subst e
        right
        rcases h.ach x (by omega) with h1 | h1
        · omega
        · exact .step (h1.mono (by omega)) hy (by omega)
      · exact h.ach z hz
    · have hn2 : u ∉ s.2.tail ∧ u ≠ y := by
        cases hs2 : s.2 with
        | nil => exact absurd hs2 hne
        | cons a w => rw [hs2] at hn; simp at hn ⊢; exact hn
      rcases h.rel u hu hn2.1 z hz with ⟨rfl, hmem⟩ | hr
      · rcases List.mem_cons.1 hmem with rfl | hmem
        · right
          simp only [Rel, getD_set hylt, if_true, if_neg hxy]
          omega
        · exact .inl ⟨rfl, hmem⟩
      · right
        simp only [Rel, getD_set hylt, if_neg hn2.2] at hr ⊢
        split
        · rename_i e; subst e; omega
        · exact hr
  · rename_i hge
    refine ⟨h.sr, h.ach, fun u hu hn z hz => ?_⟩
    rcases h.rel u hu hn z hz with ⟨rfl, hmem⟩ | hr
    · rcases List.mem_cons.1 hmem with rfl | hmem
      · right; simp only [Rel]; omega
      · exact .inl ⟨rfl, hmem⟩
    · exact .inr hr

theorem Reach.le {src : Nat} {t : Int} (hsrc : src ≤ r) {y : Nat} (k : Reach c r hs src t y) : y ≤ r := by
  induction k with
  | start _ => exact hsrc
  | step _ hy _ ih => exact nbrs_le hh.c1 hh.cr ih hy

/-- At the end. -/
theorem Out.done {src : Nat} (hsrc : src ≤ r) {b : List Int} (h : Out c r hs src (b, [])) {t : Int} (ht : t ≤ 30) {y : Nat} (hy : y ≤ r) : b.getD y 0 ≤ t ↔ Reach c r hs src t y := by
  have h36 := hh.r36
  constructor
  · intro hb
    rcases h.ach y (by omega) with h1 | h1
    · simp only at h1; omega
    · exact h1.mono hb
  · intro hr
    clear hy
    induction hr with
    | start h1 => have := h.sr; simp only at this; omega
    | step h1 h2 h3 ih =>
      have := h.rel _ (h1.le hh hsrc) (by simp) _ h2
      simp only [Rel] at this
      omega

omit hh in
theorem total_le : ∀ {l : List Int}, (∀ y, y < l.length → l.getD y 0 ≤ 31) → total l ≤ 31 * l.length
  | [], _ => Nat.le_refl _
  | a :: l, h => by
    have ih := total_le (l := l) (fun y hy => by simpa using h (y + 1) (by simpa using hy))
    have h0 := h 0 (by simp)
    simp only [List.getD_cons_zero] at h0
    simp only [total, List.map_cons, List.sum_cons, List.length_cons] at ih ⊢
    omega

theorem init {src : Nat} (hsrc : src ≤ r) {b : List Int} (hl : b.length = 37) (hb : ∀ y, y < 37 → b.getD y 0 = if y = src then hs.getD src 0 else 31) : Good r (b, [src]) ∧ Out c r hs src (b, [src]) := by
  have h36 := hh.r36
  have hbs := hh.bd src
  have h31 : ∀ y, y < 37 → 0 ≤ b.getD y 0 ∧ b.getD y 0 ≤ 31 := by
    intro y hy; rw [hb y hy]; split <;> omega
  refine ⟨⟨hl, h31, fun y hy => ?_, ?_⟩, ⟨?_, fun y hy => ?_, fun u hu hn y hy => ?_⟩⟩
  · simp at hy; omega
  · have := total_le (l := b) (fun y hy => (h31 y (by omega)).2)
    simp only [meas, List.length_singleton]
    omega
  · simp only; rw [hb src (by omega), if_pos rfl]; omega
  · simp only
    rw [hb y hy]
    by_cases e : y = src
    · subst e; rw [if_pos rfl]; exact .inr (.start (by omega))
    · rw [if_neg e]; exact .inl rfl
  · simp only [Rel]
    have h1 : b.getD u 0 = 31 := by rw [hb u (by omega), if_neg (by simpa using hn)]
    have h2 := h31 y (by have := nbrs_le hh.c1 hh.cr hu hy; omega)
    rw [h1]; omega

end
end Go.Low
