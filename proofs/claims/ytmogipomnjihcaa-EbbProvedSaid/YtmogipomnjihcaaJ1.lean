/- Texts of the law, joined. -/
import Derived.Test.YtmogipomnjihcaaEbP
import Derived.Test.YtmogipomnjihcaaSymE
import Derived.Test.YtmogipomnjihcaaSymD
/- What the functions of package ebb come to. -/
namespace Go.Proofs.Ytmogipomnjihcaa.Eb
open Go Go.Abs
set_option linter.unusedVariables false
set_option linter.unusedSimpArgs false

attribute [local irreducible] gOK WS WC WR WD Ends FS YS OpV seqK blockK loopK midK retK rdK asgK rangeEnd sat Cell

abbrev ints (xs : List Int) : List Value := xs.map (Value.int .i64)
abbrev bools (xs : List Bool) : List Value := xs.map Value.bool

theorem within_fs (a l h : Int) (H : Heap) : FS C 63 [.int .i64 a, .int .i64 l, .int .i64 h] H (fun v H' => v = .bool (decide (l ≤ a ∧ a ≤ h)) ∧ H' = H) := by
  refine FS.intro (pf := pf63) rfl rfl rfl ?_
  repeat' (first | refine zA ?_ | (refine zM ?_; intro _ _) | (apply Ws <;> intro hg))
  all_goals refine Ends.ret1 rfl ⟨?_, rfl⟩
  all_goals simp [hg]

theorem isHeight_fs (a : Int) (H : Heap) : FS C 77 [.int .i64 a] H (fun v H' => v = .bool (decide (0 ≤ a ∧ a ≤ 30)) ∧ H' = H) := by
  refine FS.intro (pf := pf77) rfl rfl rfl ?_
  repeat' (first | refine zA ?_ | (refine zM ?_; intro _ _) | (apply Ws <;> intro hg))
  refine WR.call (by first | exact gN | exact gS rfl) rfl rfl (within_fs _ _ _ _) ?_
  rintro v H' ⟨rfl, rfl⟩
  repeat' (first | refine zA ?_ | (refine zM ?_; intro _ _) | (apply Ws <;> intro hg))
  exact Ends.ret1 rfl ⟨rfl, rfl⟩

theorem allHeights_fs {M : HL} {n : Nat} {H : Heap} (hH : hasH M n H) {v : Value} {xs : List Int} (hS : Sl M 1 v (ints xs)) (hx : xs.length ≤ 1000) :
    FS C 64 [v] H (fun r H' => r = .bool (decide (∀ x ∈ xs, 0 ≤ x ∧ x ≤ 30)) ∧ H' = H) := by
  refine FS.intro (pf := pf64) rfl rfl rfl ?_
  repeat' (first | refine zA ?_ | (refine zM ?_; intro _ _) | (apply Ws <;> intro hg))
  refine WR.op (by first | exact gN | exact gS rfl) rfl (OpV.lenSI rfl hS) ?_
  repeat' (first | refine zA ?_ | (refine zM ?_; intro _ _) | (apply Ws <;> intro hg))
  refine WC.loop (fun k : Nat => [(5, v), (6, .int .i64 xs.length), (7, .int .i64 k)]) (fun _ => []) (fun k H' => H' = H ∧ k ≤ xs.length ∧ ∀ j (h : j < xs.length), j < k → 0 ≤ xs[j] ∧ xs[j] ≤ 30) (fun k => xs.length - k) 0 (by repeat' (first | exact .nil | refine .cons rfl ?_)) rfl ⟨rfl, Nat.zero_le _, fun j _ h => absurd h (Nat.not_lt_zero _)⟩ ?_
  rintro k H' ⟨rfl, hk, hgood⟩
  repeat' (first | refine zA ?_ | (refine zM ?_; intro _ _) | (apply Ws <;> intro hg))
  refine WC.condP rfl (fun hlt => ?_) (fun hlt => ?_)
  · have hlt' : k < xs.length := by omega
    repeat' (first | refine zA ?_ | (refine zM ?_; intro _ _) | (apply Ws <;> intro hg))
    refine WR.idxSI (by first | exact gN | exact gS rfl) rfl rfl hS rfl rfl hlt' fun b o u hc => ?_
    repeat' (first | refine zA ?_ | (refine zM ?_; intro _ _) | (apply Ws <;> intro hg))
    refine WR.call (by first | exact gN | exact gS rfl) rfl rfl (isHeight_fs _ _) ?_
    rintro v2 H2 ⟨rfl, rfl⟩
    repeat' (first | refine zA ?_ | (refine zM ?_; intro _ _) | (apply Ws <;> intro hg))
    refine WC.condP rfl (fun h => ?_) (fun h => ?_)
    · repeat' (first | refine zA ?_ | (refine zM ?_; intro _ _) | (apply Ws <;> intro hg))
      refine Ends.ret1 rfl ⟨?_, rfl⟩
      simp only [Value.bool.injEq]
      rw [eq_comm, decide_eq_false_iff_not]
      exact fun hall => h (hall _ (List.getElem_mem hlt'))
    · repeat' (first | refine zA ?_ | (refine zM ?_; intro _ _) | (apply Ws <;> intro hg))
      refine Ends.loop (k + 1) (by omega) (by repeat' (first | exact .nil | refine .cons rfl ?_)) rfl ⟨rfl, hlt', fun j hj hjk => ?_⟩
      by_cases hjk' : j = k
      · subst hjk'; exact Decidable.not_not.1 h
      · exact hgood j hj (by omega)
  · repeat' (first | refine zA ?_ | (refine zM ?_; intro _ _) | (apply Ws <;> intro hg))
    refine Ends.ret1 rfl ⟨?_, rfl⟩
    simp only [Value.bool.injEq]
    rw [eq_comm, decide_eq_true_iff]
    intro x hxm
    obtain ⟨j, hj, rfl⟩ := List.mem_iff_getElem.1 hxm
    exact hgood j hj (by omega)
def checkE (r c : Int) (xs : List Int) : Int := if ¬ (1 ≤ r ∧ r ≤ 6) ∨ ¬ (1 ≤ c ∧ c ≤ 6) then 1 else if (xs.length : Int) ≠ r * c then 5 else if ∀ x ∈ xs, 0 ≤ x ∧ x ≤ 30 then 0 else 1

theorem prod_le {r c : Int} (hr : 1 ≤ r ∧ r ≤ 6) (hc : 1 ≤ c ∧ c ≤ 6) : 1 ≤ r * c ∧ r * c ≤ 36 := by
  have h1 := Int.mul_le_mul hr.2 hc.2 (by omega) (by omega)
  have h2 := Int.mul_le_mul hr.1 hc.1 (by omega) (by omega)
  omega

theorem Check_fs {M : HL} {n : Nat} {H : Heap} (hH : hasH M n H) {r c : Int} {v : Value} {xs : List Int} (hS : Sl M 1 v (ints xs)) (hx : xs.length ≤ 1000) :
    FS C 22 [.agg #[.int .i64 r, .int .i64 c, v]] H (fun e H' => e = .int .i64 (checkE r c xs) ∧ ∃ n', n ≤ n' ∧ hasH M n' H') := by
  have h1 := hS.one_
  refine FS.intro (pf := pf22) rfl rfl rfl ?_
  repeat' (first | refine zA ?_ | (refine zM ?_; intro _ _) | (apply Ws <;> intro hg))
  refine WR.call (by first | exact gN | exact gS rfl) rfl rfl (within_fs _ _ _ _) ?_
  rintro _ _ ⟨rfl, rfl⟩
  repeat' (first | refine zA ?_ | (refine zM ?_; intro _ _) | (apply Ws <;> intro hg))
  · refine Ends.ret1 rfl ⟨?_, n + 1, by omega, hasH.tail (by assumption)⟩
    simp [checkE, hg]
  refine WR.call (by first | exact gN | exact gS rfl) rfl rfl (within_fs _ _ _ _) ?_
  rintro _ _ ⟨rfl, rfl⟩
  repeat' (first | refine zA ?_ | (refine zM ?_; intro _ _) | (apply Ws <;> intro hg))
  refine WC.condP rfl (fun hc => ?_) (fun hc => ?_)
  · repeat' (first | refine zA ?_ | (refine zM ?_; intro _ _) | (apply Ws <;> intro hg))
    refine Ends.ret1 rfl ⟨?_, n + 1, by omega, hasH.tail (by assumption)⟩
    simp [checkE, hc]
  repeat' (first | refine zA ?_ | (refine zM ?_; intro _ _) | (apply Ws <;> intro hg))
  have hr' := Decidable.not_not.1 hg
  have hc' := Decidable.not_not.1 hc
  have hp := prod_le hr' hc'
  refine WR.op (by first | exact gN | exact gS rfl) rfl (OpV.lenSI rfl hS) ?_
  repeat' (first | refine zA ?_ | (refine zM ?_; intro _ _) | (apply Ws <;> intro hg))
  refine WR.op (by first | exact gN | exact gS rfl) rfl (OpV.mul rfl rfl (by omega)) ?_
  repeat' (first | refine zA ?_ | (refine zM ?_; intro _ _) | (apply Ws <;> intro hg))
  refine WC.condP rfl (fun hl => ?_) (fun hl => ?_)
  · repeat' (first | refine zA ?_ | (refine zM ?_; intro _ _) | (apply Ws <;> intro hg))
    refine Ends.ret1 rfl ⟨?_, n + 1, by omega, hasH.tail (by assumption)⟩
    simp [checkE, hr', hc', hl]
  repeat' (first | refine zA ?_ | (refine zM ?_; intro _ _) | (apply Ws <;> intro hg))
  refine WR.call (by first | exact gN | exact gS rfl) rfl rfl (allHeights_fs (by assumption) hS.cons hx) ?_
  rintro _ _ ⟨rfl, rfl⟩
  repeat' (first | refine zA ?_ | (refine zM ?_; intro _ _) | (apply Ws <;> intro hg))
  have hl' : (xs.length : Int) = r * c := by omega
  refine WC.condP rfl (fun ha => ?_) (fun ha => ?_)
  · repeat' (first | refine zA ?_ | (refine zM ?_; intro _ _) | (apply Ws <;> intro hg))
    refine Ends.ret1 rfl ⟨?_, n + 1, by omega, hasH.tail (by assumption)⟩
    simp only [checkE, hr', hc', hl', not_true_eq_false, or_self, if_false, ne_eq]
    rw [if_neg (by simp), if_neg ha]
  · repeat' (first | refine zA ?_ | (refine zM ?_; intro _ _) | (apply Ws <;> intro hg))
    refine Ends.ret1 rfl ⟨?_, n + 1, by omega, hasH.tail (by assumption)⟩
    simp only [checkE, hr', hc', hl', not_true_eq_false, or_self, if_false, ne_eq]
    rw [if_neg (by simp), if_pos (Decidable.not_not.1 ha)]

end Go.Proofs.Ytmogipomnjihcaa.Eb

namespace Go.Proofs.Ytmogipomnjihcaa.Eb
open Go Go.Abs
set_option linter.unusedVariables false
set_option linter.unusedSimpArgs false
attribute [local irreducible] gOK WS WC WR WD Ends FS YS OpV seqK blockK loopK midK retK rdK asgK rangeEnd sat Cell

/-- A grid: how many columns, how many places, all heights. -/
abbrev gcells (c r : Nat) (hs : List Int) : List Value := .int .i64 (c : Int) :: .int .i64 (r : Int) :: ints hs

theorem ints_one (xs : List Int) : (ints xs).all one = true := by simp [ints, one]

theorem newGrid_fs {M : HL} {n : Nat} {H : Heap} (hH : hasH M n H) {r : Int} {c : Nat} {v : Value} {xs : List Int} (hS : Sl M 1 v (ints xs)) (hx : xs.length ≤ 36) (hx1 : 1 ≤ xs.length) :
    FS C 88 [.agg #[.int .i64 r, .int .i64 (c : Int), v]] H (fun e H' => ∃ b n', e = .pointer (some ⟨b, 0, some 0⟩) ∧ n ≤ n' ∧ hasH ((b, .row 99 0 0 (gcells c xs.length (xs ++ List.replicate (37 - xs.length) 0))) :: M) n' H') := by
  have h1 := hS.one_
  refine FS.intro (pf := pf88) rfl rfl rfl ?_
  repeat' (first | refine zA ?_ | (refine zM ?_; intro _ _) | (apply Ws <;> intro hg))
  refine WR.op (by first | exact gN | exact gS rfl) rfl (OpV.lenSI rfl hS) ?_
  refine WR.op (by first | exact gN | exact gS rfl) rfl (OpV.bldT (vs := [(0, .int .i64 (c : Int)), (1, .int .i64 (xs.length : Int))]) rfl (cs := (gcells c xs.length (List.replicate 37 0)).toArray) (by rfl)) ?_
  repeat' (first | refine zA ?_ | (refine zM ?_; intro _ _) | (apply Ws <;> intro hg))
  refine WR.op (by first | exact gN | exact gS rfl) rfl (OpV.slA rfl (by decide)) ?_
  repeat' (first | refine zA ?_ | (refine zM ?_; intro _ _) | (apply Ws <;> intro hg))
  refine WR.copy (by first | exact gN | exact gS rfl) rfl rfl rfl hS.cons.cons (by assumption) (cs' := gcells c xs.length (xs ++ List.replicate (37 - xs.length) 0)) (by first | exact .here | exact .there .here | exact .there (.there .here) | exact .there (.there (.there .here)) | exact .there (.there (.there (.there .here))) | exact .there (.there (.there (.there (.there .here))))) (ints_one _) (Nat.zero_le _) (by simp; omega) (by simp; omega) ?_ ?_ fun H3 hH3 => ?_
  · simp only [splice, gcells, ints, List.map_append, List.map_replicate, List.length_map]
    rw [show 0 + 2 - 0 + xs.length = xs.length + 2 by omega]
    simp [-List.reduceReplicate, List.drop_replicate]
  · intro e; have := congrArg List.length e; simp only [ints, List.length_map, List.length_nil] at this; omega
  repeat' (first | refine zA ?_ | (refine zM ?_; intro _ _) | (apply Ws <;> intro hg))
  refine Ends.ret1 rfl ⟨n + 1, n + 2, rfl, by omega, ?_⟩
  exact hH3.sub (.cons_cons _ (List.sublist_cons_self _ _))

theorem lay_fs {M : HL} {n : Nat} {H : Heap} (hH : hasH M n H) {r c : Int} {v : Value} {xs : List Int} (hS : Sl M 1 v (ints xs)) (hx : xs.length ≤ 1000) :
    FS C 55 [.agg #[.int .i64 r, .int .i64 c, v]] H (fun e H' => ∃ n', n ≤ n' ∧ (checkE r c xs ≠ 0 ∧ e = .tuple #[.pointer none, .int .i64 (checkE r c xs)] ∧ hasH M n' H' ∨ checkE r c xs = 0 ∧ ∃ b, e = .tuple #[.pointer (some ⟨b, 0, some 0⟩), .int .i64 0] ∧ hasH ((b, .row 99 0 0 (gcells c.toNat xs.length (xs ++ List.replicate (37 - xs.length) 0))) :: M) n' H')) := by
  have h1 := hS.one_
  refine FS.intro (pf := pf55) rfl rfl rfl ?_
  repeat' (first | refine zA ?_ | (refine zM ?_; intro _ _) | (apply Ws <;> intro hg))
  refine WR.call (by first | exact gN | exact gS rfl) rfl rfl (Check_fs (by assumption) hS.cons hx) ?_
  rintro _ H2 ⟨rfl, n2, hn2, hH2⟩
  repeat' (first | refine zA ?_ | (refine zM ?_; intro _ _) | (apply Ws <;> intro hg))
  refine WC.condP rfl (fun hc => ?_) (fun hc => ?_)
  · repeat' (first | refine zA ?_ | (refine zM ?_; intro _ _) | (apply Ws <;> intro hg))
    exact Ends.ret2 rfl rfl ⟨n2, by omega, .inl ⟨hc, rfl, hH2.tail⟩⟩
  · repeat' (first | refine zA ?_ | (refine zM ?_; intro _ _) | (apply Ws <;> intro hg))
    have hc0 := Decidable.not_not.1 hc
    have hk : (1 ≤ c ∧ c ≤ 6) ∧ xs.length ≤ 36 ∧ 1 ≤ xs.length := by
      simp only [checkE] at hc0
      split at hc0
      · cases hc0
      · split at hc0
        · cases hc0
        · rename_i h2 h3
          have := prod_le (r := r) (c := c) (by omega) (by omega)
          omega
    obtain ⟨hcc, hxl⟩ := hk
    obtain ⟨k, rfl⟩ : ∃ k : Nat, c = k := ⟨c.toNat, by omega⟩
    refine WR.call (by first | exact gN | exact gS rfl) rfl rfl (newGrid_fs (by assumption) hS.cons hxl.1 hxl.2) ?_
    rintro _ H3 ⟨b, n3, rfl, hn3, hH3⟩
    repeat' (first | refine zA ?_ | (refine zM ?_; intro _ _) | (apply Ws <;> intro hg))
    exact Ends.ret2 rfl rfl ⟨n3, by omega, .inr ⟨hc0, b, rfl, hH3.sub (.cons_cons _ (List.sublist_cons_self _ _))⟩⟩

end Go.Proofs.Ytmogipomnjihcaa.Eb

/- The lowest heights of ways: what a round of the work does, and what stands at its end. Plain mathematics. -/
namespace Go.Low

/-- The nodes beside a node, in ascending order. -/
def nbrs (c r p : Nat) : List Nat :=
  if p = r then List.range' (r - c) c
  else (if c ≤ p then [p - c] else []) ++ ((if 0 < p % c then [p - 1] else []) ++ ((if p % c < c - 1 then [p + 1] else []) ++ [min (p + c) r]))

theorem nbrs_le {c r p y : Nat} (hc : 1 ≤ c) (hcr : c ≤ r) (hp : p ≤ r) (hy : y ∈ nbrs c r p) : y ≤ r := by
  unfold nbrs at hy
  split at hy
  · simp only [List.mem_range'_1] at hy; omega
  · simp only [List.mem_append] at hy
    have hpr : p < r := by omega
    rcases hy with hy | hy | hy | hy
    · split at hy
      · simp at hy; omega
      · cases hy
    · split at hy
      · simp at hy; omega
      · cases hy
    · split at hy
      · simp at hy; omega
      · cases hy
    · simp at hy; omega

theorem nbrs_ne {c r p : Nat} (hc : 1 ≤ c) (hcr : c ≤ r) : p ∉ nbrs c r p := by
  intro hy
  unfold nbrs at hy
  split at hy
  · simp only [List.mem_range'_1] at hy; omega
  · simp only [List.mem_append] at hy
    rcases hy with hy | hy | hy | hy
    · split at hy
      · simp at hy; omega
      · cases hy
    · split at hy
      · rename_i h
        have := Nat.mod_le p c
        simp at hy; omega
      · cases hy
    · split at hy
      · simp at hy
      · cases hy
    · simp at hy; omega

abbrev S := List Int × List Nat

def relax (hs : List Int) (x : Nat) (s : S) (y : Nat) : S :=
  let ht := max (s.1.getD x 0) (hs.getD y 0)
  if ht < s.1.getD y 0 then (s.1.set y ht, s.2 ++ [y]) else s

def total (l : List Int) : Nat := (l.map Int.toNat).sum

theorem total_set : ∀ {l : List Int} {y : Nat} {v : Int}, y < l.length → 0 ≤ v → v < l.getD y 0 → total (l.set y v) + 1 ≤ total l
  | [], y, v, h, _, _ => absurd h (Nat.not_lt_zero _)
  | a :: l, 0, v, _, h0, h1 => by
    simp only [List.getD_cons_zero] at h1
    simp only [total, List.set_cons_zero, List.map_cons, List.sum_cons]
    omega
  | a :: l, y + 1, v, h, h0, h1 => by
    have ih := total_set (l := l) (y := y) (v := v) (by simpa using h) h0 (by simpa using h1)
    simp only [total, List.set_cons_succ, List.map_cons, List.sum_cons] at ih ⊢
    omega

def meas (s : S) : Nat := 2 * total s.1 + s.2.length

structure Good (r : Nat) (s : S) : Prop where
  len : s.1.length = 37
  bd : ∀ y, y < 37 → 0 ≤ s.1.getD y 0 ∧ s.1.getD y 0 ≤ 31
  wk : ∀ y ∈ s.2, y ≤ r
  ms : meas s ≤ 2400

structure HS (c r : Nat) (hs : List Int) : Prop where
  c1 : 1 ≤ c
  cr : c ≤ r
  r36 : r ≤ 36
  len : hs.length = 37
  bd : ∀ y, 0 ≤ hs.getD y 0 ∧ hs.getD y 0 ≤ 30

theorem getD_set {l : List Int} {y z : Nat} {v : Int} (h : y < l.length) : (l.set y v).getD z 0 = if z = y then v else l.getD z 0 := by
  rw [List.getD_eq_getElem?_getD, List.getD_eq_getElem?_getD, List.getElem?_set]
  by_cases e : y = z
  · subst e; simp [h]
  · rw [if_neg e, if_neg (fun q => e q.symm)]

section
variable {c r : Nat} {hs : List Int} (hh : HS c r hs)
include hh

theorem relax_good {x y : Nat} {s : S} (hx : x ≤ r) (hy : y ≤ r) (g : Good r s) : Good r (relax hs x s y) ∧ meas (relax hs x s y) ≤ meas s := by
  have h36 := hh.r36
  unfold relax
  simp only
  split
  · rename_i hlt
    have hb := g.bd x (by omega)
    have hb2 := hh.bd y
    have hylt : y < s.1.length := by rw [g.len]; omega
    have ht := total_set hylt (v := max (s.1.getD x 0) (hs.getD y 0)) (by omega) hlt
    have hm : meas (s.1.set y (max (s.1.getD x 0) (hs.getD y 0)), s.2 ++ [y]) ≤ meas s := by simp only [meas, List.length_append, List.length_singleton]; omega
    refine ⟨⟨by rw [List.length_set]; exact g.len, fun z hz => ?_, fun z hz => ?_, Nat.le_trans hm g.ms⟩, hm⟩
    · rw [getD_set hylt]
      have := g.bd y (by omega)
      split
      · omega
      · exact g.bd z hz
    · rcases List.mem_append.1 hz with h | h
      · exact g.wk z h
      · simp at h; omega
  · exact ⟨g, Nat.le_refl _⟩

/-- A way leads from a node through nodes of at most a height. -/
inductive Reach (c r : Nat) (hs : List Int) (src : Nat) (t : Int) : Nat → Prop where
  | start (h : hs.getD src 0 ≤ t) : Reach c r hs src t src
  | step {x y : Nat} (h : Reach c r hs src t x) (hy : y ∈ nbrs c r x) (ht : hs.getD y 0 ≤ t) : Reach c r hs src t y

omit hh in
theorem Reach.mono {src : Nat} {t t' : Int} (h : t ≤ t') {y : Nat} (k : Reach c r hs src t y) : Reach c r hs src t' y := by
  induction k with
  | start h1 => exact .start (by omega)
  | step _ hy ht ih => exact .step ih hy (by omega)

def Rel (hs : List Int) (b : List Int) (u y : Nat) : Prop := b.getD y 0 ≤ max (b.getD u 0) (hs.getD y 0)

/-- What holds within a round: node x, of whose neighbours some are still to come. -/
structure Core (c r : Nat) (hs : List Int) (src x : Nat) (zs : List Nat) (s : S) : Prop where
  sr : s.1.getD src 0 ≤ hs.getD src 0
  ach : ∀ y, y < 37 → s.1.getD y 0 = 31 ∨ Reach c r hs src (s.1.getD y 0) y
  rel : ∀ u, u ≤ r → u ∉ s.2.tail → ∀ y ∈ nbrs c r u, (u = x ∧ y ∈ zs) ∨ Rel hs s.1 u y

structure Out (c r : Nat) (hs : List Int) (src : Nat) (s : S) : Prop where
  sr : s.1.getD src 0 ≤ hs.getD src 0
  ach : ∀ y, y < 37 → s.1.getD y 0 = 31 ∨ Reach c r hs src (s.1.getD y 0) y
  rel : ∀ u, u ≤ r → u ∉ s.2 → ∀ y ∈ nbrs c r u, Rel hs s.1 u y

omit hh in
theorem Out.enter {src x : Nat} {s : S} {w : List Nat} (h : Out c r hs src s) (hw : s.2 = x :: w) : Core c r hs src x (nbrs c r x) s := by
  refine ⟨h.sr, h.ach, fun u hu hn y hy => ?_⟩
  by_cases hux : u = x
  · subst hux; exact .inl ⟨rfl, hy⟩
  · exact .inr (h.rel u hu (by rw [hw] at hn ⊢; simp only [List.tail_cons, List.mem_cons] at hn ⊢; exact fun q => q.elim hux hn) y hy)

omit hh in
theorem Core.leave {src x : Nat} {s : S} (h : Core c r hs src x [] s) : Out c r hs src (s.1, s.2.tail) :=
  ⟨h.sr, h.ach, fun u hu hn y hy => (h.rel u hu hn y hy).resolve_left (fun q => by cases q.2)⟩

theorem relax_core {src x y : Nat} {zs : List Nat} {s : S} (hx : x ≤ r) (hy : y ∈ nbrs c r x) (g : Good r s) (hne : s.2 ≠ []) (h : Core c r hs src x (y :: zs) s) : Core c r hs src x zs (relax hs x s y) := by
  have h36 := hh.r36
  have hyr := nbrs_le hh.c1 hh.cr hx hy
  have hxy : x ≠ y := fun e => nbrs_ne hh.c1 hh.cr (e ▸ hy)
  have hylt : y < s.1.length := by rw [g.len]; omega
  unfold relax
  simp only
  split
  · rename_i hlt
    have hgx := g.bd x (by omega)
    have hby := g.bd y (by omega)
    have hhy := hh.bd y
    refine ⟨?_, fun z hz => ?_, fun u hu hn z hz => ?_⟩
    · rw [getD_set hylt]
      split
      · rename_i e; rw [e] at h ⊢; have := h.sr; omega
      · exact h.sr
    · rw [getD_set hylt]
      split
      · rename_i e
        subst e
        right
        rcases h.ach x (by omega) with h1 | h1
        · omega
        · exact .step (h1.mono (by omega)) hy (by omega)
      · exact h.ach z hz
    · have hn2 : u ∉ s.2.tail ∧ u ≠ y := by
        cases hs2 : s.2 with
        | nil => exact absurd hs2 hne
        | cons a w => rw [hs2] at hn; simp at hn ⊢; exact hn
      rcases h.rel u hu hn2.1 z hz with ⟨rfl, hmem⟩ | hr
      · rcases List.mem_cons.1 hmem with rfl | hmem
        · right
          simp only [Rel, getD_set hylt, if_true, if_neg hxy]
          omega
        · exact .inl ⟨rfl, hmem⟩
      · right
        simp only [Rel, getD_set hylt, if_neg hn2.2] at hr ⊢
        split
        · rename_i e; subst e; omega
        · exact hr
  · rename_i hge
    refine ⟨h.sr, h.ach, fun u hu hn z hz => ?_⟩
    rcases h.rel u hu hn z hz with ⟨rfl, hmem⟩ | hr
    · rcases List.mem_cons.1 hmem with rfl | hmem
      · right; simp only [Rel]; omega
      · exact .inl ⟨rfl, hmem⟩
    · exact .inr hr

theorem Reach.le {src : Nat} {t : Int} (hsrc : src ≤ r) {y : Nat} (k : Reach c r hs src t y) : y ≤ r := by
  induction k with
  | start _ => exact hsrc
  | step _ hy _ ih => exact nbrs_le hh.c1 hh.cr ih hy

/-- At the end. -/
theorem Out.done {src : Nat} (hsrc : src ≤ r) {b : List Int} (h : Out c r hs src (b, [])) {t : Int} (ht : t ≤ 30) {y : Nat} (hy : y ≤ r) : b.getD y 0 ≤ t ↔ Reach c r hs src t y := by
  have h36 := hh.r36
  constructor
  · intro hb
    rcases h.ach y (by omega) with h1 | h1
    · simp only at h1; omega
    · exact h1.mono hb
  · intro hr
    clear hy
    induction hr with
    | start h1 => have := h.sr; simp only at this; omega
    | step h1 h2 h3 ih =>
      have := h.rel _ (h1.le hh hsrc) (by simp) _ h2
      simp only [Rel] at this
      omega

omit hh in
theorem total_le : ∀ {l : List Int}, (∀ y, y < l.length → l.getD y 0 ≤ 31) → total l ≤ 31 * l.length
  | [], _ => Nat.le_refl _
  | a :: l, h => by
    have ih := total_le (l := l) (fun y hy => by simpa using h (y + 1) (by simpa using hy))
    have h0 := h 0 (by simp)
    simp only [List.getD_cons_zero] at h0
    simp only [total, List.map_cons, List.sum_cons, List.length_cons] at ih ⊢
    omega

theorem init {src : Nat} (hsrc : src ≤ r) {b : List Int} (hl : b.length = 37) (hb : ∀ y, y < 37 → b.getD y 0 = if y = src then hs.getD src 0 else 31) : Good r (b, [src]) ∧ Out c r hs src (b, [src]) := by
  have h36 := hh.r36
  have hbs := hh.bd src
  have h31 : ∀ y, y < 37 → 0 ≤ b.getD y 0 ∧ b.getD y 0 ≤ 31 := by
    intro y hy; rw [hb y hy]; split <;> omega
  refine ⟨⟨hl, h31, fun y hy => ?_, ?_⟩, ⟨?_, fun y hy => ?_, fun u hu hn y hy => ?_⟩⟩
  · simp at hy; omega
  · have := total_le (l := b) (fun y hy => (h31 y (by omega)).2)
    simp only [meas, List.length_singleton]
    omega
  · simp only; rw [hb src (by omega), if_pos rfl]; omega
  · simp only
    rw [hb y hy]
    by_cases e : y = src
    · subst e; rw [if_pos rfl]; exact .inr (.start (by omega))
    · rw [if_neg e]; exact .inl rfl
  · simp only [Rel]
    have h1 : b.getD u 0 = 31 := by rw [hb u (by omega), if_neg (by simpa using hn)]
    have h2 := h31 y (by have := nbrs_le hh.c1 hh.cr hu hy; omega)
    rw [h1]; omega

end
end Go.Low

namespace Go.Proofs.Ytmogipomnjihcaa.Eb
open Go Go.Abs
set_option linter.unusedVariables false
set_option linter.unusedSimpArgs false
attribute [local irreducible] gOK WS WC WR WD Ends FS YS OpV seqK blockK loopK midK retK rdK asgK rangeEnd sat Cell

abbrev nodes (l : List Nat) : List Value := l.map (fun (x : Nat) => Value.int .i64 (x : Int))

/-- The grid lies there. -/
def gridAt (bg c r : Nat) (hs : List Int) (H : Heap) : Prop := ∃ M n, hasH M n H ∧ (bg, .row 99 0 0 (gcells c r hs)) ∈ M

theorem lastRow_it {bg c r : Nat} {hs : List Int} (hc : c ≤ r) (hr : r ≤ 36) : Iter C 97 [.pointer (some ⟨bg, 0, some 0⟩)] [] (gridAt bg c r hs) (nodes (List.range' (r - c) c)) := by
  intro l J S hreq hstep H hJ
  obtain ⟨M, n, hH, hm⟩ := hreq _ _ hJ
  show FS C 97 [_, _] H _
  refine FS.intro (pf := pf97) rfl rfl rfl ?_
  repeat' (first | refine zA ?_ | (refine zM ?_; intro _ _) | (apply Ws <;> intro hg))
  refine WR.op (by first | exact gN | exact gS rfl) rfl (OpV.sub' (c := ((r - c : Nat) : Int)) rfl rfl (by omega) (by omega)) ?_
  repeat' (first | refine zA ?_ | (refine zM ?_; intro _ _) | (apply Ws <;> intro hg))
  refine WC.loop (fun k : Nat => [(0, .pointer (some ⟨bg, 0, some 0⟩)), (1, .func (.yield l) #[] #[]), (4, .int .i64 ((r - c + k : Nat) : Int))]) (fun _ => []) (fun k H' => J (nodes (List.range' (r - c + k) (c - k))) H' ∧ k ≤ c) (fun k => c - k) 0 (by repeat' (first | exact .nil | refine .cons rfl ?_)) rfl ⟨hJ, Nat.zero_le _⟩ ?_
  clear hH hm hJ
  rintro k H1 ⟨hJ, hk⟩
  obtain ⟨M, n, hH, hm⟩ := hreq _ _ hJ
  repeat' (first | refine zA ?_ | (refine zM ?_; intro _ _) | (apply Ws <;> intro hg))
  refine WC.condP rfl (fun hlt => ?_) (fun hlt => ?_)
  · have hkc : k < c := by omega
    have e1 : c - k = (c - (k + 1)) + 1 := by omega
    rw [e1] at hJ
    repeat' (first | refine zA ?_ | (refine zM ?_; intro _ _) | (apply Ws <;> intro hg))
    refine WR.yield (by first | exact gN | exact gS rfl) rfl rfl rfl (hstep _ _ _ hJ) ?_
    rintro b H2 (⟨rfl, hJ2⟩ | ⟨rfl, hS⟩)
    · repeat' (first | refine zA ?_ | (refine zM ?_; intro _ _) | (apply Ws <;> intro hg))
      exact Ends.loop (k + 1) (by omega) (by repeat' (first | exact .nil | refine .cons rfl ?_)) rfl ⟨hJ2, hkc⟩
    · repeat' (first | refine zA ?_ | (refine zM ?_; intro _ _) | (apply Ws <;> intro hg))
      exact Ends.ret0 (.inr hS)
  · have hkc : k = c := by omega
    subst hkc
    rw [Nat.sub_self] at hJ
    repeat' (first | refine zA ?_ | (refine zM ?_; intro _ _) | (apply Ws <;> intro hg))
    exact Ends.end0 (.inl hJ)

/-- What the iterator of a place needs. -/
def placeAt (b1 b2 bg c r p : Nat) (hs : List Int) (H : Heap) : Prop := ∃ M n, hasH M n H ∧ (b1, .row 3 0 0 [.int .i64 (p : Int)]) ∈ M ∧ (b2, .row 82 0 0 [.pointer (some ⟨bg, 0, some 0⟩)]) ∈ M ∧ (bg, .row 99 0 0 (gcells c r hs)) ∈ M

theorem place_it {b1 b2 bg c r p : Nat} {hs : List Int} (hc : 1 ≤ c ∧ c ≤ 6) (hp : p < r) (hr : r ≤ 36) : Iter C 98 [] [.pointer (some ⟨b1, 0, some 0⟩), .pointer (some ⟨b2, 0, some 0⟩)] (placeAt b1 b2 bg c r p hs)
    (nodes ((if c ≤ p then [p - c] else []) ++ ((if 0 < p % c then [p - 1] else []) ++ ((if p % c < c - 1 then [p + 1] else []) ++ [min (p + c) r])))) := by
  intro l J S hreq hstep H hJ
  obtain ⟨M, n, hH, hm1, hm2, hm3⟩ := hreq _ _ hJ
  show FS C 98 [_, _, _] H _
  refine FS.intro (pf := pf98) rfl rfl rfl ?_
  repeat' (first | refine zA ?_ | (refine zM ?_; intro _ _) | (apply Ws <;> intro hg))
  refine WR.op (by first | exact gN | exact gS rfl) rfl (OpV.rem' (c := ((p % c : Nat) : Int)) rfl rfl (by omega) (by omega) (by omega)) ?_
  (first | refine zA ?_ | (refine zM ?_; intro _ _) | (apply Ws <;> intro hg))
  (first | refine zA ?_ | (refine zM ?_; intro _ _) | (apply Ws <;> intro hg))
  (first | refine zA ?_ | (refine zM ?_; intro _ _) | (apply Ws <;> intro hg))
  -- above
  refine WC.seqI [(0, .func (.yield l) #[] #[]), (1, .pointer (some ⟨b1, 0, some 0⟩)), (2, .pointer (some ⟨b2, 0, some 0⟩)), (4, .int .i64 ((p % c : Nat) : Int))] [] (J (nodes ((if 0 < p % c then [p - 1] else []) ++ ((if p % c < c - 1 then [p + 1] else []) ++ [min (p + c) r])))) ?_ ?_
  · repeat' (first | refine zA ?_ | (refine zM ?_; intro _ _) | (apply Ws <;> intro hg))
    · have hcp : c ≤ p := by omega
      rw [if_pos hcp] at hJ
      refine WR.op (by first | exact gN | exact gS rfl) rfl (OpV.sub' (c := ((p - c : Nat) : Int)) rfl rfl (by omega) (by omega)) ?_
      refine WR.yield (by first | exact gN | exact gS rfl) rfl rfl rfl (hstep _ _ _ hJ) ?_
      rintro b H2 (⟨rfl, hJ2⟩ | ⟨rfl, hS⟩)
      · repeat' (first | refine zA ?_ | (refine zM ?_; intro _ _) | (apply Ws <;> intro hg))
        exact Ends.mid (by repeat' (first | exact .nil | refine .cons rfl ?_)) rfl hJ2
      · repeat' (first | refine zA ?_ | (refine zM ?_; intro _ _) | (apply Ws <;> intro hg))
        exact Ends.ret0 (.inr hS)
    · rw [if_neg (by omega)] at hJ
      exact Ends.mid (by repeat' (first | exact .nil | refine .cons rfl ?_)) rfl hJ
  clear hJ hH hm1 hm2 hm3
  intro H hJ
  obtain ⟨M, n, hH, hm1, hm2, hm3⟩ := hreq _ _ hJ
  -- left
  refine WC.seqI [(0, .func (.yield l) #[] #[]), (1, .pointer (some ⟨b1, 0, some 0⟩)), (2, .pointer (some ⟨b2, 0, some 0⟩)), (4, .int .i64 ((p % c : Nat) : Int))] [] (J (nodes ((if p % c < c - 1 then [p + 1] else []) ++ [min (p + c) r]))) ?_ ?_
  · repeat' (first | refine zA ?_ | (refine zM ?_; intro _ _) | (apply Ws <;> intro hg))
    · have hcp : 0 < p % c := by omega
      have hp1 : 1 ≤ p := Nat.le_trans hcp (Nat.mod_le _ _)
      rw [if_pos hcp] at hJ
      refine WR.op (by first | exact gN | exact gS rfl) rfl (OpV.sub' (c := ((p - 1 : Nat) : Int)) rfl rfl (by omega) (by omega)) ?_
      refine WR.yield (by first | exact gN | exact gS rfl) rfl rfl rfl (hstep _ _ _ hJ) ?_
      rintro b H2 (⟨rfl, hJ2⟩ | ⟨rfl, hS⟩)
      · repeat' (first | refine zA ?_ | (refine zM ?_; intro _ _) | (apply Ws <;> intro hg))
        exact Ends.mid (by repeat' (first | exact .nil | refine .cons rfl ?_)) rfl hJ2
      · repeat' (first | refine zA ?_ | (refine zM ?_; intro _ _) | (apply Ws <;> intro hg))
        exact Ends.ret0 (.inr hS)
    · rw [if_neg (by omega)] at hJ
      exact Ends.mid (by repeat' (first | exact .nil | refine .cons rfl ?_)) rfl hJ
  clear hJ hH hm1 hm2 hm3
  intro H hJ
  obtain ⟨M, n, hH, hm1, hm2, hm3⟩ := hreq _ _ hJ
  -- right
  refine WC.seqI [(0, .func (.yield l) #[] #[]), (1, .pointer (some ⟨b1, 0, some 0⟩)), (2, .pointer (some ⟨b2, 0, some 0⟩)), (4, .int .i64 ((p % c : Nat) : Int))] [] (J (nodes [min (p + c) r])) ?_ ?_
  · repeat' (first | refine zA ?_ | (refine zM ?_; intro _ _) | (apply Ws <;> intro hg))
    refine WR.op (by first | exact gN | exact gS rfl) rfl (OpV.sub' (c := ((c - 1 : Nat) : Int)) rfl rfl (by omega) (by omega)) ?_
    repeat' (first | refine zA ?_ | (refine zM ?_; intro _ _) | (apply Ws <;> intro hg))
    · have hcp : p % c < c - 1 := by omega
      rw [if_pos hcp] at hJ
      refine WR.yield (by first | exact gN | exact gS rfl) rfl rfl rfl (hstep _ _ _ hJ) ?_
      rintro b H2 (⟨rfl, hJ2⟩ | ⟨rfl, hS⟩)
      · repeat' (first | refine zA ?_ | (refine zM ?_; intro _ _) | (apply Ws <;> intro hg))
        exact Ends.mid (by repeat' (first | exact .nil | refine .cons rfl ?_)) rfl hJ2
      · repeat' (first | refine zA ?_ | (refine zM ?_; intro _ _) | (apply Ws <;> intro hg))
        exact Ends.ret0 (.inr hS)
    · rw [if_neg (by omega)] at hJ
      exact Ends.mid (by repeat' (first | exact .nil | refine .cons rfl ?_)) rfl hJ
  clear hJ hH hm1 hm2 hm3
  intro H hJ
  obtain ⟨M, n, hH, hm1, hm2, hm3⟩ := hreq _ _ hJ
  -- below
  repeat' (first | refine zA ?_ | (refine zM ?_; intro _ _) | (apply Ws <;> intro hg))
  refine WR.op (by first | exact gN | exact gS rfl) rfl (OpV.min' (c := ((min (p + c) r : Nat) : Int)) rfl rfl (by omega)) ?_
  refine WR.yield (by first | exact gN | exact gS rfl) rfl rfl rfl (hstep _ _ _ hJ) ?_
  rintro b H2 (⟨rfl, hJ2⟩ | ⟨rfl, hS⟩)
  · repeat' (first | refine zA ?_ | (refine zM ?_; intro _ _) | (apply Ws <;> intro hg))
    exact Ends.end0 (.inl hJ2)
  · repeat' (first | refine zA ?_ | (refine zM ?_; intro _ _) | (apply Ws <;> intro hg))
    exact Ends.end0 (.inr hS)

end Go.Proofs.Ytmogipomnjihcaa.Eb

namespace Go.Proofs.Ytmogipomnjihcaa.Eb
open Go Go.Abs Go.Low
set_option linter.unusedVariables false
set_option linter.unusedSimpArgs false
attribute [local irreducible] gOK WS WC WR WD Ends FS YS OpV seqK blockK loopK midK retK rdK asgK rangeEnd sat Cell

theorem neighbours_fs {M : HL} {n : Nat} {H : Heap} (hH : hasH M n H) {bg c r p : Nat} {hs : List Int} (hm : (bg, .row 99 0 0 (gcells c r hs)) ∈ M) (hc : 1 ≤ c ∧ c ≤ 6) (hcr : c ≤ r) (hp : p ≤ r) (hr : r ≤ 36) :
    FS C 89 [.pointer (some ⟨bg, 0, some 0⟩), .int .i64 (p : Int)] H (fun v H' => ∃ g va vb Mn n', v = .func (.func g) va.toArray vb.toArray ∧ n ≤ n' ∧ hasH (Mn ++ M) n' H' ∧
      Iter C g va vb (fun H => ∃ M' n, hasH M' n H ∧ (∀ q ∈ Mn, q ∈ M') ∧ (bg, .row 99 0 0 (gcells c r hs)) ∈ M') (nodes (nbrs c r p))) := by
  refine FS.intro (pf := pf89) rfl rfl rfl ?_
  repeat' (first | refine zA ?_ | (refine zM ?_; intro _ _) | (apply Ws <;> intro hg))
  refine WC.condP rfl (fun heq => ?_) (fun heq => ?_)
  · have hpr : p = r := by omega
    subst hpr
    repeat' (first | refine zA ?_ | (refine zM ?_; intro _ _) | (apply Ws <;> intro hg))
    refine Ends.ret1 rfl ⟨97, [.pointer (some ⟨bg, 0, some 0⟩)], [], [], n + 2, rfl, by omega, ?_, ?_⟩
    · exact hasH.tail (hasH.tail (by assumption))
    · rw [nbrs, if_pos rfl]
      exact (lastRow_it hcr hr).mono fun H ⟨M', n', h1, _, h2⟩ => ⟨M', n', h1, h2⟩
  · have hpr : p ≠ r := by omega
    repeat' (first | refine zA ?_ | (refine zM ?_; intro _ _) | (apply Ws <;> intro hg))
    refine Ends.ret1 rfl ⟨98, [], [.pointer (some ⟨n + 1, 0, some 0⟩), .pointer (some ⟨n, 0, some 0⟩)], [(n + 1, .row 3 0 0 [.int .i64 (p : Int)]), (n, .row 82 0 0 [.pointer (some ⟨bg, 0, some 0⟩)])], n + 2, rfl, by omega, by assumption, ?_⟩
    rw [nbrs, if_neg hpr]
    exact (place_it hc (by omega) hr).mono fun H ⟨M', n', h1, h2, h3⟩ => ⟨M', n', h1, h2 _ (by simp), h2 _ (by simp), h3⟩

end Go.Proofs.Ytmogipomnjihcaa.Eb

namespace Go.Proofs.Ytmogipomnjihcaa.Eb
open Go Go.Abs Go.Low
set_option linter.unusedVariables false
set_option linter.unusedSimpArgs false
attribute [local irreducible] gOK WS WC WR WD Ends FS YS OpV seqK blockK loopK midK retK rdK asgK rangeEnd sat Cell

/-- The lowest heights, as they stand at the end. -/
structure Lowest (c r : Nat) (hs : List Int) (src : Nat) (b : List Int) : Prop where
  out : Out c r hs src (b, [])
  len : b.length = 37
  bd : ∀ y, y < 37 → 0 ≤ b.getD y 0 ∧ b.getD y 0 ≤ 31

theorem fill_set {k : Nat} (h : k < 37) : (List.replicate k (31 : Int) ++ List.replicate (37 - k) 0).set k 31 = List.replicate (k + 1) 31 ++ List.replicate (37 - (k + 1)) 0 := by
  rw [List.set_append_right _ _ (by simp)]
  simp only [List.length_replicate, Nat.sub_self]
  rw [show 37 - k = (37 - (k + 1)) + 1 by omega, List.replicate_succ (n := 37 - (k + 1)), List.set_cons_zero, List.replicate_succ', List.append_assoc]
  rfl

/-- A place on the work list: what is known of the heap and the slice. -/
structure LS where
  s : S
  v : Value
  Mx : HL
  D : List Nat
  bw : Nat
  n : Nat

theorem loadG {L : Env} {H : Heap} {M : HL} {n : Nat} {x : Operand} {bg c r y : Nat} {hs : List Int} (hx : ev L x = some (.pointer (some ⟨bg, 2 + y, some 0⟩))) (hH : hasH M n H) (hm : (bg, .row 99 0 0 (gcells c r hs)) ∈ M) (hy : y < hs.length) :
    OpV C (.load1 x) L H (.int .i64 (hs.getD y 0)) H := by
  refine OpV.load1 hx hH hm (.row _ _ _ _) (Nat.zero_le _) ?_
  rw [show 2 + y - 0 = y + 2 by omega]
  exact ints_get hy

theorem start_get {y src : Nat} {v : Int} (h : src < 37) (hy : y < 37) : ((List.replicate 37 (31 : Int) ++ List.replicate (37 - 37) 0).set src v).getD y 0 = if y = src then v else 31 := by
  rw [getD_set (by simp; omega)]
  split
  · rfl
  · rw [List.getD_eq_getElem?_getD, List.getElem?_append_left (by simpa using hy), List.getElem?_replicate, if_pos hy]; rfl

set_option maxHeartbeats 1000000 in
theorem lowest_fs {M : HL} {n : Nat} {H : Heap} (hH : hasH M n H) {bg c r src : Nat} {hs : List Int} (hm : (bg, .row 99 0 0 (gcells c r hs)) ∈ M) (hh : HS c r hs) (hc6 : c ≤ 6) (hsrc : src ≤ r) :
    FS C 80 [.pointer (some ⟨bg, 0, some 0⟩), .int .i64 (src : Int)] H (fun v H' => ∃ best n', v = .agg ((best.map (Value.int .i64)).toArray) ∧ n ≤ n' ∧ hasH M n' H' ∧ Lowest c r hs src best) := by
  have h36 := hh.r36
  refine FS.intro (pf := pf80) rfl rfl rfl ?_
  repeat' (first | refine zA ?_ | (refine zM ?_; intro _ _) | (apply Ws <;> intro hg))
  -- 31 everywhere
  refine WC.loop (fun k : Nat => [(1, .int .i64 (src : Int)), (2, .pointer (some ⟨n, 0, some 0⟩)), (4, .pointer (some ⟨n + 1, 0, some 0⟩)), (5, .pointer (some ⟨n + 1 + 1, 0, some 0⟩)), (11, .int .i64 (k : Int))]) (fun _ => [])
    (fun k H => k ≤ 37 ∧ hasH ((n + 1 + 1, .row 86 0 0 (ints (List.replicate k 31 ++ List.replicate (37 - k) 0))) :: (n + 1, .row 86 0 0 (List.replicate 37 (.int .i64 0))) :: (n, .row 82 0 0 [.pointer (some ⟨bg, 0, some 0⟩)]) :: M) (n + 1 + 1 + 1) H)
    (fun k => 37 - k) 0 (by repeat' (first | exact .nil | refine .cons rfl ?_)) rfl ⟨Nat.zero_le _, by assumption⟩ ?_
  rintro k H1 ⟨hk, hH1⟩
  repeat' (first | refine zA ?_ | (refine zM ?_; intro _ _) | (apply Ws <;> intro hg))
  refine WC.condP rfl (fun hlt => ?_) (fun hlt => ?_)
  · have hk' : k < 37 := by omega
    repeat' (first | refine zA ?_ | (refine zM ?_; intro _ _) | (apply Ws <;> intro hg))
    refine WR.storeI (by first | exact gN | exact gS rfl) hH1 rfl rfl (by first | exact .here | exact .there .here | exact .there (.there .here) | exact .there (.there (.there .here)) | exact .there (.there (.there (.there .here))) | exact .there (.there (.there (.there (.there .here))))) (by simp; omega) fun H2 hH2 => ?_
    rw [fill_set hk'] at hH2
    repeat' (first | refine zA ?_ | (refine zM ?_; intro _ _) | (apply Ws <;> intro hg))
    exact Ends.loop (k + 1) (by omega) (by repeat' (first | exact .nil | refine .cons rfl ?_)) rfl ⟨hk', hH2⟩
  have hk37 : k = 37 := by omega
  subst hk37
  repeat' (first | refine zA ?_ | (refine zM ?_; intro _ _) | (apply Ws <;> intro hg))
  refine WR.op (by first | exact gN | exact gS rfl) rfl (loadG rfl hH1 (by first | assumption | exact .head _ | exact .tail _ (.head _) | exact .tail _ (.tail _ (.head _)) | exact .tail _ (.tail _ (.tail _ (.head _))) | exact .tail _ (.tail _ (.tail _ (.tail _ (.head _)))) | exact .tail _ (.tail _ (.tail _ (.tail _ (.tail _ (.head _))))) | exact .tail _ (.tail _ (.tail _ (.tail _ (.tail _ (.tail _ (.head _)))))) | (repeat' (first | assumption | apply List.mem_cons_of_mem))) (by rw [hh.len]; omega)) ?_
  repeat' (first | refine zA ?_ | (refine zM ?_; intro _ _) | (apply Ws <;> intro hg))
  refine WR.storeI (by first | exact gN | exact gS rfl) hH1 rfl rfl (by first | exact .here | exact .there .here | exact .there (.there .here) | exact .there (.there (.there .here)) | exact .there (.there (.there (.there .here))) | exact .there (.there (.there (.there (.there .here))))) (by simp; omega) fun H2 hH2 => ?_
  obtain ⟨hg0, ho0⟩ := init hh hsrc (b := (List.replicate 37 (31 : Int) ++ List.replicate (37 - 37) 0).set src (hs.getD src 0)) (by simp) (fun y hy => start_get (by omega) hy)
  generalize (List.replicate 37 (31 : Int) ++ List.replicate (37 - 37) 0).set src (hs.getD src 0) = b0 at hH2 hg0 ho0
  clear hH1 hlt hk
  repeat' (first | refine zA ?_ | (refine zM ?_; intro _ _) | (apply Ws <;> intro hg))
  refine WR.bldS (by first | exact gN | exact gS rfl) rfl hH2 (vs := [(0, .int .i64 (src : Int))]) rfl (cs := [.int .i64 (src : Int)]) (by rfl) rfl fun H3 hH3 => ?_
  have hH4 := hH3.asInp .here
  clear hH3 hH2
  repeat' (first | refine zA ?_ | (refine zM ?_; intro _ _) | (apply Ws <;> intro hg))
  -- the work
  refine WC.loop (fun a : LS => [(2, .pointer (some ⟨n, 0, some 0⟩)), (4, .pointer (some ⟨n + 1, 0, some 0⟩)), (5, .pointer (some ⟨n + 1 + 1, 0, some 0⟩)), (7, .pointer (some ⟨a.bw, 0, some 0⟩))]) (fun a => a.D)
    (fun a H => hasH ((a.bw, .row 22 0 0 [a.v]) :: (n + 1 + 1, .row 86 0 0 (ints a.s.1)) :: (n + 1, .row 86 0 0 (List.replicate 37 (.int .i64 0))) :: (n, .row 82 0 0 [.pointer (some ⟨bg, 0, some 0⟩)]) :: (a.Mx ++ (defds a.D ++ M))) a.n H ∧
      Own 3 1 a.v (nodes a.s.2) a.Mx ∧ Good r a.s ∧ Out c r hs src a.s ∧ n ≤ a.n) (fun a => meas a.s)
    ⟨(b0, [src]), .slice (some ⟨n + 1 + 1 + 1, 0, some 0⟩) 1 (2 * 1 + 1), [(n + 1 + 1 + 1, .inp 3 0 0 [.int .i64 (src : Int)])], [], n + 1 + 1 + 1 + 1, n + 1 + 1 + 1 + 1 + 1⟩ (by repeat' (first | exact .nil | refine .cons rfl ?_)) rfl ?_ ?_
  · refine ⟨?_, .full rfl rfl, hg0, ho0, by simp only; omega⟩
    rename_i hb
    exact hasH.push (F := [_, _, _, _]) (Mx := [_]) (hasH.pull (F := [_]) (Mx := [_]) hb)
  clear hg0 ho0 hH4
  rintro ⟨⟨b, w⟩, v, Mx, D, bw, nn⟩ H4 ⟨hH4, hO, hg, ho, hn⟩
  simp only at hH4 hO hg ho hn
  dsimp only
  have hSl := hO.sl (defds D ++ M)
  have hSl2 : Sl ((bw, .row 22 0 0 [v]) :: (n + 1 + 1, .row 86 0 0 (ints b)) :: (n + 1, .row 86 0 0 (List.replicate 37 (.int .i64 0))) :: (n, .row 82 0 0 [.pointer (some ⟨bg, 0, some 0⟩)]) :: (Mx ++ (defds D ++ M))) 1 v (nodes w) := hSl.cons.cons.cons.cons
  have hv1 := hSl.one_
  repeat' (first | refine zA ?_ | (refine zM ?_; intro _ _) | (apply Ws <;> intro hg))
  refine WR.op (by first | exact gN | exact gS rfl) rfl (OpV.lenS rfl hSl) ?_
  repeat' (first | refine zA ?_ | (refine zM ?_; intro _ _) | (apply Ws <;> intro hg))
  refine WC.condP rfl (fun hlt => ?_) (fun hlt => ?_)
  · cases w with
    | nil => exact absurd hlt (by simp)
    | cons x w0 =>
    have hx : x ≤ r := hg.wk x (by simp)
    repeat' (first | refine zA ?_ | (refine zM ?_; intro _ _) | (apply Ws <;> intro hg))
    refine WR.idxSl (by first | exact gN | exact gS rfl) rfl rfl hSl2 rfl (m := 0) rfl (c := .int .i64 (x : Int)) rfl fun b' o' u' hc => ?_
    repeat' (first | refine zA ?_ | (refine zM ?_; intro _ _) | (apply Ws <;> intro hg))
    have hmem : (bg, Ch.row 99 0 0 (gcells c r hs)) ∈ Mx ++ (defds D ++ M) := by simp [hm]
    refine WR.call (by first | exact gN | exact gS rfl) rfl rfl (neighbours_fs (by assumption) (hs := hs) (r := r) (c := c) (by first | assumption | exact .head _ | exact .tail _ (.head _) | exact .tail _ (.tail _ (.head _)) | exact .tail _ (.tail _ (.tail _ (.head _))) | exact .tail _ (.tail _ (.tail _ (.tail _ (.head _)))) | exact .tail _ (.tail _ (.tail _ (.tail _ (.tail _ (.head _))))) | exact .tail _ (.tail _ (.tail _ (.tail _ (.tail _ (.tail _ (.head _)))))) | (repeat' (first | assumption | apply List.mem_cons_of_mem))) ⟨hh.c1, hc6⟩ hh.cr hx h36) ?_
    rintro _ H5 ⟨g, va, vb, Mn, n5, rfl, hn5, hH5, hit⟩
    repeat' (first | refine zA ?_ | (refine zM ?_; intro _ _) | (apply Ws <;> intro hg))
    refine WC.range0 rfl hH5 fun t ht H6 hH6 => ?_
    generalize hR : ({ state := .ready, pending := none, fn := 80, tmps := t, params := [38], assign := _, body := _, nt := _ } : LoopE) = R at hH6
    have hRr : { R with state := LoopState.ready, pending := none } = R := by rw [← hR]
    have h0 := hit (n5 + 1) (fun zs H => ∃ s v Mx nn' w zn, hasH ((n5 + 1, .loop R) :: (nn, .row 3 0 0 [.int .i64 (x : Int)]) :: (bw, .row 22 0 0 [v]) :: (n + 1 + 1, .row 86 0 0 (ints s.1)) :: (n + 1, .row 86 0 0 (List.replicate 37 (.int .i64 0))) :: (n, .row 82 0 0 [.pointer (some ⟨bg, 0, some 0⟩)]) :: (Mx ++ (Mn ++ ((n5, .defd false) :: (defds D ++ M))))) nn' H ∧
      Own 3 1 v (nodes s.2) Mx ∧ Good r s ∧ Core c r hs src x zn s ∧ zs = nodes zn ∧ meas s ≤ meas (b, x :: w0) ∧ s.2 = x :: w ∧ n ≤ nn' ∧ (∀ z ∈ zn, z ∈ nbrs c r x)) (fun _ => False) ?_ ?_ H6
      ⟨(b, x :: w0), v, Mx, n5 + 2, w0, nbrs c r x, hH6.perm (by classical exact List.perm_iff_count.2 (fun a => by simp only [defds, List.map_cons, List.map_nil, List.count_append, List.count_cons, List.count_nil, List.cons_append, List.nil_append, List.append_nil]; omega)), hO, hg, ho.enter rfl, rfl, Nat.le_refl _, rfl, by omega, fun z hz => hz⟩
    · refine FS.mono h0 ?_
      rintro _ H7 (⟨s, v, Mx, nn', w, zn, hH7, hO, hg, hcore, hzs, hms, hs2, hnn, _⟩ | hf)
      · have hzn : zn = [] := by
          cases zn with
          | nil => rfl
          | cons => cases hzs
        subst hzn
        refine rangeEnd_of hH7 .here (by rw [← hR]; simp) (by rw [← hR]; rfl) fun H8 hH8 => ?_
        repeat' (first | refine zA ?_ | (refine zM ?_; intro _ _) | (apply Ws <;> intro hg))
        have hv1 := (hO.sl M).one_
        repeat' (first | refine zA ?_ | (refine zM ?_; intro _ _) | (apply Ws <;> intro hg))
        rename_i hq
        refine WR.slOwnF [_, _, _, _, _, _, _] Mx _ (by first | exact gN | exact gS rfl) rfl rfl hO hq rfl (a := 1) (by rw [hs2]; simp) (Nat.le_refl _) (Nat.le_refl _) fun v2 Mx2 hO2 hH9 => ?_
        simp only [List.cons_append, List.nil_append] at hH9
        have hv2 := (hO2.sl M).one_
        repeat' (first | refine zA ?_ | (refine zM ?_; intro _ _) | (apply Ws <;> intro hg))
        rename_i hq2
        rw [hs2] at hO2
        have hlen : s.2.length = w.length + 1 := by rw [hs2]; rfl
        refine Ends.loop ⟨(s.1, w), v2, Mx2, n5 :: D, nn', nn' + 1⟩ (by simp only [meas] at hms ⊢; omega) (by repeat' (first | exact .nil | refine .cons rfl ?_)) rfl ⟨?_, hO2, ⟨hg.len, hg.bd, fun y hy => hg.wk y (by rw [hs2]; simp [hy]), ?_⟩, ?_, by simp only; omega⟩
        · exact hq2.sub (.cons_cons _ (.cons _ (.cons _ (.cons _ (.cons_cons _ (.cons_cons _ (.cons_cons _ (.append (.refl _) (List.sublist_append_right _ _)))))))))
        · have := hg.ms; simp only [meas] at this ⊢; omega
        · have := hcore.leave; rw [hs2] at this; exact this
      · exact hf.elim
    · rintro zs H ⟨s, v, Mx, nn', w, zn, hH7, _⟩
      exact ⟨_, _, hH7, fun q hq => by simp [hq], by simp [hm]⟩
    · rintro z zs H ⟨s, v, Mx, nn', w, zn, hH7, hO, hg, hcore, hzs, hms, hs2, hnn, hzn⟩
      cases zn with
      | nil => cases hzs
      | cons y zn =>
      obtain ⟨rfl, rfl⟩ : z = .int .i64 (y : Int) ∧ zs = nodes zn := by simpa using hzs
      have hy := hzn y (by simp)
      have hyr := nbrs_le hh.c1 hh.cr hx hy
      have hgood := relax_good hh hx hyr hg
      have hcore' := relax_core hh hx hy hg (by rw [hs2]; simp) hcore
      refine YS.intro hH7 (.head _) (by rw [← hR]) (by rw [← hR]) (by rw [← hR]; rfl) (by rw [← hR]; exact ht) ?_
      subst hR
      dsimp only
      repeat' (first | refine zA ?_ | (refine zM ?_; intro _ _) | (apply Ws <;> intro hg))
      refine Ends.asg hH7 .here fun H8 hH8 => ?_
      dsimp only
      repeat' (first | refine zA ?_ | (refine zM ?_; intro _ _) | (apply Ws <;> intro hg))
      have hs1l := hg.len
      have hmem2 : (bg, Ch.row 99 0 0 (gcells c r hs)) ∈ Mx ++ (Mn ++ ((n5, .defd false) :: (defds D ++ M))) := by simp [hm]
      have hsl : (nodes s.2).length + 1 ≤ 100000 := by
        have := hg.ms
        simp only [meas] at this
        simp only [List.length_map]
        omega
      refine WR.op (by first | exact gN | exact gS rfl) rfl (OpV.loadI rfl hH8 (by first | assumption | exact .head _ | exact .tail _ (.head _) | exact .tail _ (.tail _ (.head _)) | exact .tail _ (.tail _ (.tail _ (.head _))) | exact .tail _ (.tail _ (.tail _ (.tail _ (.head _)))) | exact .tail _ (.tail _ (.tail _ (.tail _ (.tail _ (.head _))))) | exact .tail _ (.tail _ (.tail _ (.tail _ (.tail _ (.tail _ (.head _)))))) | (repeat' (first | assumption | apply List.mem_cons_of_mem))) (by omega)) ?_
      repeat' (first | refine zA ?_ | (refine zM ?_; intro _ _) | (apply Ws <;> intro hg))
      refine WR.op (by first | exact gN | exact gS rfl) rfl (loadG rfl hH8 (by first | assumption | exact .head _ | exact .tail _ (.head _) | exact .tail _ (.tail _ (.head _)) | exact .tail _ (.tail _ (.tail _ (.head _))) | exact .tail _ (.tail _ (.tail _ (.tail _ (.head _)))) | exact .tail _ (.tail _ (.tail _ (.tail _ (.tail _ (.head _))))) | exact .tail _ (.tail _ (.tail _ (.tail _ (.tail _ (.tail _ (.head _)))))) | (repeat' (first | assumption | apply List.mem_cons_of_mem))) (by rw [hh.len]; omega)) ?_
      refine WR.op (by first | exact gN | exact gS rfl) rfl (OpV.max' rfl rfl rfl) ?_
      repeat' (first | refine zA ?_ | (refine zM ?_; intro _ _) | (apply Ws <;> intro hg))
      refine WR.op (by first | exact gN | exact gS rfl) rfl (OpV.loadI rfl hH8 (by first | assumption | exact .head _ | exact .tail _ (.head _) | exact .tail _ (.tail _ (.head _)) | exact .tail _ (.tail _ (.tail _ (.head _))) | exact .tail _ (.tail _ (.tail _ (.tail _ (.head _)))) | exact .tail _ (.tail _ (.tail _ (.tail _ (.tail _ (.head _))))) | exact .tail _ (.tail _ (.tail _ (.tail _ (.tail _ (.tail _ (.head _)))))) | (repeat' (first | assumption | apply List.mem_cons_of_mem))) (by omega)) ?_
      repeat' (first | refine zA ?_ | (refine zM ?_; intro _ _) | (apply Ws <;> intro hg))
      refine WC.condP rfl (fun hlt2 => ?_) (fun hlt2 => ?_)
      · have e : relax hs x s y = (s.1.set y (max (s.1.getD x 0) (hs.getD y 0)), s.2 ++ [y]) := by simp only [relax, hlt2, if_true]
        rw [e] at hgood hcore'
        repeat' (first | refine zA ?_ | (refine zM ?_; intro _ _) | (apply Ws <;> intro hg))
        refine WR.storeI (by first | exact gN | exact gS rfl) hH8 rfl rfl (by first | exact .here | exact .there .here | exact .there (.there .here) | exact .there (.there (.there .here)) | exact .there (.there (.there (.there .here))) | exact .there (.there (.there (.there (.there .here))))) (by omega) fun H9 hH9 => ?_
        repeat' (first | refine zA ?_ | (refine zM ?_; intro _ _) | (apply Ws <;> intro hg))
        refine WR.append1F [_, _, _, _, _, _] Mx _ rfl rfl rfl rfl hO hH9 (new := [.int .i64 (y : Int)]) (by rfl) rfl rfl (Nat.le_refl _) (by omega) hsl fun v2 Mx2 n9 H10 hO2 hH10 hn10 => ?_
        simp only [List.cons_append, List.nil_append] at hH10
        have hv2 := (hO2.sl M).one_
        repeat' (first | refine zA ?_ | (refine zM ?_; intro _ _) | (apply Ws <;> intro hg))
        rename_i hq
        refine Ends.rd rfl rfl rfl hq .here fun H' h' => .inl ⟨rfl, (s.1.set y (max (s.1.getD x 0) (hs.getD y 0)), s.2 ++ [y]), v2, Mx2, n9, w ++ [y], zn, h', ?_, hgood.1, hcore', rfl, Nat.le_trans hgood.2 hms, ?_, by omega, fun z hz => hzn z (by simp [hz])⟩
        · simpa using hO2
        · simp only [hs2, List.cons_append]
      · have e : relax hs x s y = s := by simp only [relax, hlt2, if_false]
        rw [e] at hgood hcore'
        repeat' (first | refine zA ?_ | (refine zM ?_; intro _ _) | (apply Ws <;> intro hg))
        exact Ends.rd rfl rfl rfl hH8 .here fun H' h' => .inl ⟨rfl, _, v, Mx, nn', w, zn, h', hO, hg, hcore', rfl, hms, hs2, hnn, fun z hz => hzn z (by simp [hz])⟩
  · have hw : w = [] := by
      cases w with
      | nil => rfl
      | cons => exact absurd (by simp) hlt
    subst hw
    have hbl : b.length = 37 := hg.len
    repeat' (first | refine zA ?_ | (refine zM ?_; intro _ _) | (apply Ws <;> intro hg))
    refine WR.op (by first | exact gN | exact gS rfl) rfl (OpV.loadAll rfl hH4 (by first | assumption | exact .head _ | exact .tail _ (.head _) | exact .tail _ (.tail _ (.head _)) | exact .tail _ (.tail _ (.tail _ (.head _))) | exact .tail _ (.tail _ (.tail _ (.tail _ (.head _)))) | exact .tail _ (.tail _ (.tail _ (.tail _ (.tail _ (.head _))))) | exact .tail _ (.tail _ (.tail _ (.tail _ (.tail _ (.tail _ (.head _)))))) | (repeat' (first | assumption | apply List.mem_cons_of_mem))) (.row _ _ _ _) (by simpa using hg.len)) ?_
    refine WR.storeAll (by first | exact gN | exact gS rfl) hH4 rfl rfl (ls := ints b) (by simp [Value.cells]) (by simpa using hg.len) (by first | exact .here | exact .there .here | exact .there (.there .here) | exact .there (.there (.there .here)) | exact .there (.there (.there (.there .here))) | exact .there (.there (.there (.there (.there .here))))) (ints_one _) (by simpa using hg.len) fun H5 hH5 => ?_
    repeat' (first | refine zA ?_ | (refine zM ?_; intro _ _) | (apply Ws <;> intro hg))
    refine Ends.retCND (M0 := (n + 1, .row 86 0 0 (ints b)) :: (bw, .row 22 0 0 [v]) :: (n + 1 + 1, .row 86 0 0 (ints b)) :: (n, .row 82 0 0 [.pointer (some ⟨bg, 0, some 0⟩)]) :: (Mx ++ M)) rfl hH5 (.refl _) (by classical exact List.perm_iff_count.2 (fun a => by simp only [defds, List.map_cons, List.map_nil, List.count_append, List.count_cons, List.count_nil, List.cons_append, List.nil_append, List.append_nil]; omega)) fun H6 hH6 => ⟨ints b, ?_, b, nn, rfl, hn, ?_, ho, hg.len, hg.bd⟩
    · have := hH6.readN (b := n + 1) (u := 0) (lo := 0) (o := 0) (k := 37) (.head _) (.row _ _ _ _) (Nat.le_refl _) (by simp; omega)
      rw [this, Nat.sub_self, List.drop_zero, List.take_of_length_le (by simp; omega)]
    · exact hH6.sub (.cons _ (.cons _ (.cons _ (.cons _ (List.sublist_append_right _ _)))))
end Go.Proofs.Ytmogipomnjihcaa.Eb

namespace Go.Proofs.Ytmogipomnjihcaa.Eb
open Go Go.Abs Go.Low
set_option linter.unusedVariables false
set_option linter.unusedSimpArgs false
attribute [local irreducible] gOK WS WC WR WD Ends FS YS OpV seqK blockK loopK midK retK rdK asgK rangeEnd sat Cell
theorem sills_fs {M : HL} {n : Nat} {H : Heap} (hH : hasH M n H) {bg c r : Nat} {hs : List Int} (hm : (bg, .row 99 0 0 (gcells c r hs)) ∈ M) (hh : HS c r hs) (hc6 : c ≤ 6) :
    FS C 56 [.pointer (some ⟨bg, 0, some 0⟩)] H (fun v H' => ∃ best n', v = .agg ((best.map (Value.int .i64)).toArray) ∧ n ≤ n' ∧ hasH M n' H' ∧ Lowest c r hs r best) := by
  refine FS.intro (pf := pf56) rfl rfl rfl ?_
  repeat' (first | refine zA ?_ | (refine zM ?_; intro _ _) | (apply Ws <;> intro hg))
  refine WR.call (by first | exact gN | exact gS rfl) rfl rfl (lowest_fs (by assumption) (List.mem_cons_of_mem _ hm) hh hc6 (Nat.le_refl r)) ?_
  rintro _ H2 ⟨best, n2, rfl, hn2, hH2, hl⟩
  refine WR.storeAll (by first | exact gN | exact gS rfl) hH2 rfl rfl (ls := ints best) (by simp [Value.cells]) (by simpa using hl.len) (by first | exact .here | exact .there .here | exact .there (.there .here) | exact .there (.there (.there .here)) | exact .there (.there (.there (.there .here))) | exact .there (.there (.there (.there (.there .here))))) (ints_one _) (by simpa using hl.len) fun H5 hH5 => ?_
  repeat' (first | refine zA ?_ | (refine zM ?_; intro _ _) | (apply Ws <;> intro hg))
  have := hH5.readN (b := n) (u := 0) (lo := 0) (o := 0) (k := 37) (.head _) (.row _ _ _ _) (Nat.le_refl _) (by simp [hl.len])
  refine Ends.retCN rfl this ⟨best, n2, ?_, by omega, hH5.tail, hl⟩
  rw [Nat.sub_self, List.drop_zero, List.take_of_length_le (by simp [hl.len])]

/-- How deep the water is. -/
structure Depths (r : Nat) (hs b : List Int) (w : Int) (ds : List Int) : Prop where
  len : ds.length = 37
  at_ : ∀ p, p < 37 → ds.getD p 0 = if p < r then max (b.getD p 0) w - hs.getD p 0 else 0
theorem isPlace_fs {M : HL} {n : Nat} {H : Heap} (hH : hasH M n H) {bg c r : Nat} {hs : List Int} (hm : (bg, .row 99 0 0 (gcells c r hs)) ∈ M) (hr : r ≤ 36) (p : Int) :
    FS C 70 [.pointer (some ⟨bg, 0, some 0⟩), .int .i64 p] H (fun v H' => v = .bool (decide (0 ≤ p ∧ p ≤ (r : Int) - 1)) ∧ H' = H) := by
  refine FS.intro (pf := pf70) rfl rfl rfl ?_
  repeat' (first | refine zA ?_ | (refine zM ?_; intro _ _) | (apply Ws <;> intro hg))
  refine WR.op (by first | exact gN | exact gS rfl) rfl (OpV.sub rfl rfl (by omega)) ?_
  refine WR.call (by first | exact gN | exact gS rfl) rfl rfl (within_fs _ _ _ _) ?_
  rintro _ _ ⟨rfl, rfl⟩
  repeat' (first | refine zA ?_ | (refine zM ?_; intro _ _) | (apply Ws <;> intro hg))
  exact Ends.ret1 rfl ⟨rfl, rfl⟩

/-- The nodes that are marked. -/
def marked (ms : List Bool) (k : Nat) : List Nat := (List.range k).filter fun p => ms.getD p false

theorem marked_succ (ms : List Bool) (k : Nat) : marked ms (k + 1) = marked ms k ++ if ms.getD k false then [k] else [] := by
  simp only [marked, List.range_succ, List.filter_append]
  congr 1
  simp only [List.filter_cons, List.filter_nil]

theorem marked_len (ms : List Bool) (k : Nat) : (marked ms k).length ≤ k := by
  have := List.length_filter_le (fun p => ms.getD p false) (List.range k)
  simpa [marked] using this

structure LV where
  k : Nat
  v : Value
  Mx : HL
  n : Nat

theorem marks_fs {M : HL} {n : Nat} {H : Heap} (hH : hasH M n H) {bm e : Nat} {ms : List Bool} (hm : (bm, .row e 0 0 (bools ms)) ∈ M) (hl : ms.length = 37) :
    FS C 66 [.pointer (some ⟨bm, 0, some 0⟩)] H (fun v H' => ∃ Mx n', n ≤ n' ∧ Own 3 1 v (nodes (marked ms 37)) Mx ∧ hasH (Mx ++ M) n' H') := by
  refine FS.intro (pf := pf66) rfl rfl rfl ?_
  repeat' (first | refine zA ?_ | (refine zM ?_; intro _ _) | (apply Ws <;> intro hg))
  refine WC.loop (fun a : LV => [(3, a.v), (6, .pointer (some ⟨bm, 0, some 0⟩)), (7, .int .i64 (a.k : Int))]) (fun _ => [])
    (fun a H => a.k ≤ 37 ∧ n ≤ a.n ∧ Own 3 1 a.v (nodes (marked ms a.k)) a.Mx ∧ hasH (a.Mx ++ M) a.n H) (fun a => 37 - a.k) ⟨0, .slice none 0 0, [], n⟩ (by repeat' (first | exact .nil | refine .cons rfl ?_)) rfl ⟨Nat.zero_le _, Nat.le_refl _, .nil, hH⟩ ?_
  rintro ⟨k, v, Mx, n1⟩ H1 ⟨hk, hn, hO, hH1⟩
  simp only at hk hn hO hH1
  dsimp only
  have hmem : (bm, Ch.row e 0 0 (bools ms)) ∈ Mx ++ M := by simp [hm]
  repeat' (first | refine zA ?_ | (refine zM ?_; intro _ _) | (apply Ws <;> intro hg))
  refine WC.condP rfl (fun hlt => ?_) (fun hlt => ?_)
  · have hk' : k < 37 := by omega
    repeat' (first | refine zA ?_ | (refine zM ?_; intro _ _) | (apply Ws <;> intro hg))
    refine WR.op (by first | exact gN | exact gS rfl) rfl (OpV.loadB rfl hH1 hmem (by omega)) ?_
    repeat' (first | refine zA ?_ | (refine zM ?_; intro _ _) | (apply Ws <;> intro hg))
    refine WC.cond rfl (fun hb => ?_) (fun hb => ?_)
    · repeat' (first | refine zA ?_ | (refine zM ?_; intro _ _) | (apply Ws <;> intro hg))
      refine WR.append1F [] Mx _ rfl rfl rfl rfl hO hH1 (new := [.int .i64 (k : Int)]) (by rfl) rfl rfl (Nat.le_refl _) (by omega) (by have := marked_len ms k; simp; omega) fun v2 Mx2 n9 H10 hO2 hH10 hn10 => ?_
      repeat' (first | refine zA ?_ | (refine zM ?_; intro _ _) | (apply Ws <;> intro hg))
      refine Ends.loop ⟨k + 1, v2, Mx2, n9⟩ (by simp only; omega) (by repeat' (first | exact .nil | refine .cons rfl ?_)) rfl ⟨hk', by simp only; omega, ?_, hH10⟩
      rw [marked_succ, hb]
      simpa using hO2
    · repeat' (first | refine zA ?_ | (refine zM ?_; intro _ _) | (apply Ws <;> intro hg))
      refine Ends.loop ⟨k + 1, v, Mx, n1⟩ (by simp only; omega) (by repeat' (first | exact .nil | refine .cons rfl ?_)) rfl ⟨hk', hn, ?_, hH1⟩
      rw [marked_succ, hb]
      simpa using hO
  · have hk' : k = 37 := by omega
    subst hk'
    repeat' (first | refine zA ?_ | (refine zM ?_; intro _ _) | (apply Ws <;> intro hg))
    exact Ends.ret1 rfl ⟨Mx, n1, hn, hO, hH1⟩

end Go.Proofs.Ytmogipomnjihcaa.Eb

namespace Go.Proofs.Ytmogipomnjihcaa.Eb
open Go Go.Abs Go.Low
set_option linter.unusedVariables false
set_option linter.unusedSimpArgs false
attribute [local irreducible] gOK WS WC WR WD Ends FS YS OpV seqK blockK loopK midK retK rdK asgK rangeEnd sat Cell

/-- All heights: of the places, and 0 for the river and what is behind it. -/
abbrev padded (xs : List Int) : List Int := xs ++ List.replicate (37 - xs.length) 0

def levelE (r c : Int) (xs : List Int) (w : Int) : Int := if checkE r c xs ≠ 0 then checkE r c xs else if 0 ≤ w ∧ w ≤ 30 then 0 else 1

/-- A shore that is good. -/
theorem check_ok {r c : Int} {xs : List Int} (h : checkE r c xs = 0) : 1 ≤ r ∧ r ≤ 6 ∧ 1 ≤ c ∧ c ≤ 6 ∧ (xs.length : Int) = r * c ∧ ∀ x ∈ xs, 0 ≤ x ∧ x ≤ 30 := by
  unfold checkE at h
  split at h
  · cases h
  · split at h
    · cases h
    · split at h
      · rename_i h1 h2 h3
        exact ⟨by omega, by omega, by omega, by omega, by omega, h3⟩
      · cases h

theorem padded_get {xs : List Int} (h : xs.length ≤ 37) (y : Nat) : (padded xs).getD y 0 = xs.getD y 0 := by
  rw [List.getD_eq_getElem?_getD, List.getD_eq_getElem?_getD]
  by_cases hy : y < xs.length
  · rw [List.getElem?_append_left hy]
  · rw [List.getElem?_append_right (by omega), List.getElem?_eq_none (Nat.le_of_not_lt hy), List.getElem?_replicate]
    split <;> rfl

theorem HS_of {r c : Int} {xs : List Int} (h : checkE r c xs = 0) : HS c.toNat xs.length (padded xs) ∧ c.toNat ≤ 6 ∧ xs.length ≤ 36 := by
  obtain ⟨h1, h2, h3, h4, h5, h6⟩ := check_ok h
  have hp := prod_le ⟨h1, h2⟩ ⟨h3, h4⟩
  have hrc : c ≤ r * c := by
    have := Int.mul_le_mul_of_nonneg_right (show (1 : Int) ≤ r by omega) (show 0 ≤ c by omega)
    omega
  refine ⟨⟨by omega, by omega, by omega, by simp; omega, fun y => ?_⟩, by omega, by omega⟩
  rw [padded_get (by omega), List.getD_eq_getElem?_getD]
  by_cases hy : y < xs.length
  · rw [List.getElem?_eq_getElem hy]; exact h6 _ (List.getElem_mem hy)
  · rw [List.getElem?_eq_none (Nat.le_of_not_lt hy)]; simp
/-- The places that are bare. -/
def bareL (r : Nat) (ds : List Int) : List Nat := (List.range r).filter fun p => decide (ds.getD p 0 = 0)

structure BareR (r c : Int) (xs : List Int) (w : Int) (l : List Nat) : Prop where
  ex : ∃ best ds, Lowest c.toNat xs.length (padded xs) xs.length best ∧ Depths xs.length (padded xs) best w ds ∧ l = bareL xs.length ds
end Go.Proofs.Ytmogipomnjihcaa.Eb

namespace Go.Proofs.Ytmogipomnjihcaa.Eb
open Go Go.Abs Go.Low
set_option linter.unusedVariables false
set_option linter.unusedSimpArgs false
attribute [local irreducible] gOK WS WC WR WD Ends FS YS OpV seqK blockK loopK midK retK rdK asgK rangeEnd sat Cell

theorem list_ext37 {a b : List Int} (ha : a.length = 37) (hb : b.length = 37) (h : ∀ y, y < 37 → a.getD y 0 = b.getD y 0) : a = b := by
  apply List.ext_getElem (by omega)
  intro i h1 h2
  have := h i (by omega)
  rwa [List.getD_eq_getElem?_getD, List.getElem?_eq_getElem h1, List.getD_eq_getElem?_getD, List.getElem?_eq_getElem h2] at this

theorem Lowest.far {c r src : Nat} {hs b : List Int} (hh : HS c r hs) (hsrc : src ≤ r) (h : Lowest c r hs src b) {y : Nat} (hy : r < y) (hy2 : y < 37) : b.getD y 0 = 31 := by
  rcases h.out.ach y hy2 with h1 | h1
  · exact h1
  · have := h1.le hh hsrc; omega

theorem Lowest.unique {c r src : Nat} {hs b b' : List Int} (hh : HS c r hs) (hsrc : src ≤ r) (h : Lowest c r hs src b) (h' : Lowest c r hs src b') : b = b' := by
  refine list_ext37 h.len h'.len fun y hy => ?_
  by_cases hyr : y ≤ r
  · have e1 := h.bd y hy
    have e2 := h'.bd y hy
    have k1 : ∀ t : Int, t ≤ 30 → (b.getD y 0 ≤ t ↔ b'.getD y 0 ≤ t) := fun t ht => (h.out.done hh hsrc ht hyr).trans (h'.out.done hh hsrc ht hyr).symm
    rcases Int.lt_or_le 30 (b.getD y 0) with h1 | h1
    · rcases Int.lt_or_le 30 (b'.getD y 0) with h2 | h2
      · omega
      · have := (k1 _ h2).2 (Int.le_refl _); omega
    · have q1 := (k1 _ h1).1 (Int.le_refl _)
      have q2 := (k1 _ (show b'.getD y 0 ≤ 30 by omega)).2 (Int.le_refl _)
      omega
  · rw [h.far hh hsrc (by omega) hy, h'.far hh hsrc (by omega) hy]

def hourE (r c : Int) (xs ws : List Int) (p : Int) : Int :=
  if checkE r c xs ≠ 0 then checkE r c xs else if 24 < (ws.length : Int) then 3 else if ¬ (∀ x ∈ ws, 0 ≤ x ∧ x ≤ 30) then 1 else if ¬ (0 ≤ p ∧ p ≤ (xs.length : Int) - 1) then 2 else 0

/-- How deep a place lies under water. -/
def deep (best hs : List Int) (w : Int) (p : Nat) : Int := max (best.getD p 0) w - hs.getD p 0

structure HourR (r c : Int) (xs ws : List Int) (p : Nat) (v : Value) : Prop where
  ex : ∃ best, Lowest c.toNat xs.length (padded xs) xs.length best ∧ ((∃ k, k < ws.length ∧ deep best (padded xs) (ws.getD k 0) p = 0 ∧ (∀ j, j < k → deep best (padded xs) (ws.getD j 0) p ≠ 0) ∧ v = .tuple #[.int .i64 (k : Int), .int .i64 0]) ∨
    ((∀ j, j < ws.length → deep best (padded xs) (ws.getD j 0) p ≠ 0) ∧ v = .tuple #[.int .i64 0, .int .i64 12]))

theorem toArray_get {l : List Value} {m : Nat} {v : Value} (h : l[m]? = some v) : l.toArray[m]? = some v := by simpa using h
theorem Index_fs {M : HL} {n : Nat} {H : Heap} (hH : hasH M n H) {v : Value} {xs : List Int} (hS : Sl M 1 v (ints xs)) (hx : xs.length ≤ 100000) (a : Int) :
    FS C 86 [v, .int .i64 a] H (fun e H' => H' = H ∧ ((∃ k, k < xs.length ∧ xs.getD k 0 = a ∧ (∀ j, j < k → xs.getD j 0 ≠ a) ∧ e = .int .i64 (k : Int)) ∨ (a ∉ xs ∧ e = .int .i64 (-1)))) := by
  refine FS.intro (pf := pf86) rfl rfl rfl ?_
  repeat' (first | refine zA ?_ | (refine zM ?_; intro _ _) | (apply Ws <;> intro hg))
  refine WR.op (by first | exact gN | exact gS rfl) rfl (OpV.lenSI rfl hS) ?_
  repeat' (first | refine zA ?_ | (refine zM ?_; intro _ _) | (apply Ws <;> intro hg))
  refine WC.loop (fun k : Nat => [(0, v), (1, .int .i64 a), (7, .int .i64 (xs.length : Int)), (8, .int .i64 (k : Int))]) (fun _ => []) (fun k H' => H' = H ∧ k ≤ xs.length ∧ ∀ j, j < k → xs.getD j 0 ≠ a) (fun k => xs.length - k) 0 (by repeat' (first | exact .nil | refine .cons rfl ?_)) rfl ⟨rfl, Nat.zero_le _, fun j h => absurd h (Nat.not_lt_zero _)⟩ ?_
  rintro k H' ⟨rfl, hk, hno⟩
  repeat' (first | refine zA ?_ | (refine zM ?_; intro _ _) | (apply Ws <;> intro hg))
  refine WC.condP rfl (fun hlt => ?_) (fun hlt => ?_)
  · have hk' : k < xs.length := by omega
    have e : xs[k] = xs.getD k 0 := by rw [List.getD_eq_getElem?_getD, List.getElem?_eq_getElem hk']; rfl
    repeat' (first | refine zA ?_ | (refine zM ?_; intro _ _) | (apply Ws <;> intro hg))
    refine WR.idxSI (by first | exact gN | exact gS rfl) rfl rfl hS rfl rfl hk' fun b o u hc => ?_
    repeat' (first | refine zA ?_ | (refine zM ?_; intro _ _) | (apply Ws <;> intro hg))
    refine WC.condP rfl (fun h => ?_) (fun h => ?_)
    · repeat' (first | refine zA ?_ | (refine zM ?_; intro _ _) | (apply Ws <;> intro hg))
      exact Ends.ret1 rfl ⟨rfl, .inl ⟨k, hk', by rw [← e]; exact h.symm, hno, rfl⟩⟩
    · repeat' (first | refine zA ?_ | (refine zM ?_; intro _ _) | (apply Ws <;> intro hg))
      refine Ends.loop (k + 1) (by omega) (by repeat' (first | exact .nil | refine .cons rfl ?_)) rfl ⟨rfl, hk', fun j hj => ?_⟩
      rcases Nat.lt_or_ge j k with h2 | h2
      · exact hno j h2
      · have : j = k := by omega
        subst this
        rw [← e]; exact fun q => h q.symm
  · repeat' (first | refine zA ?_ | (refine zM ?_; intro _ _) | (apply Ws <;> intro hg))
    refine Ends.ret1 rfl ⟨rfl, .inr ⟨fun hm => ?_, rfl⟩⟩
    obtain ⟨j, hj, he⟩ := List.mem_iff_getElem.1 hm
    refine hno j (by omega) ?_
    rw [List.getD_eq_getElem?_getD, List.getElem?_eq_getElem hj]; exact he

theorem Contains_fs {M : HL} {n : Nat} {H : Heap} (hH : hasH M n H) {v : Value} {xs : List Int} (hS : Sl M 1 v (ints xs)) (hx : xs.length ≤ 100000) (a : Int) :
    FS C 48 [v, .int .i64 a] H (fun e H' => H' = H ∧ e = .bool (decide (a ∈ xs))) := by
  refine FS.intro (pf := pf48) rfl rfl rfl ?_
  repeat' (first | refine zA ?_ | (refine zM ?_; intro _ _) | (apply Ws <;> intro hg))
  refine WR.call (by first | exact gN | exact gS rfl) rfl rfl (Index_fs hH hS hx a) ?_
  rintro _ _ ⟨rfl, ⟨k, hk, he, _, rfl⟩ | ⟨hn, rfl⟩⟩
  · repeat' (first | refine zA ?_ | (refine zM ?_; intro _ _) | (apply Ws <;> intro hg))
    refine Ends.ret1 rfl ⟨rfl, ?_⟩
    have hm : a ∈ xs := by
      rw [List.getD_eq_getElem?_getD, List.getElem?_eq_getElem hk] at he
      rw [← he]; exact List.getElem_mem hk
    rw [decide_eq_true hm, decide_eq_true (by omega)]
  · repeat' (first | refine zA ?_ | (refine zM ?_; intro _ _) | (apply Ws <;> intro hg))
    refine Ends.ret1 rfl ⟨rfl, ?_⟩
    rw [decide_eq_false hn, decide_eq_false (by omega)]

end Go.Proofs.Ytmogipomnjihcaa.Eb

namespace Go.Proofs.Ytmogipomnjihcaa.Eb
open Go Go.Abs Go.Low
set_option linter.unusedVariables false
set_option linter.unusedSimpArgs false
attribute [local irreducible] gOK WS WC WR WD Ends FS YS OpV seqK blockK loopK midK retK rdK asgK rangeEnd sat Cell

theorem u5 : C.c.P.underlying 5 = some (.int .u8) := by kernel_rfl
theorem u3 : C.c.P.underlying 3 = some (.int .i64) := by kernel_rfl

/-- A strand by numbers: what it stands for. -/
abbrev strand (a b : Int) (hs : List Int) : List Value := .int .u8 a :: .int .u8 b :: hs.map (Value.int .u8)

structure Bytes (a b : Int) (hs : List Int) : Prop where
  a : 0 ≤ a ∧ a ≤ 255
  b : 0 ≤ b ∧ b ≤ 255
  len : hs.length = 36
  hs : ∀ x ∈ hs, 0 ≤ x ∧ x ≤ 255

def side (m a : Int) : Int := 1 + a % m
def heightsOf (m a b : Int) (hs : List Int) : List Int := (hs.take (side m a * side m b).toNat).map (· % 31)

theorem side_le {m a : Int} (hm : 1 ≤ m ∧ m ≤ 6) : 1 ≤ side m a ∧ side m a ≤ 6 := by
  have h1 := Int.emod_nonneg a (show m ≠ 0 by omega)
  have h2 := Int.emod_lt_of_pos a (show 0 < m by omega)
  unfold side
  omega

theorem made_check {m a b : Int} {hs : List Int} (hm : 1 ≤ m ∧ m ≤ 6) (hb : Bytes a b hs) : checkE (side m a) (side m b) (heightsOf m a b hs) = 0 := by
  have h1 := side_le (a := a) hm
  have h2 := side_le (a := b) hm
  have hp := prod_le h1 h2
  have hl := hb.len
  have hlen : ((heightsOf m a b hs).length : Int) = side m a * side m b := by
    simp only [heightsOf, List.length_map, List.length_take]
    omega
  unfold checkE
  rw [if_neg (by omega), if_neg (by omega), if_pos]
  intro x hx
  simp only [heightsOf, List.mem_map] at hx
  obtain ⟨y, _, rfl⟩ := hx
  omega

theorem strand_one (a b : Int) (hs : List Int) : (strand a b hs).all one = true := by simp [strand, one]

set_option maxHeartbeats 400000 in
theorem made_fs {M : HL} {n : Nat} {H : Heap} (hH : hasH M n H) {m a b : Int} {hs : List Int} (hm : 1 ≤ m ∧ m ≤ 6) (hb : Bytes a b hs) :
    FS C 42 [.agg (strand a b hs).toArray, .int .i64 m] H (fun e H' => ∃ v Mx n', e = .agg #[.int .i64 (side m a), .int .i64 (side m b), v] ∧ n ≤ n' ∧ Own 3 1 v (ints (heightsOf m a b hs)) Mx ∧ hasH (Mx ++ M) n' H') := by
  have h1 := side_le (a := a) hm
  have h2 := side_le (a := b) hm
  have hp := prod_le h1 h2
  have hl := hb.len
  have hao := hb.a
  have hbo := hb.b
  have hone := strand_one a b hs
  refine FS.intro (pf := pf42) rfl rfl rfl ?_
  repeat' (first | refine zA ?_ | (refine zM ?_; intro _ _) | (apply Ws <;> intro hg))
  rename_i H1 hH1
  refine WC.regionD ?_
  refine WD.op (by first | exact gN | exact gS rfl) rfl (OpV.field0 rfl) rfl (stands_nil _ _) ?_
  refine WD.load1 (by first | exact gN | exact gS rfl) rfl rfl (hH1.read (v := .int .u8 a) (.tail _ (.head _)) (.row _ _ _ _) (Nat.zero_le _) rfl) ?_
  refine WD.op (by first | exact gN | exact gS rfl) rfl (OpV.conv u5 u3 rfl (c := a) (IntWalk.i64_in _ (by omega))) rfl (stands_nil _ _) ?_
  refine WD.op (by first | exact gN | exact gS rfl) rfl (OpV.move rfl) rfl (stands_nil _ _) ?_
  refine WD.op (by first | exact gN | exact gS rfl) rfl (OpV.rem' (c := a % m) rfl rfl rfl (by omega) (by omega)) rfl (stands_nil _ _) ?_
  refine WD.op (by first | exact gN | exact gS rfl) rfl (OpV.add' (c := side m a) rfl rfl rfl (by omega)) rfl (stands_nil _ _) ?_
  refine WD.op (by first | exact gN | exact gS rfl) rfl (OpV.field0 rfl) rfl (stands_nil _ _) ?_
  refine WD.load1 (by first | exact gN | exact gS rfl) rfl rfl (hH1.read (v := .int .u8 b) (.tail _ (.head _)) (.row _ _ _ _) (Nat.zero_le _) rfl) ?_
  refine WD.op (by first | exact gN | exact gS rfl) rfl (OpV.conv u5 u3 rfl (c := b) (IntWalk.i64_in _ (by omega))) rfl (stands_nil _ _) ?_
  refine WD.op (by first | exact gN | exact gS rfl) rfl (OpV.move rfl) rfl (stands_nil _ _) ?_
  refine WD.op (by first | exact gN | exact gS rfl) rfl (OpV.rem' (c := b % m) rfl rfl rfl (by omega) (by omega)) rfl (stands_nil _ _) ?_
  refine WD.op (by first | exact gN | exact gS rfl) rfl (OpV.add' (c := side m b) rfl rfl rfl (by omega)) rfl (stands_nil _ _) ?_
  refine WD.op (by first | exact gN | exact gS rfl) rfl (OpV.bldT (vs := [(0, .int .i64 (side m a)), (1, .int .i64 (side m b))]) rfl (cs := #[.int .i64 (side m a), .int .i64 (side m b), .slice none 0 0]) (by rfl)) rfl (stands_nil _ _) ?_
  refine WD.new rfl hH1 rfl (fun H2 hH2 => ?_) fun H2 hH2 => ?_
  · exact stands_cons (.inr (holds_int (hH2.read (.tail _ (.tail _ (.head _))) (.row _ _ _ _) (Nat.zero_le _) rfl))) (stands_cons (.inr (holds_int (hH2.read (.tail _ (.tail _ (.head _))) (.row _ _ _ _) (Nat.zero_le _) rfl))) stands_nil')
  refine WD.toWR rfl ?_
  refine WR.storeAll (by first | exact gN | exact gS rfl) hH2 rfl rfl (ls := [.int .i64 (side m a), .int .i64 (side m b), .slice none 0 0]) rfl rfl (by first | exact .here | exact .there .here | exact .there (.there .here) | exact .there (.there (.there .here)) | exact .there (.there (.there (.there .here))) | exact .there (.there (.there (.there (.there .here))))) rfl (by rfl) fun H3 hH3 => ?_
  repeat' (first | refine zA ?_ | (refine zM ?_; intro _ _) | (apply Ws <;> intro hg))
  obtain ⟨q, hq⟩ : ∃ q : Nat, side m a * side m b = q := ⟨(side m a * side m b).toNat, by omega⟩
  have hheights : heightsOf m a b hs = (hs.take q).map (· % 31) := by simp only [heightsOf, hq, Int.toNat_natCast]
  refine WR.op (by first | exact gN | exact gS rfl) rfl (OpV.mul' (c := (q : Int)) rfl rfl hq (by omega)) ?_
  refine WR.op (by first | exact gN | exact gS rfl) rfl (OpV.slAh rfl rfl (by omega) (by decide)) ?_
  repeat' (first | refine zA ?_ | (refine zM ?_; intro _ _) | (apply Ws <;> intro hg))
  have hSl : Sl ((n, .row 60 0 0 (strand a b hs)) :: M) 1 (.slice (some ⟨n, 2, some 0⟩) q (2 * 36 + 1)) ((hs.take q).map (Value.int .u8)) :=
    .row (lo := 0) (cs := strand a b hs) (.head _) (.row _ _ _ _) (Nat.zero_le _) (by first | (simp; done) | (simp; omega)) (by first | (simp [strand]; done) | (simp [strand]; omega)) (by first | (simp [strand]; done) | (simp [strand]; omega)) (.inr ⟨36, rfl, by omega⟩)
  refine WC.loop (fun s : LV => [(4, .pointer (some ⟨n + 1, 0, some 0⟩)), (5, .pointer (some ⟨n + 1 + 1, 0, some 0⟩)), (27, .slice (some ⟨n, 2, some 0⟩) q (2 * 36 + 1)), (28, .int .i64 (q : Int)), (29, .int .i64 (s.k : Int))]) (fun _ => [])
    (fun s H => s.k ≤ q ∧ n ≤ s.n ∧ Own 3 1 s.v (ints ((hs.take s.k).map (· % 31))) s.Mx ∧
      hasH ((n + 1 + 1, .row 24 0 0 [.int .i64 (side m a), .int .i64 (side m b), s.v]) :: (n + 1, .row 24 0 0 [.int .i64 0, .int .i64 0, .slice none 0 0]) :: (n, .row 60 0 0 (strand a b hs)) :: (s.Mx ++ M)) s.n H)
    (fun s => q - s.k) ⟨0, .slice none 0 0, [], n + 1 + 1 + 1⟩ (by repeat' (first | exact .nil | refine .cons rfl ?_)) rfl ⟨Nat.zero_le _, by simp only; omega, .nil, hH3⟩ ?_
  clear hH3 hH2 hH1
  rintro ⟨k, v, Mx, n1⟩ H4 ⟨hk, hn, hO, hH4⟩
  simp only at hk hn hO hH4
  dsimp only
  repeat' (first | refine zA ?_ | (refine zM ?_; intro _ _) | (apply Ws <;> intro hg))
  refine WC.condP rfl (fun hlt => ?_) (fun hlt => ?_)
  · have hk' : k < q := by omega
    have hkl : k < hs.length := by omega
    have hkb := hb.hs hs[k] (List.getElem_mem hkl)
    have hv1 := (hO.sl M).one_
    have hH4' : hasH ((n, .row 60 0 0 (strand a b hs)) :: M) n1 H4 := hH4.sub (.cons _ (.cons _ (.cons_cons _ (List.sublist_append_right _ _))))
    repeat' (first | refine zA ?_ | (refine zM ?_; intro _ _) | (apply Ws <;> intro hg))
    refine WR.op (by first | exact gN | exact gS rfl) rfl (OpV.load1 (v := .int .u8 hs[k]) rfl hH4' (.head _) (.row _ _ _ _) (Nat.zero_le _) (by rw [show 2 + k - 0 = k + 2 by omega]; simp [strand, hkl])) ?_
    repeat' (first | refine zA ?_ | (refine zM ?_; intro _ _) | (apply Ws <;> intro hg))
    refine WR.op (by first | exact gN | exact gS rfl) rfl (OpV.load1 rfl hH4 (.head _) (.row _ _ _ _) (Nat.zero_le _) rfl) ?_
    repeat' (first | refine zA ?_ | (refine zM ?_; intro _ _) | (apply Ws <;> intro hg))
    refine WR.op (by first | exact gN | exact gS rfl) rfl (OpV.conv u5 u3 rfl (c := hs[k]) (IntWalk.i64_in _ (by omega))) ?_
    refine WR.op (by first | exact gN | exact gS rfl) rfl (OpV.rem' (c := hs[k] % 31) rfl rfl rfl (by omega) (by omega)) ?_
    refine WR.append1F [_, _, _] Mx _ rfl rfl rfl rfl hO hH4 (new := [.int .i64 (hs[k] % 31)]) (by rfl) rfl rfl (Nat.le_refl _) (by omega) (by simp; omega) fun v2 Mx2 n9 H10 hO2 hH10 hn10 => ?_
    simp only [List.cons_append, List.nil_append] at hH10
    have hv2 := (hO2.sl M).one_
    repeat' (first | refine zA ?_ | (refine zM ?_; intro _ _) | (apply Ws <;> intro hg))
    refine WR.store1 (by first | exact gN | exact gS rfl) hH10 rfl rfl hv2 (cs' := [.int .i64 (side m a), .int .i64 (side m b), v2]) .here (Nat.zero_le _) (by simp) rfl fun H11 hH11 => ?_
    repeat' (first | refine zA ?_ | (refine zM ?_; intro _ _) | (apply Ws <;> intro hg))
    refine Ends.loop ⟨k + 1, v2, Mx2, n9⟩ (by simp only; omega) (by repeat' (first | exact .nil | refine .cons rfl ?_)) rfl ⟨hk', by simp only; omega, ?_, hH11⟩
    have e : ints ((hs.take (k + 1)).map (· % 31)) = ints ((hs.take k).map (· % 31)) ++ [.int .i64 (hs[k] % 31)] := by
      rw [List.take_succ_eq_append_getElem hkl]
      simp only [ints, List.map_append]
      rfl
    rw [e]; exact hO2
  · have hk' : k = q := by omega
    subst hk'
    have hv1 := (hO.sl M).one_
    repeat' (first | refine zA ?_ | (refine zM ?_; intro _ _) | (apply Ws <;> intro hg))
    refine WR.storeAll (by first | exact gN | exact gS rfl) hH4 rfl rfl (ls := [.int .i64 (side m a), .int .i64 (side m b), v]) rfl rfl (.there .here) (by (repeat' (first | exact all_nil | refine all_cons (by first | rfl | assumption) ?_))) (by rfl) fun H5 hH5 => ?_
    repeat' (first | refine zA ?_ | (refine zM ?_; intro _ _) | (apply Ws <;> intro hg))
    have := hH5.readN (b := n + 1) (u := 0) (lo := 0) (o := 0) (k := 3) (.tail _ (.head _)) (.row _ _ _ _) (Nat.le_refl _) (Nat.le_refl _)
    refine Ends.retCN rfl this ⟨v, Mx, n1, rfl, hn, by rw [hheights]; exact hO, hH5.tail.tail.tail⟩

end Go.Proofs.Ytmogipomnjihcaa.Eb

namespace Go.Low

/-- Heights that are no lower: no more is reached. -/
theorem Reach.lower {c r : Nat} {hs hs' : List Int} (hle : ∀ y, hs.getD y 0 ≤ hs'.getD y 0) {src : Nat} {t : Int} {y : Nat} (h : Reach c r hs' src t y) : Reach c r hs src t y := by
  induction h with
  | start h => exact .start (Int.le_trans (hle _) h)
  | step _ hy ht ih => exact .step ih hy (Int.le_trans (hle _) ht)
end Go.Low

namespace Go.Proofs.Ytmogipomnjihcaa.Eb
open Go Go.Abs Go.Low
set_option linter.unusedVariables false
set_option linter.unusedSimpArgs false
attribute [local irreducible] gOK WS WC WR WD Ends FS YS OpV seqK blockK loopK midK retK rdK asgK rangeEnd sat Cell

theorem Sl.some_ {M : HL} {sz : Nat} {v : Value} {l : List Value} (h : Sl M sz v l) (hne : l ≠ []) : ∃ a len cap, v = .slice (some a) len cap := by
  cases h with
  | nil c => exact absurd rfl hne
  | emp a => exact absurd rfl hne
  | row => exact ⟨_, _, _, rfl⟩

theorem ints_ne {xs : List Int} (h : 1 ≤ xs.length) : ints xs ≠ [] := by
  intro e; have := congrArg List.length e; simp only [ints, List.length_map, List.length_nil] at this; omega

theorem Clone_fs {M : HL} {n : Nat} {H : Heap} (hH : hasH M n H) {v : Value} {xs : List Int} (hS : Sl M 1 v (ints xs)) (hx : xs.length ≤ 1000) (hx1 : 1 ≤ xs.length) :
    FS C 46 [v] H (fun e H' => ∃ b n', e = .slice (some ⟨b, 0, some 0⟩) xs.length (2 * 1) ∧ n ≤ n' ∧ hasH ((b, .row 3 0 0 (ints xs)) :: M) n' H') := by
  have hne := ints_ne hx1
  obtain ⟨a, len, cap, rfl⟩ := Sl.some_ hS hne
  refine FS.intro (pf := pf46) rfl rfl rfl ?_
  repeat' (first | refine zA ?_ | (refine zM ?_; intro _ _) | (apply Ws <;> intro hg))
  refine WR.bldS (by first | exact gN | exact gS rfl) rfl hH (vs := []) rfl (cs := []) (by rfl) rfl fun H3 hH3 => ?_
  repeat' (first | refine zA ?_ | (refine zM ?_; intro _ _) | (apply Ws <;> intro hg))
  obtain ⟨hk, hsr⟩ := (hS.cons (p := (n, .row 3 0 0 []))).src hH3 hne
  rw [show (ints xs).length = xs.length by simp] at hk
  refine WR.appendNew (by first | exact gN | exact gS rfl) rfl rfl rfl hH3 (.head _) (.row _ _ _ _) (Nat.zero_le _) (Nat.zero_le _) hk (by have := hsr _ (Nat.le_refl _); rw [List.take_length, show (ints xs).length = xs.length by simp] at this; exact this) (by simp) hx1 (ints_one _) (by omega) (by omega) (by omega) fun H' hH' => ?_
  repeat' (first | refine zA ?_ | (refine zM ?_; intro _ _) | (apply Ws <;> intro hg))
  exact Ends.ret1 rfl ⟨n + 1, n + 2, rfl, by omega, hH'.sub (.cons_cons _ (List.sublist_cons_self _ _))⟩

theorem own_row {b : Nat} {xs : List Int} : Own 3 1 (.slice (some ⟨b, 0, some 0⟩) xs.length (2 * 1)) (ints xs) [(b, .row 3 0 0 (ints xs))] := .row (by simp)
theorem list_fs {M : HL} {n : Nat} {H : Heap} (hH : hasH M n H) {bg bn e c r : Nat} {hs ns : List Int} (hm : (bg, .row 99 0 0 (gcells c r hs)) ∈ M) (hn : (bn, .row e 0 0 (ints ns)) ∈ M) (hl : ns.length = 37) (hr : r ≤ 36) (hr1 : 1 ≤ r) :
    FS C 57 [.pointer (some ⟨bg, 0, some 0⟩), .pointer (some ⟨bn, 0, some 0⟩)] H (fun e H' => ∃ Mx n', n ≤ n' ∧ Own 3 1 e (ints (ns.take r)) Mx ∧ hasH (Mx ++ M) n' H') := by
  refine FS.intro (pf := pf57) rfl rfl rfl ?_
  repeat' (first | refine zA ?_ | (refine zM ?_; intro _ _) | (apply Ws <;> intro hg))
  refine WR.op (by first | exact gN | exact gS rfl) rfl (OpV.slAh rfl rfl (show r ≤ 37 by omega) (by decide)) ?_
  have hSl : Sl M 1 (.slice (some ⟨bn, 0, some 0⟩) r (2 * 37 + 1)) (ints (ns.take r)) :=
    .row (lo := 0) (cs := ints ns) hn (.row _ _ _ _) (Nat.zero_le _) (by simp; omega) (by simp [ints, List.map_take]) (by simp; omega) (.inr ⟨37, rfl, by omega⟩)
  refine WR.call (by first | exact gN | exact gS rfl) rfl rfl (Clone_fs hH hSl (by simp; omega) (by simp; omega)) ?_
  rintro _ H2 ⟨b2, n2, rfl, hn2, hH2⟩
  repeat' (first | refine zA ?_ | (refine zM ?_; intro _ _) | (apply Ws <;> intro hg))
  exact Ends.ret1 rfl ⟨_, n2, hn2, own_row, hH2⟩

theorem Sills_fs {M : HL} {n : Nat} {H : Heap} (hH : hasH M n H) {r c : Int} {v : Value} {xs : List Int} (hS : Sl M 1 v (ints xs)) (hx : xs.length ≤ 1000) :
    FS C 17 [.agg #[.int .i64 r, .int .i64 c, v]] H (fun e H' => ∃ n', n ≤ n' ∧ (checkE r c xs ≠ 0 ∧ e = .tuple #[.slice none 0 0, .int .i64 (checkE r c xs)] ∧ hasH M n' H' ∨
      checkE r c xs = 0 ∧ ∃ v' Mx best, e = .tuple #[v', .int .i64 0] ∧ Own 3 1 v' (ints (best.take xs.length)) Mx ∧ hasH (Mx ++ M) n' H' ∧ Lowest c.toNat xs.length (padded xs) xs.length best)) := by
  have h1 := hS.one_
  refine FS.intro (pf := pf17) rfl rfl rfl ?_
  repeat' (first | refine zA ?_ | (refine zM ?_; intro _ _) | (apply Ws <;> intro hg))
  refine WR.call (by first | exact gN | exact gS rfl) rfl rfl (lay_fs (by assumption) hS.cons hx) ?_
  rintro _ H2 ⟨n2, hn2, ⟨hne, rfl, hH2⟩ | ⟨hck, bg, rfl, hH2⟩⟩
  · repeat' (first | refine zA ?_ | (refine zM ?_; intro _ _) | (apply Ws <;> intro hg))
    refine WC.condP rfl (fun h => ?_) (fun h => ?_)
    · repeat' (first | refine zA ?_ | (refine zM ?_; intro _ _) | (apply Ws <;> intro hg))
      exact Ends.ret2 rfl rfl ⟨n2, by omega, .inl ⟨hne, rfl, hH2.tail⟩⟩
    · exact absurd hne h
  · obtain ⟨hh, hc6, hr36⟩ := HS_of hck
    have hr1 := Nat.le_trans hh.c1 hh.cr
    repeat' (first | refine zA ?_ | (refine zM ?_; intro _ _) | (apply Ws <;> intro hg))
    refine WR.call (by first | exact gN | exact gS rfl) rfl rfl (sills_fs hH2 (by first | assumption | exact .head _ | exact .tail _ (.head _) | exact .tail _ (.tail _ (.head _)) | exact .tail _ (.tail _ (.tail _ (.head _))) | exact .tail _ (.tail _ (.tail _ (.tail _ (.head _)))) | exact .tail _ (.tail _ (.tail _ (.tail _ (.tail _ (.head _))))) | exact .tail _ (.tail _ (.tail _ (.tail _ (.tail _ (.tail _ (.head _)))))) | (repeat' (first | assumption | apply List.mem_cons_of_mem))) hh hc6) ?_
    rintro _ H3 ⟨best, n3, rfl, hn3, hH3, hl⟩
    repeat' (first | refine zA ?_ | (refine zM ?_; intro _ _) | (apply Ws <;> intro hg))
    rename_i hq
    refine WR.storeAll (by first | exact gN | exact gS rfl) hq rfl rfl (ls := ints best) (by simp [Value.cells]) (by simpa using hl.len) (by first | exact .here | exact .there .here | exact .there (.there .here) | exact .there (.there (.there .here)) | exact .there (.there (.there (.there .here))) | exact .there (.there (.there (.there (.there .here))))) (ints_one _) (by simpa using hl.len) fun H5 hH5 => ?_
    clear hq
    repeat' (first | refine zA ?_ | (refine zM ?_; intro _ _) | (apply Ws <;> intro hg))
    refine WR.call (by first | exact gN | exact gS rfl) rfl rfl (list_fs hH5 (by first | assumption | exact .head _ | exact .tail _ (.head _) | exact .tail _ (.tail _ (.head _)) | exact .tail _ (.tail _ (.tail _ (.head _))) | exact .tail _ (.tail _ (.tail _ (.tail _ (.head _)))) | exact .tail _ (.tail _ (.tail _ (.tail _ (.tail _ (.head _))))) | exact .tail _ (.tail _ (.tail _ (.tail _ (.tail _ (.tail _ (.head _)))))) | (repeat' (first | assumption | apply List.mem_cons_of_mem))) (.head _) hl.len hr36 hr1) ?_
    rintro v2 H6 ⟨Mx, n6, hn6, hO, hH6⟩
    repeat' (first | refine zA ?_ | (refine zM ?_; intro _ _) | (apply Ws <;> intro hg))
    refine Ends.ret2 rfl rfl ⟨n6, by omega, .inr ⟨hck, v2, Mx, best, rfl, hO, hH6.sub (.append (.refl _) (.cons _ (.cons _ (.cons _ (.refl _))))), hl⟩⟩
end Go.Proofs.Ytmogipomnjihcaa.Eb

namespace Go.Proofs.Ytmogipomnjihcaa.Eb
open Go Go.Abs Go.Low
set_option linter.unusedVariables false
set_option linter.unusedSimpArgs false
attribute [local irreducible] gOK WS WC WR WD Ends FS YS OpV seqK blockK loopK midK retK rdK asgK rangeEnd sat Cell

theorem cases6 {c : Nat} (h : 1 ≤ c ∧ c ≤ 6) : c = 1 ∨ c = 2 ∨ c = 3 ∨ c = 4 ∨ c = 5 ∨ c = 6 := by omega

theorem mem_ite {p : Prop} [Decidable p] {x a : Nat} : (x ∈ if p then [a] else []) ↔ (p ∧ x = a) := by
  split <;> rename_i h <;> simp [h]

theorem nbrs_iff {c r a b : Nat} (hc : 1 ≤ c ∧ c ≤ 6) (ha : a < r) (hb : b < r) : b ∈ nbrs c r a ↔ (a / c = b / c ∧ (a + 1 = b ∨ b + 1 = a)) ∨ (a / c ≠ b / c ∧ (a + c = b ∨ b + c = a)) := by
  unfold nbrs
  rw [if_neg (by omega)]
  simp only [List.mem_append, List.mem_singleton]
  rw [mem_ite, mem_ite, mem_ite]
  rcases cases6 hc with rfl | rfl | rfl | rfl | rfl | rfl <;> omega

theorem nbrs_out {c r a : Nat} (ha : a < r) : r ∈ nbrs c r a ↔ r ≤ a + c := by
  unfold nbrs
  rw [if_neg (by omega)]
  simp only [List.mem_append, List.mem_singleton]
  rw [mem_ite, mem_ite, mem_ite]
  by_cases h : c = 0
  · subst h; simp; omega
  have := Nat.mod_lt a (show 0 < c by omega)
  omega

theorem nbrs_in {c r a : Nat} (hcr : c ≤ r) (ha : a < r) : a ∈ nbrs c r r ↔ r ≤ a + c := by
  unfold nbrs
  rw [if_pos rfl, List.mem_range'_1]
  omega

theorem nbrs_symm {c r a b : Nat} (hc : 1 ≤ c ∧ c ≤ 6) (hcr : c ≤ r) (ha : a ≤ r) (h : b ∈ nbrs c r a) : a ∈ nbrs c r b := by
  have hb := nbrs_le hc.1 hcr ha h
  have hne : b ≠ a := fun e => nbrs_ne hc.1 hcr (e ▸ h)
  rcases Nat.lt_or_ge a r with ha' | ha'
  · rcases Nat.lt_or_ge b r with hb' | hb'
    · rw [nbrs_iff hc ha' hb'] at h
      rw [nbrs_iff hc hb' ha']
      omega
    · have : b = r := by omega
      subst this
      rw [nbrs_out ha'] at h
      exact (nbrs_in hcr ha').2 h
  · have : a = r := by omega
    subst this
    have hb' : b < a := by omega
    rw [nbrs_in hcr hb'] at h
    exact (nbrs_out hb').2 h

/-- Places that hold back water. -/
def Bars (c r : Nat) (hs : List Int) (ps : List Nat) (h : Int) : Prop := ∀ p ∈ ps, ∀ y ∈ nbrs c r p, y ≠ r ∧ (hs.getD y 0 < h → y ∈ ps)

instance (c r : Nat) (hs : List Int) (ps : List Nat) (h : Int) : Decidable (Bars c r hs ps h) := by unfold Bars; infer_instance
end Go.Proofs.Ytmogipomnjihcaa.Eb

namespace Go.Proofs.Ytmogipomnjihcaa.Eb
open Go Go.Abs Go.Low
set_option linter.unusedVariables false
set_option linter.unusedSimpArgs false
attribute [local irreducible] gOK WS WC WR WD Ends FS YS OpV seqK blockK loopK midK retK rdK asgK rangeEnd sat Cell

theorem beside_fs {M : HL} {n : Nat} {H : Heap} (hH : hasH M n H) {rw : Int} {c : Nat} {v : Value} {xs : List Int} (hS : Sl M 1 v (ints xs)) (hc : 1 ≤ c ∧ c ≤ 6) (hcr : c ≤ xs.length) (hx : xs.length ≤ 36) {a b : Nat} (ha : a < xs.length) (hb : b ≤ xs.length) :
    FS C 45 [.agg #[.int .i64 rw, .int .i64 (c : Int), v], .int .i64 (a : Int), .int .i64 (b : Int)] H (fun e H' => e = .bool (decide (b ∈ nbrs c xs.length a)) ∧ ∃ n', n ≤ n' ∧ hasH M n' H') := by
  have h1 := hS.one_
  refine FS.intro (pf := pf45) rfl rfl rfl ?_
  repeat' (first | refine zA ?_ | (refine zM ?_; intro _ _) | (apply Ws <;> intro hg))
  rename_i H1 hH1
  refine WR.op (by first | exact gN | exact gS rfl) rfl (OpV.lenSI rfl hS) ?_
  repeat' (first | refine zA ?_ | (refine zM ?_; intro _ _) | (apply Ws <;> intro hg))
  refine WR.op (by first | exact gN | exact gS rfl) rfl (OpV.max' (c := ((max a b : Nat) : Int)) rfl rfl (by omega)) ?_
  repeat' (first | refine zA ?_ | (refine zM ?_; intro _ _) | (apply Ws <;> intro hg))
  refine WC.condP rfl (fun hm => ?_) (fun hm => ?_)
  · have hbr : b = xs.length := by omega
    subst hbr
    repeat' (first | refine zA ?_ | (refine zM ?_; intro _ _) | (apply Ws <;> intro hg))
    · refine WR.op (by first | exact gN | exact gS rfl) rfl (OpV.min' (c := ((a : Nat) : Int)) rfl rfl (by omega)) ?_
      repeat' (first | refine zA ?_ | (refine zM ?_; intro _ _) | (apply Ws <;> intro hg))
      refine WR.op (by first | exact gN | exact gS rfl) rfl (OpV.sub rfl rfl (by omega)) ?_
      repeat' (first | refine zA ?_ | (refine zM ?_; intro _ _) | (apply Ws <;> intro hg))
      refine Ends.ret1 rfl ⟨?_, n + 1, by omega, hH1.tail⟩
      congr 1
      exact decide_eq_decide.2 (by rw [nbrs_out ha]; omega)
    · omega
  · have hbr : b < xs.length := by omega
    repeat' (first | refine zA ?_ | (refine zM ?_; intro _ _) | (apply Ws <;> intro hg))
    refine WR.op (by first | exact gN | exact gS rfl) rfl (OpV.quo' (c := ((a / c : Nat) : Int)) rfl rfl (by omega) (by omega) (by omega)) ?_
    repeat' (first | refine zA ?_ | (refine zM ?_; intro _ _) | (apply Ws <;> intro hg))
    refine WR.op (by first | exact gN | exact gS rfl) rfl (OpV.quo' (c := ((b / c : Nat) : Int)) rfl rfl (by omega) (by omega) (by omega)) ?_
    repeat' (first | refine zA ?_ | (refine zM ?_; intro _ _) | (apply Ws <;> intro hg))
    refine WC.condP rfl (fun hq => ?_) (fun hq => ?_)
    · have hq' : a / c = b / c := by omega
      repeat' (first | refine zA ?_ | (refine zM ?_; intro _ _) | (apply Ws <;> intro hg))
      refine WR.op (by first | exact gN | exact gS rfl) rfl (OpV.sub rfl rfl (by omega)) ?_
      repeat' (first | refine zA ?_ | (refine zM ?_; intro _ _) | (apply Ws <;> intro hg))
      refine WR.op (by first | exact gN | exact gS rfl) rfl (OpV.sub rfl rfl (by omega)) ?_
      refine WR.op (by first | exact gN | exact gS rfl) rfl (OpV.max' rfl rfl rfl) ?_
      repeat' (first | refine zA ?_ | (refine zM ?_; intro _ _) | (apply Ws <;> intro hg))
      refine Ends.ret1 rfl ⟨?_, n + 1, by omega, hH1.tail⟩
      congr 1
      exact decide_eq_decide.2 (by rw [nbrs_iff hc ha hbr]; omega)
    · have hq' : a / c ≠ b / c := by omega
      repeat' (first | refine zA ?_ | (refine zM ?_; intro _ _) | (apply Ws <;> intro hg))
      refine WR.op (by first | exact gN | exact gS rfl) rfl (OpV.sub rfl rfl (by omega)) ?_
      repeat' (first | refine zA ?_ | (refine zM ?_; intro _ _) | (apply Ws <;> intro hg))
      refine WR.op (by first | exact gN | exact gS rfl) rfl (OpV.sub rfl rfl (by omega)) ?_
      refine WR.op (by first | exact gN | exact gS rfl) rfl (OpV.max' rfl rfl rfl) ?_
      repeat' (first | refine zA ?_ | (refine zM ?_; intro _ _) | (apply Ws <;> intro hg))
      refine Ends.ret1 rfl ⟨?_, n + 1, by omega, hH1.tail⟩
      congr 1
      exact decide_eq_decide.2 (by rw [nbrs_iff hc ha hbr]; omega)

end Go.Proofs.Ytmogipomnjihcaa.Eb

namespace Go.Proofs.Ytmogipomnjihcaa.Eb
open Go Go.Abs Go.Low
set_option linter.unusedVariables false
set_option linter.unusedSimpArgs false
attribute [local irreducible] gOK WS WC WR WD Ends FS YS OpV seqK blockK loopK midK retK rdK asgK rangeEnd sat Cell
end Go.Proofs.Ytmogipomnjihcaa.Eb

namespace Go.Proofs.Ytmogipomnjihcaa.Eb
open Go Go.Abs Go.Low
set_option linter.unusedVariables false
set_option linter.unusedSimpArgs false
attribute [local irreducible] gOK WS WC WR WD Ends FS YS OpV seqK blockK loopK midK retK rdK asgK rangeEnd sat Cell

theorem nodup_len : ∀ (r : Nat) (l : List Nat), l.Nodup → (∀ y ∈ l, y < r) → l.length ≤ r
  | 0, l, _, h => by
    cases l with
    | nil => simp
    | cons a l => exact absurd (h a (by simp)) (Nat.not_lt_zero _)
  | r + 1, l, hn, h => by
    by_cases hm : r ∈ l
    · have ih := nodup_len r (l.erase r) (hn.erase r) (fun y hy => by
        rw [hn.mem_erase_iff] at hy
        have := h y hy.2; omega)
      rw [List.length_erase_of_mem hm] at ih
      omega
    · have ih := nodup_len r l hn (fun y hy => by
        have := h y hy
        have : y ≠ r := fun e => hm (e ▸ hy)
        omega)
      omega

/-- From a place, through places of at most a height. -/
inductive RP (c r : Nat) (hs : List Int) (t : Int) (p : Nat) : Nat → Prop where
  | start (h : hs.getD p 0 ≤ t) : RP c r hs t p p
  | step {x y : Nat} (h : RP c r hs t p x) (hy : y ∈ nbrs c r x) (hr : y < r) (ht : hs.getD y 0 ≤ t) : RP c r hs t p y

theorem RP.top {c r : Nat} {hs : List Int} {t : Int} {p y : Nat} (h : RP c r hs t p y) : hs.getD y 0 ≤ t := by cases h <;> assumption
theorem RP.bot {c r : Nat} {hs : List Int} {t : Int} {p y : Nat} (h : RP c r hs t p y) : hs.getD p 0 ≤ t := by
  induction h with
  | start h => exact h
  | step _ _ _ _ ih => exact ih
theorem RP.lt {c r : Nat} {hs : List Int} {t : Int} {p y : Nat} (hp : p < r) (h : RP c r hs t p y) : y < r := by cases h <;> assumption
theorem RP.trans {c r : Nat} {hs : List Int} {t : Int} {p q y : Nat} (h : RP c r hs t p q) (k : RP c r hs t q y) : RP c r hs t p y := by
  induction k with
  | start _ => exact h
  | step _ hy hr ht ih => exact .step ih hy hr ht

section
variable {c r : Nat} {hs : List Int} (hc : 1 ≤ c ∧ c ≤ 6) (hcr : c ≤ r) (h0 : hs.getD r 0 = 0)
include hc hcr h0

theorem river_of {t : Int} (ht : 0 ≤ t) {p y : Nat} (hp : p < r) (h : RP c r hs t p y) (hy : r ∈ nbrs c r y) : Go.Low.Reach c r hs r t p := by
  have hyr := h.lt hp
  have h1 : Go.Low.Reach c r hs r t y := .step (.start (by omega)) (nbrs_symm hc hcr (Nat.le_of_lt hyr) hy) h.top
  clear hy hyr
  induction h with
  | start _ => exact h1
  | step hx hy hr ht' ih =>
    have hxr := hx.lt hp
    exact ih (.step h1 (nbrs_symm hc hcr (Nat.le_of_lt hxr) hy) hx.top)

theorem of_river {t : Int} {p : Nat} (h : Go.Low.Reach c r hs r t p) : p = r ∨ (p < r ∧ ∃ z, RP c r hs t p z ∧ r ∈ nbrs c r z) := by
  induction h with
  | start _ => exact .inl rfl
  | step hx hy ht ih =>
    rename_i x y
    have hxr : x ≤ r := by rcases ih with h | ⟨h, _⟩ <;> omega
    have hyr := nbrs_le hc.1 hcr hxr hy
    have hsy := nbrs_symm hc hcr hxr hy
    by_cases hyr' : y = r
    · exact .inl hyr'
    · refine .inr ⟨by omega, ?_⟩
      rcases ih with rfl | ⟨hxl, z, hz, hzr⟩
      · exact ⟨y, .start ht, hsy⟩
      · exact ⟨z, RP.trans (.step (.start ht) hsy hxl hz.bot) hz, hzr⟩

omit h0 in
theorem all_reach (hb : ∀ y, hs.getD y 0 ≤ 30) : ∀ (k y : Nat), y ≤ r → r - y ≤ k → Go.Low.Reach c r hs r 30 y := by
  intro k
  induction k with
  | zero =>
    intro y hy hk
    have : y = r := by omega
    subst this
    exact .start (hb _)
  | succ k ih =>
    intro y hy hk
    by_cases hyr : y = r
    · subst hyr; exact .start (hb _)
    · have hlt : y < r := by omega
      have hm : min (y + c) r ∈ nbrs c r y := by
        unfold nbrs
        rw [if_neg hyr]
        simp
      exact .step (ih (min (y + c) r) (by omega) (by omega)) (nbrs_symm hc hcr hy hm) (hb _)
end

theorem best_le {c r : Nat} {hs b : List Int} (hh : HS c r hs) (hc6 : c ≤ 6) (hl : Lowest c r hs r b) {p : Nat} (hp : p ≤ r) : b.getD p 0 ≤ 30 :=
  (hl.out.done hh (Nat.le_refl _) (Int.le_refl 30) hp).2 (all_reach ⟨hh.c1, hc6⟩ hh.cr (fun y => (hh.bd y).2) (r - p) p hp (Nat.le_refl _))

/-- A way to the river, found from a place. -/
theorem found_iff {c r : Nat} {hs b : List Int} (hh : HS c r hs) (hc6 : c ≤ 6) (h0 : hs.getD r 0 = 0) (hl : Lowest c r hs r b) {p : Nat} (hp : p < r) {t : Int} (ht : 0 ≤ t ∧ t ≤ 30) : (∃ y, RP c r hs t p y ∧ r ∈ nbrs c r y) ↔ b.getD p 0 ≤ t := by
  rw [hl.out.done hh (Nat.le_refl _) ht.2 (Nat.le_of_lt hp)]
  constructor
  · rintro ⟨y, h1, h2⟩; exact river_of ⟨hh.c1, hc6⟩ hh.cr h0 ht.1 hp h1 h2
  · intro h
    rcases of_river ⟨hh.c1, hc6⟩ hh.cr h0 h with rfl | ⟨_, h2⟩
    · exact absurd hp (Nat.lt_irrefl _)
    · exact h2

/-- Places that are met, some of them with all that is beside them. -/
structure Met (c r : Nat) (hs : List Int) (t : Int) (p : Nat) (met : List Nat) (i : Nat) : Prop where
  nd : met.Nodup
  rp : ∀ y ∈ met, RP c r hs t p y
  st : hs.getD p 0 ≤ t → p ∈ met
  cl : ∀ j, j < i → ∀ x, met[j]? = some x → ∀ y, y ∈ nbrs c r x → y < r → hs.getD y 0 ≤ t → y ∈ met

theorem Met.len {c r : Nat} {hs : List Int} {t : Int} {p : Nat} {met : List Nat} {i : Nat} (hp : p < r) (h : Met c r hs t p met i) : met.length ≤ r := nodup_len r met h.nd (fun y hy => (h.rp y hy).lt hp)

theorem Met.all {c r : Nat} {hs : List Int} {t : Int} {p : Nat} {met : List Nat} {i : Nat} (h : Met c r hs t p met i) (hi : met.length ≤ i) {y : Nat} : y ∈ met ↔ RP c r hs t p y := by
  refine ⟨h.rp y, fun hr => ?_⟩
  induction hr with
  | start h1 => exact h.st h1
  | step _ hy hr ht ih =>
    obtain ⟨j, hj, he⟩ := List.mem_iff_getElem.1 ih
    exact h.cl j (by omega) _ (by rw [List.getElem?_eq_getElem hj, he]) _ hy hr ht

theorem Met.push {c r : Nat} {hs : List Int} {t : Int} {p : Nat} {met : List Nat} {i x y : Nat} (h : Met c r hs t p met i) (hi : i < met.length) (hx : x ∈ met) (hy : y ∈ nbrs c r x) (hyr : y < r) (ht : hs.getD y 0 ≤ t) (hn : y ∉ met) : Met c r hs t p (met ++ [y]) i where
  nd := by
    rw [List.nodup_append]
    exact ⟨h.nd, by simp, fun a ha b hb => by rw [List.mem_singleton.1 hb]; exact fun e => hn (e ▸ ha)⟩
  rp z hz := by
    rcases List.mem_append.1 hz with h1 | h1
    · exact h.rp z h1
    · rw [List.mem_singleton.1 h1]; exact .step (h.rp x hx) hy hyr ht
  st hs := List.mem_append_left _ (h.st hs)
  cl j hj z hz w hw hwr hwt := by
    rw [List.getElem?_append_left (by omega)] at hz
    exact List.mem_append_left _ (h.cl j hj z hz w hw hwr hwt)

end Go.Proofs.Ytmogipomnjihcaa.Eb

namespace Go.Proofs.Ytmogipomnjihcaa.Eb
open Go Go.Abs Go.Low
set_option linter.unusedVariables false
set_option linter.unusedSimpArgs false
attribute [local irreducible] gOK WS WC WR WD Ends FS YS OpV seqK blockK loopK midK retK rdK asgK rangeEnd sat Cell

/-- From a place, through marked places. -/
inductive RM (c r : Nat) (ms : List Bool) (p : Nat) : Nat → Prop where
  | start (h : ms.getD p false = true) : RM c r ms p p
  | step {x y : Nat} (h : RM c r ms p x) (hy : y ∈ nbrs c r x) (ht : ms.getD y false = true) : RM c r ms p y

theorem RM.on {c r : Nat} {ms : List Bool} {p y : Nat} (h : RM c r ms p y) : ms.getD y false = true := by cases h <;> assumption
theorem RM.le {c r : Nat} {ms : List Bool} {p y : Nat} (hc : 1 ≤ c) (hcr : c ≤ r) (hp : p ≤ r) (h : RM c r ms p y) : y ≤ r := by
  induction h with
  | start _ => exact hp
  | step _ hy _ ih => exact nbrs_le hc hcr ih hy

/-- How many are not yet marked. -/
def offs : List Bool → Nat
  | [] => 0
  | b :: l => (if b then 0 else 1) + offs l

theorem offs_le : ∀ (l : List Bool), offs l ≤ l.length
  | [] => Nat.le_refl _
  | b :: l => by have := offs_le l; simp only [offs, List.length_cons]; split <;> omega

theorem offs_set : ∀ (l : List Bool) (y : Nat), y < l.length → l.getD y false = false → offs (l.set y true) + 1 = offs l
  | [], y, h, _ => absurd h (Nat.not_lt_zero _)
  | b :: l, 0, _, hb => by
    have : b = false := hb
    subst this
    simp [offs]; omega
  | b :: l, y + 1, h, hb => by
    have := offs_set l y (by simpa using h) (by simpa using hb)
    simp only [List.set_cons_succ, offs]; omega

theorem getB_set {l : List Bool} {y z : Nat} {v : Bool} (h : y < l.length) : (l.set y v).getD z false = if z = y then v else l.getD z false := by
  rw [List.getD_eq_getElem?_getD, List.getD_eq_getElem?_getD, List.getElem?_set]
  by_cases hz : z = y
  · subst hz; rw [if_pos rfl, if_pos rfl, if_pos h]; rfl
  · rw [if_neg (fun e => hz e.symm), if_neg hz]

/-- Marked so far, and yet to do; of x its neighbours zs. -/
structure RS (c r : Nat) (ms : List Bool) (p x : Nat) (zs : List Nat) (ts : List Bool) (w : List Nat) : Prop where
  len : ts.length = 37
  rp : ∀ y, ts.getD y false = true → RM c r ms p y
  st : ms.getD p false = true → ts.getD p false = true
  wk : ∀ y ∈ w, ts.getD y false = true
  cl : ∀ q, ts.getD q false = true → q ∉ w → ∀ y ∈ nbrs c r q, ms.getD y false = true → ts.getD y false = true ∨ (q = x ∧ y ∈ zs)

def measB (ts : List Bool) (w : List Nat) : Nat := 2 * offs ts + w.length

theorem RS.enter {c r : Nat} {ms : List Bool} {p x x' : Nat} {ts : List Bool} {w : List Nat} (h : RS c r ms p x' [] ts (x :: w)) : RS c r ms p x (nbrs c r x) ts w := by
  refine ⟨h.len, h.rp, h.st, fun y hy => h.wk y (by simp [hy]), fun q hq hqw y hy hm => ?_⟩
  by_cases hqx : q = x
  · subst hqx; exact .inr ⟨rfl, hy⟩
  · rcases h.cl q hq (by simp [hqx, hqw]) y hy hm with h1 | ⟨_, h2⟩
    · exact .inl h1
    · cases h2

theorem RS.push {c r : Nat} {ms : List Bool} {p x y : Nat} {zs : List Nat} {ts : List Bool} {w : List Nat} (h : RS c r ms p x (y :: zs) ts w) (hx : ts.getD x false = true) (hy : y ∈ nbrs c r x) (hl : y < 37) (hm : ms.getD y false = true) : RS c r ms p x zs (ts.set y true) (w ++ [y]) := by
  have hg := fun z => getB_set (l := ts) (y := y) (z := z) (v := true) (by rw [h.len]; exact hl)
  refine ⟨by simp [h.len], fun z hz => ?_, fun hp => ?_, fun z hz => ?_, fun q hq hqw z hz hmz => ?_⟩
  · rw [hg] at hz
    by_cases hzy : z = y
    · subst hzy; exact .step (h.rp x hx) hy hm
    · rw [if_neg hzy] at hz; exact h.rp z hz
  · rw [hg]; split
    · rfl
    · exact h.st hp
  · rw [hg]; split
    · rfl
    · rename_i hzy
      rcases List.mem_append.1 hz with h1 | h1
      · exact h.wk z h1
      · exact absurd (List.mem_singleton.1 h1) hzy
  · have hqy : q ≠ y := fun e => hqw (by simp [e])
    rw [hg, if_neg hqy] at hq
    rw [hg]
    by_cases hzy : z = y
    · exact .inl (if_pos hzy)
    · rw [if_neg hzy]
      rcases h.cl q hq (fun h1 => hqw (by simp [h1])) z hz hmz with h1 | ⟨h1, h2⟩
      · exact .inl h1
      · rcases List.mem_cons.1 h2 with h3 | h3
        · exact absurd h3 hzy
        · exact .inr ⟨h1, h3⟩

theorem RS.skip {c r : Nat} {ms : List Bool} {p x y : Nat} {zs : List Nat} {ts : List Bool} {w : List Nat} (h : RS c r ms p x (y :: zs) ts w) (hm : ms.getD y false = true → ts.getD y false = true) : RS c r ms p x zs ts w := by
  refine ⟨h.len, h.rp, h.st, h.wk, fun q hq hqw z hz hmz => ?_⟩
  rcases h.cl q hq hqw z hz hmz with h1 | ⟨h1, h2⟩
  · exact .inl h1
  · rcases List.mem_cons.1 h2 with h3 | h3
    · subst h3; exact .inl (hm hmz)
    · exact .inr ⟨h1, h3⟩

theorem RS.done {c r : Nat} {ms : List Bool} {p x : Nat} {ts : List Bool} (h : RS c r ms p x [] ts []) (y : Nat) : ts.getD y false = true ↔ RM c r ms p y := by
  refine ⟨h.rp y, fun k => ?_⟩
  induction k with
  | start hm => exact h.st hm
  | step _ hy hm ih =>
    rcases h.cl _ ih (by simp) _ hy hm with h1 | ⟨_, h2⟩
    · exact h1
    · cases h2

theorem RS.init {c r : Nat} {ms : List Bool} {p : Nat} (hp : p < 37) : RS c r ms p p [] ((List.replicate 37 false).set p (ms.getD p false)) (marked ((List.replicate 37 false).set p (ms.getD p false)) 37) := by
  have hg := fun z => getB_set (l := List.replicate 37 false) (y := p) (z := z) (v := ms.getD p false) (by simpa using hp)
  have hf : ∀ z, (List.replicate 37 false).getD z false = false := fun z => by
    rw [List.getD_eq_getElem?_getD, List.getElem?_replicate]; split <;> rfl
  have hw : ∀ y, y ∈ marked ((List.replicate 37 false).set p (ms.getD p false)) 37 ↔ y < 37 ∧ ((List.replicate 37 false).set p (ms.getD p false)).getD y false = true := fun y => by
    rw [marked, List.mem_filter, List.mem_range]
  refine ⟨by simp, fun y hy => ?_, fun hm => ?_, fun y hy => ((hw y).1 hy).2, fun q hq hqw => ?_⟩
  · rw [hg] at hy
    by_cases hyp : y = p
    · subst hyp; rw [if_pos rfl] at hy; exact .start hy
    · rw [if_neg hyp, hf] at hy; cases hy
  · rw [hg, if_pos rfl]; exact hm
  · refine absurd ((hw q).2 ⟨?_, hq⟩) hqw
    rw [hg] at hq
    by_cases hyp : q = p
    · omega
    · rw [if_neg hyp, hf] at hq; cases hq
end Go.Proofs.Ytmogipomnjihcaa.Eb
