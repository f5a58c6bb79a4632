import Derived.Test.YtbnppcgmbiajnaaR2
namespace Go.Proofs.Ytbnppcgmbiajnaa.Eb
open Go Go.Abs Go.Low
set_option linter.unusedVariables false
set_option linter.unusedSimpArgs false
attribute [local irreducible] gOK WS WC WR WD Ends FS YS OpV seqK blockK loopK midK retK rdK asgK rangeEnd sat Cell

inductive RM (c r : Nat) (ms : List Bool) (p : Nat) : Nat → Prop where
  | start (h : ms.getD p false = true) : RM c r ms p p
  | step {x y : Nat} (h : RM c r ms p x) (hy : y ∈ nbrs c r x) (ht : ms.getD y false = true) : RM c r ms p y

theorem RM.on {c r : Nat} {ms : List Bool} {p y : Nat} (h : RM c r ms p y) : ms.getD y false = true := by cases h <;> assumption
theorem RM.le {c r : Nat} {ms : List Bool} {p y : Nat} (hc : 1 ≤ c) (hcr : c ≤ r) (hp : p ≤ r) (h : RM c r ms p y) : y ≤ r := by
  induction h with
  | start _ => exact hp
  | step _ hy _ ih => exact nbrs_le hc hcr ih hy

def offs : List Bool → Nat
  | [] => 0
  | b :: l => (if b then 0 else 1) + offs l

theorem offs_le : ∀ (l : List Bool), offs l ≤ l.length
  | [] => Nat.le_refl _
  | b :: l => by have := offs_le l; simp only [offs, List.length_cons]; split <;> omega

theorem offs_set : ∀ (l : List Bool) (y : Nat), y < l.length → l.getD y false = false → offs (l.set y true) + 1 = offs l
  | [], y, h, _ => absurd h (Nat.not_lt_zero _)
  | b :: l, 0, _, hb => by
    have : b = false := hb
    subst this
    simp [offs]; omega
  | b :: l, y + 1, h, hb => by
    have := offs_set l y (by simpa using h) (by simpa using hb)
    simp only [List.set_cons_succ, offs]; omega

theorem getB_set {l : List Bool} {y z : Nat} {v : Bool} (h : y < l.length) : (l.set y v).getD z false = if z = y then v else l.getD z false := by
  rw [List.getD_eq_getElem?_getD, List.getD_eq_getElem?_getD, List.getElem?_set]
  by_cases hz : z = y
  · subst hz; rw [if_pos rfl, if_pos rfl, if_pos h]; rfl
  · rw [if_neg (fun e => hz e.symm), if_neg hz]

structure RS (c r : Nat) (ms : List Bool) (p x : Nat) (zs : List Nat) (ts : List Bool) (w : List Nat) : Prop where
  len : ts.length = 37
  rp : ∀ y, ts.getD y false = true → RM c r ms p y
  st : ms.getD p false = true → ts.getD p false = true
  wk : ∀ y ∈ w, ts.getD y false = true
  cl : ∀ q, ts.getD q false = true → q ∉ w → ∀ y ∈ nbrs c r q, ms.getD y false = true → ts.getD y false = true ∨ (q = x ∧ y ∈ zs)

def measB (ts : List Bool) (w : List Nat) : Nat := 2 * offs ts + w.length

theorem RS.enter {c r : Nat} {ms : List Bool} {p x x' : Nat} {ts : List Bool} {w : List Nat} (h : RS c r ms p x' [] ts (x :: w)) : RS c r ms p x (nbrs c r x) ts w := by
  refine ⟨h.len, h.rp, h.st, fun y hy => h.wk y (by simp [hy]), fun q hq hqw y hy hm => ?_⟩
  by_cases hqx : q = x
  · subst hqx; exact .inr ⟨rfl, hy⟩
  · rcases h.cl q hq (by simp [hqx, hqw]) y hy hm with h1 | ⟨_, h2⟩
    · exact .inl h1
    · cases h2

theorem RS.push {c r : Nat} {ms : List Bool} {p x y : Nat} {zs : List Nat} {ts : List Bool} {w : List Nat} (h : RS c r ms p x (y :: zs) ts w) (hx : ts.getD x false = true) (hy : y ∈ nbrs c r x) (hl : y < 37) (hm : ms.getD y false = true) : RS c r ms p x zs (ts.set y true) (w ++ [y]) := by
  have hg := fun z => getB_set (l := ts) (y := y) (z := z) (v := true) (by rw [h.len]; exact hl)
  refine ⟨by simp [h.len], fun z hz => ?_, fun hp => ?_, fun z hz => ?_, fun q hq hqw z hz hmz => ?_⟩
  · rw [hg] at hz
    by_cases hzy : z = y
    · subst hzy; exact .step (h.rp x hx) hy hm
    · rw [if_neg hzy] at hz; exact h.rp z hz
  · rw [hg]; split
    · rfl
    · exact h.st hp
  · rw [hg]; split
    · rfl
    · rename_i hzy
      rcases List.mem_append.1 hz with h1 | h1
      · exact h.wk z h1
      · exact absurd (List.mem_singleton.1 h1) hzy
  · have hqy : q ≠ y := fun e => hqw (by simp [e])
    rw [hg, if_neg hqy] at hq
    rw [hg]
    by_cases hzy : z = y
    · exact .inl (if_pos hzy)
    · rw [if_neg hzy]
      rcases h.cl q hq (fun h1 => hqw (by simp [h1])) z hz hmz with h1 | ⟨h1, h2⟩
      · exact .inl h1
      · rcases List.mem_cons.1 h2 with h3 | h3
        · exact absurd h3 hzy
        · exact .inr ⟨h1, h3⟩

theorem RS.skip {c r : Nat} {ms : List Bool} {p x y : Nat} {zs : List Nat} {ts : List Bool} {w : List Nat} (h : RS c r ms p x (y :: zs) ts w) (hm : ms.getD y false = true → ts.getD y false = true) : RS c r ms p x zs ts w := by
  refine ⟨h.len, h.rp, h.st, h.wk, fun q hq hqw z hz hmz => ?_⟩
  rcases h.cl q hq hqw z hz hmz with h1 | ⟨h1, h2⟩
  · exact .inl h1
  · rcases List.mem_cons.1 h2 with h3 | h3
    · subst h3; exact .inl (hm hmz)
    · exact .inr ⟨h1, h3⟩

theorem RS.done {c r : Nat} {ms : List Bool} {p x : Nat} {ts : List Bool} (h : RS c r ms p x [] ts []) (y : Nat) : ts.getD y false = true ↔ RM c r ms p y := by
  refine ⟨h.rp y, fun k => ?_⟩
  induction k with
  | start hm => exact h.st hm
  | step _ hy hm ih =>
    rcases h.cl _ ih (by simp) _ hy hm with h1 | ⟨_, h2⟩
    · exact h1
    · cases h2

theorem RS.init {c r : Nat} {ms : List Bool} {p : Nat} (hp : p < 37) : RS c r ms p p [] ((List.replicate 37 false).set p (ms.getD p false)) (marked ((List.replicate 37 false).set p (ms.getD p false)) 37) := by
  have hg := fun z => getB_set (l := List.replicate 37 false) (y := p) (z := z) (v := ms.getD p false) (by simpa using hp)
  have hf : ∀ z, (List.replicate 37 false).getD z false = false := fun z => by
    rw [List.getD_eq_getElem?_getD, List.getElem?_replicate]; split <;> rfl
  have hw : ∀ y, y ∈ marked ((List.replicate 37 false).set p (ms.getD p false)) 37 ↔ y < 37 ∧ ((List.replicate 37 false).set p (ms.getD p false)).getD y false = true := fun y => by
    rw [marked, List.mem_filter, List.mem_range]
  refine ⟨by simp, fun y hy => ?_, fun hm => ?_, fun y hy => ((hw y).1 hy).2, fun q hq hqw => ?_⟩
  · rw [hg] at hy
    by_cases hyp : y = p
    · subst hyp; rw [if_pos rfl] at hy; exact .start hy
    · rw [if_neg hyp, hf] at hy; cases hy
  · rw [hg, if_pos rfl]; exact hm
  · refine absurd ((hw q).2 ⟨?_, hq⟩) hqw
    rw [hg] at hq
    by_cases hyp : q = p
    · omega
    · rw [if_neg hyp, hf] at hq; cases hq
end Go.Proofs.Ytbnppcgmbiajnaa.Eb
