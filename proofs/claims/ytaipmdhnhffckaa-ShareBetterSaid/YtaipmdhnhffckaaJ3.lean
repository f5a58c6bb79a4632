/- Texts of the law, joined. -/
import Derived.Test.YtaipmdhnhffckaaJ2
import Derived.Test.YtaipmdhnhffckaaJ1
/- One after the other: the law's side. -/
namespace Go.Proofs.Ytaipmdhnhffckaa.Sh
open Go Go.Abs Go.Mth
set_option linter.unusedVariables false
set_option linter.unusedSimpArgs false
def AskN (M : HL) (g : FuncId) (vb : List Value) (p : Nat → Bool) (N : Nat) : Prop :=
  ∀ {X : HL} {n : Nat} {H : Heap} {x : Nat}, (∀ q ∈ M, q ∈ X) → hasH X n H → x < N → FS C g ([] ++ [.int .i64 (x : Int)] ++ vb) H (fun e H' => e = .bool (p x) ∧ ∃ n', n ≤ n' ∧ hasH X n' H')
/-- A division in which the first things have owners. -/
def PartO (o : List Int) (n m k : Nat) : Prop := o.length = m ∧ ∀ i, i < m → (i < k → 0 ≤ o.getD i 0 ∧ o.getD i 0 < (n : Int)) ∧ (k ≤ i → o.getD i 0 = -1)
theorem PartO.part {o : List Int} {n m k : Nat} (h : PartO o n m k) (hn : 1 ≤ n) : OKP o n m := ⟨h.1, fun x hx => by
  obtain ⟨i, hi, rfl⟩ := List.mem_iff_getElem.1 hx
  obtain ⟨h1, h2⟩ := h.2 i (by rw [← h.1]; exact hi)
  rw [getD_eq hi] at h1 h2
  rcases Nat.lt_or_ge i k with h3 | h3
  · have := h1 h3; omega
  · have := h2 h3; omega⟩
theorem PartO.full {o : List Int} {n m : Nat} (h : PartO o n m m) : OKD o n m := ⟨h.1, fun x hx => by
  obtain ⟨i, hi, rfl⟩ := List.mem_iff_getElem.1 hx
  obtain ⟨h1, _⟩ := h.2 i (by rw [← h.1]; exact hi)
  rw [getD_eq hi] at h1
  exact h1 (by rw [← h.1]; exact hi)⟩
theorem PartO.zero (n m : Nat) : PartO (List.replicate m (-1)) n m 0 := ⟨by simp, fun i hi => ⟨fun h => absurd h (Nat.not_lt_zero _), fun _ => by rw [getD_eq (by simpa using hi), List.getElem_replicate]⟩⟩
theorem PartO.next {o : List Int} {n m k j : Nat} (h : PartO o n m k) (hk : k < m) (hj : j < n) : PartO (o.set k (j : Int)) n m (k + 1) := ⟨by rw [List.length_set]; exact h.1, fun i hi => by
  rw [getD_set' (by rw [h.1]; exact hk)]
  obtain ⟨h1, h2⟩ := h.2 i hi
  by_cases e : i = k
  · rw [if_pos e]; exact ⟨fun _ => by omega, fun h => by omega⟩
  · rw [if_neg e]; exact ⟨fun h => h1 (by omega), fun h => h2 (by omega)⟩⟩
theorem PartO.free {o : List Int} {n m k : Nat} (h : PartO o n m k) (hk : k < m) : freeO o k = true := by
  unfold freeO
  rw [getD_eq (by rw [h.1]; exact hk), ← getD_eq (a := 0) (by rw [h.1]; exact hk), (h.2 k hk).2 (Nat.le_refl _)]; rfl
/-- Who gets what somebody has, when a ring is turned. -/
def RX (r : List Nat) (x y : Int) : Prop := (∃ q, q < r.length ∧ x = ((r.getD q 0 : Nat) : Int) ∧ y = ((r.getD ((q + 1) % r.length) 0 : Nat) : Int)) ∨ (x ∉ IL r ∧ y = x)
theorem RX.out {r : List Nat} {x y : Int} (h : RX r x y) {j : Nat} (hj : j ∉ r) : y = (j : Int) ↔ x = (j : Int) := by
  rcases h with ⟨q', h1, rfl, rfl⟩ | ⟨h1, rfl⟩
  · constructor
    · intro e
      exact absurd (by rw [← Int.ofNat.inj e]; exact getD_mem (Nat.mod_lt _ (by omega))) hj
    · intro e
      exact absurd (by rw [← Int.ofNat.inj e]; exact getD_mem h1) hj
  · exact Iff.rfl
theorem PartO.turned {r : List Nat} {o c : List Int} {n m k : Nat} (hb : ∀ x ∈ r, x < n) (hp : PartO o n m k) (hc : c.length = m) (h : ∀ i, i < m → RX r (o.getD i 0) (c.getD i 0)) : PartO c n m k := ⟨hc, fun i hi => by
  obtain ⟨h1, h2⟩ := hp.2 i hi
  rcases h i hi with ⟨q, g1, g2, g3⟩ | ⟨g1, g2⟩
  · have := hb _ (getD_mem (a := 0) (Nat.mod_lt (q + 1) (show 0 < r.length by omega)))
    refine ⟨fun _ => by omega, fun hk => ?_⟩
    have := h2 hk; omega
  · rw [g2]; exact ⟨h1, h2⟩⟩
structure KOO where
  k : Nat
  o : List Int
  n : Nat
structure KIN where
  o : List Int
  n : Nat
attribute [local irreducible] gOK WS WC WR WD Ends FS YS OpV seqK blockK loopK midK retK rdK asgK rangeEnd sat Cell
section
variable {M : HL} {n0 : Nat} {H : Heap} {v w : Value} {vs : List (List Nat)} {n m : Nat} {o : List Int}
end
end Go.Proofs.Ytaipmdhnhffckaa.Sh

/- All divisions, by their number. -/
namespace Go.Proofs.Ytaipmdhnhffckaa.Sh
open Go Go.Abs Go.Mth
set_option linter.unusedVariables false
set_option linter.unusedSimpArgs false
/-- The division of a number: the thing that comes last changes first. -/
def divK (n : Nat) : Nat → Nat → List Nat
  | 0, _ => []
  | m + 1, k => divK n m (k / n) ++ [k % n]
theorem divK_len (n : Nat) : ∀ m k, (divK n m k).length = m
  | 0, _ => rfl
  | m + 1, k => by simp [divK, divK_len n m]
theorem divK_lt {n : Nat} (hn : 1 ≤ n) : ∀ m k, ∀ x ∈ divK n m k, x < n
  | 0, _, x, h => by cases h
  | m + 1, k, x, h => by
    rcases List.mem_append.1 h with h | h
    · exact divK_lt hn m _ x h
    · rw [List.mem_singleton.1 h]; exact Nat.mod_lt _ (by omega)
theorem divK_ok {n m k : Nat} (hn : 1 ≤ n) : OKD (IL (divK n m k)) n m := okd_of (divK_len n m k) (divK_lt hn m k)
theorem divK_zero {n : Nat} : ∀ m, divK n m 0 = List.replicate m 0
  | 0 => rfl
  | m + 1 => by
    unfold divK
    rw [Nat.zero_div, Nat.zero_mod, divK_zero m, List.replicate_succ']
theorem div_up {n K : Nat} (h : K % n + 1 < n) : (K + 1) / n = K / n ∧ (K + 1) % n = K % n + 1 := by
  have h1 := Nat.div_add_mod K n
  have h2 : K + 1 = n * (K / n) + (K % n + 1) := by omega
  constructor
  · rw [h2, Nat.mul_add_div (by omega), Nat.div_eq_of_lt h]; omega
  · rw [h2, Nat.mul_add_mod, Nat.mod_eq_of_lt h]
theorem div_carry {n K : Nat} (hn : 1 ≤ n) (h : ¬ K % n + 1 < n) : (K + 1) / n = K / n + 1 ∧ (K + 1) % n = 0 ∧ K + 1 = (K / n + 1) * n := by
  have h1 := Nat.div_add_mod K n
  have h3 := Nat.mod_lt K (show 0 < n by omega)
  have h2 : K + 1 = n * (K / n + 1) := by rw [Nat.mul_add, Nat.mul_one]; omega
  refine ⟨?_, ?_, by rw [Nat.mul_comm]; exact h2⟩
  · rw [h2, Nat.mul_div_cancel_left _ (by omega)]
  · rw [h2, Nat.mul_mod_right]
/-- What stands while the next one is made: so many things, the last ones, have been set back. -/
structure Carry (n m k t K : Nat) : Prop where
  tm : t ≤ m
  nxt : divK n m (k + 1) = divK n (m - t) (K + 1) ++ List.replicate t 0
  num : k + 1 = (K + 1) * n ^ t
theorem Carry.start (n m k : Nat) : Carry n m k 0 k := ⟨Nat.zero_le _, by simp, by simp⟩
theorem Carry.step {n m k t K : Nat} (hn : 1 ≤ n) (h : Carry n m k t K) (ht : t < m) (hc : ¬ K % n + 1 < n) : Carry n m k (t + 1) (K / n) := by
  obtain ⟨d, hd⟩ : ∃ d, m - t = d + 1 := ⟨m - t - 1, by omega⟩
  obtain ⟨c1, c2, c3⟩ := div_carry hn hc
  refine ⟨by omega, ?_, ?_⟩
  · rw [h.nxt, hd, show m - (t + 1) = d by omega, divK, c1, c2, List.append_assoc]
    congr 1
  · rw [h.num, c3, Nat.pow_succ, Nat.mul_assoc, Nat.mul_comm n]
theorem Carry.done {n m k t K : Nat} (h : Carry n m k t K) (ht : t < m) (hc : K % n + 1 < n) : divK n m (k + 1) = divK n (m - t - 1) (K / n) ++ (K % n + 1) :: List.replicate t 0 := by
  obtain ⟨d, hd⟩ : ∃ d, m - t = d + 1 := ⟨m - t - 1, by omega⟩
  obtain ⟨c1, c2⟩ := div_up hc
  rw [h.nxt, hd, show d + 1 - 1 = d by omega, divK, c1, c2, List.append_assoc]
  rfl
theorem Carry.more {n m k t K : Nat} (h : Carry n m k t K) (ht : t < m) (hc : K % n + 1 < n) (hk : k < n ^ m) : k + 1 < n ^ m := by
  refine Nat.lt_of_le_of_ne hk fun e => ?_
  rw [h.num, show n ^ m = n ^ (m - t) * n ^ t by rw [← Nat.pow_add]; congr 1; omega] at e
  have hp : 0 < n ^ t := Nat.pow_pos (by omega)
  have e2 := Nat.eq_of_mul_eq_mul_right hp e
  obtain ⟨d, hd⟩ : ∃ d, m - t = d + 1 := ⟨m - t - 1, by omega⟩
  obtain ⟨_, c2⟩ := div_up hc
  rw [e2, hd, Nat.pow_succ, Nat.mul_mod_left] at c2
  omega
theorem Carry.end_ {n m k K : Nat} (h : Carry n m k m K) (hk : k < n ^ m) (hn : 1 ≤ n) : k + 1 = n ^ m := by
  have h1 := h.num
  have : 1 * n ^ m ≤ (K + 1) * n ^ m := Nat.mul_le_mul_right _ (by omega)
  rw [Nat.one_mul] at this
  omega
/-- What stands in the row then. -/
def carryL (n m t K : Nat) : List Nat := divK n (m - t) K ++ List.replicate t 0
theorem carryL_len {n m t K : Nat} (ht : t ≤ m) : (carryL n m t K).length = m := by simp [carryL, divK_len]; omega
theorem carryL_get {n m t K : Nat} (ht : t < m) : (carryL n m t K).getD (m - 1 - t) 0 = K % n := by
  obtain ⟨d, hd⟩ : ∃ d, m - t = d + 1 := ⟨m - t - 1, by omega⟩
  have hl := divK_len n d (K / n)
  unfold carryL
  rw [hd, divK, show m - 1 - t = (divK n d (K / n)).length by omega, List.append_assoc]
  rw [List.getD_eq_getElem?_getD, List.getElem?_append_right (Nat.le_refl _), Nat.sub_self]; rfl
theorem carryL_set {n m t K x : Nat} (ht : t < m) : (carryL n m t K).set (m - 1 - t) x = divK n (m - t - 1) (K / n) ++ x :: List.replicate t 0 := by
  obtain ⟨d, hd⟩ : ∃ d, m - t = d + 1 := ⟨m - t - 1, by omega⟩
  have hl := divK_len n d (K / n)
  unfold carryL
  rw [hd, show d + 1 - 1 = d by omega, divK, show m - 1 - t = (divK n d (K / n)).length by omega, List.append_assoc, List.set_append_right _ _ (Nat.le_refl _), Nat.sub_self]
  rfl
theorem carryL_next {n m t K : Nat} (ht : t < m) : (carryL n m t K).set (m - 1 - t) 0 = carryL n m (t + 1) (K / n) := by
  rw [carryL_set ht]
  unfold carryL
  rw [show m - (t + 1) = m - t - 1 by omega, List.replicate_succ]
end Go.Proofs.Ytaipmdhnhffckaa.Sh

namespace Go.Abs
set_option linter.unusedSectionVars false
variable [Globs]
open Go
section
variable {C : CW} {L : Env} {M M' : HL} {n : Nat} {H : Heap}
/-- A round of a range with two values. -/
theorem YS.intro2 {l p q : Nat} {r : LoopE} {y z : Value} {R : Value → Heap → Prop} (hH : hasH M n H) (hm : (l, .loop r) ∈ M) (hst : r.state = .ready) (hps : r.params = [p, q]) (hp : Nat.blt p r.nt = true) (hq : Nat.blt q r.nt = true) (ht : has L r.tmps)
    (h : WC C (some l) r.fn r.nt r.assign ((q, z) :: (p, y) :: L) [] H (asgK C l r R)) : YS C l [y, z] H R := by
  obtain ⟨e0, he0, hok⟩ := hH.mem hm
  cases e0 with
  | loop r1 =>
    have hr : r1 = r := hok
    subst hr
    obtain ⟨n1, e, s1, h1, h2, h3, n2, e2, s2, h4, r3, h5, h6⟩ := h _ ((ht.put p y).put q z)
    subst h2
    refine ⟨_, _, ⟨max n1 n2 + 1, ?_⟩, h6⟩
    have hpt : putTs r1.nt r1.tmps r1.params [y, z] = some ((r1.tmps.put p y).put q z) := by rw [hps]; simp only [putTs, putT, hp, hq, cond_true]
    simp only [runW, ihW, step, stepYield, he0, hpt, stepRd, stepC_up (Nat.le_max_left n1 n2) h1, bodyRd, h3, hst, stepC_up (Nat.le_max_right n1 n2) h4, endRd, h5]
    cases e2 <;> rfl
  | _ => exact hok.elim
end
end Go.Abs
namespace Go.Proofs.Ytaipmdhnhffckaa.Sh
open Go Go.Abs Go.Mth
set_option linter.unusedVariables false
set_option linter.unusedSimpArgs false
structure KB2 where
  t : Nat
  l : List Nat
  M : HL
  n : Nat
attribute [local irreducible] gOK WS WC WR WD Ends FS YS OpV seqK blockK loopK midK retK rdK asgK rangeEnd sat Cell
section
variable {M B : HL} {n0 : Nat} {H : Heap} {v : Value}
/-- Elements from the last one to the first, as long as more are asked for: the row may change in between. -/
theorem backward1_fs {lY nb m rb cp : Nat} {J : Nat → List Nat → HL → Nat → Prop} {S : HL → Nat → Prop} {l0 : List Nat}
    (hB : ∀ t l M' n', J t l M' n' → (nb, Ch.row 23 0 0 [.slice (some ⟨rb, 0, some 0⟩) m cp]) ∈ M' ∧ l.length = m ∧ (rb, Ch.row 3 0 0 (nodes l)) ∈ M')
    (hy : ∀ t l M' n' H', J t l M' n' → t < m → hasH M' n' H' → YS C lY [.int .i64 (m - 1 - t : Nat), .int .i64 (l.getD (m - 1 - t) 0 : Nat)] H' (fun v H2 => ∃ l2 M2 n2, hasH M2 n2 H2 ∧ ((v = .bool true ∧ J (t + 1) l2 M2 n2) ∨ (v = .bool false ∧ S M2 n2))))
    (hH : hasH M n0 H) (hJ : J 0 l0 M n0) (hm : m ≤ 100) :
    FS C 134 [.func (.yield lY) [].toArray [].toArray, .pointer (some ⟨nb, 0, some 0⟩)] H (fun _ H' => ∃ l M' n', hasH M' n' H' ∧ (J m l M' n' ∨ S M' n')) := by
  have hmb := (hB _ _ _ _ hJ).1
  refine FS.intro (pf := pf134) rfl rfl rfl ?_
  repeat' (first | refine zP ?_ | refine zA ?_ | (refine zM ?_; intro _ _) | refine zX ?_ | (refine zC ?_; intro _ _ _ _) | (refine zS ?_; intro _ _) | (apply Ws <;> intro hg))
  clear hmb
  refine WC.loopX [(0, _), (1, _)] (fun s : KB2 => [(3, .int .i64 ((m : Int) - 1 - (s.t : Int)))]) []
    (fun s H' => s.t ≤ m ∧ J s.t s.l s.M s.n ∧ hasH s.M s.n H') (fun s => m - s.t) ⟨0, l0, M, n0⟩ (by simp only [Int.sub_zero, Int.natCast_zero]; exact (by repeat' (first | exact .nil | refine .cons rfl ?_))) rfl ⟨Nat.zero_le _, hJ, hH⟩ ?_
  clear hH hJ
  rintro ⟨t, l, M1, n1⟩ H1 ⟨ht, hJ1, hH1⟩
  simp only at ht hJ1 hH1
  obtain ⟨hmb, hll, hml⟩ := hB _ _ _ _ hJ1
  dsimp only [List.cons_append, List.nil_append]
  repeat' (first | refine zP ?_ | refine zA ?_ | (refine zM ?_; intro _ _) | refine zX ?_ | (refine zC ?_; intro _ _ _ _) | (refine zS ?_; intro _ _) | (apply Ws <;> intro hg))
  refine WC.condP rfl (fun hge => ?_) (fun hge => ?_)
  · have ht' : t < m := by omega
    have hi : (m : Int) - 1 - (t : Int) = ((m - 1 - t : Nat) : Int) := by omega
    rw [hi]
    repeat' (first | refine zP ?_ | refine zA ?_ | (refine zM ?_; intro _ _) | refine zX ?_ | (refine zC ?_; intro _ _ _ _) | (refine zS ?_; intro _ _) | (apply Ws <;> intro hg))
    refine WR.yield (by first | exact gN | exact gS rfl) rfl rfl rfl (hy t l M1 n1 _ hJ1 ht' hH1) ?_
    clear hH1
    rintro _ H2 ⟨l2, M2, n2, hH2, ⟨rfl, hJ2⟩ | ⟨rfl, hS2⟩⟩
    · repeat' (first | refine zP ?_ | refine zA ?_ | (refine zM ?_; intro _ _) | refine zX ?_ | (refine zC ?_; intro _ _ _ _) | (refine zS ?_; intro _ _) | (apply Ws <;> intro hg))
      rw [show ((m - 1 - t : Nat) : Int) - 1 = (m : Int) - 1 - ((t + 1 : Nat) : Int) by omega]
      exact Ends.loop ⟨t + 1, l2, M2, n2⟩ (by simp only; omega) (by repeat' (first | exact .nil | refine .cons rfl ?_)) rfl ⟨ht', hJ2, hH2⟩
    · repeat' (first | refine zP ?_ | refine zA ?_ | (refine zM ?_; intro _ _) | refine zX ?_ | (refine zC ?_; intro _ _ _ _) | (refine zS ?_; intro _ _) | (apply Ws <;> intro hg))
      exact Ends.ret0 ⟨l2, M2, n2, hH2, .inr hS2⟩
  · have htm : t = m := by omega
    rw [htm] at hJ1
    repeat' (first | refine zP ?_ | refine zA ?_ | (refine zM ?_; intro _ _) | refine zX ?_ | (refine zC ?_; intro _ _ _ _) | (refine zS ?_; intro _ _) | (apply Ws <;> intro hg))
    exact Ends.end0 ⟨l, M1, n1, hH1, .inl hJ1⟩
end
end Go.Proofs.Ytaipmdhnhffckaa.Sh

namespace Go.Proofs.Ytaipmdhnhffckaa.Sh
open Go Go.Abs Go.Mth
set_option linter.unusedVariables false
set_option linter.unusedSimpArgs false
attribute [local irreducible] gOK WS WC WR WD Ends FS YS OpV seqK blockK loopK midK retK rdK asgK rangeEnd sat Cell
section
variable {M B : HL} {n0 : Nat} {H : Heap} {v : Value}
set_option maxHeartbeats 2000000 in
theorem goOn_fs {rb n m k cp : Nat} (hH : hasH ((rb, .row 3 0 0 (nodes (divK n m k))) :: M) n0 H) (hn : 1 ≤ n ∧ n ≤ 4) (hm : m ≤ 6) (hk : k < n ^ m) :
    FS C 122 [.slice (some ⟨rb, 0, some 0⟩) m cp, .int .i64 (n : Int)] H (fun e H' => ∃ n', n0 ≤ n' ∧ ((e = .bool true ∧ k + 1 < n ^ m ∧ hasH ((rb, .row 3 0 0 (nodes (divK n m (k + 1)))) :: M) n' H') ∨ (e = .bool false ∧ k + 1 = n ^ m ∧ hasH M n' H'))) := by
  refine FS.intro (pf := pf122) rfl rfl rfl ?_
  repeat' (first | refine zP ?_ | refine zA ?_ | (refine zM ?_; intro _ _) | refine zX ?_ | (refine zC ?_; intro _ _ _ _) | (refine zS ?_; intro _ _) | (apply Ws <;> intro hg))
  rename_i H1 hH1 H2 hH2 H3 hH3
  clear hH1 hH2
  refine WR.call (by first | exact gN | exact gS rfl) rfl rfl (FS.intro (pf := pf131) rfl rfl rfl (R := fun e H' => e = .func (.func 134) [].toArray [.pointer (some ⟨n0 + 1 + 1 + 1, 0, some 0⟩)].toArray ∧ hasH ((n0 + 1 + 1 + 1, .row 23 0 0 [.slice (some ⟨rb, 0, some 0⟩) m cp]) :: (n0 + 1 + 1, .row 4 0 0 [.bool false]) :: (n0 + 1, .row 3 0 0 [.int .i64 (n : Int)]) :: (n0, .row 23 0 0 [.slice (some ⟨rb, 0, some 0⟩) m cp]) :: (rb, .row 3 0 0 (nodes (divK n m k))) :: M) (n0 + 1 + 1 + 1 + 1) H') ?_) ?_
  · repeat' (first | refine zP ?_ | refine zA ?_ | (refine zM ?_; intro _ _) | refine zX ?_ | (refine zC ?_; intro _ _ _ _) | (refine zS ?_; intro _ _) | (apply Ws <;> intro hg))
    rename_i H4 hH4
    exact Ends.ret1 rfl ⟨rfl, hH4⟩
  rintro _ H4 ⟨rfl, hH4⟩
  clear hH3
  repeat' (first | refine zP ?_ | refine zA ?_ | (refine zM ?_; intro _ _) | refine zX ?_ | (refine zC ?_; intro _ _ _ _) | (refine zS ?_; intro _ _) | (apply Ws <;> intro hg))
  refine WC.range0 (va := []) (vb := [.pointer (some ⟨n0 + 1 + 1 + 1, 0, some 0⟩)]) rfl hH4 fun t ht H5 hH5 => ?_
  clear hH4
  generalize hR : ({ state := .ready, pending := none, fn := 122, tmps := t, params := [9, 10], assign := _, body := _, nt := _ } : LoopE) = R at hH5
  refine FS.mono (backward1_fs (lY := n0 + 1 + 1 + 1 + 1 + 1) (nb := n0 + 1 + 1 + 1) (m := m) (rb := rb) (cp := cp) (n0 := n0 + 1 + 1 + 1 + 1 + 2) (l0 := divK n m k)
    (M := (n0 + 1 + 1 + 1 + 1 + 1, .loop R) :: (n0 + 1 + 1 + 1 + 1, .defd false) :: (n0 + 1 + 1 + 1, .row 23 0 0 [.slice (some ⟨rb, 0, some 0⟩) m cp]) :: (n0 + 1 + 1, .row 4 0 0 [.bool false]) :: (n0 + 1, .row 3 0 0 [.int .i64 (n : Int)]) :: (n0, .row 23 0 0 [.slice (some ⟨rb, 0, some 0⟩) m cp]) :: (rb, .row 3 0 0 (nodes (divK n m k))) :: M)
    (J := fun t l M' n' => ∃ K, Carry n m k t K ∧ l = carryL n m t K ∧ n0 ≤ n' ∧ M' = (n0 + 1 + 1 + 1 + 1 + 1, .loop R) :: (n0 + 1 + 1 + 1 + 1, .defd false) :: (n0 + 1 + 1 + 1, .row 23 0 0 [.slice (some ⟨rb, 0, some 0⟩) m cp]) :: (n0 + 1 + 1, .row 4 0 0 [.bool false]) :: (n0 + 1, .row 3 0 0 [.int .i64 (n : Int)]) :: (n0, .row 23 0 0 [.slice (some ⟨rb, 0, some 0⟩) m cp]) :: (rb, .row 3 0 0 (nodes l)) :: M)
    (S := fun M' n' => k + 1 < n ^ m ∧ n0 ≤ n' ∧ M' = (n0 + 1 + 1 + 1 + 1 + 1, .loop { R with state := .done, pending := some .ret }) :: (n0 + 1 + 1 + 1 + 1, .defd false) :: (n0 + 1 + 1, .row 4 0 0 [.bool true]) :: (rb, .row 3 0 0 (nodes (divK n m (k + 1)))) :: M)
    ?_ ?_ hH5 ⟨k, Carry.start n m k, by simp [carryL], by omega, rfl⟩ (by omega)) ?_
  · rintro t l M' n' ⟨K, hC, rfl, _, rfl⟩
    exact ⟨by simp, carryL_len hC.tm, by simp⟩
  · rintro s l M' n' H6 ⟨K, hC, rfl, hn', rfl⟩ hs hH6
    have hgd := carryL_get (n := n) (K := K) hs
    have hll := carryL_len (n := n) (K := K) hC.tm
    rw [hgd]
    refine YS.intro2 hH6 (.head _) (by rw [← hR]) (by rw [← hR]) (by rw [← hR]; rfl) (by rw [← hR]; rfl) (by rw [← hR]; exact ht) ?_
    subst hR
    dsimp only
    repeat' (first | refine zA ?_ | (refine zM ?_; intro _ _) | (apply Ws <;> intro hg))
    refine Ends.asg hH6 .here fun H7 hH7 => ?_
    dsimp only
    clear hH6
    have hKm := Nat.mod_lt K (show 0 < n by omega)
    by_cases hc : K % n + 1 < n
    · have hset := carryL_set (n := n) (m := m) (t := s) (K := K) (x := K % n + 1) hs
      rw [← hC.done hs hc] at hset
      have hmore := hC.more hs hc hk
      generalize K % n = x at hc hgd hset hKm ⊢
      repeat' (first | refine zP ?_ | refine zA ?_ | (refine zM ?_; intro _ _) | refine zX ?_ | (refine zC ?_; intro _ _ _ _) | (refine zS ?_; intro _ _) | refine zO ?_ | (apply Ws <;> intro hg))
      refine WR.op (by first | exact gN | exact gS rfl) rfl (OpV.load1 (v := .int .i64 (x : Int)) rfl hH7 (.tail _ (.tail _ (.tail _ (.tail _ (.tail _ (.tail _ (.head _))))))) (.row _ _ _ _) (Nat.zero_le _) (by rw [Nat.sub_zero, nodes_get (by omega), hgd])) ?_
      repeat' (first | refine zP ?_ | refine zA ?_ | (refine zM ?_; intro _ _) | refine zX ?_ | (refine zC ?_; intro _ _ _ _) | (refine zS ?_; intro _ _) | refine zO ?_ | (apply Ws <;> intro hg))
      refine WR.store1 (cs' := nodes (divK n m (k + 1))) (by first | exact gN | exact gS rfl) hH7 rfl rfl rfl (.there (.there (.there (.there (.there (.there .here)))))) (Nat.zero_le _) (by simp [hll]; omega) (by rw [← hset, nodes, nodes, List.map_set]; rfl) fun H8 hH8 => ?_
      repeat' (first | refine zP ?_ | refine zA ?_ | (refine zM ?_; intro _ _) | refine zX ?_ | (refine zC ?_; intro _ _ _ _) | (refine zS ?_; intro _ _) | (apply Ws <;> intro hg))
      rename_i H9 hH9
      exact Ends.rd rfl rfl rfl hH9 .here fun H' h' => ⟨[], _ :: _ :: _ :: _ :: M, n', h'.sub (.cons_cons _ (.cons_cons _ (.cons _ (.cons_cons _ (.cons _ (.cons _ (.cons_cons _ (List.Sublist.refl _)))))))), .inr ⟨rfl, hmore, hn', rfl⟩⟩
    · have hnext := carryL_next (n := n) (m := m) (t := s) (K := K) hs
      have hC2 := hC.step hn.1 hs hc
      generalize K % n = x at hc hgd hKm ⊢
      repeat' (first | refine zP ?_ | refine zA ?_ | (refine zM ?_; intro _ _) | refine zX ?_ | (refine zC ?_; intro _ _ _ _) | (refine zS ?_; intro _ _) | refine zO ?_ | (apply Ws <;> intro hg))
      refine WR.store1 (cs' := nodes (carryL n m (s + 1) (K / n))) (by first | exact gN | exact gS rfl) hH7 rfl rfl rfl (.there (.there (.there (.there (.there (.there .here)))))) (Nat.zero_le _) (by simp [hll]; omega) (by rw [← hnext, nodes, nodes, List.map_set]; rfl) fun H8 hH8 => ?_
      repeat' (first | refine zP ?_ | refine zA ?_ | (refine zM ?_; intro _ _) | refine zX ?_ | (refine zC ?_; intro _ _ _ _) | (refine zS ?_; intro _ _) | (apply Ws <;> intro hg))
      exact Ends.rd rfl rfl rfl hH8 .here fun H' h' => ⟨carryL n m (s + 1) (K / n), _, n', h', .inl ⟨rfl, K / n, hC2, rfl, hn', rfl⟩⟩
  · rintro _ H7 ⟨l7, M7, n7, hH7, ⟨K, hC, rfl, hn7, rfl⟩ | ⟨hmore, hn7, rfl⟩⟩
    · refine rangeEnd_of hH7 .here (by rw [← hR]; simp) (by rw [← hR]; rfl) fun H8 hH8 => ?_
      have hend := hC.end_ hk hn.1
      repeat' (first | refine zP ?_ | refine zA ?_ | (refine zM ?_; intro _ _) | refine zX ?_ | (refine zC ?_; intro _ _ _ _) | (refine zS ?_; intro _ _) | (apply Ws <;> intro hg))
      rename_i H9 hH9
      exact retC1D (v := .bool false) trivial rfl hH9 (.cons _ (List.Sublist.refl _)) (List.Perm.refl _) fun H' h' => ⟨h'.read (.tail _ (.head _)) (.row _ _ _ _) (Nat.zero_le _) rfl, n7, hn7, .inr ⟨rfl, hend, h'.sub (.cons _ (.cons _ (.cons _ (.cons _ (.cons _ (List.Sublist.refl _))))))⟩⟩
    · refine rangeEnd_of hH7 .here (by simp) rfl fun H8 hH8 => ?_
      repeat' (first | refine zP ?_ | refine zA ?_ | (refine zM ?_; intro _ _) | refine zX ?_ | (refine zC ?_; intro _ _ _ _) | (refine zS ?_; intro _ _) | (apply Ws <;> intro hg))
      exact retC1D (v := .bool true) trivial rfl hH8 (.cons _ (List.Sublist.refl _)) (List.Perm.refl _) fun H' h' => ⟨h'.read (.head _) (.row _ _ _ _) (Nat.zero_le _) rfl, n7, hn7, .inl ⟨rfl, hmore, h'.sub (.cons _ (List.Sublist.refl _))⟩⟩
end
end Go.Proofs.Ytaipmdhnhffckaa.Sh

/- Comparisons of numbers and of lists. -/
namespace Go.Mth
set_option linter.unusedVariables false
def cmpI (a b : Int) : Int := if a < b then -1 else if b < a then 1 else 0
def lexC : List Int → List Int → Int
  | [], [] => 0
  | [], _ :: _ => -1
  | _ :: _, [] => 1
  | a :: l, b :: m => if cmpI a b ≠ 0 then cmpI a b else lexC l m
/-- The shorter one first; of those that are as long, the smaller one. -/
def ordC (a b : List Int) : Int := if cmpI a.length b.length ≠ 0 then cmpI a.length b.length else lexC a b
end Go.Mth

namespace Go.Proofs.Ytaipmdhnhffckaa.Sh
open Go Go.Abs Go.Mth
set_option linter.unusedVariables false
set_option linter.unusedSimpArgs false
structure KE where
  k : Nat
  M : HL
  n : Nat
structure KP where
  k : Nat
  n : Nat
def ownL (vs : List (List Nat)) (ss : List Nat) (n : Nat) : List Nat := (List.range n).map fun i => wor (vs.getD i []) (ss.getD i 0)
theorem ownL_len (vs : List (List Nat)) (ss : List Nat) (n : Nat) : (ownL vs ss n).length = n := by simp [ownL]
theorem ownL_get {vs : List (List Nat)} {ss : List Nat} {n i : Nat} (h : i < n) : (ownL vs ss n).getD i 0 = wor (vs.getD i []) (ss.getD i 0) := by
  have h1 : (List.range n).getD i 0 = i := by rw [getD_eq (by simpa using h), List.getElem_range]
  unfold ownL
  rw [map_getD (l := List.range n) (a := 0) (by simpa using h), h1]
/-- Better for somebody, worse for nobody. -/
def betB (a b : Nat → Nat) (n : Nat) : Bool := (List.range n).all (fun i => !decide (a i < b i)) && (List.range n).any fun i => decide (b i < a i)
def anyTo (a b : Nat → Nat) (k : Nat) : Bool := (List.range k).any fun i => decide (b i < a i)
theorem anyTo_succ (a b : Nat → Nat) (k : Nat) : anyTo a b (k + 1) = (anyTo a b k || decide (b k < a k)) := by simp [anyTo, List.range_succ]
theorem bet_iff {a b : Nat → Nat} {n : Nat} : betB a b n = true ↔ (∀ i, i < n → b i ≤ a i) ∧ ∃ i, i < n ∧ b i < a i := by
  simp only [betB, Bool.and_eq_true, List.all_eq_true, List.any_eq_true, List.mem_range, Bool.not_eq_true', decide_eq_false_iff_not, decide_eq_true_eq, Nat.not_lt]
theorem bet_no {a b : Nat → Nat} {n k : Nat} (hk : k < n) (h : a k < b k) : betB a b n = false := by
  rw [← Bool.not_eq_true, bet_iff]
  rintro ⟨h1, _⟩
  have := h1 k hk
  omega
theorem bet_end {a b : Nat → Nat} {n : Nat} (h : ∀ i, i < n → b i ≤ a i) : betB a b n = anyTo a b n := by
  rw [Bool.eq_iff_iff, bet_iff]
  simp only [anyTo, List.any_eq_true, List.mem_range, decide_eq_true_eq]
  exact ⟨fun ⟨_, h2⟩ => h2, fun h2 => ⟨h, h2⟩⟩
attribute [local irreducible] gOK WS WC WR WD Ends FS YS OpV seqK blockK loopK midK retK rdK asgK rangeEnd sat Cell
section
variable {M B : HL} {n0 : Nat} {H : Heap} {v w vv sv : Value} {vs : List (List Nat)} {ss : List Nat} {n m : Nat}
theorem allOwners_fs (hH : hasH M n0 H) (hv : one v = true) : FS C 91 [v] H (fun e H' => e = .func (.func 121) [].toArray [.pointer (some ⟨n0, 0, some 0⟩)].toArray ∧ hasH ((n0, .row 22 0 0 [v]) :: M) (n0 + 1) H') := by
  refine FS.intro (pf := pf91) rfl rfl rfl ?_
  repeat' (first | refine zP ?_ | refine zA ?_ | (refine zM ?_; intro _ _) | refine zX ?_ | (refine zC ?_; intro _ _ _ _) | (refine zS ?_; intro _ _) | (apply Ws <;> intro hg))
  refine WR.box1 (by first | exact gN | exact gS rfl) rfl hH rfl hv fun H1 hH1 => ?_
  repeat' (first | refine zP ?_ | refine zA ?_ | (refine zM ?_; intro _ _) | refine zX ?_ | (refine zC ?_; intro _ _ _ _) | (refine zS ?_; intro _ _) | (apply Ws <;> intro hg))
  exact Ends.ret1 rfl ⟨rfl, hH1⟩
set_option maxHeartbeats 1000000 in
/-- All divisions are handed over, one after another, in one row, as long as more are asked for. -/
theorem allOwners1_fs {lY nv : Nat} {J : Nat → HL → Nat → Prop} {S : HL → Nat → Prop} (hV : OKV vs n m) (hB : ∀ k M' n', J k M' n' → (nv, Ch.row 22 0 0 [v]) ∈ M' ∧ ValsN M' v vs) (hJn : ∀ k M' n' n'', J k M' n' → n' ≤ n'' → J k M' n'')
    (hy : ∀ k M' n' H', J k M' n' → k < n ^ m → hasH ((n0, .row 3 0 0 (nodes (divK n m k))) :: M') n' H' → YS C lY [.slice (some ⟨n0, 0, some 0⟩) m (2 * m + 1)] H' (fun w H2 => ∃ M2 n2, hasH ((n0, .row 3 0 0 (nodes (divK n m k))) :: M2) n2 H2 ∧ ((w = .bool true ∧ J (k + 1) M2 n2) ∨ (w = .bool false ∧ S M2 n2))))
    (hH : hasH M n0 H) (hJ : J 0 M n0) :
    FS C 121 [.func (.yield lY) [].toArray [].toArray, .pointer (some ⟨nv, 0, some 0⟩)] H (fun _ H' => ∃ M' n', hasH M' n' H' ∧ (J (n ^ m) M' n' ∨ S M' n')) := by
  have hm6 := hV.m6
  have hn4 := hV.n4
  have hn1 := hV.pos
  have hvl := hV.len
  have hrl := hV.rowLen hn1
  obtain ⟨hmv, hR⟩ := hB _ _ _ hJ
  obtain ⟨ws, hW, hwl, hws⟩ := hR.ex
  have h0 := hws 0 (by omega)
  refine FS.intro (pf := pf121) rfl rfl rfl ?_
  repeat' (first | refine zP ?_ | refine zA ?_ | (refine zM ?_; intro _ _) | refine zX ?_ | (refine zC ?_; intro _ _ _ _) | (refine zS ?_; intro _ _) | (apply Ws <;> intro hg))
  rw [hrl]
  refine WR.mkSL (by first | exact gN | exact gS rfl) rfl hH rfl rfl (by omega) rfl fun H1 hH1 => ?_
  rw [nodes_rep, ← divK_zero (n := n) m] at hH1
  clear h0 hW hws hmv hR
  repeat' (first | refine zP ?_ | refine zA ?_ | (refine zM ?_; intro _ _) | refine zX ?_ | (refine zC ?_; intro _ _ _ _) | (refine zS ?_; intro _ _) | (apply Ws <;> intro hg))
  refine WC.loopX [(0, _), (1, _), (3, _)] (fun s : KE => []) []
    (fun s H' => s.k < n ^ m ∧ J s.k s.M s.n ∧ hasH ((n0, .row 3 0 0 (nodes (divK n m s.k))) :: s.M) s.n H') (fun s => n ^ m - s.k) ⟨0, M, n0 + 1⟩ (by repeat' (first | exact .nil | refine .cons rfl ?_)) rfl
    ⟨Nat.pow_pos (by omega), hJn _ _ _ _ hJ (by simp only; omega), hH1⟩ ?_
  clear hH1 hH hJ
  rintro ⟨k, M1, n1⟩ H2 ⟨hk, hJ1, hH2⟩
  simp only at hk hJ1 hH2
  dsimp only [List.cons_append, List.nil_append]
  repeat' (first | refine zP ?_ | refine zA ?_ | (refine zM ?_; intro _ _) | refine zX ?_ | (refine zC ?_; intro _ _ _ _) | (refine zS ?_; intro _ _) | (apply Ws <;> intro hg))
  refine WR.yield (by first | exact gN | exact gS rfl) rfl rfl rfl (hy k M1 n1 _ hJ1 hk hH2) ?_
  rintro _ H3 ⟨M3, n3, hH3, ⟨rfl, hJ3⟩ | ⟨rfl, hS3⟩⟩
  · obtain ⟨hmv3, hR3⟩ := hB _ _ _ hJ3
    obtain ⟨ws3, hW3, hwl3, hws3⟩ := hR3.ex
    have hW3c := hW3.cons (p := (n0, .row 3 0 0 (nodes (divK n m k))))
    repeat' (first | refine zP ?_ | refine zA ?_ | (refine zM ?_; intro _ _) | refine zX ?_ | (refine zC ?_; intro _ _ _ _) | (refine zS ?_; intro _ _) | (apply Ws <;> intro hg))
    rw [hwl3, hvl]
    refine WR.call (by first | exact gN | exact gS rfl) rfl rfl (goOn_fs hH3 ⟨hn1, hn4⟩ hm6 hk) ?_
    rintro _ H4 ⟨n4, hn4', ⟨rfl, hmore, hH4⟩ | ⟨rfl, hend, hH4⟩⟩
    · repeat' (first | refine zP ?_ | refine zA ?_ | (refine zM ?_; intro _ _) | refine zX ?_ | (refine zC ?_; intro _ _ _ _) | (refine zS ?_; intro _ _) | (apply Ws <;> intro hg))
      exact Ends.loop ⟨k + 1, M3, n4⟩ (by simp only; omega) (by repeat' (first | exact .nil | refine .cons rfl ?_)) rfl ⟨hmore, hJn _ _ _ _ hJ3 (by simp only; omega), hH4⟩
    · rw [hend] at hJ3
      repeat' (first | refine zP ?_ | refine zA ?_ | (refine zM ?_; intro _ _) | refine zX ?_ | (refine zC ?_; intro _ _ _ _) | (refine zS ?_; intro _ _) | (apply Ws <;> intro hg))
      exact Ends.end0 ⟨M3, n4, hH4, .inl (hJn _ _ _ _ hJ3 (by omega))⟩
  · repeat' (first | refine zP ?_ | refine zA ?_ | (refine zM ?_; intro _ _) | refine zX ?_ | (refine zC ?_; intro _ _ _ _) | (refine zS ?_; intro _ _) | (apply Ws <;> intro hg))
    exact Ends.end0 ⟨M3, n3, hH3.tail, .inr hS3⟩
theorem own_fs (hD : DivM M vv sv vs ss n m) (hH : hasH M n0 H) :
    FS C 97 [.agg [vv, sv].toArray] H (fun e H' => e = .slice (some ⟨n0 + 1, 0, some 0⟩) n (2 * n + 1) ∧ ∃ n', n0 ≤ n' ∧ hasH ((n0 + 1, .row 3 0 0 (nodes (ownL vs ss n))) :: M) n' H') := by
  have hv1 := hD.vals.one_
  have hs1 := hD.shar.one_
  have hone : [vv, sv].all one = true := by simp [hv1, hs1]
  have hsl := hD.len
  have hn4 := hD.ok.n4
  have hm6 := hD.ok.m6
  have hvl := hD.ok.len
  obtain ⟨ws, hW, hwl, hws⟩ := hD.vals.ex
  refine FS.intro (pf := pf97) rfl rfl rfl ?_
  repeat' (first | refine zP ?_ | refine zA ?_ | (refine zM ?_; intro _ _) | refine zX ?_ | (refine zC ?_; intro _ _ _ _) | (refine zS ?_; intro _ _) | (apply Ws <;> intro hg))
  rename_i H1 hH1
  have hS1 := hD.shar.cons (p := (n0, .row 78 0 0 [vv, sv]))
  repeat' (first | refine zP ?_ | refine zA ?_ | (refine zM ?_; intro _ _) | refine zX ?_ | (refine zC ?_; intro _ _ _ _) | (refine zS ?_; intro _ _) | (apply Ws <;> intro hg))
  rw [hsl]
  refine WR.mkSL (by first | exact gN | exact gS rfl) rfl hH1 rfl rfl (by omega) rfl fun H2 hH2 => ?_
  rw [nodes_rep] at hH2
  have hS2 := hS1.cons (p := (n0 + 1, .row 3 0 0 (nodes (List.replicate n 0))))
  clear hH hH1 hS1
  repeat' (first | refine zP ?_ | refine zA ?_ | (refine zM ?_; intro _ _) | refine zX ?_ | (refine zC ?_; intro _ _ _ _) | (refine zS ?_; intro _ _) | (apply Ws <;> intro hg))
  rw [hsl]
  clear hS2
  refine WC.loopX [(1, _), (3, _), (11, _), (12, _)] (fun s : KL2 => [(13, .int .i64 (s.k : Int))]) []
    (fun s H' => s.k ≤ n ∧ s.l.length = n ∧ (∀ i, i < s.k → s.l.getD i 0 = wor (vs.getD i []) (ss.getD i 0)) ∧ hasH ((n0 + 1, .row 3 0 0 (nodes s.l)) :: (n0, .row 78 0 0 [vv, sv]) :: M) (n0 + 2) H') (fun s => n - s.k) ⟨0, List.replicate n 0⟩ (by repeat' (first | exact .nil | refine .cons rfl ?_)) rfl
    ⟨Nat.zero_le _, by simp, fun i h => absurd h (Nat.not_lt_zero _), hH2⟩ ?_
  clear hH2
  rintro ⟨k, l⟩ H3 ⟨hk, hll, hd, hH3⟩
  simp only at hk hll hd hH3
  have hS3 : Sl ((n0 + 1, .row 3 0 0 (nodes l)) :: (n0, .row 78 0 0 [vv, sv]) :: M) 1 sv (u64s ss) := hD.shar.cons.cons
  have hW3 : Sl ((n0 + 1, .row 3 0 0 (nodes l)) :: (n0, .row 78 0 0 [vv, sv]) :: M) 1 vv ws := hW.cons.cons
  dsimp only [List.cons_append, List.nil_append]
  repeat' (first | refine zP ?_ | refine zA ?_ | (refine zM ?_; intro _ _) | refine zX ?_ | (refine zC ?_; intro _ _ _ _) | (refine zS ?_; intro _ _) | (apply Ws <;> intro hg))
  refine WC.condP rfl (fun hlt => ?_) (fun hlt => ?_)
  · have hk' : k < n := by omega
    have hf : Sl ((n0 + 1, .row 3 0 0 (nodes l)) :: (n0, .row 78 0 0 [vv, sv]) :: M) 1 (ws.getD k undef) (nodes (vs.getD k [])) := (hws k (by omega)).cons.cons
    have hrl := hD.ok.rowLen hk'
    have hsb := lt_pow (hD.bd _ (getD_mem (a := 0) (show k < ss.length by omega))) (by omega)
    repeat' (first | refine zP ?_ | refine zA ?_ | (refine zM ?_; intro _ _) | refine zX ?_ | (refine zC ?_; intro _ _ _ _) | (refine zS ?_; intro _ _) | (apply Ws <;> intro hg))
    refine WR.call (by first | exact gN | exact gS rfl) rfl rfl (worth_fs hH3 hf (by omega) (hD.ok.rowBd hk') hsb) ?_
    rintro _ _ ⟨rfl, rfl⟩
    repeat' (first | refine zP ?_ | refine zA ?_ | (refine zM ?_; intro _ _) | refine zX ?_ | (refine zC ?_; intro _ _ _ _) | (refine zS ?_; intro _ _) | (apply Ws <;> intro hg))
    rename_i H4 hH4
    rw [show (k : Int) + 1 = ((k + 1 : Nat) : Int) by omega]
    refine Ends.loop ⟨k + 1, l.set k (wor (vs.getD k []) (ss.getD k 0))⟩ (by simp only; omega) (by repeat' (first | exact .nil | refine .cons rfl ?_)) rfl ⟨hk', by simpa using hll, fun i hi => ?_, hH4⟩
    simp only at hi ⊢
    rw [getD_set' (by omega)]
    split
    · rename_i h; rw [h]
    · exact hd i (by omega)
  · have hkn : k = n := by omega
    subst hkn
    have : l = ownL vs ss k := ext_getD (a := 0) (by rw [hll, ownL_len]) fun i hi => by rw [hd i (by omega), ownL_get (by omega)]
    subst this
    repeat' (first | refine zP ?_ | refine zA ?_ | (refine zM ?_; intro _ _) | refine zX ?_ | (refine zC ?_; intro _ _ _ _) | (refine zS ?_; intro _ _) | (apply Ws <;> intro hg))
    exact Ends.ret1 rfl ⟨rfl, n0 + 2, by omega, hH3.sub (.cons_cons _ (List.sublist_cons_self _ _))⟩
theorem isBetter_fs (hH : hasH M n0 H) {a b : List Nat} (hS : Sl M 1 v (nodes a)) (hU : Sl M 1 w (nodes b)) (ha : a.length = n) (hb : b.length = n) (hn : n ≤ 100) :
    FS C 98 [v, w] H (fun e H' => e = .bool (betB (fun i => a.getD i 0) (fun i => b.getD i 0) n) ∧ H' = H) := by
  refine FS.intro (pf := pf98) rfl rfl rfl ?_
  repeat' (first | refine zP ?_ | refine zA ?_ | (refine zM ?_; intro _ _) | refine zX ?_ | (refine zC ?_; intro _ _ _ _) | (refine zS ?_; intro _ _) | (apply Ws <;> intro hg))
  rw [ha]
  refine WC.loopX [(0, _), (1, _), (8, _), (9, _)] (fun k : Nat => [(5, .bool (anyTo (fun i => a.getD i 0) (fun i => b.getD i 0) k)), (10, .int .i64 (k : Int))]) [] (fun k H' => H' = H ∧ k ≤ n ∧ ∀ j, j < k → b.getD j 0 ≤ a.getD j 0) (fun k => n - k) 0 (by repeat' (first | exact .nil | refine .cons rfl ?_)) rfl ⟨rfl, Nat.zero_le _, fun j h => absurd h (Nat.not_lt_zero _)⟩ ?_
  rintro k _ ⟨rfl, hk, hno⟩
  have hs := anyTo_succ (fun i => a.getD i 0) (fun i => b.getD i 0) k
  dsimp only [List.cons_append, List.nil_append]
  repeat' (first | refine zP ?_ | refine zA ?_ | (refine zM ?_; intro _ _) | refine zX ?_ | (refine zC ?_; intro _ _ _ _) | (refine zS ?_; intro _ _) | (apply Ws <;> intro hg))
  refine WC.condP rfl (fun hlt => ?_) (fun hlt => ?_)
  · have hk' : k < n := by omega
    by_cases h1 : a.getD k 0 < b.getD k 0
    · repeat' (first | refine zP ?_ | refine zA ?_ | (refine zM ?_; intro _ _) | refine zX ?_ | (refine zC ?_; intro _ _ _ _) | (refine zS ?_; intro _ _) | refine zO ?_ | (apply Ws <;> intro hg))
      exact Ends.ret1 rfl ⟨by rw [bet_no (a := fun i => a.getD i 0) (b := fun i => b.getD i 0) hk' h1], rfl⟩
    · have hle : ∀ j, j < k + 1 → b.getD j 0 ≤ a.getD j 0 := fun j hj => by
        by_cases e : j = k
        · rw [e]; omega
        · exact hno j (by omega)
      cases hx : anyTo (fun i => a.getD i 0) (fun i => b.getD i 0) k with
      | true =>
        rw [hx, Bool.true_or] at hs
        repeat' (first | refine zP ?_ | refine zA ?_ | (refine zM ?_; intro _ _) | refine zX ?_ | (refine zC ?_; intro _ _ _ _) | (refine zS ?_; intro _ _) | refine zO ?_ | (apply Ws <;> intro hg))
        rw [show (k : Int) + 1 = ((k + 1 : Nat) : Int) by omega]
        exact Ends.loop (k + 1) (by omega) (by simp only [hs]; exact (by repeat' (first | exact .nil | refine .cons rfl ?_))) rfl ⟨rfl, hk', hle⟩
      | false =>
        rw [hx, Bool.false_or] at hs
        by_cases h2 : b.getD k 0 < a.getD k 0
        · rw [decide_eq_true h2] at hs
          repeat' (first | refine zP ?_ | refine zA ?_ | (refine zM ?_; intro _ _) | refine zX ?_ | (refine zC ?_; intro _ _ _ _) | (refine zS ?_; intro _ _) | refine zO ?_ | (apply Ws <;> intro hg))
          rw [show (k : Int) + 1 = ((k + 1 : Nat) : Int) by omega, decide_eq_true (show ((b.getD k 0 : Nat) : Int) < ((a.getD k 0 : Nat) : Int) by omega)]
          exact Ends.loop (k + 1) (by omega) (by simp only [hs]; exact (by repeat' (first | exact .nil | refine .cons rfl ?_))) rfl ⟨rfl, hk', hle⟩
        · rw [decide_eq_false h2] at hs
          repeat' (first | refine zP ?_ | refine zA ?_ | (refine zM ?_; intro _ _) | refine zX ?_ | (refine zC ?_; intro _ _ _ _) | (refine zS ?_; intro _ _) | refine zO ?_ | (apply Ws <;> intro hg))
          rw [show (k : Int) + 1 = ((k + 1 : Nat) : Int) by omega, decide_eq_false (show ¬ ((b.getD k 0 : Nat) : Int) < ((a.getD k 0 : Nat) : Int) by omega)]
          exact Ends.loop (k + 1) (by omega) (by simp only [hs]; exact (by repeat' (first | exact .nil | refine .cons rfl ?_))) rfl ⟨rfl, hk', hle⟩
  · have hkn : k = n := by omega
    rw [hkn] at hno ⊢
    repeat' (first | refine zP ?_ | refine zA ?_ | (refine zM ?_; intro _ _) | refine zX ?_ | (refine zC ?_; intro _ _ _ _) | (refine zS ?_; intro _ _) | (apply Ws <;> intro hg))
    exact Ends.ret1 rfl ⟨by rw [bet_end hno], rfl⟩
end
end Go.Proofs.Ytaipmdhnhffckaa.Sh

namespace Go.Abs
set_option linter.unusedSectionVars false
variable [Globs]
open Go
section
variable {C : CW} {nt : Nat} {L : Env} {D : List Nat} {H : Heap} {K : St → Prop} {M M' : HL} {n i d : Nat} {gd : Option (Tmp × Bool)} {lo : List Nat} {l : List POp}
/-- Nothing of a slice without elements appended to another one. -/
theorem WR.appEmp {e b u o : Nat} {s x : Operand} {y : Value} {cs : List Value} (hg : gOK L gd) (hd : Nat.blt d nt = true) (hs : ev L s = some (.slice (some ⟨b, o, some u⟩) 0 1)) (hy : ev L x = some y) (hH : hasH M n H) (hm : (b, .row e u o cs) ∈ M) (hk : srcLen y = some 0) (hx : srcCells H 1 0 y = some [])
    (kk : ∀ H', hasH M n H' → WR C nt l ((d, .slice (some ⟨b, o, some u⟩) 0 1) :: L) D H' K) : WR C nt (⟨i, some d, .append e 1 s x, gd, lo⟩ :: l) L D H K := by
  obtain ⟨H', h5, h6⟩ := hH.writeN (o := o) (l := []) (Upd.self hm) rfl (Nat.le_refl _) (by simp) (by simp [splice])
  refine WR.op hg hd (H' := H') (v := .slice (some ⟨b, o, some u⟩) 0 1) (fun t ht => ?_) (kk H' h6)
  have hcap : capOf (some ⟨b, o, some u⟩) 1 = .known 0 := rfl
  have hb : Nat.ble (0 + 0) 0 = true := rfl
  have hp : Addr.plus ⟨b, o, some u⟩ (0 * 1) = ⟨b, o, some u⟩ := rfl
  simp only [opA, ev_ok ht hs, ev_ok ht hy, appendA, hk, hx, appWith, hcap, hb, cond_true, appIn, hp, h5, Nat.add_zero]
theorem retC2D {a b : Nat} {p r : Addr} {v w : Value} {R : Value → Heap → Prop} {M0 : HL} {e : Ex} (he : (match e with | .normal => True | .ret => True | _ => False)) (hx : ev L (.tmp a) = some (.pointer (some p))) (hy : ev L (.tmp b) = some (.pointer (some r))) (hH : hasH M n H) (hM : M'.Sublist M)
    (hp : M'.Perm (D.map (fun b => (b, Ch.defd false)) ++ M0)) (k2 : ∀ H', hasH M0 n H' → H'.read p = some v ∧ H'.read r = some w ∧ R (.tuple #[v, w]) H') : Abs.Ends (retK [.cell a none, .cell b none] R) e L D H :=
  Abs.Ends.retD he hH hM hp fun H' h' t ht => by
    obtain ⟨h1, h2, h3⟩ := k2 H' h'
    exact ⟨_, H', by simp only [leaveC, resultOf, ev_ok ht hx, ev_ok ht hy, h1, h2, retVal], h3⟩
end
end Go.Abs
namespace Go.Proofs.Ytaipmdhnhffckaa.Sh
open Go Go.Abs Go.Mth
set_option linter.unusedVariables false
set_option linter.unusedSimpArgs false
/-- A division's number is of a fair one. -/
def fairK (vs : List (List Nat)) (n m k : Nat) : Bool := (pairsL (envP vs (shs n (IL (divK n m k)))) n).isEmpty
def cntK (p : Nat → Bool) (N : Nat) : Nat := sumN (fun k => if p k = true then 1 else 0) N
attribute [local irreducible] gOK WS WC WR WD Ends FS YS OpV seqK blockK loopK midK retK rdK asgK rangeEnd sat Cell
section
variable {M B : HL} {n0 : Nat} {H : Heap} {v w vv sv : Value} {vs : List (List Nat)} {ss : List Nat} {n m : Nat}
theorem cloneR_fs {rb : Nat} {l : List Nat} (hH : hasH M n0 H) (hm : (rb, Ch.row 3 0 0 (nodes l)) ∈ M) (hl : l.length = m) (hm6 : m ≤ 1000) :
    FS C 62 [.slice (some ⟨rb, 0, some 0⟩) m (2 * m + 1)] H (fun e H' => ∃ b cp' n', e = .slice (some ⟨b, 0, some 0⟩) m cp' ∧ Sl [(b, .row 3 0 0 (nodes l))] 1 e (nodes l) ∧ n0 ≤ n' ∧ hasH ((b, .row 3 0 0 (nodes l)) :: M) n' H') := by
  refine FS.intro (pf := pf62) rfl rfl rfl ?_
  repeat' (first | refine zP ?_ | refine zA ?_ | (refine zM ?_; intro _ _) | refine zX ?_ | (refine zC ?_; intro _ _ _ _) | (refine zS ?_; intro _ _) | (apply Ws <;> intro hg))
  refine WR.bldS (by first | exact gN | exact gS rfl) rfl hH (vs := []) rfl (cs := []) (by rfl) rfl fun H3 hH3 => ?_
  repeat' (first | refine zP ?_ | refine zA ?_ | (refine zM ?_; intro _ _) | refine zX ?_ | (refine zC ?_; intro _ _ _ _) | (refine zS ?_; intro _ _) | (apply Ws <;> intro hg))
  by_cases h0 : m = 0
  · subst h0
    have hln : l = [] := List.length_eq_zero_iff.1 hl
    subst hln
    refine WR.appEmp (by first | exact gN | exact gS rfl) rfl rfl rfl hH3 (.head _) rfl (by
      have := hH3.readN (b := rb) (u := 0) (lo := 0) (o := 0) (k := 0) (.tail _ hm) (.row _ _ _ _) (Nat.le_refl _) (by simp)
      simpa [srcCells] using this) fun H4 hH4 => ?_
    repeat' (first | refine zP ?_ | refine zA ?_ | (refine zM ?_; intro _ _) | refine zX ?_ | (refine zC ?_; intro _ _ _ _) | (refine zS ?_; intro _ _) | (apply Ws <;> intro hg))
    exact Ends.ret1 rfl ⟨n0, 1, n0 + 1, rfl, Sl.mkd (k := 0) rfl, by omega, hH4⟩
  · have hS : Sl ((n0, .row 3 0 0 []) :: M) 1 (.slice (some ⟨rb, 0, some 0⟩) m (2 * m + 1)) (nodes l) :=
      (Sl.row (lo := 0) hm (.row _ _ _ _) (Nat.le_refl _) (by simp [hl]) (by rw [Nat.sub_self, List.drop_zero, List.take_length]) (by simp) (.inr ⟨_, rfl, Nat.le_refl _⟩)).cons
    have hne : nodes l ≠ [] := fun h => by have := List.map_eq_nil_iff.1 h; subst this; simp at hl; omega
    obtain ⟨hk, hsr⟩ := hS.src hH3 hne
    refine WR.appendNew (by first | exact gN | exact gS rfl) rfl rfl rfl hH3 (.head _) (.row _ _ _ _) (Nat.zero_le _) (Nat.zero_le _) hk (by have := hsr _ (Nat.le_refl _); rw [List.take_length] at this; exact this) (by simp) (by simp [hl]; omega) (nodes_one' _) (by omega) (by omega) (by simp; omega) fun H' hH' => ?_
    repeat' (first | refine zP ?_ | refine zA ?_ | (refine zM ?_; intro _ _) | refine zX ?_ | (refine zC ?_; intro _ _ _ _) | (refine zS ?_; intro _ _) | (apply Ws <;> intro hg))
    refine Ends.ret1 rfl ⟨n0 + 1, 2 * 1, n0 + 2, by rw [List.length_map, hl], ?_, by omega, hH'.sub (.cons_cons _ (List.sublist_cons_self _ _))⟩
    rw [List.length_map, hl]
    exact sl_row (by simp [hl])
end
end Go.Proofs.Ytaipmdhnhffckaa.Sh

namespace Go.Abs
set_option linter.unusedSectionVars false
variable [Globs]
open Go
section
variable {C : CW} {nt : Nat} {L : Env} {D : List Nat} {H H' : Heap} {K : St → Prop} {M M' : HL} {n i : Nat} {gd : Option (Tmp × Bool)} {lo : List Nat} {l : List POp} {rs : List Rd}
theorem WD.op0 {op : AOp} {v : Value} (hg : gOK L gd) (hv : OpV C op L H v H') (hn : reads op = false) (hs : stands H' lo rs = true) (k : WD C nt l rs L D H' K) : WD C nt (⟨i, none, op, gd, lo⟩ :: l) rs L D H K := by
  intro t ht
  obtain ⟨m, s', h1, h2⟩ := k _ ht
  refine ⟨m, s', ?_, h2⟩
  have e1 : doOp C.c (runW C m) nt ⟨i, none, op, gd, lo⟩ ⟨t, D, H⟩ = some ⟨t, D, H'⟩ := by simp only [doOp, hg.wanted ht, cond_true, hv t ht, ans, afterOp, putT, stOf]
  have e2 : noteRd ⟨i, none, op, gd, lo⟩ ⟨t, D, H⟩ ⟨t, D, H'⟩ rs = rs := by
    unfold noteRd
    rw [hg.wanted ht, cond_true]
    cases op <;> first | rfl | cases hn
  simp only [stepOpsD, e1, hs, cond_true, e2]; exact h1
/-- One cell is stored to while a read is still looked at. -/
theorem WD.storeBox {x y : Operand} {v w : Value} {b e u : Nat} (hg : gOK L gd) (hH : hasH M n H) (hx : ev L x = some (.pointer (some ⟨b, 0, some u⟩))) (hy : ev L y = some v) (h1 : one v = true) (hu : Upd M b (.row e u 0 [w]) (.row e u 0 [v]) M')
    (k : ∀ H', hasH M' n H' → stands H' lo rs = true ∧ WD C nt l rs L D H' K) : WD C nt (⟨i, none, .store x y 1, gd, lo⟩ :: l) rs L D H K := by
  obtain ⟨H', g1, g2⟩ := hH.writeN (l := [v]) hu (by simp [h1]) (Nat.le_refl _) (by simp) (by simp [splice])
  obtain ⟨k1, k2⟩ := k H' g2
  have hc : v.cells.toList = [v] := by cases v <;> first | rfl | cases h1
  refine WD.op0 hg (v := undef) (H' := H') (fun t ht => ?_) rfl k1 k2
  have hb : Nat.beq [v].length 1 = true := rfl
  simp only [opA, ev_ok ht hx, ev_ok ht hy, hc, oStore, hb, cond_true, g1, asSkip]
end
end Go.Abs
namespace Go.Proofs.Ytaipmdhnhffckaa.Sh
open Go Go.Abs Go.Mth
set_option linter.unusedVariables false
set_option linter.unusedSimpArgs false
def gainK (vs : List (List Nat)) (n m k : Nat) : Nat × Nat := gainW (fun i => (ownL vs (shs n (IL (divK n m k))) n).getD i 0) n
/-- The first one with the greatest gain. -/
def bestK (g : Nat → Nat × Nat) : Nat → Nat
  | 0 => 0
  | k + 1 => if k = 0 then 0 else if gtG (g k) (g (bestK g k)) = true then k else bestK g k
attribute [local irreducible] gOK WS WC WR WD Ends FS YS OpV seqK blockK loopK midK retK rdK asgK rangeEnd sat Cell
section
variable {M B : HL} {n0 : Nat} {H : Heap} {v w vv sv : Value} {vs : List (List Nat)} {ss : List Nat} {n m : Nat}
end
end Go.Proofs.Ytaipmdhnhffckaa.Sh

namespace Go.Proofs.Ytaipmdhnhffckaa.Sh
open Go Go.Abs Go.Mth
set_option linter.unusedVariables false
set_option linter.unusedSimpArgs false
structure KTK where
  t : Nat
  K : Nat
attribute [local irreducible] gOK WS WC WR WD Ends FS YS OpV seqK blockK loopK midK retK rdK asgK rangeEnd sat Cell
section
variable {M B : HL} {n0 : Nat} {H : Heap} {v w vv sv : Value} {vs : List (List Nat)} {ss : List Nat} {n m : Nat}
set_option maxHeartbeats 2000000 in
theorem ldivisions_fs {g : FuncId} {vb : List Value} {J : Nat → HL → Nat → Prop} (hV : OKV vs n m) (hR : ValsN M v vs) (hB : ∀ k M' n', J k M' n' → ValsN M' v vs) (hJn : ∀ k M' n' n'', J k M' n' → n' ≤ n'' → J k M' n'')
    (hy : ∀ k M' n' H', J k M' n' → k < n ^ m → hasH ((n0, .row 3 0 0 (nodes (divK n m k))) :: M') n' H' → FS C g ([] ++ [.slice (some ⟨n0, 0, some 0⟩) m (2 * m + 1)] ++ vb) H' (fun _ H2 => ∃ M2 n2, hasH ((n0, .row 3 0 0 (nodes (divK n m k))) :: M2) n2 H2 ∧ J (k + 1) M2 n2))
    (hH : hasH M n0 H) (hJ : J 0 M n0) :
    FS C 59 [v, .func (.func g) [].toArray vb.toArray] H (fun _ H' => ∃ M' n', hasH M' n' H' ∧ J (n ^ m) M' n') := by
  have hm6 := hV.m6
  have hn4 := hV.n4
  have hn1 := hV.pos
  have hvl := hV.len
  have hrl := hV.rowLen hn1
  obtain ⟨ws, hW, hwl, hws⟩ := hR.ex
  have h0 := hws 0 (by omega)
  refine FS.intro (pf := pf59) rfl rfl rfl ?_
  repeat' (first | refine zP ?_ | refine zA ?_ | (refine zM ?_; intro _ _) | refine zX ?_ | (refine zC ?_; intro _ _ _ _) | (refine zS ?_; intro _ _) | (apply Ws <;> intro hg))
  rw [hrl]
  refine WR.mkSL (by first | exact gN | exact gS rfl) rfl hH rfl rfl (by omega) rfl fun H1 hH1 => ?_
  rw [nodes_rep, ← divK_zero (n := n) m] at hH1
  clear h0 hW hws hwl hR
  repeat' (first | refine zP ?_ | refine zA ?_ | (refine zM ?_; intro _ _) | refine zX ?_ | (refine zC ?_; intro _ _ _ _) | (refine zS ?_; intro _ _) | (apply Ws <;> intro hg))
  refine WC.loopX [(0, _), (1, _), (4, _)] (fun s : KE => []) []
    (fun s H' => s.k < n ^ m ∧ J s.k s.M s.n ∧ hasH ((n0, .row 3 0 0 (nodes (divK n m s.k))) :: s.M) s.n H') (fun s => n ^ m - s.k) ⟨0, M, n0 + 1⟩ (by repeat' (first | exact .nil | refine .cons rfl ?_)) rfl
    ⟨Nat.pow_pos (by omega), hJn _ _ _ _ hJ (by simp only; omega), hH1⟩ ?_
  clear hH1 hH hJ
  rintro ⟨k, M1, n1⟩ H2 ⟨hk, hJ1, hH2⟩
  simp only at hk hJ1 hH2
  dsimp only [List.cons_append, List.nil_append]
  repeat' (first | refine zP ?_ | refine zA ?_ | (refine zM ?_; intro _ _) | refine zX ?_ | (refine zC ?_; intro _ _ _ _) | (refine zS ?_; intro _ _) | (apply Ws <;> intro hg))
  refine WR.callV (va := []) (by first | exact gN | exact gS rfl) rfl rfl rfl (hy k M1 n1 _ hJ1 hk hH2) ?_
  rintro _ H3 ⟨M3, n3, hH3, hJ3⟩
  clear hH2 hJ1
  have hR3 := hB _ _ _ hJ3
  obtain ⟨ws3, hW3, hwl3, hws3⟩ := hR3.ex
  repeat' (first | refine zP ?_ | refine zA ?_ | (refine zM ?_; intro _ _) | refine zX ?_ | (refine zC ?_; intro _ _ _ _) | (refine zS ?_; intro _ _) | (apply Ws <;> intro hg))
  refine WC.loopX [(0, _), (1, _), (4, _)] (fun s : KTK => [(5, .int .i64 ((m : Int) - 1 - (s.t : Int)))]) []
    (fun s H' => Carry n m k s.t s.K ∧ hasH ((n0, .row 3 0 0 (nodes (carryL n m s.t s.K))) :: M3) n3 H') (fun s => m - s.t) ⟨0, k⟩ (by simp only [Int.sub_zero, Int.natCast_zero]; exact (by repeat' (first | exact .nil | refine .cons rfl ?_))) rfl ⟨Carry.start n m k, by simp only [carryL, Nat.sub_zero, List.replicate_zero, List.append_nil]; exact hH3⟩ ?_
  clear hH3
  rintro ⟨t, K⟩ H4 ⟨hC, hH4⟩
  simp only at hC hH4
  have htm := hC.tm
  have hll := carryL_len (n := n) (K := K) htm
  have hW4 : Sl ((n0, .row 3 0 0 (nodes (carryL n m t K))) :: M3) 1 v ws3 := hW3.cons
  have hKm := Nat.mod_lt K (show 0 < n by omega)
  dsimp only [List.cons_append, List.nil_append]
  repeat' (first | refine zP ?_ | refine zA ?_ | (refine zM ?_; intro _ _) | refine zX ?_ | (refine zC ?_; intro _ _ _ _) | (refine zS ?_; intro _ _) | (apply Ws <;> intro hg))
  refine WC.condP rfl (fun hge => ?_) (fun hge => ?_)
  · have ht' : t < m := by omega
    have hi : (m : Int) - 1 - (t : Int) = ((m - 1 - t : Nat) : Int) := by omega
    have hgd := carryL_get (n := n) (K := K) ht'
    have hg2 : (nodes (carryL n m t K))[m - 1 - t]? = some (.int .i64 (K % n : Nat)) := by rw [nodes_get (by omega), hgd]
    rw [hi]
    clear hW4
    repeat' (first | refine zP ?_ | refine zA ?_ | (refine zM ?_; intro _ _) | refine zX ?_ | (refine zC ?_; intro _ _ _ _) | (refine zS ?_; intro _ _) | (apply Ws <;> intro hg))
    rw [hgd]
    rename_i H5 hH5
    rw [hgd] at hH5
    obtain ⟨l2, hl2⟩ : ∃ l2, l2 = (carryL n m t K).set (m - 1 - t) (K % n + 1) := ⟨_, rfl⟩
    rw [← hl2] at hH5
    have hl2l : l2.length = m := by rw [hl2, List.length_set]; exact hll
    have hl2g : l2.getD (m - 1 - t) 0 = K % n + 1 := by rw [hl2, getD_set' (by omega), if_pos rfl]
    have hW5 : Sl ((n0, .row 3 0 0 (nodes l2)) :: M3) 1 v ws3 := hW3.cons
    clear hH4 hg2
    by_cases hc : K % n + 1 < n
    · have hdone := hC.done ht' hc
      have hmore := hC.more ht' hc hk
      rw [← carryL_set (n := n) (m := m) (t := t) (K := K) (x := K % n + 1) ht', ← hl2] at hdone
      repeat' (first | refine zP ?_ | refine zA ?_ | (refine zM ?_; intro _ _) | refine zX ?_ | (refine zC ?_; intro _ _ _ _) | (refine zS ?_; intro _ _) | refine zO ?_ | (apply Ws <;> intro hg))
      refine Ends.loop ⟨k + 1, M3, n3⟩ (by simp only; omega) (by repeat' (first | exact .nil | refine .cons rfl ?_)) rfl ⟨hmore, hJ3, ?_⟩
      simp only
      rw [hdone]
      exact hH5
    · have hnext := carryL_next (n := n) (m := m) (t := t) (K := K) ht'
      have hC2 := hC.step hn1 ht' hc
      have hl3 : l2.set (m - 1 - t) 0 = carryL n m (t + 1) (K / n) := by rw [← hnext, hl2, List.set_set]
      repeat' (first | refine zP ?_ | refine zA ?_ | (refine zM ?_; intro _ _) | refine zX ?_ | (refine zC ?_; intro _ _ _ _) | (refine zS ?_; intro _ _) | refine zO ?_ | (apply Ws <;> intro hg))
      rename_i H6 hH6
      rw [hl3] at hH6
      rw [show ((m - 1 - t : Nat) : Int) - 1 = (m : Int) - 1 - ((t + 1 : Nat) : Int) by omega]
      exact Ends.loop ⟨t + 1, K / n⟩ (by simp only; omega) (by repeat' (first | exact .nil | refine .cons rfl ?_)) rfl ⟨hC2, hH6⟩
  · have htm2 : t = m := by omega
    rw [htm2] at hC
    have hend := hC.end_ hk hn1
    rw [hend] at hJ3
    repeat' (first | refine zP ?_ | refine zA ?_ | (refine zM ?_; intro _ _) | refine zX ?_ | (refine zC ?_; intro _ _ _ _) | (refine zS ?_; intro _ _) | refine zO ?_ | (apply Ws <;> intro hg))
    exact Ends.ret0 ⟨M3, n3, hH4.tail, hJ3⟩
end
end Go.Proofs.Ytaipmdhnhffckaa.Sh

namespace Go.Proofs.Ytaipmdhnhffckaa.Sh
open Go Go.Abs Go.Mth
set_option linter.unusedVariables false
set_option linter.unusedSimpArgs false
/-- Each finder's share is worth at least the n-th part to it. -/
def partK (vs : List (List Nat)) (ss : List Nat) (n : Nat) : Nat → Bool
  | 0 => true
  | i + 1 => partK vs ss n i && decide (sumN (fun j => wor (vs.getD i []) (ss.getD j 0)) n ≤ n * wor (vs.getD i []) (ss.getD i 0))
theorem sum_le_mul {f : Nat → Nat} {c : Nat} : ∀ {n : Nat}, (∀ i, i < n → f i ≤ c) → sumN f n ≤ n * c
  | 0, _ => by simp [sumN]
  | n + 1, h => by
    have h1 := sum_le_mul (n := n) fun i hi => h i (by omega)
    have h2 := h n (by omega)
    simp only [sumN]
    rw [Nat.succ_mul]
    omega
attribute [local irreducible] gOK WS WC WR WD Ends FS YS OpV seqK blockK loopK midK retK rdK asgK rangeEnd sat Cell
section
variable {M : HL} {n0 : Nat} {H : Heap} {v w : Value} {vs : List (List Nat)} {n m : Nat}
end
end Go.Proofs.Ytaipmdhnhffckaa.Sh

namespace Go.Proofs.Ytaipmdhnhffckaa.Sh
open Go Go.Abs Go.Mth
set_option linter.unusedVariables false
set_option linter.unusedSimpArgs false
theorem okv_one {vs us : List (List Nat)} {n m N k : Nat} (h : OKV vs n m) (hu : OKV us N k) (he : ILL us = ILL vs) : us = vs ∧ N = n ∧ k = m := by
  have h1 : us = vs := by rw [← natV_ILL us, he, natV_ILL]
  subst h1
  have h2 : N = n := by rw [← hu.len, h.len]
  subst h2
  refine ⟨rfl, rfl, ?_⟩
  rw [← hu.rowLen hu.pos, h.rowLen hu.pos]
attribute [local irreducible] gOK WS WC WR WD Ends FS YS OpV seqK blockK loopK midK retK rdK asgK rangeEnd sat Cell
section
variable {M : HL} {n0 : Nat} {H : Heap}
end
end Go.Proofs.Ytaipmdhnhffckaa.Sh

namespace Go.Proofs.Ytaipmdhnhffckaa.Sh
open Go Go.Abs Go.Mth
set_option linter.unusedVariables false
set_option linter.unusedSimpArgs false
def betK (vs : List (List Nat)) (n m : Nat) (o : List Int) (k : Nat) : Bool := betB (fun i => (ownL vs (shs n (IL (divK n m k))) n).getD i 0) (fun i => (ownL vs (shs n o) n).getD i 0) n
attribute [local irreducible] gOK WS WC WR WD Ends FS YS OpV seqK blockK loopK midK retK rdK asgK rangeEnd sat Cell
section
variable {M B : HL} {n0 : Nat} {H : Heap} {v w vv sv : Value} {vs : List (List Nat)} {ss : List Nat} {n m : Nat}
set_option maxHeartbeats 4000000 in
theorem Better_fs (hH : hasH M n0 H) {fs : List (List Int)} (hR : RowsI M v fs) (hl : fs.length ≤ 1000) (hll : ∀ l ∈ fs, l.length ≤ 1000) {o : List Int} (hO : Sl M 1 w (ints o)) (hol : o.length ≤ 1000) :
    FS C 44 [v, w] H (fun e H' => ∃ n', n0 ≤ n' ∧ ((divE fs o ≠ 0 ∧ e = .tuple #[.slice none 0 0, .int .i64 (divE fs o)] ∧ hasH M n' H') ∨ (∃ vs n m, fs = ILL vs ∧ OKV vs n m ∧ OKD o n m ∧
      (((∀ k, k < n ^ m → betK vs n m o k = false) ∧ e = .tuple #[.slice none 0 0, .int .i64 13] ∧ hasH M n' H') ∨
       (∃ k b cp, k < n ^ m ∧ betK vs n m o k = true ∧ (∀ i, i < k → betK vs n m o i = false) ∧ e = .tuple #[.slice (some ⟨b, 0, some 0⟩) m cp, .int .i64 0] ∧ Sl [(b, .row 3 0 0 (nodes (divK n m k)))] 1 (.slice (some ⟨b, 0, some 0⟩) m cp) (nodes (divK n m k)) ∧ hasH ((b, .row 3 0 0 (nodes (divK n m k))) :: M) n' H'))))) := by
  have hv1 := hR.one_
  refine FS.intro (pf := pf44) rfl rfl rfl ?_
  repeat' (first | refine zP ?_ | refine zA ?_ | (refine zM ?_; intro _ _) | refine zX ?_ | (refine zC ?_; intro _ _ _ _) | (refine zS ?_; intro _ _) | (apply Ws <;> intro hg))
  refine WR.box1 (by first | exact gN | exact gS rfl) rfl hH rfl hv1 fun H1 hH1 => ?_
  repeat' (first | refine zP ?_ | refine zA ?_ | (refine zM ?_; intro _ _) | refine zX ?_ | (refine zC ?_; intro _ _ _ _) | (refine zS ?_; intro _ _) | (apply Ws <;> intro hg))
  rename_i H2 hH2 H3 hH3
  clear hH1 hH2
  refine WR.call (by first | exact gN | exact gS rfl) rfl rfl (checked_fs hH3 hR.cons.cons.cons hl hll hO.cons.cons.cons hol) ?_
  rintro _ H4 ⟨n4, hn4, ⟨hd, rfl, hH4⟩ | ⟨hd, sb, rfl, hH4⟩⟩
  · repeat' (first | refine zP ?_ | refine zA ?_ | (refine zM ?_; intro _ _) | refine zX ?_ | (refine zC ?_; intro _ _ _ _) | (refine zS ?_; intro _ _) | (apply Ws <;> intro hg))
    rename_i H5 hH5
    refine WR.store2 (by first | exact gN | exact gS rfl) hH5 rfl rfl rfl rfl .here fun H6 hH6 => ?_
    clear hH5
    repeat' (first | refine zP ?_ | refine zA ?_ | (refine zM ?_; intro _ _) | refine zX ?_ | (refine zC ?_; intro _ _ _ _) | (refine zS ?_; intro _ _) | refine zO ?_ | (apply Ws <;> intro hg))
    rename_i H7 hH7 H8 hH8
    exact retC2D (v := .slice none 0 0) (w := .int .i64 (divE fs o)) trivial rfl rfl hH8 (List.Sublist.refl _) (List.Perm.refl _) fun H' h' => ⟨h'.read (.tail _ (.tail _ (.head _))) (.row _ _ _ _) (Nat.zero_le _) rfl, h'.read (.tail _ (.head _)) (.row _ _ _ _) (Nat.zero_le _) rfl, n4 + 1, by omega, .inl ⟨hd, rfl, h'.tail.tail.tail.tail⟩⟩
  obtain ⟨vs, n, m, rfl, hnv, hfl, hvl, ho, hD⟩ := divM_of (b := sb) hR hd
  have hV := hD.ok
  have hVal := RowsI.vals hR
  have hm6 := hV.m6
  have hn4' := hV.n4
  have hn1 := hV.pos
  rw [hfl] at hH4 ⊢
  repeat' (first | refine zP ?_ | refine zA ?_ | (refine zM ?_; intro _ _) | refine zX ?_ | (refine zC ?_; intro _ _ _ _) | (refine zS ?_; intro _ _) | (apply Ws <;> intro hg))
  rename_i H5 hH5
  refine WR.store2 (by first | exact gN | exact gS rfl) hH5 rfl rfl hv1 rfl .here fun H6 hH6 => ?_
  clear hH5 hH4
  repeat' (first | refine zP ?_ | refine zA ?_ | (refine zM ?_; intro _ _) | refine zX ?_ | (refine zC ?_; intro _ _ _ _) | (refine zS ?_; intro _ _) | refine zO ?_ | (apply Ws <;> intro hg))
  refine WR.call (by first | exact gN | exact gS rfl) rfl rfl (own_fs (vs := vs) (ss := shs n o) (n := n) (m := m) ⟨hV, hVal.mono fun q hq => by simp [hq], hD.shar.mono fun q hq => by rcases List.mem_cons.1 hq with h | h <;> simp [h], shs_len _ _, shs_bd ho.len⟩ hH6) ?_
  rintro _ H7 ⟨rfl, n7, hn7, hH7⟩
  clear hH6
  repeat' (first | refine zP ?_ | refine zA ?_ | (refine zM ?_; intro _ _) | refine zX ?_ | (refine zC ?_; intro _ _ _ _) | (refine zS ?_; intro _ _) | (apply Ws <;> intro hg))
  rename_i H8 hH8 H9 hH9
  clear hH7 hH8
  refine WR.call (by first | exact gN | exact gS rfl) rfl rfl (allOwners_fs hH9 hv1) ?_
  rintro _ HA ⟨rfl, hHA⟩
  clear hH9
  obtain ⟨L0, hL0⟩ : ∃ L0, L0 = ownL vs (shs n o) n := ⟨_, rfl⟩
  rw [← hL0] at hHA
  have hL0l : L0.length = n := by rw [hL0, ownL_len]
  obtain ⟨ob, hob⟩ : ∃ ob, ob = n4 + 1 + 1 := ⟨_, rfl⟩
  rw [← hob] at hHA ⊢
  repeat' (first | refine zP ?_ | refine zA ?_ | (refine zM ?_; intro _ _) | refine zX ?_ | (refine zC ?_; intro _ _ _ _) | (refine zS ?_; intro _ _) | (apply Ws <;> intro hg))
  refine WC.range0 (va := []) (vb := [.pointer (some ⟨n7 + 1, 0, some 0⟩)]) rfl hHA fun t ht HB hHB => ?_
  clear hHA
  generalize hR2 : ({ state := .ready, pending := none, fn := 44, tmps := t, params := [23], assign := _, body := _, nt := _ } : LoopE) = R at hHB
  have hbk : ∀ k, betK vs n m o k = betB (fun i => (ownL vs (shs n (IL (divK n m k))) n).getD i 0) (fun i => L0.getD i 0) n := fun k => by rw [hL0]; rfl
  refine FS.mono (allOwners1_fs (lY := n7 + 1 + 1 + 1) (nv := n7 + 1) (v := v) (vs := vs) (n := n) (m := m) (n0 := n7 + 1 + 1 + 2)
    (J := fun k M' n' => n0 ≤ n' ∧ (∀ i, i < k → betK vs n m o i = false) ∧ M' = _)
    (S := fun M' n' => ∃ k b cp, n0 ≤ n' ∧ k < n ^ m ∧ betK vs n m o k = true ∧ (∀ i, i < k → betK vs n m o i = false) ∧ Sl [(b, .row 3 0 0 (nodes (divK n m k)))] 1 (.slice (some ⟨b, 0, some 0⟩) m cp) (nodes (divK n m k)) ∧ M' = (n7 + 1 + 1 + 1, .loop { R with state := .done, pending := some .ret }) :: (n7 + 1 + 1, .defd false) :: (n0 + 1 + 1, .row 26 0 0 [.int .i64 0]) :: (n0 + 1, .row 23 0 0 [.slice (some ⟨b, 0, some 0⟩) m cp]) :: (b, .row 3 0 0 (nodes (divK n m k))) :: M)
    hV ?_ (fun k M' n' n'' h1 h2 => ⟨by omega, h1.2.1, h1.2.2⟩) ?_ hHB ⟨by omega, fun i h => absurd h (Nat.not_lt_zero _), rfl⟩) ?_
  · rintro k M' n' ⟨_, _, rfl⟩
    exact ⟨by simp, hVal.mono fun q hq => by simp [hq]⟩
  · rintro k _ n' HC ⟨hn', hno, rfl⟩ hk hHC
    refine YS.intro hHC (.tail _ (.head _)) (by rw [← hR2]) (by rw [← hR2]) (by rw [← hR2]; rfl) (by rw [← hR2]; exact ht) ?_
    subst hR2
    dsimp only
    repeat' (first | refine zA ?_ | (refine zM ?_; intro _ _) | (apply Ws <;> intro hg))
    refine Ends.asg hHC (.there .here) fun HD hHD => ?_
    dsimp only
    clear hHC
    have hok := divK_ok (m := m) (k := k) hn1
    obtain ⟨ws, hW, hwl, hws⟩ := hVal.ex
    have hvs := hW.same
    refine WC.block ?_
    refine WC.seq ?_
    refine WC.regionD ?_
    refine WD.load1 (by first | exact gN | exact gS rfl) rfl rfl (hHD.read (.tail _ (.tail _ (.tail _ (.tail _ (.tail _ (.tail _ (.tail _ (.tail _ (.tail _ (.tail _ (.head _))))))))))) (.row _ _ _ _) (Nat.zero_le _) rfl) ?_
    repeat' (first | refine zD ?_ | (refine zE ?_; intro _ _ _ _))
    refine WD.load1 (by first | exact gN | exact gS rfl) rfl rfl (hHD.read (.tail _ (.tail _ (.tail _ (.tail _ (.head _))))) (.row _ _ _ _) (Nat.zero_le _) rfl) ?_
    have hrow : ∀ {X : HL}, Sl ((n7 + 1 + 1 + 2, .row 3 0 0 (nodes (divK n m k))) :: X) 1 (.slice (some ⟨n7 + 1 + 1 + 2, 0, some 0⟩) m (2 * m + 1)) (ints (IL (divK n m k))) := Sl.asInts (Sl.mkd (by simp [divK_len]))
    refine WD.call (by first | exact gN | exact gS rfl) rfl rfl (divide_fs hHD (hW.mono fun q hq => by simp [hq]) (by omega) hrow (by simp [divK_len]; omega) (by rw [hwl, hvl]; exact hok.bd)) ?_
    rintro _ HE ⟨b, n8, hn8, rfl, hHE⟩
    rw [hwl, hvl] at hHE
    rw [hwl, hvl]
    refine ⟨stands_cons (.inr (holds_at (hHE.read (.tail _ (.tail _ (.tail _ (.tail _ (.tail _ (.head _)))))) (.row _ _ _ _) (Nat.zero_le _) rfl) (same_sl _ _ _))) (stands_cons (.inl rfl) stands_nil'), ?_⟩
    refine WD.call (by first | exact gN | exact gS rfl) rfl rfl (own_fs (vs := vs) (ss := shs n (IL (divK n m k))) (n := n) (m := m) ⟨hV, hVal.mono fun q hq => by simp [hq], Sl.mkd (by simp [shs]), shs_len _ _, shs_bd hok.len⟩ hHE) ?_
    rintro _ HF ⟨rfl, n9, hn9, hHF⟩
    refine ⟨stands_cons (.inr (holds_at (hHF.read (.tail _ (.tail _ (.tail _ (.tail _ (.tail _ (.tail _ (.head _))))))) (.row _ _ _ _) (Nat.zero_le _) rfl) (same_sl _ _ _))) (stands_cons (.inl rfl) stands_nil'), ?_⟩
    refine WD.toWR rfl ?_
    have hSL0 : Sl ((ob, Ch.row 3 0 0 (nodes L0)) :: M) 1 (.slice (some ⟨ob, 0, some 0⟩) n (2 * n + 1)) (nodes L0) := Sl.mkd (by simp [hL0l])
    refine WR.call (by first | exact gN | exact gS rfl) rfl rfl (isBetter_fs hHF (Sl.mkd (by simp [ownL_len])) (hSL0.mono fun q hq => by rcases List.mem_cons.1 hq with h | h <;> simp [h]) (ownL_len _ _ _) hL0l (by omega)) ?_
    rintro _ _ ⟨rfl, rfl⟩
    rw [← hbk k]
    replace hHF := hHF.tail.tail
    clear hHE hHD
    cases hf : betK vs n m o k with
    | false =>
      repeat' (first | refine zP ?_ | refine zA ?_ | (refine zM ?_; intro _ _) | refine zX ?_ | (refine zC ?_; intro _ _ _ _) | (refine zS ?_; intro _ _) | (apply Ws <;> intro hg))
      exact Ends.rd rfl rfl rfl hHF (.there .here) fun H' h' => ⟨_, n9, h', .inl ⟨rfl, by omega, fun i hi => by
        by_cases e : i = k
        · rw [e]; exact hf
        · exact hno i (by omega), rfl⟩⟩
    | true =>
      repeat' (first | refine zP ?_ | refine zA ?_ | (refine zM ?_; intro _ _) | refine zX ?_ | (refine zC ?_; intro _ _ _ _) | (refine zS ?_; intro _ _) | (apply Ws <;> intro hg))
      refine WR.call (by first | exact gN | exact gS rfl) rfl rfl (cloneR_fs (m := m) hHF (.head _) (divK_len n m k) (by omega)) ?_
      rintro _ HA ⟨cb, cp, nA, rfl, hSc, hnA, hHA⟩
      repeat' (first | refine zP ?_ | refine zA ?_ | (refine zM ?_; intro _ _) | refine zX ?_ | (refine zC ?_; intro _ _ _ _) | (refine zS ?_; intro _ _) | (apply Ws <;> intro hg))
      refine WR.storeBox (by first | exact gN | exact gS rfl) hHA rfl rfl rfl (.there (.there (.there (.there (.there (.there (.there (.there (.there (.there .here)))))))))) fun HB hHB => ?_
      refine WR.storeBox (by first | exact gN | exact gS rfl) hHB rfl rfl rfl (.there (.there (.there (.there (.there (.there (.there (.there (.there .here))))))))) fun HC hHC => ?_
      repeat' (first | refine zP ?_ | refine zA ?_ | (refine zM ?_; intro _ _) | refine zX ?_ | (refine zC ?_; intro _ _ _ _) | (refine zS ?_; intro _ _) | (apply Ws <;> intro hg))
      exact Ends.rd rfl rfl rfl hHC (.there (.there .here)) fun H' h' => ⟨_, nA, (h'.sub (.cons_cons _ (.cons_cons _ (.cons_cons _ (.cons_cons _ (.cons _ (.cons _ (.cons _ (.cons _ (.cons _ (.cons_cons _ (.cons_cons _ (.cons _ (List.Sublist.refl M)))))))))))))).perm (List.perm_middle (l₁ := [_, _, _, _, _])).symm, .inr ⟨rfl, k, cb, cp, by omega, hk, hf, hno, hSc, rfl⟩⟩
  · rintro _ H7 ⟨M7, n9, hH7, ⟨hn9, hno, rfl⟩ | ⟨k, b, cp, hn9, hk, hf, hno, hSc, rfl⟩⟩
    · refine rangeEnd_of hH7 .here (by rw [← hR2]; simp) (by rw [← hR2]; rfl) fun H8 hH8 => ?_
      repeat' (first | refine zP ?_ | refine zA ?_ | (refine zM ?_; intro _ _) | refine zX ?_ | (refine zC ?_; intro _ _ _ _) | (refine zS ?_; intro _ _) | (apply Ws <;> intro hg))
      refine WR.storeBox (by first | exact gN | exact gS rfl) hH8 rfl rfl rfl (.there (.there (.there (.there (.there (.there (.there (.there .here)))))))) fun H9 hH9 => ?_
      refine WR.storeBox (by first | exact gN | exact gS rfl) hH9 rfl rfl rfl (.there (.there (.there (.there (.there (.there (.there .here))))))) fun HA hHA => ?_
      repeat' (first | refine zP ?_ | refine zA ?_ | (refine zM ?_; intro _ _) | refine zX ?_ | (refine zC ?_; intro _ _ _ _) | (refine zS ?_; intro _ _) | (apply Ws <;> intro hg))
      exact retC2D (v := .slice none 0 0) (w := .int .i64 13) trivial rfl rfl hHA (.cons _ (List.Sublist.refl _)) (List.Perm.refl _) fun H' h' => ⟨h'.read (.tail _ (.tail _ (.tail _ (.tail _ (.tail _ (.tail _ (.head _))))))) (.row _ _ _ _) (Nat.zero_le _) rfl, h'.read (.tail _ (.tail _ (.tail _ (.tail _ (.tail _ (.head _)))))) (.row _ _ _ _) (Nat.zero_le _) rfl, n9, hn9, .inr ⟨vs, n, m, rfl, hV, ho, .inl ⟨hno, rfl, h'.sub (.cons _ (.cons _ (.cons _ (.cons _ (.cons _ (.cons _ (.cons _ (.cons _ (List.Sublist.refl _)))))))))⟩⟩⟩
    · refine rangeEnd_of hH7 .here (by simp) rfl fun H8 hH8 => ?_
      repeat' (first | refine zP ?_ | refine zA ?_ | (refine zM ?_; intro _ _) | refine zX ?_ | (refine zC ?_; intro _ _ _ _) | (refine zS ?_; intro _ _) | (apply Ws <;> intro hg))
      exact retC2D (v := .slice (some ⟨b, 0, some 0⟩) m cp) (w := .int .i64 0) trivial rfl rfl hH8 (.cons _ (List.Sublist.refl _)) (List.Perm.refl _) fun H' h' => ⟨h'.read (.tail _ (.head _)) (.row _ _ _ _) (Nat.zero_le _) rfl, h'.read (.head _) (.row _ _ _ _) (Nat.zero_le _) rfl, n9, hn9, .inr ⟨vs, n, m, rfl, hV, ho, .inr ⟨k, b, cp, hk, hf, hno, rfl, hSc, h'.sub (.cons _ (.cons _ (List.Sublist.refl _)))⟩⟩⟩
end
end Go.Proofs.Ytaipmdhnhffckaa.Sh

/- The division with the greatest product: nobody envies anybody by more than one thing, and none is better. -/
namespace Go.Proofs.Ytaipmdhnhffckaa.Sh
open Go Go.Abs Go.Mth
set_option linter.unusedVariables false
set_option linter.unusedSimpArgs false
end Go.Proofs.Ytaipmdhnhffckaa.Sh

namespace Go.Proofs.Ytaipmdhnhffckaa.Sh
open Go Go.Abs Go.Mth
set_option linter.unusedVariables false
set_option linter.unusedSimpArgs false
attribute [local irreducible] gOK WS WC WR WD Ends FS YS OpV seqK blockK loopK midK retK rdK asgK rangeEnd sat Cell
section
variable {M : HL} {n0 : Nat} {H : Heap} {v w : Value} {vs : List (List Nat)} {n m : Nat}
end
end Go.Proofs.Ytaipmdhnhffckaa.Sh

namespace Go.Proofs.Ytaipmdhnhffckaa.Sh
open Go Go.Abs Go.Mth
set_option linter.unusedVariables false
set_option linter.unusedSimpArgs false
attribute [local irreducible] gOK WS WC WR WD Ends FS YS OpV seqK blockK loopK midK retK rdK asgK rangeEnd sat Cell
section
variable {M : HL} {n0 : Nat} {H : Heap}
end
end Go.Proofs.Ytaipmdhnhffckaa.Sh

namespace Go.Proofs.Ytaipmdhnhffckaa.Sh
open Go Go.Abs Go.Mth
set_option linter.unusedVariables false
set_option linter.unusedSimpArgs false
/-- Worths that lie in memory. -/
structure WorA (M : HL) (v : Value) (W : List (List Nat)) (n : Nat) : Prop where
  ex : ∃ us, Sl M 1 v us ∧ us.length = n ∧ ∀ i, i < n → Sl M 1 (us.getD i undef) (nodes (W.getD i []))
  row : ∀ i, i < n → (W.getD i []).length = n
theorem WorA.mono {M M' : HL} {v : Value} {W : List (List Nat)} {n : Nat} (h : WorA M v W n) (k : ∀ q ∈ M, q ∈ M') : WorA M' v W n := by
  obtain ⟨us, h1, h2, h3⟩ := h.ex
  exact ⟨⟨us, h1.mono k, h2, fun i hi => (h3 i hi).mono k⟩, h.row⟩
theorem WorA.cons {M : HL} {q : Nat × Ch} {v : Value} {W : List (List Nat)} {n : Nat} (h : WorA M v W n) : WorA (q :: M) v W n := h.mono fun q hq => .tail _ hq
theorem WorA.one_ {M : HL} {v : Value} {W : List (List Nat)} {n : Nat} (h : WorA M v W n) : one v = true := by
  obtain ⟨us, h1, _⟩ := h.ex
  exact h1.one_
theorem worA_of {Mi M : HL} {us : List Value} {vs : List (List Nat)} {ss : List Nat} {n n0 : Nat} (hvl : vs.length = n) (hsl : ss.length = n) (hR : RowsN (Mi ++ M) us (worM vs ss)) : WorA ((n0, .row 23 0 0 us) :: (Mi ++ M)) (.slice (some ⟨n0, 0, some 0⟩) n (2 * n + 1)) (worM vs ss) n := by
  have hul : us.length = n := by rw [hR.1]; simp [worM, hvl]
  refine ⟨⟨us, Sl.mkd hul, hul, fun i hi => (hR.2 i (by simp [worM]; omega)).cons⟩, fun i hi => ?_⟩
  rw [worM_get (by omega), List.length_map, hsl]
attribute [local irreducible] gOK WS WC WR WD Ends FS YS OpV seqK blockK loopK midK retK rdK asgK rangeEnd sat Cell
section
variable {M : HL} {n0 : Nat} {H : Heap} {v w : Value} {vs : List (List Nat)} {n m : Nat}
set_option maxHeartbeats 1000000 in
theorem lbetter_fs (hH : hasH M n0 H) {A B : List (List Nat)} (hA : WorA M v A n) (hB : WorA M w B n) (hn : n ≤ 100) :
    FS C 65 [v, w] H (fun e H' => e = .bool (betB (fun i => (A.getD i []).getD i 0) (fun i => (B.getD i []).getD i 0) n) ∧ H' = H) := by
  obtain ⟨us, hSa, hal, har⟩ := hA.ex
  obtain ⟨xs, hSb, hbl, hbr⟩ := hB.ex
  refine FS.intro (pf := pf65) rfl rfl rfl ?_
  repeat' (first | refine zP ?_ | refine zA ?_ | (refine zM ?_; intro _ _) | refine zX ?_ | (refine zC ?_; intro _ _ _ _) | (refine zS ?_; intro _ _) | (apply Ws <;> intro hg))
  rw [hal]
  refine WC.loopX [(0, _), (1, _), (7, _), (8, _)] (fun k : Nat => [(5, .bool (anyTo (fun i => (A.getD i []).getD i 0) (fun i => (B.getD i []).getD i 0) k)), (9, .int .i64 (k : Int))]) [] (fun k H' => H' = H ∧ k ≤ n ∧ ∀ j, j < k → (B.getD j []).getD j 0 ≤ (A.getD j []).getD j 0) (fun k => n - k) 0 (by repeat' (first | exact .nil | refine .cons rfl ?_)) rfl ⟨rfl, Nat.zero_le _, fun j h => absurd h (Nat.not_lt_zero _)⟩ ?_
  rintro k _ ⟨rfl, hk, hno⟩
  have hs := anyTo_succ (fun i => (A.getD i []).getD i 0) (fun i => (B.getD i []).getD i 0) k
  dsimp only [List.cons_append, List.nil_append]
  repeat' (first | refine zP ?_ | refine zA ?_ | (refine zM ?_; intro _ _) | refine zX ?_ | (refine zC ?_; intro _ _ _ _) | (refine zS ?_; intro _ _) | (apply Ws <;> intro hg))
  refine WC.condP rfl (fun hlt => ?_) (fun hlt => ?_)
  · have hk' : k < n := by omega
    have hra := har k hk'
    have hrb := hbr k hk'
    have hla := hA.row k hk'
    have hlb := hB.row k hk'
    by_cases h1 : (A.getD k []).getD k 0 < (B.getD k []).getD k 0
    · repeat' (first | refine zP ?_ | refine zA ?_ | (refine zM ?_; intro _ _) | refine zX ?_ | (refine zC ?_; intro _ _ _ _) | (refine zS ?_; intro _ _) | refine zO ?_ | (apply Ws <;> intro hg))
      exact Ends.ret1 rfl ⟨by rw [bet_no (a := fun i => (A.getD i []).getD i 0) (b := fun i => (B.getD i []).getD i 0) hk' h1], rfl⟩
    · have hle : ∀ j, j < k + 1 → (B.getD j []).getD j 0 ≤ (A.getD j []).getD j 0 := fun j hj => by
        by_cases e : j = k
        · rw [e]; omega
        · exact hno j (by omega)
      cases hx : anyTo (fun i => (A.getD i []).getD i 0) (fun i => (B.getD i []).getD i 0) k with
      | true =>
        rw [hx, Bool.true_or] at hs
        repeat' (first | refine zP ?_ | refine zA ?_ | (refine zM ?_; intro _ _) | refine zX ?_ | (refine zC ?_; intro _ _ _ _) | (refine zS ?_; intro _ _) | refine zO ?_ | (apply Ws <;> intro hg))
        rw [show (k : Int) + 1 = ((k + 1 : Nat) : Int) by omega]
        exact Ends.loop (k + 1) (by omega) (by simp only [hs]; exact (by repeat' (first | exact .nil | refine .cons rfl ?_))) rfl ⟨rfl, hk', hle⟩
      | false =>
        rw [hx, Bool.false_or] at hs
        by_cases h2 : (B.getD k []).getD k 0 < (A.getD k []).getD k 0
        · rw [decide_eq_true h2] at hs
          repeat' (first | refine zP ?_ | refine zA ?_ | (refine zM ?_; intro _ _) | refine zX ?_ | (refine zC ?_; intro _ _ _ _) | (refine zS ?_; intro _ _) | refine zO ?_ | (apply Ws <;> intro hg))
          rw [show (k : Int) + 1 = ((k + 1 : Nat) : Int) by omega, decide_eq_true (show (((B.getD k []).getD k 0 : Nat) : Int) < (((A.getD k []).getD k 0 : Nat) : Int) by omega)]
          exact Ends.loop (k + 1) (by omega) (by simp only [hs]; exact (by repeat' (first | exact .nil | refine .cons rfl ?_))) rfl ⟨rfl, hk', hle⟩
        · rw [decide_eq_false h2] at hs
          repeat' (first | refine zP ?_ | refine zA ?_ | (refine zM ?_; intro _ _) | refine zX ?_ | (refine zC ?_; intro _ _ _ _) | (refine zS ?_; intro _ _) | refine zO ?_ | (apply Ws <;> intro hg))
          rw [show (k : Int) + 1 = ((k + 1 : Nat) : Int) by omega, decide_eq_false (show ¬ (((B.getD k []).getD k 0 : Nat) : Int) < (((A.getD k []).getD k 0 : Nat) : Int) by omega)]
          exact Ends.loop (k + 1) (by omega) (by simp only [hs]; exact (by repeat' (first | exact .nil | refine .cons rfl ?_))) rfl ⟨rfl, hk', hle⟩
  · have hkn : k = n := by omega
    rw [hkn] at hno ⊢
    repeat' (first | refine zP ?_ | refine zA ?_ | (refine zM ?_; intro _ _) | refine zX ?_ | (refine zC ?_; intro _ _ _ _) | (refine zS ?_; intro _ _) | (apply Ws <;> intro hg))
    exact Ends.ret1 rfl ⟨by rw [bet_end hno], rfl⟩
set_option maxHeartbeats 4000000 in
theorem better1_fs {X : HL} {vb wb ab fb rb : Nat} {q : Bool} {fv wv : Value} {l : List Nat} {B : List (List Nat)} {R : Bool}
    (hH : hasH ((ab, .row 4 0 0 [.bool q]) :: (fb, .row 23 0 0 [fv]) :: X) n0 H)
    (hV : OKV vs n m) (hR : ValsN X v vs) (hv : (vb, .row 22 0 0 [v]) ∈ X) (hw : (wb, .row 22 0 0 [wv]) ∈ X) (hB : WorA X wv B n)
    (hrm : (rb, .row 3 0 0 (nodes l)) ∈ X) (hll : l.length = m) (ho : OKD (IL l) n m)
    (hbe : betB (fun i => ((worM vs (shs n (IL l))).getD i []).getD i 0) (fun i => (B.getD i []).getD i 0) n = R) :
    FS C 64 [.slice (some ⟨rb, 0, some 0⟩) m (2 * m + 1), .pointer (some ⟨ab, 0, some 0⟩), .pointer (some ⟨vb, 0, some 0⟩), .pointer (some ⟨wb, 0, some 0⟩), .pointer (some ⟨fb, 0, some 0⟩)] H (fun _ H' => ∃ n', n0 ≤ n' ∧
      (((q = true ∨ R = false) ∧ hasH ((ab, .row 4 0 0 [.bool q]) :: (fb, .row 23 0 0 [fv]) :: X) n' H') ∨
       (q = false ∧ R = true ∧ ∃ b cp, Sl [(b, .row 3 0 0 (nodes l))] 1 (.slice (some ⟨b, 0, some 0⟩) m cp) (nodes l) ∧ hasH ((ab, .row 4 0 0 [.bool true]) :: (fb, .row 23 0 0 [.slice (some ⟨b, 0, some 0⟩) m cp]) :: (b, .row 3 0 0 (nodes l)) :: X) n' H'))) := by
  have hvl := hV.len
  have hn4 := hV.n4
  have hn1 := hV.pos
  have hm6 := hV.m6
  have hwo := hB.one_
  have hO : ∀ {Y : HL}, (rb, Ch.row 3 0 0 (nodes l)) ∈ Y → Sl Y 1 (.slice (some ⟨rb, 0, some 0⟩) m (2 * m + 1)) (ints (IL l)) := fun {Y} h => Sl.asInts ((show Sl [(rb, Ch.row 3 0 0 (nodes l))] 1 (.slice (some ⟨rb, 0, some 0⟩) m (2 * m + 1)) (nodes l) from Sl.mkd (by simp [hll])).mono fun q hq => by rw [List.mem_singleton.1 hq]; exact h)
  have hv3 : (vb, Ch.row 22 0 0 [v]) ∈ (ab, Ch.row 4 0 0 [.bool q]) :: (fb, .row 23 0 0 [fv]) :: X := .tail _ (.tail _ hv)
  have hw3 : (wb, Ch.row 22 0 0 [wv]) ∈ (ab, Ch.row 4 0 0 [.bool q]) :: (fb, .row 23 0 0 [fv]) :: X := .tail _ (.tail _ hw)
  refine FS.intro (pf := pf64) rfl rfl rfl ?_
  cases q with
  | true =>
    repeat' (first | refine zP ?_ | refine zA ?_ | (refine zM ?_; intro _ _) | refine zX ?_ | (refine zC ?_; intro _ _ _ _) | (refine zS ?_; intro _ _) | refine zO ?_ | (apply Ws <;> intro hg))
    refine WC.regionD ?_
    repeat' (first | refine zD ?_ | (refine zE ?_; intro _ _ _ _))
    refine WD.guardF rfl rfl (stands_nil _ _) ?_
    refine WD.guardF rfl rfl (stands_nil _ _) ?_
    refine WD.guardF rfl rfl (stands_nil _ _) ?_
    refine WD.guardF rfl rfl (stands_cons (.inl rfl) stands_nil') ?_
    refine WD.toWR rfl ?_
    refine WR.guardF rfl rfl ?_
    repeat' (first | refine zP ?_ | refine zA ?_ | (refine zM ?_; intro _ _) | refine zX ?_ | (refine zC ?_; intro _ _ _ _) | (refine zS ?_; intro _ _) | (apply Ws <;> intro hg))
    exact Ends.end0 ⟨n0, Nat.le_refl _, .inl ⟨.inl rfl, hH⟩⟩
  | false =>
    repeat' (first | refine zP ?_ | refine zA ?_ | (refine zM ?_; intro _ _) | refine zX ?_ | (refine zC ?_; intro _ _ _ _) | (refine zS ?_; intro _ _) | refine zO ?_ | (apply Ws <;> intro hg))
    refine WC.regionD ?_
    repeat' (first | refine zD ?_ | (refine zE ?_; intro _ _ _ _))
    refine WD.call (by first | exact gN | exact gS rfl) rfl rfl (worths_fs hH hV hR.cons.cons (hO (.tail _ (.tail _ hrm))) ho.part) ?_
    rintro _ H1 ⟨us, Mi, n1, rfl, hRW, hn1, hH1⟩
    obtain ⟨xs, hSx, _⟩ := hB.ex
    refine ⟨stands_cons (.inr (holds_at (hH1.read (.tail _ (List.mem_append_right _ (.tail _ (.tail _ hw)))) (.row _ _ _ _) (Nat.zero_le _) rfl) hSx.same)) (stands_cons (.inl rfl) (stands_cons (.inl rfl) stands_nil')), ?_⟩
    refine WD.toWR rfl ?_
    refine WR.call (by first | exact gN | exact gS rfl) rfl rfl (lbetter_fs hH1 (worA_of hvl (shs_len _ _) hRW) (hB.mono fun q hq => by simp [hq]) (by omega)) ?_
    rintro _ _ ⟨rfl, rfl⟩
    rw [hbe]
    clear hRW
    replace hH1 : hasH ((ab, .row 4 0 0 [.bool false]) :: (fb, .row 23 0 0 [fv]) :: X) n1 _ := hH1.sub ((List.sublist_append_right _ _).trans (List.sublist_cons_self _ _))
    clear hH
    cases R with
    | false =>
      repeat' (first | refine zP ?_ | refine zA ?_ | (refine zM ?_; intro _ _) | refine zX ?_ | (refine zC ?_; intro _ _ _ _) | (refine zS ?_; intro _ _) | (apply Ws <;> intro hg))
      exact Ends.end0 ⟨n1, by omega, .inl ⟨.inr rfl, hH1⟩⟩
    | true =>
      repeat' (first | refine zP ?_ | refine zA ?_ | (refine zM ?_; intro _ _) | refine zX ?_ | (refine zC ?_; intro _ _ _ _) | (refine zS ?_; intro _ _) | (apply Ws <;> intro hg))
      refine WR.call (by first | exact gN | exact gS rfl) rfl rfl (cloneR_fs (m := m) hH1 (.tail _ (.tail _ hrm)) hll (by omega)) ?_
      rintro _ H3 ⟨b, cp, n3, rfl, hSc, hn3, hH3⟩
      repeat' (first | refine zP ?_ | refine zA ?_ | (refine zM ?_; intro _ _) | refine zX ?_ | (refine zC ?_; intro _ _ _ _) | (refine zS ?_; intro _ _) | (apply Ws <;> intro hg))
      rename_i hH6
      exact Ends.end0 ⟨n3, by omega, .inr ⟨rfl, rfl, b, cp, hSc, hH6.perm (List.perm_middle (l₁ := [_, _])).symm⟩⟩
end
end Go.Proofs.Ytaipmdhnhffckaa.Sh

namespace Go.Proofs.Ytaipmdhnhffckaa.Sh
open Go Go.Abs Go.Mth
set_option linter.unusedVariables false
set_option linter.unusedSimpArgs false
theorem bet_congr {a b a' b' : Nat → Nat} {n : Nat} (h1 : ∀ i, i < n → a i = a' i) (h2 : ∀ i, i < n → b i = b' i) : betB a b n = betB a' b' n := by
  rw [Bool.eq_iff_iff, bet_iff, bet_iff]
  constructor
  · rintro ⟨g1, i, g2, g3⟩
    exact ⟨fun j hj => by rw [← h1 j hj, ← h2 j hj]; exact g1 j hj, i, g2, by rw [← h1 i g2, ← h2 i g2]; exact g3⟩
  · rintro ⟨g1, i, g2, g3⟩
    exact ⟨fun j hj => by rw [h1 j hj, h2 j hj]; exact g1 j hj, i, g2, by rw [h1 i g2, h2 i g2]; exact g3⟩
/-- What each one's own share is worth to it. -/
def ownW (vs : List (List Nat)) (o : List Int) (i : Nat) : Nat := wor (vs.getD i []) (shr o i)
theorem bet_own {vs : List (List Nat)} {n m k : Nat} {o : List Int} : betK vs n m o k = betB (ownW vs (IL (divK n m k))) (ownW vs o) n := bet_congr (fun i hi => by rw [ownL_get hi, shs_get _ hi]; rfl) fun i hi => by rw [ownL_get hi, shs_get _ hi]; rfl
theorem worM_own {vs : List (List Nat)} {n i : Nat} {o : List Int} (hvl : vs.length = n) (hi : i < n) : ((worM vs (shs n o)).getD i []).getD i 0 = ownW vs o i := by
  rw [worM_at (by omega) (by rw [shs_len]; exact hi), shs_get _ hi]; rfl
theorem bet_wor {vs : List (List Nat)} {n m k : Nat} {o : List Int} (hvl : vs.length = n) : betB (fun i => ((worM vs (shs n (IL (divK n m k)))).getD i []).getD i 0) (fun i => ((worM vs (shs n o)).getD i []).getD i 0) n = betK vs n m o k := by
  rw [bet_own]
  exact bet_congr (fun i hi => worM_own hvl hi) fun i hi => worM_own hvl hi
theorem bet_more {vs : List (List Nat)} {n m k : Nat} {o : List Int} (h : betK vs n m o k = true) : sumN (ownW vs o) n < sumN (ownW vs (IL (divK n m k))) n := by
  rw [bet_own, bet_iff] at h
  obtain ⟨h1, i, hi, h2⟩ := h
  exact sumN_lt h1 hi h2
structure KBV where
  k : Nat
  v : Value
  Mx : HL
  n : Nat
structure KBL where
  i : Nat
  k : Nat
  v : Value
  Mx : HL
  n : Nat
attribute [local irreducible] gOK WS WC WR WD Ends FS YS OpV seqK blockK loopK midK retK rdK asgK rangeEnd sat Cell
section
variable {M : HL} {n0 : Nat} {H : Heap}
set_option maxHeartbeats 16000000 in
theorem ShareBetter_fs (hH : hasH M n0 H) {a b : Int} {hs bs : List Int} (ha : 0 ≤ a ∧ a ≤ 255) (hb : 0 ≤ b ∧ b ≤ 255) (hl : hs.length = 24) (hu : ∀ x ∈ hs, 0 ≤ x ∧ x ≤ 255) (hbl : bs.length = 6) (hbb : ∀ x ∈ bs, 0 ≤ x ∧ x ≤ 255) :
    FS C 12 [.agg (heapV a b hs).toArray, .agg (bytesV bs).toArray] H (fun e H' => e = .bool true) := by
  have hone := heap_one a b hs
  have hone2 := bytes_one bs
  refine FS.intro (pf := pf12) rfl rfl rfl ?_
  repeat' (first | refine zP ?_ | refine zA ?_ | (refine zM ?_; intro _ _) | refine zX ?_ | (refine zC ?_; intro _ _ _ _) | (refine zS ?_; intro _ _))
  rename_i H1 hH1 H2 hH2
  refine WR.op (by first | exact gN | exact gS rfl) rfl (OpV.loadAll (k := 26) rfl hH2 (.tail _ (.head _)) (.row _ _ _ _) (by simp [heapV, hl])) ?_
  refine WR.call (by first | exact gN | exact gS rfl) rfl rfl (made_fs hH2 ha hb hl hu (fi := 4) (th := 5) (most := 9) (by omega) (by omega) (by omega)) ?_
  rintro v H3 ⟨ws, Mo, Mi, n3, hO, hR, hn3, hH3⟩
  clear hH1 hH2
  have hV := made_ok (a := a) (b := b) (hs := hs) (fi := 4) (th := 5) (most := 9) (by omega) (by omega) (by omega)
  rw [bytes_nat hbb] at hH3 hR
  have hbn := nat_le hbb
  have hbnl : (bs.map Int.toNat).length = 6 := by simp [hbl]
  generalize bs.map Int.toNat = bn at hH3 hR hbn hbnl
  have hmb : (n0 + 1, Ch.row 46 0 0 (numsK .u8 bn)) ∈ Mi ++ (n0 + 1, .row 46 0 0 (numsK .u8 bn)) :: (n0, .row 49 0 0 (heapV a b hs)) :: M := List.mem_append_right _ (.head _)
  generalize Mi ++ (n0 + 1, Ch.row 46 0 0 (numsK .u8 bn)) :: (n0, .row 49 0 0 (heapV a b hs)) :: M = T at hH3 hR hmb
  have hSv := hO.own.sl T
  have hRU := hR.mono (M' := Mo ++ T) fun q hq => List.mem_append_right _ hq
  replace hmb := List.mem_append_right Mo hmb
  have hwl : ws.length = 1 + a.toNat % 4 := by rw [hR.1, hV.len]
  clear hO hone hone2 hR
  generalize Mo ++ T = U at hH3 hRU hSv hmb
  generalize madeVs a b hs 4 5 9 = vs at hRU hV
  generalize 1 + a.toNat % 4 = N at hV hwl
  generalize b.toNat % (5 + 1) = m at hV
  have hN1 := hV.pos
  have hN4 := hV.n4
  have hm6 := hV.m6
  have hvl := hV.len
  have hv1 := hSv.one_
  have hr0 := hRU.2 0 (by omega)
  have hrl := hV.rowLen hN1
  repeat' (first | refine zP ?_ | refine zA ?_ | (refine zM ?_; intro _ _) | refine zX ?_ | (refine zC ?_; intro _ _ _ _) | (refine zS ?_; intro _ _) | (apply Ws <;> intro hg))
  rename_i hH5 _ _ _ hCe
  clear hCe hH3
  replace hSv := hSv.cons (p := (n3, .row 22 0 0 [v]))
  replace hRU := hRU.cons (p := (n3, .row 22 0 0 [v]))
  replace hr0 := hr0.cons (p := (n3, .row 22 0 0 [v]))
  replace hmb := List.mem_cons_of_mem (n3, Ch.row 22 0 0 [v]) hmb
  have hmv : (n3, Ch.row 22 0 0 [v]) ∈ (n3, Ch.row 22 0 0 [v]) :: U := .head _
  generalize (n3, Ch.row 22 0 0 [v]) :: U = X at hH5 hSv hRU hr0 hmb hmv
  repeat' (first | refine zP ?_ | refine zA ?_ | (refine zM ?_; intro _ _) | refine zX ?_ | (refine zC ?_; intro _ _ _ _) | (refine zS ?_; intro _ _) | (apply Ws <;> intro hg))
  rw [hrl]
  refine WC.loopX [(2, _), (3, _), (5, _), (25, _)] (fun s : KBV => [(6, s.v), (26, .int .i64 (s.k : Int))]) []
    (fun s H' => s.k ≤ m ∧ n3 + 1 ≤ s.n ∧ Own 3 1 s.v (nodes (byL bn N s.k)) s.Mx ∧ hasH (s.Mx ++ X) s.n H') (fun s => m - s.k) ⟨0, .slice none 0 0, [], n3 + 1⟩ (by repeat' (first | exact .nil | refine .cons rfl ?_)) rfl
    ⟨Nat.zero_le _, by simp only; omega, .nil, hH5⟩ ?_
  clear hH5
  rintro ⟨j, w, Mx, n4⟩ H5 ⟨hj, hn4, hOw, hH5⟩
  simp only at hj hn4 hOw hH5
  have hSv5 := hSv.mono (M' := Mx ++ X) fun q hq => List.mem_append_right _ hq
  have hmb5 := List.mem_append_right Mx hmb
  have hmv5 := List.mem_append_right Mx hmv
  dsimp only [List.cons_append, List.nil_append]
  repeat' (first | refine zP ?_ | refine zA ?_ | (refine zM ?_; intro _ _) | refine zX ?_ | (refine zC ?_; intro _ _ _ _) | (refine zS ?_; intro _ _) | (apply Ws <;> intro hg))
  refine WC.condP rfl (fun hlt => ?_) (fun hlt => ?_)
  · have hj' : j < m := by omega
    have hxb := getD_le hbn j
    repeat' (first | refine zP ?_ | refine zA ?_ | (refine zM ?_; intro _ _) | refine zX ?_ | (refine zC ?_; intro _ _ _ _) | (refine zS ?_; intro _ _) | (apply Ws <;> intro hg))
    refine WR.op (by first | exact gN | exact gS rfl) rfl (OpV.conv u8k i64k rfl (c := (bn.getD j 0 : Int)) (IntWalk.i64_in _ (by omega))) ?_
    repeat' (first | refine zP ?_ | refine zA ?_ | (refine zM ?_; intro _ _) | refine zX ?_ | (refine zC ?_; intro _ _ _ _) | (refine zS ?_; intro _ _) | (apply Ws <;> intro hg))
    rw [hwl]
    repeat' (first | refine zP ?_ | refine zA ?_ | (refine zM ?_; intro _ _) | refine zX ?_ | (refine zC ?_; intro _ _ _ _) | (refine zS ?_; intro _ _) | (apply Ws <;> intro hg))
    rw [show ((bn.getD j 0 : Nat) : Int) % (N : Int) = ((bn.getD j 0 % N : Nat) : Int) by simp]
    refine WR.append1F [] Mx X rfl rfl rfl rfl hOw hH5 (new := [.int .i64 (bn.getD j 0 % N : Nat)]) (by rfl) rfl rfl (Nat.le_refl _) (by omega) (by simp [byL]; omega) fun v3 M3 n6 H6 hO3 hH6 hn6 => ?_
    repeat' (first | refine zP ?_ | refine zA ?_ | (refine zM ?_; intro _ _) | refine zX ?_ | (refine zC ?_; intro _ _ _ _) | (refine zS ?_; intro _ _) | (apply Ws <;> intro hg))
    rw [show (j : Int) + 1 = ((j + 1 : Nat) : Int) by omega]
    refine Ends.loop ⟨j + 1, v3, M3, n6⟩ (by simp only; omega) (by repeat' (first | exact .nil | refine .cons rfl ?_)) rfl ⟨hj', by simp only; omega, ?_, hH6⟩
    simp only
    rw [byL_succ]
    simpa [nodes] using hO3
  have hjm : j = m := by omega
  subst hjm
  have hSw := hOw.sl X
  have hVal : ValsN (Mx ++ X) v vs := ⟨ws, hSv5, hRU.mono fun q hq => List.mem_append_right _ hq⟩
  clear hlt hOw hmb hmb5 hj hSv hRU hr0 hmv hSv5
  have hok := okd_of (byL_len bn N j) (byL_lt (bs := bn) (m := j) hN1)
  generalize byL bn N j = ol at hSw hok
  replace hSw := Sl.asInts hSw
  generalize IL ol = o at hSw hok
  generalize Mx ++ X = Y at hH5 hSw hVal hmv5
  repeat' (first | refine zP ?_ | refine zA ?_ | (refine zM ?_; intro _ _) | refine zX ?_ | (refine zC ?_; intro _ _ _ _) | (refine zS ?_; intro _ _) | (apply Ws <;> intro hg))
  refine WR.call (by first | exact gN | exact gS rfl) rfl rfl (worths_fs hH5 hV hVal hSw hok.part) ?_
  rintro _ H6 ⟨us, Mi, n6, rfl, hRW, hn6, hH6⟩
  clear hH5
  have hWA := worA_of (n0 := n4) hvl (shs_len N o) hRW
  have hv' : ∀ q ∈ Y, q ∈ (n4, Ch.row 23 0 0 us) :: (Mi ++ Y) := fun q hq => .tail _ (List.mem_append_right _ hq)
  replace hVal := hVal.mono hv'
  replace hSw := hSw.mono hv'
  replace hmv5 := hv' _ hmv5
  clear hv' hRW
  generalize (n4, Ch.row 23 0 0 us) :: (Mi ++ Y) = Z at hH6 hWA hVal hSw hmv5
  have hu1 := hWA.one_
  generalize Value.slice (some ⟨n4, 0, some 0⟩) N (2 * N + 1) = u at hWA hu1 ⊢
  have hvq : ∀ q ∈ Z, q ∈ (n6, Ch.row 22 0 0 [u]) :: Z := fun q hq => .tail _ hq
  repeat' (first | refine zP ?_ | refine zA ?_ | (refine zM ?_; intro _ _) | refine zX ?_ | (refine zC ?_; intro _ _ _ _) | (refine zS ?_; intro _ _) | (apply Ws <;> intro hg))
  rename_i hHA
  replace hWA := hWA.mono hvq
  replace hVal := hVal.mono hvq
  replace hSw := hSw.mono hvq
  replace hmv5 := hvq _ hmv5
  have hmw : (n6, Ch.row 22 0 0 [u]) ∈ (n6, Ch.row 22 0 0 [u]) :: Z := .head _
  clear hvq hH6
  generalize (n6, Ch.row 22 0 0 [u]) :: Z = Q at hHA hWA hVal hSw hmv5 hmw
  refine WR.call (by first | exact gN | exact gS rfl) rfl rfl (ldivisions_fs (g := 64) (vs := vs) (n := N) (m := j)
    (J := fun k M' n' => n6 ≤ n' ∧ ∃ q fv Mf, M' = (n6 + 1 + 1, Ch.row 4 0 0 [.bool q]) :: (n6 + 1, .row 23 0 0 [fv]) :: (Mf ++ Q) ∧
      ((q = false ∧ Mf = [] ∧ ∀ i, i < k → betK vs N j o i = false) ∨ (q = true ∧ ∃ k0 b cp, k0 < k ∧ betK vs N j o k0 = true ∧ (∀ i, i < k0 → betK vs N j o i = false) ∧ fv = .slice (some ⟨b, 0, some 0⟩) j cp ∧ Mf = [(b, .row 3 0 0 (nodes (divK N j k0)))] ∧ Sl Mf 1 fv (nodes (divK N j k0)))))
    hV (hVal.mono fun q hq => by simp [hq]) ?_ (fun k M' n' n'' h1 h2 => ⟨by omega, h1.2⟩) ?_ hHA ⟨by omega, false, .slice none 0 0, [], rfl, .inl ⟨rfl, rfl, fun i h => absurd h (Nat.not_lt_zero _)⟩⟩) ?_
  · rintro k _ n' ⟨_, q, fv, Mf, rfl, _⟩
    exact hVal.mono fun q hq => by simp [hq]
  · rintro k _ n' H5 ⟨hn', q, fv, Mf, rfl, hcase⟩ hk hH5
    refine FS.mono (better1_fs (l := divK N j k) (hH5.perm (List.perm_middle (l₁ := [_, _])).symm) hV (hVal.mono fun q hq => by simp [hq]) (by simp [hmv5]) (by simp [hmw]) (hWA.mono fun q hq => by simp [hq]) (.head _) (divK_len N j k) (divK_ok hN1) (bet_wor hvl)) ?_
    rintro _ H6 ⟨n6', hn6', ⟨hc, hH6⟩ | ⟨rfl, hc, b6, cp, hSc, hH6⟩⟩
    · refine ⟨_, n6', hH6.perm (List.perm_middle (l₁ := [_, _])), by omega, q, fv, Mf, rfl, ?_⟩
      rcases hcase with ⟨h1, h2, h3⟩ | ⟨h1, k0, b0, cp0, h2, h3⟩
      · refine .inl ⟨h1, h2, fun i hi => ?_⟩
        by_cases e : i = k
        · rw [e]
          rcases hc with h | h
          · rw [h1] at h; cases h
          · exact h
        · exact h3 i (by omega)
      · exact .inr ⟨h1, k0, b0, cp0, by omega, h3⟩
    · rcases hcase with ⟨_, rfl, h3⟩ | ⟨h1, _⟩
      · exact ⟨_, n6', hH6.perm (List.perm_middle (l₁ := [_, _, _])), by omega, true, .slice (some ⟨b6, 0, some 0⟩) j cp, [(b6, .row 3 0 0 (nodes (divK N j k)))], rfl, .inr ⟨rfl, k, b6, cp, by omega, hc, h3, rfl, rfl, hSc⟩⟩
      · cases h1
  rintro _ H7 ⟨_, n7, hH7, hn7, q, fv, Mf, rfl, hcase⟩
  clear hHA
  have hfl : (ILL vs).length = N := by simp [hvl]
  have hll : ∀ l ∈ ILL vs, l.length ≤ 1000 := fun l hl => by
    obtain ⟨q, hq, rfl⟩ := List.mem_map.1 hl
    rw [List.length_map, hV.row q hq]; omega
  have hc0 := vals_intro hV
  have hE := div_intro hV hok
  have hol := hok.len
  replace hVal := hVal.mono (M' := (n6 + 1 + 1, Ch.row 4 0 0 [.bool q]) :: (n6 + 1, .row 23 0 0 [fv]) :: (Mf ++ Q)) fun q hq => by simp [hq]
  replace hSw := hSw.mono (M' := (n6 + 1 + 1, Ch.row 4 0 0 [.bool q]) :: (n6 + 1, .row 23 0 0 [fv]) :: (Mf ++ Q)) fun q hq => by simp [hq]
  replace hmv5 : (n3, Ch.row 22 0 0 [v]) ∈ (n6 + 1 + 1, Ch.row 4 0 0 [.bool q]) :: (n6 + 1, .row 23 0 0 [fv]) :: (Mf ++ Q) := by simp [hmv5]
  have hma : (n6 + 1 + 1, Ch.row 4 0 0 [.bool q]) ∈ (n6 + 1 + 1, Ch.row 4 0 0 [.bool q]) :: (n6 + 1, .row 23 0 0 [fv]) :: (Mf ++ Q) := by simp
  have hmf : (n6 + 1, Ch.row 23 0 0 [fv]) ∈ (n6 + 1 + 1, Ch.row 4 0 0 [.bool q]) :: (n6 + 1, .row 23 0 0 [fv]) :: (Mf ++ Q) := by simp
  have hSM : ∀ {l : List Nat}, Sl Mf 1 fv (nodes l) → Sl ((n6 + 1 + 1, Ch.row 4 0 0 [.bool q]) :: (n6 + 1, .row 23 0 0 [fv]) :: (Mf ++ Q)) 1 fv (ints (IL l)) := fun h => Sl.asInts (h.mono fun q hq => by simp [hq])
  generalize (n6 + 1 + 1, Ch.row 4 0 0 [.bool q]) :: (n6 + 1, .row 23 0 0 [fv]) :: (Mf ++ Q) = T at hH7 hVal hSw hmv5 hma hmf hSM
  clear hmw hWA
  repeat' (first | refine zP ?_ | refine zA ?_ | (refine zM ?_; intro _ _) | refine zX ?_ | (refine zC ?_; intro _ _ _ _) | (refine zS ?_; intro _ _) | (apply Ws <;> intro hg))
  refine WR.call (by first | exact gN | exact gS rfl) rfl rfl (Better_fs hH7 hVal.rows (by simp [hvl]; omega) hll hSw (by omega)) ?_
  rintro _ H8 ⟨n8, hn8, ⟨h, _⟩ | ⟨us2, N2, m2, he, hV2, _, hbc⟩⟩
  · exact absurd hE h
  obtain ⟨rfl, rfl, rfl⟩ := okv_one hV hV2 he.symm
  clear hH7
  rcases hcase with ⟨rfl, _, hno⟩ | ⟨rfl, k0, b0, cp0, hk0, hf0, hb0, rfl, rfl, hS0⟩
  · rcases hbc with ⟨_, rfl, hH8⟩ | ⟨k2, b2, cp2, hk2, hf2, _⟩
    · repeat' (first | refine zP ?_ | refine zA ?_ | (refine zM ?_; intro _ _) | refine zX ?_ | (refine zC ?_; intro _ _ _ _) | (refine zS ?_; intro _ _) | refine zO ?_ | (apply Ws <;> intro hg))
      refine WR.call (by first | exact gN | exact gS rfl) rfl rfl (FS.works (C := C) (R := fun v H' => v = .bool true) rfl) ?_
      rintro _ _ rfl
      repeat' (first | refine zP ?_ | refine zA ?_ | (refine zM ?_; intro _ _) | refine zX ?_ | (refine zC ?_; intro _ _ _ _) | (refine zS ?_; intro _ _) | (apply Ws <;> intro hg))
      exact Ends.ret1 rfl rfl
    · rw [hno k2 hk2] at hf2; cases hf2
  · rcases hbc with ⟨hno, _⟩ | ⟨k2, b2, cp2, hk2, hf2, hb2, rfl, hS2, hH8⟩
    · rw [hno k0 hk0] at hf0; cases hf0
    obtain rfl : k2 = k0 := by
      rcases Nat.lt_trichotomy k2 k0 with h | h | h
      · rw [hb0 k2 h] at hf2; cases hf2
      · exact h
      · rw [hb2 k0 h] at hf0; cases hf0
    have hdl := divK_len N2 m2 k2
    replace hSM := (hSM hS0).cons (p := (b2, .row 3 0 0 (nodes (divK N2 m2 k2))))
    replace hVal := hVal.cons (p := (b2, .row 3 0 0 (nodes (divK N2 m2 k2))))
    replace hmv5 := List.mem_cons_of_mem (b2, Ch.row 3 0 0 (nodes (divK N2 m2 k2))) hmv5
    replace hma := List.mem_cons_of_mem (b2, Ch.row 3 0 0 (nodes (divK N2 m2 k2))) hma
    replace hmf := List.mem_cons_of_mem (b2, Ch.row 3 0 0 (nodes (divK N2 m2 k2))) hmf
    have hSo : Sl ((b2, .row 3 0 0 (nodes (divK N2 m2 k2))) :: T) 1 (.slice (some ⟨b2, 0, some 0⟩) m2 cp2) (ints (IL (divK N2 m2 k2))) := Sl.asInts (hS2.mono fun q hq => by rw [List.mem_singleton.1 hq]; simp)
    generalize (b2, Ch.row 3 0 0 (nodes (divK N2 m2 k2))) :: T = G at hH8 hVal hmv5 hma hmf hSM hSo
    repeat' (first | refine zP ?_ | refine zA ?_ | (refine zM ?_; intro _ _) | refine zX ?_ | (refine zC ?_; intro _ _ _ _) | (refine zS ?_; intro _ _) | refine zO ?_ | (apply Ws <;> intro hg))
    refine WR.call (by first | exact gN | exact gS rfl) rfl rfl (sameI_fs hH8 hSo hSM (by simp [hdl]; omega) (by simp [hdl]; omega)) ?_
    rintro _ _ ⟨rfl, rfl⟩
    rw [decide_eq_true rfl]
    clear hma hmf hSM hS0 hS2
    generalize Value.slice (some ⟨b2, 0, some 0⟩) m2 cp2 = r0 at hSo ⊢
    repeat' (first | refine zP ?_ | refine zA ?_ | (refine zM ?_; intro _ _) | refine zX ?_ | (refine zC ?_; intro _ _ _ _) | (refine zS ?_; intro _ _) | refine zO ?_ | (apply Ws <;> intro hg))
    refine WC.loopX [(5, _)] (fun s : KBL => [(11, s.v), (72, .int .i64 (s.i : Int))]) []
      (fun s H' => s.i ≤ 50 ∧ Sl (s.Mx ++ G) 1 s.v (ints (IL (divK N2 m2 s.k))) ∧ hasH (s.Mx ++ G) s.n H') (fun s => 50 - s.i) ⟨0, k2, r0, [], n8⟩ (by repeat' (first | exact .nil | refine .cons rfl ?_)) rfl ⟨Nat.zero_le _, hSo, hH8⟩ ?_
    clear hH8 hSo
    rintro ⟨i, k, r, Mz, nA⟩ HA ⟨hi, hSr, hHA⟩
    simp only at hi hSr hHA
    have hok2 := divK_ok (m := m2) (k := k) hN1
    have hE2 := div_intro hV hok2
    have hValm : ValsN (Mz ++ G) v us2 := hVal.mono fun q hq => List.mem_append_right _ hq
    have hmvm := List.mem_append_right Mz hmv5
    obtain ⟨o2, ho2⟩ : ∃ o2, o2 = IL (divK N2 m2 k) := ⟨_, rfl⟩
    rw [← ho2] at hSr hok2 hE2
    have hol2 := hok2.len
    have hsum : ∀ (l : List Int) (k : Nat), k ≤ N2 → sumN (ownW us2 l) k ≤ k * 120 := fun l k hk => sum_le_mul fun x hx => hV.wor (by omega)
    dsimp only [List.cons_append, List.nil_append]
    repeat' (first | refine zP ?_ | refine zA ?_ | (refine zM ?_; intro _ _) | refine zX ?_ | (refine zC ?_; intro _ _ _ _) | (refine zS ?_; intro _ _) | (apply Ws <;> intro hg))
    refine WC.condP rfl (fun hlt => ?_) (fun hlt => ?_)
    · have hi' : i < 50 := by omega
      repeat' (first | refine zP ?_ | refine zA ?_ | (refine zM ?_; intro _ _) | refine zX ?_ | (refine zC ?_; intro _ _ _ _) | (refine zS ?_; intro _ _) | (apply Ws <;> intro hg))
      refine WR.call (by first | exact gN | exact gS rfl) rfl rfl (worths_fs hHA hV hValm hSr hok2.part) ?_
      rintro _ HB ⟨us, Mi, nB, rfl, hRW, hnB, hHB⟩
      clear hHA
      have hWA := worA_of (n0 := nA) hvl (shs_len N2 o2) hRW
      obtain ⟨xs, hSx, hxl, hxr⟩ := hWA.ex
      have hrow := hWA.row
      have hback : ∀ {n' : Nat} {H' : Heap}, hasH ((nA, Ch.row 23 0 0 us) :: (Mi ++ (Mz ++ G))) n' H' → hasH (Mz ++ G) n' H' := fun h => h.sub ((List.sublist_append_right _ _).trans (List.sublist_cons_self _ _))
      clear hRW hWA
      generalize (nA, Ch.row 23 0 0 us) :: (Mi ++ (Mz ++ G)) = A at hHB hSx hxr hback
      generalize Value.slice (some ⟨nA, 0, some 0⟩) N2 (2 * N2 + 1) = u1 at hSx ⊢
      repeat' (first | refine zP ?_ | refine zA ?_ | (refine zM ?_; intro _ _) | refine zX ?_ | (refine zC ?_; intro _ _ _ _) | (refine zS ?_; intro _ _) | (apply Ws <;> intro hg))
      rw [hxl]
      refine WC.loopX [(5, _), (11, _), (72, _), (76, _), (77, _)] (fun s : Nat => [(13, .int .i64 (sumN (ownW us2 o2) s : Nat)), (78, .int .i64 (s : Int))]) []
        (fun s H' => s ≤ N2 ∧ H' = HB) (fun s => N2 - s) 0 (by repeat' (first | exact .nil | refine .cons rfl ?_)) rfl ⟨Nat.zero_le _, rfl⟩ ?_
      rintro j HC ⟨hj, rfl⟩
      dsimp only [List.cons_append, List.nil_append]
      repeat' (first | refine zP ?_ | refine zA ?_ | (refine zM ?_; intro _ _) | refine zX ?_ | (refine zC ?_; intro _ _ _ _) | (refine zS ?_; intro _ _) | (apply Ws <;> intro hg))
      refine WC.condP rfl (fun hlt2 => ?_) (fun hlt2 => ?_)
      · have hj' : j < N2 := by omega
        have hrj := hxr j hj'
        have hrl2 := hrow j hj'
        have hwj := worM_own (o := o2) hvl hj'
        have hbj : ownW us2 o2 j ≤ 120 := hV.wor hj'
        have hsj := hsum o2 j hj
        repeat' (first | refine zP ?_ | refine zA ?_ | (refine zM ?_; intro _ _) | refine zX ?_ | (refine zC ?_; intro _ _ _ _) | (refine zS ?_; intro _ _) | (apply Ws <;> intro hg))
        rw [show ((sumN (ownW us2 o2) j : Nat) : Int) + ((((worM us2 (shs N2 o2)).getD j []).getD j 0 : Nat) : Int) = ((sumN (ownW us2 o2) (j + 1) : Nat) : Int) by rw [hwj]; simp only [sumN]; omega]
        rw [show (j : Int) + 1 = ((j + 1 : Nat) : Int) by omega]
        exact Ends.loop (j + 1) (by omega) (by repeat' (first | exact .nil | refine .cons rfl ?_)) rfl ⟨hj', rfl⟩
      · have hjn : j = N2 := by omega
        rw [hjn]
        replace hHB := hback hHB
        clear hback hSx hxr hrow
        repeat' (first | refine zP ?_ | refine zA ?_ | (refine zM ?_; intro _ _) | refine zX ?_ | (refine zC ?_; intro _ _ _ _) | (refine zS ?_; intro _ _) | (apply Ws <;> intro hg))
        refine WR.call (by first | exact gN | exact gS rfl) rfl rfl (Better_fs hHB hValm.rows (by simp [hvl]; omega) hll hSr (by omega)) ?_
        rintro _ HD ⟨nD, hnD, ⟨h, _⟩ | ⟨us3, N3, m3, he3, hV3, _, ⟨_, rfl, hHD⟩ | ⟨k3, b3, cp3, hk3, hf3, _, rfl, hS3, hHD⟩⟩⟩
        · exact absurd hE2 h
        · repeat' (first | refine zP ?_ | refine zA ?_ | (refine zM ?_; intro _ _) | refine zX ?_ | (refine zC ?_; intro _ _ _ _) | (refine zS ?_; intro _ _) | refine zO ?_ | (apply Ws <;> intro hg))
          refine WR.call (by first | exact gN | exact gS rfl) rfl rfl (FS.works (C := C) (R := fun v H' => v = .bool true) rfl) ?_
          rintro _ _ rfl
          repeat' (first | refine zP ?_ | refine zA ?_ | (refine zM ?_; intro _ _) | refine zX ?_ | (refine zC ?_; intro _ _ _ _) | (refine zS ?_; intro _ _) | (apply Ws <;> intro hg))
          exact Ends.ret1 rfl rfl
        · obtain ⟨rfl, rfl, rfl⟩ := okv_one hV hV3 he3.symm
          repeat' (first | refine zP ?_ | refine zA ?_ | (refine zM ?_; intro _ _) | refine zX ?_ | (refine zC ?_; intro _ _ _ _) | (refine zS ?_; intro _ _) | refine zO ?_ | (apply Ws <;> intro hg))
          have hdl3 := divK_len N3 m3 k3
          have hok3 := divK_ok (m := m3) (k := k3) hN1
          have hmore := bet_more hf3
          obtain ⟨r3, hr3⟩ : ∃ r3, r3 = Value.slice (some ⟨b3, 0, some 0⟩) m3 cp3 := ⟨_, rfl⟩
          rw [← hr3] at hS3 ⊢
          obtain ⟨E, hEE⟩ : ∃ E, E = ((b3, Ch.row 3 0 0 (nodes (divK N3 m3 k3))) :: Mz) ++ G := ⟨_, rfl⟩
          have hup : ∀ q ∈ Mz ++ G, q ∈ E := fun q hq => by rw [hEE]; exact .tail _ hq
          replace hHD : hasH E nD HD := by rw [hEE]; exact hHD
          have hS3' : Sl E 1 r3 (ints (IL (divK N3 m3 k3))) := Sl.asInts (hS3.mono fun q hq => by rw [List.mem_singleton.1 hq, hEE]; exact .head _)
          replace hValm := hValm.mono hup
          replace hmvm := hup _ hmvm
          replace hSr := hSr.mono hup
          obtain ⟨wx, hWx, _⟩ := hValm.ex
          clear hup hHB hS3
          refine WC.regionD ?_
          repeat' (first | refine zD ?_ | (refine zE ?_; intro _ _ _ _))
          refine WD.call (by first | exact gN | exact gS rfl) rfl rfl (proper_fs hHD hV hValm hS3' hok3) ?_
          rintro _ HE ⟨rfl, nE, hnE, hHE⟩
          refine ⟨stands_nil _ _, ?_⟩
          clear hHD
          repeat' (first | refine zD ?_ | (refine zE ?_; intro _ _ _ _))
          refine WD.call (by first | exact gN | exact gS rfl) rfl rfl (worths_fs hHE hV hValm hS3' hok3.part) ?_
          rintro _ HF ⟨us5, Mi5, nF, rfl, hRW5, hnF, hHF⟩
          refine ⟨stands_cons (.inr (holds_at (hHF.read (.tail _ (List.mem_append_right _ hmvm)) (.row _ _ _ _) (Nat.zero_le _) rfl) hWx.same)) (stands_cons (.inl rfl) (stands_cons (.inl rfl) stands_nil')), ?_⟩
          refine WD.toWR rfl ?_
          have hW5 := worA_of (n0 := nE) hvl (shs_len N3 (IL (divK N3 m3 k3))) hRW5
          have hu5 : ∀ q ∈ E, q ∈ (nE, Ch.row 23 0 0 us5) :: (Mi5 ++ E) := fun q hq => .tail _ (List.mem_append_right _ hq)
          refine WR.call (by first | exact gN | exact gS rfl) rfl rfl (worths_fs hHF hV (hValm.mono hu5) (hSr.mono hu5) hok2.part) ?_
          rintro _ HG ⟨us6, Mi6, nG, rfl, hRW6, hnG, hHG⟩
          clear hHE hHF
          refine WR.call (by first | exact gN | exact gS rfl) rfl rfl (lbetter_fs hHG (hW5.mono fun q hq => .tail _ (List.mem_append_right _ hq)) (worA_of hvl (shs_len _ _) hRW6) (by omega)) ?_
          rintro _ _ ⟨rfl, rfl⟩
          rw [bet_wor hvl, hf3]
          replace hHG : hasH E nG _ := hHG.sub (((List.sublist_append_right _ _).trans (List.sublist_cons_self _ _)).trans ((List.sublist_append_right _ _).trans (List.sublist_cons_self _ _)))
          clear hRW5 hRW6 hW5 hu5
          repeat' (first | refine zP ?_ | refine zA ?_ | (refine zM ?_; intro _ _) | refine zX ?_ | (refine zC ?_; intro _ _ _ _) | (refine zS ?_; intro _ _) | refine zO ?_ | (apply Ws <;> intro hg))
          refine WR.call (by first | exact gN | exact gS rfl) rfl rfl (worths_fs hHG hV hValm hS3' hok3.part) ?_
          rintro _ HI ⟨us7, Mi7, nI, rfl, hRW7, hnI, hHI⟩
          clear hHG
          have hWA := worA_of (n0 := nG) hvl (shs_len N3 (IL (divK N3 m3 k3))) hRW7
          obtain ⟨xs, hSx, hxl, hxr⟩ := hWA.ex
          have hrow := hWA.row
          have hback : ∀ {n' : Nat} {H' : Heap}, hasH ((nG, Ch.row 23 0 0 us7) :: (Mi7 ++ E)) n' H' → hasH E n' H' := fun h => h.sub ((List.sublist_append_right _ _).trans (List.sublist_cons_self _ _))
          clear hRW7 hWA
          generalize (nG, Ch.row 23 0 0 us7) :: (Mi7 ++ E) = A at hHI hSx hxr hback
          generalize Value.slice (some ⟨nG, 0, some 0⟩) N3 (2 * N3 + 1) = u1 at hSx ⊢
          have hS0 := hsum o2 N3 (Nat.le_refl _)
          repeat' (first | refine zP ?_ | refine zA ?_ | (refine zM ?_; intro _ _) | refine zX ?_ | (refine zC ?_; intro _ _ _ _) | (refine zS ?_; intro _ _) | (apply Ws <;> intro hg))
          rw [hxl]
          refine WC.loopX [(5, _), (11, _), (16, _), (72, _), (119, _), (120, _)] (fun s : Nat => [(13, .int .i64 ((sumN (ownW us3 o2) N3 : Nat) - (sumN (ownW us3 (IL (divK N3 m3 k3))) s : Nat))), (121, .int .i64 (s : Int))]) []
            (fun s H' => s ≤ N3 ∧ H' = HI) (fun s => N3 - s) 0 (by simp only [sumN, Int.natCast_zero, Int.sub_zero]; exact (by repeat' (first | exact .nil | refine .cons rfl ?_))) rfl ⟨Nat.zero_le _, rfl⟩ ?_
          rintro j2 HJ ⟨hj2, rfl⟩
          dsimp only [List.cons_append, List.nil_append]
          repeat' (first | refine zP ?_ | refine zA ?_ | (refine zM ?_; intro _ _) | refine zX ?_ | (refine zC ?_; intro _ _ _ _) | (refine zS ?_; intro _ _) | (apply Ws <;> intro hg))
          refine WC.condP rfl (fun hlt3 => ?_) (fun hlt3 => ?_)
          · have hj' : j2 < N3 := by omega
            have hrj := hxr j2 hj'
            have hrl2 := hrow j2 hj'
            have hwj := worM_own (o := IL (divK N3 m3 k3)) hvl hj'
            have hbj : ownW us3 (IL (divK N3 m3 k3)) j2 ≤ 120 := hV.wor hj'
            have hsj := hsum (IL (divK N3 m3 k3)) j2 hj2
            rw [← hwj] at hbj
            repeat' (first | refine zP ?_ | refine zA ?_ | (refine zM ?_; intro _ _) | refine zX ?_ | (refine zC ?_; intro _ _ _ _) | (refine zS ?_; intro _ _) | (apply Ws <;> intro hg))
            rw [show ((sumN (ownW us3 o2) N3 : Nat) : Int) - ((sumN (ownW us3 (IL (divK N3 m3 k3))) j2 : Nat) : Int) - ((((worM us3 (shs N3 (IL (divK N3 m3 k3)))).getD j2 []).getD j2 0 : Nat) : Int) = ((sumN (ownW us3 o2) N3 : Nat) : Int) - ((sumN (ownW us3 (IL (divK N3 m3 k3))) (j2 + 1) : Nat) : Int) by rw [hwj]; simp only [sumN]; omega]
            rw [show (j2 : Int) + 1 = ((j2 + 1 : Nat) : Int) by omega]
            exact Ends.loop (j2 + 1) (by omega) (by repeat' (first | exact .nil | refine .cons rfl ?_)) rfl ⟨hj', rfl⟩
          · have hjn2 : j2 = N3 := by omega
            rw [hjn2]
            replace hHI := hback hHI
            clear hback hSx hxr hrow
            repeat' (first | refine zP ?_ | refine zA ?_ | (refine zM ?_; intro _ _) | refine zX ?_ | (refine zC ?_; intro _ _ _ _) | (refine zS ?_; intro _ _) | refine zO ?_ | (apply Ws <;> intro hg))
            rw [show (i : Int) + 1 = ((i + 1 : Nat) : Int) by omega]
            rw [hEE] at hHI hS3'
            exact Ends.loop ⟨i + 1, k3, r3, (b3, .row 3 0 0 (nodes (divK N3 m3 k3))) :: Mz, nI⟩ (by simp only; omega) (by repeat' (first | exact .nil | refine .cons rfl ?_)) rfl ⟨hi', hS3', hHI⟩
    · repeat' (first | refine zP ?_ | refine zA ?_ | (refine zM ?_; intro _ _) | refine zX ?_ | (refine zC ?_; intro _ _ _ _) | (refine zS ?_; intro _ _) | (apply Ws <;> intro hg))
      refine WR.call (by first | exact gN | exact gS rfl) rfl rfl (FS.works (C := C) (R := fun v H' => v = .bool true) rfl) ?_
      rintro _ _ rfl
      repeat' (first | refine zP ?_ | refine zA ?_ | (refine zM ?_; intro _ _) | refine zX ?_ | (refine zC ?_; intro _ _ _ _) | (refine zS ?_; intro _ _) | (apply Ws <;> intro hg))
      exact Ends.ret1 rfl rfl
end
end Go.Proofs.Ytaipmdhnhffckaa.Sh
