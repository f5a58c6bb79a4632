/- Texts of the law, joined. -/
import Derived.Test.YtaipmdhnhffckaaJ2
import Derived.Test.YtaipmdhnhffckaaJ1
/- One after the other, rings turned. -/
namespace Go.Proofs.Ytaipmdhnhffckaa.Sh
open Go Go.Abs Go.Mth
set_option linter.unusedVariables false
set_option linter.unusedSimpArgs false

/-- The first number of which something holds, or -1. -/
def firstN (p : Nat → Bool) : Nat → Int
  | 0 => -1
  | k + 1 => if firstN p k < 0 ∧ p k = true then (k : Int) else firstN p k
theorem first_none {p : Nat → Bool} : ∀ {n : Nat}, firstN p n < 0 ↔ ∀ i, i < n → p i = false
  | 0 => ⟨fun _ i h => absurd h (Nat.not_lt_zero _), fun _ => by simp [firstN]⟩
  | n + 1 => by
    have ih := @first_none p n
    unfold firstN
    split
    · rename_i h
      constructor
      · intro h2; omega
      · intro h2; rw [h2 n (by omega)] at h; cases h.2
    · rename_i h
      constructor
      · intro h2 i hi
        by_cases e : i = n
        · subst e
          cases hp : p i with
          | false => rfl
          | true => exact absurd ⟨h2, hp⟩ h
        · exact ih.1 h2 i (by omega)
      · exact fun h2 => ih.2 fun i hi => h2 i (by omega)
theorem first_at {p : Nat → Bool} {k : Nat} : ∀ {n : Nat}, k < n → p k = true → (∀ i, i < k → p i = false) → firstN p n = (k : Int)
  | 0, h, _, _ => absurd h (Nat.not_lt_zero _)
  | n + 1, h, hp, hb => by
    unfold firstN
    by_cases e : k = n
    · subst e; rw [if_pos ⟨first_none.2 hb, hp⟩]
    · have := first_at (n := n) (by omega) hp hb
      rw [if_neg (by rw [this]; omega), this]
theorem first_some {p : Nat → Bool} {n : Nat} (h : 0 ≤ firstN p n) : (firstN p n).toNat < n ∧ p (firstN p n).toNat = true ∧ ∀ i, i < (firstN p n).toNat → p i = false := by
  have hex : ∃ i, i < n ∧ p i = true := Classical.byContradiction fun hn => by
    have := (first_none (p := p) (n := n)).2 fun i hi => by
      cases hp : p i with
      | false => rfl
      | true => exact absurd ⟨i, hi, hp⟩ hn
    omega
  obtain ⟨i, hi, hp⟩ := hex
  -- least
  have : ∃ k, k < n ∧ p k = true ∧ ∀ i, i < k → p i = false := by
    clear h
    induction i using Nat.strongRecOn with
    | ind i ih =>
      by_cases h2 : ∃ j, j < i ∧ p j = true
      · obtain ⟨j, hj, hpj⟩ := h2; exact ih j hj (by omega) hpj
      · exact ⟨i, hi, hp, fun j hj => by
          cases hpj : p j with
          | false => rfl
          | true => exact absurd ⟨j, hj, hpj⟩ h2⟩
  obtain ⟨k, hk, hpk, hb⟩ := this
  rw [first_at hk hpk hb]
  simp only [Int.toNat_natCast]
  exact ⟨hk, hpk, hb⟩
/-- The smallest one who envies another one, and the smallest one whom nobody envies. -/
def enP (vs : List (List Nat)) (ss : List Nat) (j : Nat) : Int := firstN (fun i => envP vs ss i j) vs.length
def calmP (vs : List (List Nat)) (ss : List Nat) : Int := firstN (fun j => decide (enP vs ss j < 0)) vs.length
/-- The way from finder 0. -/
def posW (vs : List (List Nat)) (ss : List Nat) : Nat → Nat
  | 0 => 0
  | t + 1 => (enP vs ss (posW vs ss t)).toNat
def wayL (vs : List (List Nat)) (ss : List Nat) (t : Nat) : List Nat := (List.range t).map (posW vs ss)
def RingR (vs : List (List Nat)) (ss : List Nat) (r : List Nat) : Prop := ∃ s t, s < t ∧ (wayL vs ss t).Nodup ∧ posW vs ss s = posW vs ss t ∧ r = (wayL vs ss t).drop s
theorem way_len (vs : List (List Nat)) (ss : List Nat) (t : Nat) : (wayL vs ss t).length = t := by simp [wayL]
theorem way_get {vs : List (List Nat)} {ss : List Nat} {i t : Nat} (h : i < t) : (wayL vs ss t).getD i 0 = posW vs ss i := by rw [getD_eq (by rw [way_len]; exact h)]; simp [wayL]
theorem way_mem {vs : List (List Nat)} {ss : List Nat} {x t : Nat} : x ∈ wayL vs ss t ↔ ∃ i, i < t ∧ posW vs ss i = x := by simp [wayL]
theorem way_inj {vs : List (List Nat)} {ss : List Nat} {t i j : Nat} (h : (wayL vs ss t).Nodup) (hi : i < t) (hj : j < t) (e : posW vs ss i = posW vs ss j) : i = j := by
  have h1 : i < (wayL vs ss t).length := by rw [way_len]; exact hi
  have h2 : j < (wayL vs ss t).length := by rw [way_len]; exact hj
  exact nodup_inj h h1 h2 (by simpa [wayL] using e)
theorem ring_one {vs : List (List Nat)} {ss : List Nat} {r r' : List Nat} (h : RingR vs ss r) (h' : RingR vs ss r') : r = r' := by
  obtain ⟨s, t, h1, h2, h3, rfl⟩ := h
  obtain ⟨s', t', g1, g2, g3, rfl⟩ := h'
  have : t = t' := by
    rcases Nat.lt_trichotomy t t' with h | h | h
    · have := way_inj g2 (by omega) h h3; omega
    · exact h
    · have := way_inj h2 (by omega) h g3; omega
  subst this
  have : s = s' := way_inj h2 h1 g1 (by rw [h3, g3])
  subst this; rfl
/-- A division with its ring turned. -/
def RotR (r ss ss' : List Nat) : Prop := ss'.length = ss.length ∧ (∀ q, q < r.length → ss'.getD (r.getD ((q + 1) % r.length) 0) 0 = ss.getD (r.getD q 0) 0) ∧ ∀ j, j ∉ r → ss'.getD j 0 = ss.getD j 0
theorem mod_pred {l q : Nat} (h : q < l) : ((q + (l - 1)) % l + 1) % l = q := by
  rw [Nat.add_mod, Nat.mod_mod, ← Nat.add_mod, show q + (l - 1) + 1 = q + l by omega, Nat.add_mod_right, Nat.mod_eq_of_lt h]
theorem mem_pred {r : List Nat} {j : Nat} (h : j ∈ r) : ∃ q, q < r.length ∧ r.getD ((q + 1) % r.length) 0 = j := by
  obtain ⟨i, hi, rfl⟩ := List.mem_iff_getElem.1 h
  refine ⟨(i + (r.length - 1)) % r.length, Nat.mod_lt _ (by omega), ?_⟩
  rw [mod_pred hi, getD_eq hi]
theorem rot_one {r ss a b : List Nat} (h : RotR r ss a) (h' : RotR r ss b) : a = b := ext_getD (a := 0) (by rw [h.1, h'.1]) fun j hj => by
  by_cases hm : j ∈ r
  · obtain ⟨q, hq, rfl⟩ := mem_pred hm
    rw [h.2.1 q hq, h'.2.1 q hq]
  · rw [h.2.2 j hm, h'.2.2 j hm]
/-- One turn, several, and all that are needed. -/
def TurnR (vs : List (List Nat)) (ss ss' : List Nat) : Prop := ∃ r, RingR vs ss r ∧ RotR r ss ss'
inductive TurnsR (vs : List (List Nat)) : List Nat → List Nat → Prop
  | refl (ss : List Nat) : TurnsR vs ss ss
  | snoc {a b c : List Nat} (h : TurnsR vs a b) (hc : calmP vs b < 0) (ht : TurnR vs b c) : TurnsR vs a c
theorem TurnR.one {vs : List (List Nat)} {ss a b : List Nat} (h : TurnR vs ss a) (h' : TurnR vs ss b) : a = b := by
  obtain ⟨r, h1, h2⟩ := h
  obtain ⟨r', g1, g2⟩ := h'
  obtain rfl := ring_one h1 g1
  exact rot_one h2 g2
theorem TurnsR.head {vs : List (List Nat)} {a c : List Nat} (h : TurnsR vs a c) : a = c ∨ (calmP vs a < 0 ∧ ∃ b, TurnR vs a b ∧ TurnsR vs b c) := by
  induction h with
  | refl => exact .inl rfl
  | snoc h hc ht ih =>
    rename_i x y
    right
    rcases ih with rfl | ⟨h1, b, h2, h3⟩
    · exact ⟨hc, _, ht, .refl _⟩
    · exact ⟨h1, b, h2, .snoc h3 hc ht⟩
theorem TurnsR.cons {vs : List (List Nat)} {a b c : List Nat} (hc : calmP vs a < 0) (ht : TurnR vs a b) (h : TurnsR vs b c) : TurnsR vs a c := by
  induction h with
  | refl => exact .snoc (.refl _) hc ht
  | snoc h1 h2 h3 ih => exact .snoc ih h2 h3
theorem TurnsR.one {vs : List (List Nat)} {a c d : List Nat} (h : TurnsR vs a c) (hc : 0 ≤ calmP vs c) (h' : TurnsR vs a d) (hd : 0 ≤ calmP vs d) : c = d := by
  induction h generalizing d with
  | refl =>
    rcases h'.head with h | ⟨h1, _⟩
    · exact h
    · omega
  | snoc h1 h2 h3 ih =>

    -- compare by the head
    have hx := TurnsR.snoc h1 h2 h3
    clear ih h1 h2 h3
    have key : ∀ {p q : List Nat}, TurnsR vs p q → 0 ≤ calmP vs q → ∀ {e}, TurnsR vs p e → ∃ b, TurnsR vs e b ∧ b = q := by
      intro p q hpq hq e hpe
      induction hpe with
      | refl => exact ⟨q, hpq, rfl⟩
      | snoc g1 g2 g3 ih =>
        obtain ⟨b, hb, rfl⟩ := ih
        rcases hb.head with h | ⟨k1, b2, k2, k3⟩
        · subst h; omega
        · obtain rfl := k2.one g3
          exact ⟨_, k3, rfl⟩
    obtain ⟨b, hb, rfl⟩ := key hx hc h'
    rcases hb.head with h | ⟨k1, _⟩
    · exact h.symm
    · omega
/-- What is given after so many things. -/
inductive GiveR (vs : List (List Nat)) (n : Nat) : Nat → List Nat → Prop
  | zero : GiveR vs n 0 (List.replicate n 0)
  | succ {k j : Nat} {a b : List Nat} (h : GiveR vs n k a) (ht : TurnsR vs a b) (hc : calmP vs b = (j : Int)) : GiveR vs n (k + 1) (b.set j (b.getD j 0 ||| 2 ^ k))
theorem GiveR.one {vs : List (List Nat)} {n k : Nat} {a : List Nat} (h : GiveR vs n k a) : ∀ {b : List Nat}, GiveR vs n k b → a = b := by
  induction h with
  | zero => intro b h'; cases h'; rfl
  | succ h ht hc ih =>
    intro b h'
    cases h' with
    | succ g1 g2 g3 =>
      obtain rfl := ih g1
      obtain rfl := ht.one (by omega) g2 (by omega)
      rw [hc] at g3
      obtain rfl := Int.ofNat.inj g3
      rfl

section
variable {vs : List (List Nat)} {n m : Nat} {ss : List Nat}
theorem all_envied (hc : calmP vs ss < 0) {j : Nat} (hj : j < vs.length) : 0 ≤ enP vs ss j := by
  have := first_none.1 hc j hj
  simp only [decide_eq_false_iff_not, Int.not_lt] at this
  exact this
theorem pos_lt (hn : 1 ≤ vs.length) (hc : calmP vs ss < 0) : ∀ t, posW vs ss t < vs.length
  | 0 => hn
  | t + 1 => by
    have h1 := all_envied hc (pos_lt hn hc t)
    exact (first_some h1).1
theorem pos_envies (hn : 1 ≤ vs.length) (hc : calmP vs ss < 0) (t : Nat) : envP vs ss (posW vs ss (t + 1)) (posW vs ss t) = true :=
  (first_some (all_envied hc (pos_lt hn hc t))).2.1
theorem ring_props (hn : 1 ≤ vs.length) (hc : calmP vs ss < 0) {r : List Nat} (h : RingR vs ss r) : 1 ≤ r.length ∧ r.Nodup ∧ (∀ x ∈ r, x < vs.length) ∧ ∀ q, q < r.length → envP vs ss (r.getD ((q + 1) % r.length) 0) (r.getD q 0) = true := by
  obtain ⟨s, t, h1, h2, h3, rfl⟩ := h
  have hl : ((wayL vs ss t).drop s).length = t - s := by rw [List.length_drop, way_len]
  have hg : ∀ q, q < t - s → ((wayL vs ss t).drop s).getD q 0 = posW vs ss (s + q) := fun q hq => by
    rw [getD_eq (by rw [hl]; exact hq), List.getElem_drop, ← getD_eq (a := 0), way_get (by omega)]
  refine ⟨by omega, h2.sublist (List.drop_sublist _ _), fun x hx => ?_, fun q hq => ?_⟩
  · obtain ⟨i, _, rfl⟩ := way_mem.1 (List.mem_of_mem_drop hx)
    exact pos_lt hn hc i
  · rw [hl] at hq ⊢
    rw [hg q hq]
    by_cases e : q + 1 = t - s
    · rw [e, Nat.mod_self, hg 0 (by omega), Nat.add_zero, h3, show t = (s + q) + 1 by omega]
      exact pos_envies hn hc _
    · rw [Nat.mod_eq_of_lt (by omega), hg (q + 1) (by omega), ← Nat.add_assoc]
      exact pos_envies hn hc _
theorem rot_own (hn : 1 ≤ vs.length) (hc : calmP vs ss < 0) {ss' : List Nat} (h : TurnR vs ss ss') :
    ss'.length = ss.length ∧ (∀ j, ∃ j', (j < vs.length → j' < vs.length) ∧ ss'.getD j 0 = ss.getD j' 0) ∧ (∀ i, i < vs.length → wor (vs.getD i []) (ss.getD i 0) ≤ wor (vs.getD i []) (ss'.getD i 0)) ∧ ∃ i, i < vs.length ∧ wor (vs.getD i []) (ss.getD i 0) < wor (vs.getD i []) (ss'.getD i 0) := by
  obtain ⟨r, h1, h2, h3, h4⟩ := h
  obtain ⟨p1, p2, p3, p4⟩ := ring_props hn hc h1
  have hgrow : ∀ q, q < r.length → r.getD ((q + 1) % r.length) 0 < vs.length ∧ wor (vs.getD (r.getD ((q + 1) % r.length) 0) []) (ss.getD (r.getD ((q + 1) % r.length) 0) 0) < wor (vs.getD (r.getD ((q + 1) % r.length) 0) []) (ss'.getD (r.getD ((q + 1) % r.length) 0) 0) := fun q hq => by
    have := p4 q hq
    rw [h3 q hq]
    exact ⟨p3 _ (getD_mem (Nat.mod_lt _ (by omega))), of_decide_eq_true this⟩
  refine ⟨h2, fun j => ?_, fun i hi => ?_, ?_⟩
  · by_cases hm : j ∈ r
    · obtain ⟨q, hq, rfl⟩ := mem_pred hm
      exact ⟨_, fun _ => p3 _ (getD_mem hq), h3 q hq⟩
    · exact ⟨j, fun h => h, h4 j hm⟩
  · by_cases hm : i ∈ r
    · obtain ⟨q, hq, rfl⟩ := mem_pred hm
      exact Nat.le_of_lt (hgrow q hq).2
    · rw [h4 i hm]; exact Nat.le_refl _
  · exact ⟨_, hgrow 0 p1⟩
/-- The sum of own shares, which grows. -/
def ownS (vs : List (List Nat)) (ss : List Nat) : Nat := sumN (fun i => wor (vs.getD i []) (ss.getD i 0)) vs.length
/-- Nobody envies anybody by more than one thing. -/
def EF (vs : List (List Nat)) (ss : List Nat) : Prop := ∀ a b, a < vs.length → b < vs.length → muchP vs ss a b = false
theorem much_mono {f : List Nat} {a a' b : Nat} (h : muchB f a b = false) (hle : wor f a ≤ wor f a') : muchB f a' b = false := by
  rw [not_much] at h ⊢
  rcases h with h | ⟨k, h1, h2, h3⟩
  · exact .inl (by omega)
  · exact .inr ⟨k, h1, h2, by omega⟩
theorem EF.turn (hn : 1 ≤ vs.length) (hc : calmP vs ss < 0) {ss' : List Nat} (h : TurnR vs ss ss') (he : EF vs ss) : EF vs ss' := fun a b ha hb => by
  obtain ⟨_, h2, h3, _⟩ := rot_own hn hc h
  obtain ⟨b', hb', e⟩ := h2 b
  unfold muchP
  rw [e]
  exact much_mono (he a b' ha (hb' hb)) (h3 a ha)
theorem EF.turns (hn : 1 ≤ vs.length) {a b : List Nat} (h : TurnsR vs a b) (he : EF vs a) : EF vs b := by
  induction h with
  | refl => exact he
  | snoc _ hc ht ih => exact EF.turn hn hc ht ih
theorem TurnsR.lt (hn : 1 ≤ vs.length) {a b : List Nat} {x : Nat} (h : TurnsR vs a b) (hb : ∀ i, i < vs.length → a.getD i 0 < x) : ∀ i, i < vs.length → b.getD i 0 < x := by
  induction h with
  | refl => exact hb
  | snoc _ hc ht ih =>
    intro i hi
    obtain ⟨_, h2, _⟩ := rot_own hn hc ht
    obtain ⟨j, hj, e⟩ := h2 i
    rw [e]; exact ih j (hj hi)
theorem TurnsR.len (hn : 1 ≤ vs.length) {a b : List Nat} (h : TurnsR vs a b) : b.length = a.length := by
  induction h with
  | refl => rfl
  | snoc _ hc ht ih => rw [(rot_own hn hc ht).1, ih]
theorem EF.give (hV : OKV vs n m) {k j : Nat} (hk : k < m) (hc : calmP vs ss = (j : Int)) (hl : ss.length = vs.length) (hb : ∀ i, i < vs.length → ss.getD i 0 < 2 ^ k) (he : EF vs ss) : EF vs (ss.set j (ss.getD j 0 ||| 2 ^ k)) := fun a b ha hb' => by
  have hj := (first_some (p := fun j => decide (enP vs ss j < 0)) (n := vs.length) (by show 0 ≤ calmP vs ss; omega))
  rw [show firstN (fun j => decide (enP vs ss j < 0)) vs.length = (j : Int) from hc, Int.toNat_natCast] at hj
  obtain ⟨hj1, hj2, _⟩ := hj
  have hjn : ∀ i, i < vs.length → envP vs ss i j = false := first_none.1 (of_decide_eq_true hj2)
  have hfree : ∀ i, i < vs.length → (ss.getD i 0).testBit k = false := fun i hi => Nat.testBit_lt_two_pow (hb i hi)
  have hrow : ∀ i, i < vs.length → k < (vs.getD i []).length := fun i hi => by rw [hV.rowLen (by rw [← hV.len]; exact hi)]; exact hk
  unfold muchP
  rw [getD_set' (by omega), getD_set' (by omega)]
  by_cases e1 : b = j
  · rw [if_pos e1]
    by_cases e2 : a = j
    · rw [if_pos e2]; exact much_self _ _
    · rw [if_neg e2]
      have h1 := hjn a ha
      have h2 := wor_or (f := vs.getD a []) (hfree j hj1) (hrow a ha)
      have h3 : ¬ wor (vs.getD a []) (ss.getD a 0) < wor (vs.getD a []) (ss.getD j 0) := of_decide_eq_false h1
      refine not_much.2 (.inr ⟨k, by have := hV.m6; omega, ?_, by omega⟩)
      rw [Nat.testBit_or, Nat.testBit_two_pow]; simp
  · rw [if_neg e1]
    by_cases e2 : a = j
    · rw [if_pos e2]
      subst e2
      refine much_mono (he a b ha hb') ?_
      rw [wor_or (hfree a hj1) (hrow a ha)]; omega
    · rw [if_neg e2]; exact he a b ha hb'
end
end Go.Proofs.Ytaipmdhnhffckaa.Sh

namespace Go.Proofs.Ytaipmdhnhffckaa.Sh
open Go Go.Abs Go.Mth
set_option linter.unusedVariables false
set_option linter.unusedSimpArgs false
/-- Who has each thing, told from shares. -/
def ownN (ss : List Nat) (k : Nat) : Int := firstN (fun j => (ss.getD j 0).testBit k) ss.length
/-- Things without an owner, as bits. -/
def leftN (o : List Int) (m : Nat) : Nat := maskN ((List.range m).filter (freeO o))
structure KX where
  k : Nat
  l : List Int
  n : Nat
attribute [local irreducible] gOK WS WC WR WD Ends FS YS OpV seqK blockK loopK midK retK rdK asgK rangeEnd sat Cell
section
variable {M : HL} {n0 : Nat} {H : Heap} {v w : Value} {vs : List (List Nat)} {n m : Nat}
end
end Go.Proofs.Ytaipmdhnhffckaa.Sh

namespace Go.Proofs.Ytaipmdhnhffckaa.Sh
open Go Go.Abs Go.Mth
set_option linter.unusedVariables false
set_option linter.unusedSimpArgs false
/-- The error of an order. -/
def ordAt (n : Nat) (o : List Int) (i : Nat) : Int := if ¬ (0 ≤ o.getD i 0 ∧ o.getD i 0 < (n : Int)) then 2 else if o.getD i 0 ∈ o.take i then 6 else 0
def turnE (fs : List (List Int)) (o : List Int) : Int := if valsE fs ≠ 0 then valsE fs else if o.length ≠ fs.length then 5 else firstE (ordAt fs.length o) o.length
attribute [local irreducible] gOK WS WC WR WD Ends FS YS OpV seqK blockK loopK midK retK rdK asgK rangeEnd sat Cell
section
variable {M : HL} {n0 : Nat} {H : Heap} {v w : Value} {vs : List (List Nat)} {n m : Nat}
end
end Go.Proofs.Ytaipmdhnhffckaa.Sh

namespace Go.Proofs.Ytaipmdhnhffckaa.Sh
open Go Go.Abs Go.Mth
set_option linter.unusedVariables false
set_option linter.unusedSimpArgs false
structure KC where
  k : Nat
  n : Nat
attribute [local irreducible] gOK WS WC WR WD Ends FS YS OpV seqK blockK loopK midK retK rdK asgK rangeEnd sat Cell
section
variable {M : HL} {n0 : Nat} {H : Heap} {v w : Value}
theorem proper1_fs {nc n : Nat} {ws : List Value} (hH : hasH M n0 H) (hW : Sl M 1 v ws) (hwl : ws.length = n) {x : Int} (hx : 0 ≤ x ∧ x < (n : Int)) (hm : (nc, Ch.row 22 0 0 [v]) ∈ M) :
    FS C 103 [.int .i64 x, .pointer (some ⟨nc, 0, some 0⟩)] H (fun e H' => e = .bool false ∧ H' = H) := by
  refine FS.intro (pf := pf103) rfl rfl rfl ?_
  repeat' (first | refine zP ?_ | refine zA ?_ | (refine zM ?_; intro _ _) | refine zX ?_ | (refine zC ?_; intro _ _ _ _) | (refine zS ?_; intro _ _) | refine zO ?_ | (apply Ws <;> intro hg))
  refine Ends.ret1 rfl ⟨?_, rfl⟩
  congr 1
  exact decide_eq_false (by omega)
theorem indexF_none_fs (hH : hasH M n0 H) {xs : List Int} (hS : Sl M 1 v (ints xs)) (hx : xs.length ≤ 1000) {g : FuncId} {vb : List Value} (hq : ∀ {H' x}, hasH M n0 H' → x ∈ xs → FS C g ([] ++ [.int .i64 x] ++ vb) H' (fun e H2 => e = .bool false ∧ H2 = H')) :
    FS C 127 [v, .func (.func g) [].toArray vb.toArray] H (fun e H' => e = .int .i64 (-1) ∧ H' = H) := by
  refine FS.intro (pf := pf127) rfl rfl rfl ?_
  repeat' (first | refine zP ?_ | refine zA ?_ | (refine zM ?_; intro _ _) | refine zX ?_ | (refine zC ?_; intro _ _ _ _) | (refine zS ?_; intro _ _) | (apply Ws <;> intro hg))
  refine WC.loopX [(0, _), (1, _), (6, _), (7, _)] (fun k : Nat => [(8, .int .i64 (k : Int))]) [] (fun k H' => H' = H ∧ k ≤ xs.length) (fun k => xs.length - k) 0 (by repeat' (first | exact .nil | refine .cons rfl ?_)) rfl ⟨rfl, Nat.zero_le _⟩ ?_
  rintro k H' ⟨rfl, hk⟩
  dsimp only [List.cons_append, List.nil_append]
  repeat' (first | refine zP ?_ | refine zA ?_ | (refine zM ?_; intro _ _) | refine zX ?_ | (refine zC ?_; intro _ _ _ _) | (refine zS ?_; intro _ _) | (apply Ws <;> intro hg))
  refine WC.condP rfl (fun hlt => ?_) (fun hlt => ?_)
  · have hk' : k < xs.length := by omega
    repeat' (first | refine zP ?_ | refine zA ?_ | (refine zM ?_; intro _ _) | refine zX ?_ | (refine zC ?_; intro _ _ _ _) | (refine zS ?_; intro _ _) | (apply Ws <;> intro hg))
    refine WR.callV (va := []) (by first | exact gN | exact gS rfl) rfl rfl rfl (hq hH (getD_mem (a := 0) hk')) ?_
    rintro _ _ ⟨rfl, rfl⟩
    repeat' (first | refine zP ?_ | refine zA ?_ | (refine zM ?_; intro _ _) | refine zX ?_ | (refine zC ?_; intro _ _ _ _) | (refine zS ?_; intro _ _) | (apply Ws <;> intro hg))
    rw [show (k : Int) + 1 = ((k + 1 : Nat) : Int) by omega]
    exact Ends.loop (k + 1) (by omega) (by repeat' (first | exact .nil | refine .cons rfl ?_)) rfl ⟨rfl, hk'⟩
  · repeat' (first | refine zP ?_ | refine zA ?_ | (refine zM ?_; intro _ _) | refine zX ?_ | (refine zC ?_; intro _ _ _ _) | (refine zS ?_; intro _ _) | (apply Ws <;> intro hg))
    exact Ends.ret1 rfl ⟨rfl, rfl⟩
theorem proper_fs {vs : List (List Nat)} {n m : Nat} {o : List Int} (hH : hasH M n0 H) (hV : OKV vs n m) (hR : ValsN M v vs) (hO : Sl M 1 w (ints o)) (ho : OKD o n m) :
    FS C 57 [v, w] H (fun e H' => e = .bool true ∧ ∃ n', n0 ≤ n' ∧ hasH M n' H') := by
  have hv1 := hR.one_
  obtain ⟨ws, hW, hwl, hws⟩ := hR.ex
  have hvl := hV.len
  have hn1 := hV.pos
  have hm6 := hV.m6
  have hol := ho.len
  have hrl := hV.rowLen hn1
  have h0 := (hws 0 (by omega)).cons (p := (n0, .row 22 0 0 [v]))
  have hW1 := hW.cons (p := (n0, .row 22 0 0 [v]))
  have hO1 := hO.cons (p := (n0, .row 22 0 0 [v]))
  refine FS.intro (pf := pf57) rfl rfl rfl ?_
  repeat' (first | refine zP ?_ | refine zA ?_ | (refine zM ?_; intro _ _) | refine zX ?_ | (refine zC ?_; intro _ _ _ _) | (refine zS ?_; intro _ _) | (apply Ws <;> intro hg))
  refine WR.box1 (by first | exact gN | exact gS rfl) rfl hH rfl hv1 fun H1 hH1 => ?_
  repeat' (first | refine zP ?_ | refine zA ?_ | (refine zM ?_; intro _ _) | refine zX ?_ | (refine zC ?_; intro _ _ _ _) | (refine zS ?_; intro _ _) | refine zO ?_ | (apply Ws <;> intro hg))
  refine WR.call (by first | exact gN | exact gS rfl) rfl rfl (FS.intro (pf := pf102) rfl rfl rfl (R := fun e H' => e = .bool false ∧ H' = H1) ?_) ?_
  · repeat' (first | refine zP ?_ | refine zA ?_ | (refine zM ?_; intro _ _) | refine zX ?_ | (refine zC ?_; intro _ _ _ _) | (refine zS ?_; intro _ _) | (apply Ws <;> intro hg))
    refine WR.call (by first | exact gN | exact gS rfl) rfl rfl (indexF_none_fs hH1 hO1 (by omega) (g := 103) (vb := [.pointer (some ⟨n0, 0, some 0⟩)]) fun {H' x} hH' hx => proper1_fs hH' hW1 (by omega) (ho.bd x hx) (.head _)) ?_
    rintro _ _ ⟨rfl, rfl⟩
    repeat' (first | refine zP ?_ | refine zA ?_ | (refine zM ?_; intro _ _) | refine zX ?_ | (refine zC ?_; intro _ _ _ _) | (refine zS ?_; intro _ _) | refine zO ?_ | (apply Ws <;> intro hg))
    exact Ends.ret1 rfl ⟨rfl, rfl⟩
  · rintro _ _ ⟨rfl, rfl⟩
    repeat' (first | refine zP ?_ | refine zA ?_ | (refine zM ?_; intro _ _) | refine zX ?_ | (refine zC ?_; intro _ _ _ _) | (refine zS ?_; intro _ _) | (apply Ws <;> intro hg))
    exact Ends.ret1 rfl ⟨rfl, n0 + 1, by omega, hH1.tail⟩
end
end Go.Proofs.Ytaipmdhnhffckaa.Sh

/- Rings, turned: the program's side. -/
namespace Go.Proofs.Ytaipmdhnhffckaa.Sh
open Go Go.Abs Go.Mth
set_option linter.unusedVariables false
set_option linter.unusedSimpArgs false
structure KW2 where
  t : Nat
  v : Value
  Mx : HL
  n : Nat
structure KT where
  q : Nat
  l : List Nat
  b : Nat
attribute [local irreducible] gOK WS WC WR WD Ends FS YS OpV seqK blockK loopK midK retK rdK asgK rangeEnd sat Cell
section
variable {M : HL} {n0 : Nat} {H : Heap} {vv sv : Value} {vs : List (List Nat)} {ss : List Nat} {n m : Nat}
end
end Go.Proofs.Ytaipmdhnhffckaa.Sh

namespace Go.Proofs.Ytaipmdhnhffckaa.Sh
open Go Go.Abs Go.Mth
set_option linter.unusedVariables false
set_option linter.unusedSimpArgs false
/-- A ring is turned one by one. -/
def rotTo (r ss : List Nat) : Nat → List Nat
  | 0 => ss
  | q + 1 => (rotTo r ss q).set (r.getD q 0) (ss.getD (r.getD ((q + (r.length - 1)) % r.length) 0) 0)
structure KG where
  k : Nat
  ss : List Nat
  n : Nat
attribute [local irreducible] gOK WS WC WR WD Ends FS YS OpV seqK blockK loopK midK retK rdK asgK rangeEnd sat Cell
section
variable {M : HL} {n0 : Nat} {H : Heap} {vv sv : Value} {vs : List (List Nat)} {ss : List Nat} {n m : Nat}
end
end Go.Proofs.Ytaipmdhnhffckaa.Sh

namespace Go.Proofs.Ytaipmdhnhffckaa.Sh
open Go Go.Abs Go.Mth
set_option linter.unusedVariables false
set_option linter.unusedSimpArgs false
structure KS where
  ss : List Nat
  n : Nat
attribute [local irreducible] gOK WS WC WR WD Ends FS YS OpV seqK blockK loopK midK retK rdK asgK rangeEnd sat Cell
section
variable {M : HL} {n0 : Nat} {H : Heap} {v : Value} {vs : List (List Nat)} {n m : Nat}
end
end Go.Proofs.Ytaipmdhnhffckaa.Sh

/- One after the other: the law's side. -/
namespace Go.Proofs.Ytaipmdhnhffckaa.Sh
open Go Go.Abs Go.Mth
set_option linter.unusedVariables false
set_option linter.unusedSimpArgs false
def AskN (M : HL) (g : FuncId) (vb : List Value) (p : Nat → Bool) (N : Nat) : Prop :=
  ∀ {X : HL} {n : Nat} {H : Heap} {x : Nat}, (∀ q ∈ M, q ∈ X) → hasH X n H → x < N → FS C g ([] ++ [.int .i64 (x : Int)] ++ vb) H (fun e H' => e = .bool (p x) ∧ ∃ n', n ≤ n' ∧ hasH X n' H')
/-- A division in which the first things have owners. -/
def PartO (o : List Int) (n m k : Nat) : Prop := o.length = m ∧ ∀ i, i < m → (i < k → 0 ≤ o.getD i 0 ∧ o.getD i 0 < (n : Int)) ∧ (k ≤ i → o.getD i 0 = -1)
theorem PartO.part {o : List Int} {n m k : Nat} (h : PartO o n m k) (hn : 1 ≤ n) : OKP o n m := ⟨h.1, fun x hx => by
  obtain ⟨i, hi, rfl⟩ := List.mem_iff_getElem.1 hx
  obtain ⟨h1, h2⟩ := h.2 i (by rw [← h.1]; exact hi)
  rw [getD_eq hi] at h1 h2
  rcases Nat.lt_or_ge i k with h3 | h3
  · have := h1 h3; omega
  · have := h2 h3; omega⟩
theorem PartO.full {o : List Int} {n m : Nat} (h : PartO o n m m) : OKD o n m := ⟨h.1, fun x hx => by
  obtain ⟨i, hi, rfl⟩ := List.mem_iff_getElem.1 hx
  obtain ⟨h1, _⟩ := h.2 i (by rw [← h.1]; exact hi)
  rw [getD_eq hi] at h1
  exact h1 (by rw [← h.1]; exact hi)⟩
theorem PartO.zero (n m : Nat) : PartO (List.replicate m (-1)) n m 0 := ⟨by simp, fun i hi => ⟨fun h => absurd h (Nat.not_lt_zero _), fun _ => by rw [getD_eq (by simpa using hi), List.getElem_replicate]⟩⟩
theorem PartO.next {o : List Int} {n m k j : Nat} (h : PartO o n m k) (hk : k < m) (hj : j < n) : PartO (o.set k (j : Int)) n m (k + 1) := ⟨by rw [List.length_set]; exact h.1, fun i hi => by
  rw [getD_set' (by rw [h.1]; exact hk)]
  obtain ⟨h1, h2⟩ := h.2 i hi
  by_cases e : i = k
  · rw [if_pos e]; exact ⟨fun _ => by omega, fun h => by omega⟩
  · rw [if_neg e]; exact ⟨fun h => h1 (by omega), fun h => h2 (by omega)⟩⟩
theorem PartO.free {o : List Int} {n m k : Nat} (h : PartO o n m k) (hk : k < m) : freeO o k = true := by
  unfold freeO
  rw [getD_eq (by rw [h.1]; exact hk), ← getD_eq (a := 0) (by rw [h.1]; exact hk), (h.2 k hk).2 (Nat.le_refl _)]; rfl
/-- Who gets what somebody has, when a ring is turned. -/
def RX (r : List Nat) (x y : Int) : Prop := (∃ q, q < r.length ∧ x = ((r.getD q 0 : Nat) : Int) ∧ y = ((r.getD ((q + 1) % r.length) 0 : Nat) : Int)) ∨ (x ∉ IL r ∧ y = x)
theorem RX.out {r : List Nat} {x y : Int} (h : RX r x y) {j : Nat} (hj : j ∉ r) : y = (j : Int) ↔ x = (j : Int) := by
  rcases h with ⟨q', h1, rfl, rfl⟩ | ⟨h1, rfl⟩
  · constructor
    · intro e
      exact absurd (by rw [← Int.ofNat.inj e]; exact getD_mem (Nat.mod_lt _ (by omega))) hj
    · intro e
      exact absurd (by rw [← Int.ofNat.inj e]; exact getD_mem h1) hj
  · exact Iff.rfl
theorem PartO.turned {r : List Nat} {o c : List Int} {n m k : Nat} (hb : ∀ x ∈ r, x < n) (hp : PartO o n m k) (hc : c.length = m) (h : ∀ i, i < m → RX r (o.getD i 0) (c.getD i 0)) : PartO c n m k := ⟨hc, fun i hi => by
  obtain ⟨h1, h2⟩ := hp.2 i hi
  rcases h i hi with ⟨q, g1, g2, g3⟩ | ⟨g1, g2⟩
  · have := hb _ (getD_mem (a := 0) (Nat.mod_lt (q + 1) (show 0 < r.length by omega)))
    refine ⟨fun _ => by omega, fun hk => ?_⟩
    have := h2 hk; omega
  · rw [g2]; exact ⟨h1, h2⟩⟩
structure KOO where
  k : Nat
  o : List Int
  n : Nat
structure KIN where
  o : List Int
  n : Nat
attribute [local irreducible] gOK WS WC WR WD Ends FS YS OpV seqK blockK loopK midK retK rdK asgK rangeEnd sat Cell
section
variable {M : HL} {n0 : Nat} {H : Heap} {v w : Value} {vs : List (List Nat)} {n m : Nat} {o : List Int}
end
end Go.Proofs.Ytaipmdhnhffckaa.Sh

/- All divisions, by their number. -/
namespace Go.Proofs.Ytaipmdhnhffckaa.Sh
open Go Go.Abs Go.Mth
set_option linter.unusedVariables false
set_option linter.unusedSimpArgs false
/-- The division of a number: the thing that comes last changes first. -/
def divK (n : Nat) : Nat → Nat → List Nat
  | 0, _ => []
  | m + 1, k => divK n m (k / n) ++ [k % n]
theorem divK_len (n : Nat) : ∀ m k, (divK n m k).length = m
  | 0, _ => rfl
  | m + 1, k => by simp [divK, divK_len n m]
theorem divK_lt {n : Nat} (hn : 1 ≤ n) : ∀ m k, ∀ x ∈ divK n m k, x < n
  | 0, _, x, h => by cases h
  | m + 1, k, x, h => by
    rcases List.mem_append.1 h with h | h
    · exact divK_lt hn m _ x h
    · rw [List.mem_singleton.1 h]; exact Nat.mod_lt _ (by omega)
theorem divK_ok {n m k : Nat} (hn : 1 ≤ n) : OKD (IL (divK n m k)) n m := okd_of (divK_len n m k) (divK_lt hn m k)
theorem divK_zero {n : Nat} : ∀ m, divK n m 0 = List.replicate m 0
  | 0 => rfl
  | m + 1 => by
    unfold divK
    rw [Nat.zero_div, Nat.zero_mod, divK_zero m, List.replicate_succ']
theorem div_up {n K : Nat} (h : K % n + 1 < n) : (K + 1) / n = K / n ∧ (K + 1) % n = K % n + 1 := by
  have h1 := Nat.div_add_mod K n
  have h2 : K + 1 = n * (K / n) + (K % n + 1) := by omega
  constructor
  · rw [h2, Nat.mul_add_div (by omega), Nat.div_eq_of_lt h]; omega
  · rw [h2, Nat.mul_add_mod, Nat.mod_eq_of_lt h]
theorem div_carry {n K : Nat} (hn : 1 ≤ n) (h : ¬ K % n + 1 < n) : (K + 1) / n = K / n + 1 ∧ (K + 1) % n = 0 ∧ K + 1 = (K / n + 1) * n := by
  have h1 := Nat.div_add_mod K n
  have h3 := Nat.mod_lt K (show 0 < n by omega)
  have h2 : K + 1 = n * (K / n + 1) := by rw [Nat.mul_add, Nat.mul_one]; omega
  refine ⟨?_, ?_, by rw [Nat.mul_comm]; exact h2⟩
  · rw [h2, Nat.mul_div_cancel_left _ (by omega)]
  · rw [h2, Nat.mul_mod_right]
/-- What stands while the next one is made: so many things, the last ones, have been set back. -/
structure Carry (n m k t K : Nat) : Prop where
  tm : t ≤ m
  nxt : divK n m (k + 1) = divK n (m - t) (K + 1) ++ List.replicate t 0
  num : k + 1 = (K + 1) * n ^ t
theorem Carry.start (n m k : Nat) : Carry n m k 0 k := ⟨Nat.zero_le _, by simp, by simp⟩
theorem Carry.step {n m k t K : Nat} (hn : 1 ≤ n) (h : Carry n m k t K) (ht : t < m) (hc : ¬ K % n + 1 < n) : Carry n m k (t + 1) (K / n) := by
  obtain ⟨d, hd⟩ : ∃ d, m - t = d + 1 := ⟨m - t - 1, by omega⟩
  obtain ⟨c1, c2, c3⟩ := div_carry hn hc
  refine ⟨by omega, ?_, ?_⟩
  · rw [h.nxt, hd, show m - (t + 1) = d by omega, divK, c1, c2, List.append_assoc]
    congr 1
  · rw [h.num, c3, Nat.pow_succ, Nat.mul_assoc, Nat.mul_comm n]
theorem Carry.done {n m k t K : Nat} (h : Carry n m k t K) (ht : t < m) (hc : K % n + 1 < n) : divK n m (k + 1) = divK n (m - t - 1) (K / n) ++ (K % n + 1) :: List.replicate t 0 := by
  obtain ⟨d, hd⟩ : ∃ d, m - t = d + 1 := ⟨m - t - 1, by omega⟩
  obtain ⟨c1, c2⟩ := div_up hc
  rw [h.nxt, hd, show d + 1 - 1 = d by omega, divK, c1, c2, List.append_assoc]
  rfl
theorem Carry.more {n m k t K : Nat} (h : Carry n m k t K) (ht : t < m) (hc : K % n + 1 < n) (hk : k < n ^ m) : k + 1 < n ^ m := by
  refine Nat.lt_of_le_of_ne hk fun e => ?_
  rw [h.num, show n ^ m = n ^ (m - t) * n ^ t by rw [← Nat.pow_add]; congr 1; omega] at e
  have hp : 0 < n ^ t := Nat.pow_pos (by omega)
  have e2 := Nat.eq_of_mul_eq_mul_right hp e
  obtain ⟨d, hd⟩ : ∃ d, m - t = d + 1 := ⟨m - t - 1, by omega⟩
  obtain ⟨_, c2⟩ := div_up hc
  rw [e2, hd, Nat.pow_succ, Nat.mul_mod_left] at c2
  omega
theorem Carry.end_ {n m k K : Nat} (h : Carry n m k m K) (hk : k < n ^ m) (hn : 1 ≤ n) : k + 1 = n ^ m := by
  have h1 := h.num
  have : 1 * n ^ m ≤ (K + 1) * n ^ m := Nat.mul_le_mul_right _ (by omega)
  rw [Nat.one_mul] at this
  omega
/-- What stands in the row then. -/
def carryL (n m t K : Nat) : List Nat := divK n (m - t) K ++ List.replicate t 0
theorem carryL_len {n m t K : Nat} (ht : t ≤ m) : (carryL n m t K).length = m := by simp [carryL, divK_len]; omega
theorem carryL_get {n m t K : Nat} (ht : t < m) : (carryL n m t K).getD (m - 1 - t) 0 = K % n := by
  obtain ⟨d, hd⟩ : ∃ d, m - t = d + 1 := ⟨m - t - 1, by omega⟩
  have hl := divK_len n d (K / n)
  unfold carryL
  rw [hd, divK, show m - 1 - t = (divK n d (K / n)).length by omega, List.append_assoc]
  rw [List.getD_eq_getElem?_getD, List.getElem?_append_right (Nat.le_refl _), Nat.sub_self]; rfl
theorem carryL_set {n m t K x : Nat} (ht : t < m) : (carryL n m t K).set (m - 1 - t) x = divK n (m - t - 1) (K / n) ++ x :: List.replicate t 0 := by
  obtain ⟨d, hd⟩ : ∃ d, m - t = d + 1 := ⟨m - t - 1, by omega⟩
  have hl := divK_len n d (K / n)
  unfold carryL
  rw [hd, show d + 1 - 1 = d by omega, divK, show m - 1 - t = (divK n d (K / n)).length by omega, List.append_assoc, List.set_append_right _ _ (Nat.le_refl _), Nat.sub_self]
  rfl
theorem carryL_next {n m t K : Nat} (ht : t < m) : (carryL n m t K).set (m - 1 - t) 0 = carryL n m (t + 1) (K / n) := by
  rw [carryL_set ht]
  unfold carryL
  rw [show m - (t + 1) = m - t - 1 by omega, List.replicate_succ]
end Go.Proofs.Ytaipmdhnhffckaa.Sh

namespace Go.Abs
set_option linter.unusedSectionVars false
variable [Globs]
open Go
section
variable {C : CW} {L : Env} {M M' : HL} {n : Nat} {H : Heap}
/-- A round of a range with two values. -/
theorem YS.intro2 {l p q : Nat} {r : LoopE} {y z : Value} {R : Value → Heap → Prop} (hH : hasH M n H) (hm : (l, .loop r) ∈ M) (hst : r.state = .ready) (hps : r.params = [p, q]) (hp : Nat.blt p r.nt = true) (hq : Nat.blt q r.nt = true) (ht : has L r.tmps)
    (h : WC C (some l) r.fn r.nt r.assign ((q, z) :: (p, y) :: L) [] H (asgK C l r R)) : YS C l [y, z] H R := by
  obtain ⟨e0, he0, hok⟩ := hH.mem hm
  cases e0 with
  | loop r1 =>
    have hr : r1 = r := hok
    subst hr
    obtain ⟨n1, e, s1, h1, h2, h3, n2, e2, s2, h4, r3, h5, h6⟩ := h _ ((ht.put p y).put q z)
    subst h2
    refine ⟨_, _, ⟨max n1 n2 + 1, ?_⟩, h6⟩
    have hpt : putTs r1.nt r1.tmps r1.params [y, z] = some ((r1.tmps.put p y).put q z) := by rw [hps]; simp only [putTs, putT, hp, hq, cond_true]
    simp only [runW, ihW, step, stepYield, he0, hpt, stepRd, stepC_up (Nat.le_max_left n1 n2) h1, bodyRd, h3, hst, stepC_up (Nat.le_max_right n1 n2) h4, endRd, h5]
    cases e2 <;> rfl
  | _ => exact hok.elim
end
end Go.Abs
namespace Go.Proofs.Ytaipmdhnhffckaa.Sh
open Go Go.Abs Go.Mth
set_option linter.unusedVariables false
set_option linter.unusedSimpArgs false
structure KB2 where
  t : Nat
  l : List Nat
  M : HL
  n : Nat
attribute [local irreducible] gOK WS WC WR WD Ends FS YS OpV seqK blockK loopK midK retK rdK asgK rangeEnd sat Cell
section
variable {M B : HL} {n0 : Nat} {H : Heap} {v : Value}
/-- Elements from the last one to the first, as long as more are asked for: the row may change in between. -/
theorem backward1_fs {lY nb m rb cp : Nat} {J : Nat → List Nat → HL → Nat → Prop} {S : HL → Nat → Prop} {l0 : List Nat}
    (hB : ∀ t l M' n', J t l M' n' → (nb, Ch.row 23 0 0 [.slice (some ⟨rb, 0, some 0⟩) m cp]) ∈ M' ∧ l.length = m ∧ (rb, Ch.row 3 0 0 (nodes l)) ∈ M')
    (hy : ∀ t l M' n' H', J t l M' n' → t < m → hasH M' n' H' → YS C lY [.int .i64 (m - 1 - t : Nat), .int .i64 (l.getD (m - 1 - t) 0 : Nat)] H' (fun v H2 => ∃ l2 M2 n2, hasH M2 n2 H2 ∧ ((v = .bool true ∧ J (t + 1) l2 M2 n2) ∨ (v = .bool false ∧ S M2 n2))))
    (hH : hasH M n0 H) (hJ : J 0 l0 M n0) (hm : m ≤ 100) :
    FS C 134 [.func (.yield lY) [].toArray [].toArray, .pointer (some ⟨nb, 0, some 0⟩)] H (fun _ H' => ∃ l M' n', hasH M' n' H' ∧ (J m l M' n' ∨ S M' n')) := by
  have hmb := (hB _ _ _ _ hJ).1
  refine FS.intro (pf := pf134) rfl rfl rfl ?_
  repeat' (first | refine zP ?_ | refine zA ?_ | (refine zM ?_; intro _ _) | refine zX ?_ | (refine zC ?_; intro _ _ _ _) | (refine zS ?_; intro _ _) | (apply Ws <;> intro hg))
  clear hmb
  refine WC.loopX [(0, _), (1, _)] (fun s : KB2 => [(3, .int .i64 ((m : Int) - 1 - (s.t : Int)))]) []
    (fun s H' => s.t ≤ m ∧ J s.t s.l s.M s.n ∧ hasH s.M s.n H') (fun s => m - s.t) ⟨0, l0, M, n0⟩ (by simp only [Int.sub_zero, Int.natCast_zero]; exact (by repeat' (first | exact .nil | refine .cons rfl ?_))) rfl ⟨Nat.zero_le _, hJ, hH⟩ ?_
  clear hH hJ
  rintro ⟨t, l, M1, n1⟩ H1 ⟨ht, hJ1, hH1⟩
  simp only at ht hJ1 hH1
  obtain ⟨hmb, hll, hml⟩ := hB _ _ _ _ hJ1
  dsimp only [List.cons_append, List.nil_append]
  repeat' (first | refine zP ?_ | refine zA ?_ | (refine zM ?_; intro _ _) | refine zX ?_ | (refine zC ?_; intro _ _ _ _) | (refine zS ?_; intro _ _) | (apply Ws <;> intro hg))
  refine WC.condP rfl (fun hge => ?_) (fun hge => ?_)
  · have ht' : t < m := by omega
    have hi : (m : Int) - 1 - (t : Int) = ((m - 1 - t : Nat) : Int) := by omega
    rw [hi]
    repeat' (first | refine zP ?_ | refine zA ?_ | (refine zM ?_; intro _ _) | refine zX ?_ | (refine zC ?_; intro _ _ _ _) | (refine zS ?_; intro _ _) | (apply Ws <;> intro hg))
    refine WR.yield (by first | exact gN | exact gS rfl) rfl rfl rfl (hy t l M1 n1 _ hJ1 ht' hH1) ?_
    clear hH1
    rintro _ H2 ⟨l2, M2, n2, hH2, ⟨rfl, hJ2⟩ | ⟨rfl, hS2⟩⟩
    · repeat' (first | refine zP ?_ | refine zA ?_ | (refine zM ?_; intro _ _) | refine zX ?_ | (refine zC ?_; intro _ _ _ _) | (refine zS ?_; intro _ _) | (apply Ws <;> intro hg))
      rw [show ((m - 1 - t : Nat) : Int) - 1 = (m : Int) - 1 - ((t + 1 : Nat) : Int) by omega]
      exact Ends.loop ⟨t + 1, l2, M2, n2⟩ (by simp only; omega) (by repeat' (first | exact .nil | refine .cons rfl ?_)) rfl ⟨ht', hJ2, hH2⟩
    · repeat' (first | refine zP ?_ | refine zA ?_ | (refine zM ?_; intro _ _) | refine zX ?_ | (refine zC ?_; intro _ _ _ _) | (refine zS ?_; intro _ _) | (apply Ws <;> intro hg))
      exact Ends.ret0 ⟨l2, M2, n2, hH2, .inr hS2⟩
  · have htm : t = m := by omega
    rw [htm] at hJ1
    repeat' (first | refine zP ?_ | refine zA ?_ | (refine zM ?_; intro _ _) | refine zX ?_ | (refine zC ?_; intro _ _ _ _) | (refine zS ?_; intro _ _) | (apply Ws <;> intro hg))
    exact Ends.end0 ⟨l, M1, n1, hH1, .inl hJ1⟩
end
end Go.Proofs.Ytaipmdhnhffckaa.Sh

namespace Go.Proofs.Ytaipmdhnhffckaa.Sh
open Go Go.Abs Go.Mth
set_option linter.unusedVariables false
set_option linter.unusedSimpArgs false
attribute [local irreducible] gOK WS WC WR WD Ends FS YS OpV seqK blockK loopK midK retK rdK asgK rangeEnd sat Cell
section
variable {M B : HL} {n0 : Nat} {H : Heap} {v : Value}
set_option maxHeartbeats 2000000 in
theorem goOn_fs {rb n m k cp : Nat} (hH : hasH ((rb, .row 3 0 0 (nodes (divK n m k))) :: M) n0 H) (hn : 1 ≤ n ∧ n ≤ 4) (hm : m ≤ 6) (hk : k < n ^ m) :
    FS C 122 [.slice (some ⟨rb, 0, some 0⟩) m cp, .int .i64 (n : Int)] H (fun e H' => ∃ n', n0 ≤ n' ∧ ((e = .bool true ∧ k + 1 < n ^ m ∧ hasH ((rb, .row 3 0 0 (nodes (divK n m (k + 1)))) :: M) n' H') ∨ (e = .bool false ∧ k + 1 = n ^ m ∧ hasH M n' H'))) := by
  refine FS.intro (pf := pf122) rfl rfl rfl ?_
  repeat' (first | refine zP ?_ | refine zA ?_ | (refine zM ?_; intro _ _) | refine zX ?_ | (refine zC ?_; intro _ _ _ _) | (refine zS ?_; intro _ _) | (apply Ws <;> intro hg))
  rename_i H1 hH1 H2 hH2 H3 hH3
  clear hH1 hH2
  refine WR.call (by first | exact gN | exact gS rfl) rfl rfl (FS.intro (pf := pf131) rfl rfl rfl (R := fun e H' => e = .func (.func 134) [].toArray [.pointer (some ⟨n0 + 1 + 1 + 1, 0, some 0⟩)].toArray ∧ hasH ((n0 + 1 + 1 + 1, .row 23 0 0 [.slice (some ⟨rb, 0, some 0⟩) m cp]) :: (n0 + 1 + 1, .row 4 0 0 [.bool false]) :: (n0 + 1, .row 3 0 0 [.int .i64 (n : Int)]) :: (n0, .row 23 0 0 [.slice (some ⟨rb, 0, some 0⟩) m cp]) :: (rb, .row 3 0 0 (nodes (divK n m k))) :: M) (n0 + 1 + 1 + 1 + 1) H') ?_) ?_
  · repeat' (first | refine zP ?_ | refine zA ?_ | (refine zM ?_; intro _ _) | refine zX ?_ | (refine zC ?_; intro _ _ _ _) | (refine zS ?_; intro _ _) | (apply Ws <;> intro hg))
    rename_i H4 hH4
    exact Ends.ret1 rfl ⟨rfl, hH4⟩
  rintro _ H4 ⟨rfl, hH4⟩
  clear hH3
  repeat' (first | refine zP ?_ | refine zA ?_ | (refine zM ?_; intro _ _) | refine zX ?_ | (refine zC ?_; intro _ _ _ _) | (refine zS ?_; intro _ _) | (apply Ws <;> intro hg))
  refine WC.range0 (va := []) (vb := [.pointer (some ⟨n0 + 1 + 1 + 1, 0, some 0⟩)]) rfl hH4 fun t ht H5 hH5 => ?_
  clear hH4
  generalize hR : ({ state := .ready, pending := none, fn := 122, tmps := t, params := [9, 10], assign := _, body := _, nt := _ } : LoopE) = R at hH5
  refine FS.mono (backward1_fs (lY := n0 + 1 + 1 + 1 + 1 + 1) (nb := n0 + 1 + 1 + 1) (m := m) (rb := rb) (cp := cp) (n0 := n0 + 1 + 1 + 1 + 1 + 2) (l0 := divK n m k)
    (M := (n0 + 1 + 1 + 1 + 1 + 1, .loop R) :: (n0 + 1 + 1 + 1 + 1, .defd false) :: (n0 + 1 + 1 + 1, .row 23 0 0 [.slice (some ⟨rb, 0, some 0⟩) m cp]) :: (n0 + 1 + 1, .row 4 0 0 [.bool false]) :: (n0 + 1, .row 3 0 0 [.int .i64 (n : Int)]) :: (n0, .row 23 0 0 [.slice (some ⟨rb, 0, some 0⟩) m cp]) :: (rb, .row 3 0 0 (nodes (divK n m k))) :: M)
    (J := fun t l M' n' => ∃ K, Carry n m k t K ∧ l = carryL n m t K ∧ n0 ≤ n' ∧ M' = (n0 + 1 + 1 + 1 + 1 + 1, .loop R) :: (n0 + 1 + 1 + 1 + 1, .defd false) :: (n0 + 1 + 1 + 1, .row 23 0 0 [.slice (some ⟨rb, 0, some 0⟩) m cp]) :: (n0 + 1 + 1, .row 4 0 0 [.bool false]) :: (n0 + 1, .row 3 0 0 [.int .i64 (n : Int)]) :: (n0, .row 23 0 0 [.slice (some ⟨rb, 0, some 0⟩) m cp]) :: (rb, .row 3 0 0 (nodes l)) :: M)
    (S := fun M' n' => k + 1 < n ^ m ∧ n0 ≤ n' ∧ M' = (n0 + 1 + 1 + 1 + 1 + 1, .loop { R with state := .done, pending := some .ret }) :: (n0 + 1 + 1 + 1 + 1, .defd false) :: (n0 + 1 + 1, .row 4 0 0 [.bool true]) :: (rb, .row 3 0 0 (nodes (divK n m (k + 1)))) :: M)
    ?_ ?_ hH5 ⟨k, Carry.start n m k, by simp [carryL], by omega, rfl⟩ (by omega)) ?_
  · rintro t l M' n' ⟨K, hC, rfl, _, rfl⟩
    exact ⟨by simp, carryL_len hC.tm, by simp⟩
  · rintro s l M' n' H6 ⟨K, hC, rfl, hn', rfl⟩ hs hH6
    have hgd := carryL_get (n := n) (K := K) hs
    have hll := carryL_len (n := n) (K := K) hC.tm
    rw [hgd]
    refine YS.intro2 hH6 (.head _) (by rw [← hR]) (by rw [← hR]) (by rw [← hR]; rfl) (by rw [← hR]; rfl) (by rw [← hR]; exact ht) ?_
    subst hR
    dsimp only
    repeat' (first | refine zA ?_ | (refine zM ?_; intro _ _) | (apply Ws <;> intro hg))
    refine Ends.asg hH6 .here fun H7 hH7 => ?_
    dsimp only
    clear hH6
    have hKm := Nat.mod_lt K (show 0 < n by omega)
    by_cases hc : K % n + 1 < n
    · have hset := carryL_set (n := n) (m := m) (t := s) (K := K) (x := K % n + 1) hs
      rw [← hC.done hs hc] at hset
      have hmore := hC.more hs hc hk
      generalize K % n = x at hc hgd hset hKm ⊢
      repeat' (first | refine zP ?_ | refine zA ?_ | (refine zM ?_; intro _ _) | refine zX ?_ | (refine zC ?_; intro _ _ _ _) | (refine zS ?_; intro _ _) | refine zO ?_ | (apply Ws <;> intro hg))
      refine WR.op (by first | exact gN | exact gS rfl) rfl (OpV.load1 (v := .int .i64 (x : Int)) rfl hH7 (.tail _ (.tail _ (.tail _ (.tail _ (.tail _ (.tail _ (.head _))))))) (.row _ _ _ _) (Nat.zero_le _) (by rw [Nat.sub_zero, nodes_get (by omega), hgd])) ?_
      repeat' (first | refine zP ?_ | refine zA ?_ | (refine zM ?_; intro _ _) | refine zX ?_ | (refine zC ?_; intro _ _ _ _) | (refine zS ?_; intro _ _) | refine zO ?_ | (apply Ws <;> intro hg))
      refine WR.store1 (cs' := nodes (divK n m (k + 1))) (by first | exact gN | exact gS rfl) hH7 rfl rfl rfl (.there (.there (.there (.there (.there (.there .here)))))) (Nat.zero_le _) (by simp [hll]; omega) (by rw [← hset, nodes, nodes, List.map_set]; rfl) fun H8 hH8 => ?_
      repeat' (first | refine zP ?_ | refine zA ?_ | (refine zM ?_; intro _ _) | refine zX ?_ | (refine zC ?_; intro _ _ _ _) | (refine zS ?_; intro _ _) | (apply Ws <;> intro hg))
      rename_i H9 hH9
      exact Ends.rd rfl rfl rfl hH9 .here fun H' h' => ⟨[], _ :: _ :: _ :: _ :: M, n', h'.sub (.cons_cons _ (.cons_cons _ (.cons _ (.cons_cons _ (.cons _ (.cons _ (.cons_cons _ (List.Sublist.refl _)))))))), .inr ⟨rfl, hmore, hn', rfl⟩⟩
    · have hnext := carryL_next (n := n) (m := m) (t := s) (K := K) hs
      have hC2 := hC.step hn.1 hs hc
      generalize K % n = x at hc hgd hKm ⊢
      repeat' (first | refine zP ?_ | refine zA ?_ | (refine zM ?_; intro _ _) | refine zX ?_ | (refine zC ?_; intro _ _ _ _) | (refine zS ?_; intro _ _) | refine zO ?_ | (apply Ws <;> intro hg))
      refine WR.store1 (cs' := nodes (carryL n m (s + 1) (K / n))) (by first | exact gN | exact gS rfl) hH7 rfl rfl rfl (.there (.there (.there (.there (.there (.there .here)))))) (Nat.zero_le _) (by simp [hll]; omega) (by rw [← hnext, nodes, nodes, List.map_set]; rfl) fun H8 hH8 => ?_
      repeat' (first | refine zP ?_ | refine zA ?_ | (refine zM ?_; intro _ _) | refine zX ?_ | (refine zC ?_; intro _ _ _ _) | (refine zS ?_; intro _ _) | (apply Ws <;> intro hg))
      exact Ends.rd rfl rfl rfl hH8 .here fun H' h' => ⟨carryL n m (s + 1) (K / n), _, n', h', .inl ⟨rfl, K / n, hC2, rfl, hn', rfl⟩⟩
  · rintro _ H7 ⟨l7, M7, n7, hH7, ⟨K, hC, rfl, hn7, rfl⟩ | ⟨hmore, hn7, rfl⟩⟩
    · refine rangeEnd_of hH7 .here (by rw [← hR]; simp) (by rw [← hR]; rfl) fun H8 hH8 => ?_
      have hend := hC.end_ hk hn.1
      repeat' (first | refine zP ?_ | refine zA ?_ | (refine zM ?_; intro _ _) | refine zX ?_ | (refine zC ?_; intro _ _ _ _) | (refine zS ?_; intro _ _) | (apply Ws <;> intro hg))
      rename_i H9 hH9
      exact retC1D (v := .bool false) trivial rfl hH9 (.cons _ (List.Sublist.refl _)) (List.Perm.refl _) fun H' h' => ⟨h'.read (.tail _ (.head _)) (.row _ _ _ _) (Nat.zero_le _) rfl, n7, hn7, .inr ⟨rfl, hend, h'.sub (.cons _ (.cons _ (.cons _ (.cons _ (.cons _ (List.Sublist.refl _))))))⟩⟩
    · refine rangeEnd_of hH7 .here (by simp) rfl fun H8 hH8 => ?_
      repeat' (first | refine zP ?_ | refine zA ?_ | (refine zM ?_; intro _ _) | refine zX ?_ | (refine zC ?_; intro _ _ _ _) | (refine zS ?_; intro _ _) | (apply Ws <;> intro hg))
      exact retC1D (v := .bool true) trivial rfl hH8 (.cons _ (List.Sublist.refl _)) (List.Perm.refl _) fun H' h' => ⟨h'.read (.head _) (.row _ _ _ _) (Nat.zero_le _) rfl, n7, hn7, .inl ⟨rfl, hmore, h'.sub (.cons _ (List.Sublist.refl _))⟩⟩
end
end Go.Proofs.Ytaipmdhnhffckaa.Sh

/- Comparisons of numbers and of lists. -/
namespace Go.Mth
set_option linter.unusedVariables false
def cmpI (a b : Int) : Int := if a < b then -1 else if b < a then 1 else 0
def lexC : List Int → List Int → Int
  | [], [] => 0
  | [], _ :: _ => -1
  | _ :: _, [] => 1
  | a :: l, b :: m => if cmpI a b ≠ 0 then cmpI a b else lexC l m
/-- The shorter one first; of those that are as long, the smaller one. -/
def ordC (a b : List Int) : Int := if cmpI a.length b.length ≠ 0 then cmpI a.length b.length else lexC a b
end Go.Mth

namespace Go.Proofs.Ytaipmdhnhffckaa.Sh
open Go Go.Abs Go.Mth
set_option linter.unusedVariables false
set_option linter.unusedSimpArgs false
structure KE where
  k : Nat
  M : HL
  n : Nat
structure KP where
  k : Nat
  n : Nat
def ownL (vs : List (List Nat)) (ss : List Nat) (n : Nat) : List Nat := (List.range n).map fun i => wor (vs.getD i []) (ss.getD i 0)
/-- Better for somebody, worse for nobody. -/
def betB (a b : Nat → Nat) (n : Nat) : Bool := (List.range n).all (fun i => !decide (a i < b i)) && (List.range n).any fun i => decide (b i < a i)
def anyTo (a b : Nat → Nat) (k : Nat) : Bool := (List.range k).any fun i => decide (b i < a i)
attribute [local irreducible] gOK WS WC WR WD Ends FS YS OpV seqK blockK loopK midK retK rdK asgK rangeEnd sat Cell
section
variable {M B : HL} {n0 : Nat} {H : Heap} {v w vv sv : Value} {vs : List (List Nat)} {ss : List Nat} {n m : Nat}
theorem allOwners_fs (hH : hasH M n0 H) (hv : one v = true) : FS C 91 [v] H (fun e H' => e = .func (.func 121) [].toArray [.pointer (some ⟨n0, 0, some 0⟩)].toArray ∧ hasH ((n0, .row 22 0 0 [v]) :: M) (n0 + 1) H') := by
  refine FS.intro (pf := pf91) rfl rfl rfl ?_
  repeat' (first | refine zP ?_ | refine zA ?_ | (refine zM ?_; intro _ _) | refine zX ?_ | (refine zC ?_; intro _ _ _ _) | (refine zS ?_; intro _ _) | (apply Ws <;> intro hg))
  refine WR.box1 (by first | exact gN | exact gS rfl) rfl hH rfl hv fun H1 hH1 => ?_
  repeat' (first | refine zP ?_ | refine zA ?_ | (refine zM ?_; intro _ _) | refine zX ?_ | (refine zC ?_; intro _ _ _ _) | (refine zS ?_; intro _ _) | (apply Ws <;> intro hg))
  exact Ends.ret1 rfl ⟨rfl, hH1⟩
set_option maxHeartbeats 1000000 in
/-- All divisions are handed over, one after another, in one row, as long as more are asked for. -/
theorem allOwners1_fs {lY nv : Nat} {J : Nat → HL → Nat → Prop} {S : HL → Nat → Prop} (hV : OKV vs n m) (hB : ∀ k M' n', J k M' n' → (nv, Ch.row 22 0 0 [v]) ∈ M' ∧ ValsN M' v vs) (hJn : ∀ k M' n' n'', J k M' n' → n' ≤ n'' → J k M' n'')
    (hy : ∀ k M' n' H', J k M' n' → k < n ^ m → hasH ((n0, .row 3 0 0 (nodes (divK n m k))) :: M') n' H' → YS C lY [.slice (some ⟨n0, 0, some 0⟩) m (2 * m + 1)] H' (fun w H2 => ∃ M2 n2, hasH ((n0, .row 3 0 0 (nodes (divK n m k))) :: M2) n2 H2 ∧ ((w = .bool true ∧ J (k + 1) M2 n2) ∨ (w = .bool false ∧ S M2 n2))))
    (hH : hasH M n0 H) (hJ : J 0 M n0) :
    FS C 121 [.func (.yield lY) [].toArray [].toArray, .pointer (some ⟨nv, 0, some 0⟩)] H (fun _ H' => ∃ M' n', hasH M' n' H' ∧ (J (n ^ m) M' n' ∨ S M' n')) := by
  have hm6 := hV.m6
  have hn4 := hV.n4
  have hn1 := hV.pos
  have hvl := hV.len
  have hrl := hV.rowLen hn1
  obtain ⟨hmv, hR⟩ := hB _ _ _ hJ
  obtain ⟨ws, hW, hwl, hws⟩ := hR.ex
  have h0 := hws 0 (by omega)
  refine FS.intro (pf := pf121) rfl rfl rfl ?_
  repeat' (first | refine zP ?_ | refine zA ?_ | (refine zM ?_; intro _ _) | refine zX ?_ | (refine zC ?_; intro _ _ _ _) | (refine zS ?_; intro _ _) | (apply Ws <;> intro hg))
  rw [hrl]
  refine WR.mkSL (by first | exact gN | exact gS rfl) rfl hH rfl rfl (by omega) rfl fun H1 hH1 => ?_
  rw [nodes_rep, ← divK_zero (n := n) m] at hH1
  clear h0 hW hws hmv hR
  repeat' (first | refine zP ?_ | refine zA ?_ | (refine zM ?_; intro _ _) | refine zX ?_ | (refine zC ?_; intro _ _ _ _) | (refine zS ?_; intro _ _) | (apply Ws <;> intro hg))
  refine WC.loopX [(0, _), (1, _), (3, _)] (fun s : KE => []) []
    (fun s H' => s.k < n ^ m ∧ J s.k s.M s.n ∧ hasH ((n0, .row 3 0 0 (nodes (divK n m s.k))) :: s.M) s.n H') (fun s => n ^ m - s.k) ⟨0, M, n0 + 1⟩ (by repeat' (first | exact .nil | refine .cons rfl ?_)) rfl
    ⟨Nat.pow_pos (by omega), hJn _ _ _ _ hJ (by simp only; omega), hH1⟩ ?_
  clear hH1 hH hJ
  rintro ⟨k, M1, n1⟩ H2 ⟨hk, hJ1, hH2⟩
  simp only at hk hJ1 hH2
  dsimp only [List.cons_append, List.nil_append]
  repeat' (first | refine zP ?_ | refine zA ?_ | (refine zM ?_; intro _ _) | refine zX ?_ | (refine zC ?_; intro _ _ _ _) | (refine zS ?_; intro _ _) | (apply Ws <;> intro hg))
  refine WR.yield (by first | exact gN | exact gS rfl) rfl rfl rfl (hy k M1 n1 _ hJ1 hk hH2) ?_
  rintro _ H3 ⟨M3, n3, hH3, ⟨rfl, hJ3⟩ | ⟨rfl, hS3⟩⟩
  · obtain ⟨hmv3, hR3⟩ := hB _ _ _ hJ3
    obtain ⟨ws3, hW3, hwl3, hws3⟩ := hR3.ex
    have hW3c := hW3.cons (p := (n0, .row 3 0 0 (nodes (divK n m k))))
    repeat' (first | refine zP ?_ | refine zA ?_ | (refine zM ?_; intro _ _) | refine zX ?_ | (refine zC ?_; intro _ _ _ _) | (refine zS ?_; intro _ _) | (apply Ws <;> intro hg))
    rw [hwl3, hvl]
    refine WR.call (by first | exact gN | exact gS rfl) rfl rfl (goOn_fs hH3 ⟨hn1, hn4⟩ hm6 hk) ?_
    rintro _ H4 ⟨n4, hn4', ⟨rfl, hmore, hH4⟩ | ⟨rfl, hend, hH4⟩⟩
    · repeat' (first | refine zP ?_ | refine zA ?_ | (refine zM ?_; intro _ _) | refine zX ?_ | (refine zC ?_; intro _ _ _ _) | (refine zS ?_; intro _ _) | (apply Ws <;> intro hg))
      exact Ends.loop ⟨k + 1, M3, n4⟩ (by simp only; omega) (by repeat' (first | exact .nil | refine .cons rfl ?_)) rfl ⟨hmore, hJn _ _ _ _ hJ3 (by simp only; omega), hH4⟩
    · rw [hend] at hJ3
      repeat' (first | refine zP ?_ | refine zA ?_ | (refine zM ?_; intro _ _) | refine zX ?_ | (refine zC ?_; intro _ _ _ _) | (refine zS ?_; intro _ _) | (apply Ws <;> intro hg))
      exact Ends.end0 ⟨M3, n4, hH4, .inl (hJn _ _ _ _ hJ3 (by omega))⟩
  · repeat' (first | refine zP ?_ | refine zA ?_ | (refine zM ?_; intro _ _) | refine zX ?_ | (refine zC ?_; intro _ _ _ _) | (refine zS ?_; intro _ _) | (apply Ws <;> intro hg))
    exact Ends.end0 ⟨M3, n3, hH3.tail, .inr hS3⟩
end
end Go.Proofs.Ytaipmdhnhffckaa.Sh

namespace Go.Abs
set_option linter.unusedSectionVars false
variable [Globs]
open Go
section
variable {C : CW} {nt : Nat} {L : Env} {D : List Nat} {H : Heap} {K : St → Prop} {M M' : HL} {n i d : Nat} {gd : Option (Tmp × Bool)} {lo : List Nat} {l : List POp}
/-- Nothing of a slice without elements appended to another one. -/
theorem WR.appEmp {e b u o : Nat} {s x : Operand} {y : Value} {cs : List Value} (hg : gOK L gd) (hd : Nat.blt d nt = true) (hs : ev L s = some (.slice (some ⟨b, o, some u⟩) 0 1)) (hy : ev L x = some y) (hH : hasH M n H) (hm : (b, .row e u o cs) ∈ M) (hk : srcLen y = some 0) (hx : srcCells H 1 0 y = some [])
    (kk : ∀ H', hasH M n H' → WR C nt l ((d, .slice (some ⟨b, o, some u⟩) 0 1) :: L) D H' K) : WR C nt (⟨i, some d, .append e 1 s x, gd, lo⟩ :: l) L D H K := by
  obtain ⟨H', h5, h6⟩ := hH.writeN (o := o) (l := []) (Upd.self hm) rfl (Nat.le_refl _) (by simp) (by simp [splice])
  refine WR.op hg hd (H' := H') (v := .slice (some ⟨b, o, some u⟩) 0 1) (fun t ht => ?_) (kk H' h6)
  have hcap : capOf (some ⟨b, o, some u⟩) 1 = .known 0 := rfl
  have hb : Nat.ble (0 + 0) 0 = true := rfl
  have hp : Addr.plus ⟨b, o, some u⟩ (0 * 1) = ⟨b, o, some u⟩ := rfl
  simp only [opA, ev_ok ht hs, ev_ok ht hy, appendA, hk, hx, appWith, hcap, hb, cond_true, appIn, hp, h5, Nat.add_zero]
theorem retC2D {a b : Nat} {p r : Addr} {v w : Value} {R : Value → Heap → Prop} {M0 : HL} {e : Ex} (he : (match e with | .normal => True | .ret => True | _ => False)) (hx : ev L (.tmp a) = some (.pointer (some p))) (hy : ev L (.tmp b) = some (.pointer (some r))) (hH : hasH M n H) (hM : M'.Sublist M)
    (hp : M'.Perm (D.map (fun b => (b, Ch.defd false)) ++ M0)) (k2 : ∀ H', hasH M0 n H' → H'.read p = some v ∧ H'.read r = some w ∧ R (.tuple #[v, w]) H') : Abs.Ends (retK [.cell a none, .cell b none] R) e L D H :=
  Abs.Ends.retD he hH hM hp fun H' h' t ht => by
    obtain ⟨h1, h2, h3⟩ := k2 H' h'
    exact ⟨_, H', by simp only [leaveC, resultOf, ev_ok ht hx, ev_ok ht hy, h1, h2, retVal], h3⟩
end
end Go.Abs
namespace Go.Proofs.Ytaipmdhnhffckaa.Sh
open Go Go.Abs Go.Mth
set_option linter.unusedVariables false
set_option linter.unusedSimpArgs false
/-- A division's number is of a fair one. -/
def fairK (vs : List (List Nat)) (n m k : Nat) : Bool := (pairsL (envP vs (shs n (IL (divK n m k)))) n).isEmpty
def cntK (p : Nat → Bool) (N : Nat) : Nat := sumN (fun k => if p k = true then 1 else 0) N
theorem cntK_le (p : Nat → Bool) : ∀ N, cntK p N ≤ N
  | 0 => Nat.le_refl _
  | N + 1 => by
    have := cntK_le p N
    show cntK p N + (if p N = true then 1 else 0) ≤ N + 1
    split <;> omega
theorem pow_4096 {n m : Nat} (hn : n ≤ 4) (hm : m ≤ 6) (h1 : 1 ≤ n) : n ^ m ≤ 4096 := by
  have h1 : n ^ m ≤ 4 ^ m := Nat.pow_le_pow_left hn m
  have h2 : 4 ^ m ≤ 4 ^ 6 := Nat.pow_le_pow_right (by omega) hm
  have : (4 : Nat) ^ 6 = 4096 := by decide
  omega
attribute [local irreducible] gOK WS WC WR WD Ends FS YS OpV seqK blockK loopK midK retK rdK asgK rangeEnd sat Cell
section
variable {M B : HL} {n0 : Nat} {H : Heap} {v w vv sv : Value} {vs : List (List Nat)} {ss : List Nat} {n m : Nat}
theorem cloneR_fs {rb : Nat} {l : List Nat} (hH : hasH M n0 H) (hm : (rb, Ch.row 3 0 0 (nodes l)) ∈ M) (hl : l.length = m) (hm6 : m ≤ 1000) :
    FS C 62 [.slice (some ⟨rb, 0, some 0⟩) m (2 * m + 1)] H (fun e H' => ∃ b cp' n', e = .slice (some ⟨b, 0, some 0⟩) m cp' ∧ Sl [(b, .row 3 0 0 (nodes l))] 1 e (nodes l) ∧ n0 ≤ n' ∧ hasH ((b, .row 3 0 0 (nodes l)) :: M) n' H') := by
  refine FS.intro (pf := pf62) rfl rfl rfl ?_
  repeat' (first | refine zP ?_ | refine zA ?_ | (refine zM ?_; intro _ _) | refine zX ?_ | (refine zC ?_; intro _ _ _ _) | (refine zS ?_; intro _ _) | (apply Ws <;> intro hg))
  refine WR.bldS (by first | exact gN | exact gS rfl) rfl hH (vs := []) rfl (cs := []) (by rfl) rfl fun H3 hH3 => ?_
  repeat' (first | refine zP ?_ | refine zA ?_ | (refine zM ?_; intro _ _) | refine zX ?_ | (refine zC ?_; intro _ _ _ _) | (refine zS ?_; intro _ _) | (apply Ws <;> intro hg))
  by_cases h0 : m = 0
  · subst h0
    have hln : l = [] := List.length_eq_zero_iff.1 hl
    subst hln
    refine WR.appEmp (by first | exact gN | exact gS rfl) rfl rfl rfl hH3 (.head _) rfl (by
      have := hH3.readN (b := rb) (u := 0) (lo := 0) (o := 0) (k := 0) (.tail _ hm) (.row _ _ _ _) (Nat.le_refl _) (by simp)
      simpa [srcCells] using this) fun H4 hH4 => ?_
    repeat' (first | refine zP ?_ | refine zA ?_ | (refine zM ?_; intro _ _) | refine zX ?_ | (refine zC ?_; intro _ _ _ _) | (refine zS ?_; intro _ _) | (apply Ws <;> intro hg))
    exact Ends.ret1 rfl ⟨n0, 1, n0 + 1, rfl, Sl.mkd (k := 0) rfl, by omega, hH4⟩
  · have hS : Sl ((n0, .row 3 0 0 []) :: M) 1 (.slice (some ⟨rb, 0, some 0⟩) m (2 * m + 1)) (nodes l) :=
      (Sl.row (lo := 0) hm (.row _ _ _ _) (Nat.le_refl _) (by simp [hl]) (by rw [Nat.sub_self, List.drop_zero, List.take_length]) (by simp) (.inr ⟨_, rfl, Nat.le_refl _⟩)).cons
    have hne : nodes l ≠ [] := fun h => by have := List.map_eq_nil_iff.1 h; subst this; simp at hl; omega
    obtain ⟨hk, hsr⟩ := hS.src hH3 hne
    refine WR.appendNew (by first | exact gN | exact gS rfl) rfl rfl rfl hH3 (.head _) (.row _ _ _ _) (Nat.zero_le _) (Nat.zero_le _) hk (by have := hsr _ (Nat.le_refl _); rw [List.take_length] at this; exact this) (by simp) (by simp [hl]; omega) (nodes_one' _) (by omega) (by omega) (by simp; omega) fun H' hH' => ?_
    repeat' (first | refine zP ?_ | refine zA ?_ | (refine zM ?_; intro _ _) | refine zX ?_ | (refine zC ?_; intro _ _ _ _) | (refine zS ?_; intro _ _) | (apply Ws <;> intro hg))
    refine Ends.ret1 rfl ⟨n0 + 1, 2 * 1, n0 + 2, by rw [List.length_map, hl], ?_, by omega, hH'.sub (.cons_cons _ (List.sublist_cons_self _ _))⟩
    rw [List.length_map, hl]
    exact sl_row (by simp [hl])
set_option maxHeartbeats 4000000 in
theorem Free_fs (hH : hasH M n0 H) {fs : List (List Int)} (hR : RowsI M v fs) (hl : fs.length ≤ 1000) (hll : ∀ l ∈ fs, l.length ≤ 1000) :
    FS C 38 [v] H (fun e H' => ∃ n', n0 ≤ n' ∧ ((valsE fs ≠ 0 ∧ e = .tuple #[.slice none 0 0, .int .i64 (valsE fs)] ∧ hasH M n' H') ∨ (∃ vs n m, fs = ILL vs ∧ OKV vs n m ∧
      (((∀ k, k < n ^ m → fairK vs n m k = false) ∧ e = .tuple #[.slice none 0 0, .int .i64 12] ∧ hasH M n' H') ∨
       (∃ k b cp, k < n ^ m ∧ fairK vs n m k = true ∧ (∀ i, i < k → fairK vs n m i = false) ∧ e = .tuple #[.slice (some ⟨b, 0, some 0⟩) m cp, .int .i64 0] ∧ Sl [(b, .row 3 0 0 (nodes (divK n m k)))] 1 (.slice (some ⟨b, 0, some 0⟩) m cp) (nodes (divK n m k)) ∧ hasH ((b, .row 3 0 0 (nodes (divK n m k))) :: M) n' H'))))) := by
  have hv1 := hR.one_
  refine FS.intro (pf := pf38) rfl rfl rfl ?_
  repeat' (first | refine zP ?_ | refine zA ?_ | (refine zM ?_; intro _ _) | refine zX ?_ | (refine zC ?_; intro _ _ _ _) | (refine zS ?_; intro _ _) | (apply Ws <;> intro hg))
  refine WR.box1 (by first | exact gN | exact gS rfl) rfl hH rfl hv1 fun H1 hH1 => ?_
  repeat' (first | refine zP ?_ | refine zA ?_ | (refine zM ?_; intro _ _) | refine zX ?_ | (refine zC ?_; intro _ _ _ _) | (refine zS ?_; intro _ _) | (apply Ws <;> intro hg))
  rename_i H2 hH2 H3 hH3
  clear hH1 hH2
  refine WR.call (by first | exact gN | exact gS rfl) rfl rfl (Check_fs hH3 hR.cons.cons.cons hl hll) ?_
  rintro _ _ ⟨rfl, rfl⟩
  by_cases h1 : valsE fs = 0
  · obtain ⟨vs, n, m, rfl, hV⟩ := vals_ok h1
    have hVal := RowsI.vals hR
    have hvl := hV.len
    have hm6 := hV.m6
    have hn4 := hV.n4
    have hn1 := hV.pos
    rw [h1]
    repeat' (first | refine zP ?_ | refine zA ?_ | (refine zM ?_; intro _ _) | refine zX ?_ | (refine zC ?_; intro _ _ _ _) | (refine zS ?_; intro _ _) | refine zO ?_ | (apply Ws <;> intro hg))
    refine WR.call (by first | exact gN | exact gS rfl) rfl rfl (allOwners_fs hH3 hv1) ?_
    rintro _ H4 ⟨rfl, hH4⟩
    clear hH3
    repeat' (first | refine zP ?_ | refine zA ?_ | (refine zM ?_; intro _ _) | refine zX ?_ | (refine zC ?_; intro _ _ _ _) | (refine zS ?_; intro _ _) | (apply Ws <;> intro hg))
    refine WC.range0 (va := []) (vb := [.pointer (some ⟨n0 + 1 + 1 + 1, 0, some 0⟩)]) rfl hH4 fun t ht H5 hH5 => ?_
    clear hH4
    generalize hR2 : ({ state := .ready, pending := none, fn := 38, tmps := t, params := [13], assign := _, body := _, nt := _ } : LoopE) = R at hH5
    refine FS.mono (allOwners1_fs (lY := n0 + 1 + 1 + 1 + 1 + 1) (nv := n0 + 1 + 1 + 1) (v := v) (vs := vs) (n := n) (m := m) (n0 := n0 + 1 + 1 + 1 + 1 + 2)
      (M := (n0 + 1 + 1 + 1 + 1 + 1, .loop R) :: (n0 + 1 + 1 + 1 + 1, .defd false) :: (n0 + 1 + 1 + 1, .row 22 0 0 [v]) :: (n0 + 1 + 1, .row 26 0 0 [.int .i64 0]) :: (n0 + 1, .row 23 0 0 [.slice none 0 0]) :: (n0, .row 22 0 0 [v]) :: M)
      (J := fun k M' n' => n0 ≤ n' ∧ (∀ i, i < k → fairK vs n m i = false) ∧ M' = (n0 + 1 + 1 + 1 + 1 + 1, .loop R) :: (n0 + 1 + 1 + 1 + 1, .defd false) :: (n0 + 1 + 1 + 1, .row 22 0 0 [v]) :: (n0 + 1 + 1, .row 26 0 0 [.int .i64 0]) :: (n0 + 1, .row 23 0 0 [.slice none 0 0]) :: (n0, .row 22 0 0 [v]) :: M)
      (S := fun M' n' => ∃ k b cp, n0 ≤ n' ∧ k < n ^ m ∧ fairK vs n m k = true ∧ (∀ i, i < k → fairK vs n m i = false) ∧ Sl [(b, .row 3 0 0 (nodes (divK n m k)))] 1 (.slice (some ⟨b, 0, some 0⟩) m cp) (nodes (divK n m k)) ∧ M' = (n0 + 1 + 1 + 1 + 1 + 1, .loop { R with state := .done, pending := some .ret }) :: (n0 + 1 + 1 + 1 + 1, .defd false) :: (n0 + 1 + 1, .row 26 0 0 [.int .i64 0]) :: (n0 + 1, .row 23 0 0 [.slice (some ⟨b, 0, some 0⟩) m cp]) :: (b, .row 3 0 0 (nodes (divK n m k))) :: M)
      hV ?_ (fun k M' n' n'' h1 h2 => ⟨by omega, h1.2.1, h1.2.2⟩) ?_ hH5 ⟨by omega, fun i h => absurd h (Nat.not_lt_zero _), rfl⟩) ?_
    · rintro k M' n' ⟨_, _, rfl⟩
      exact ⟨by simp, hVal.mono fun q hq => by simp [hq]⟩
    · rintro k _ n' H6 ⟨hn', hno, rfl⟩ hk hH6
      have hrow : Sl ((n0 + 1 + 1 + 1 + 1 + 2, .row 3 0 0 (nodes (divK n m k))) :: (n0 + 1 + 1 + 1 + 1 + 1, .loop R) :: (n0 + 1 + 1 + 1 + 1, .defd false) :: (n0 + 1 + 1 + 1, .row 22 0 0 [v]) :: (n0 + 1 + 1, .row 26 0 0 [.int .i64 0]) :: (n0 + 1, .row 23 0 0 [.slice none 0 0]) :: (n0, .row 22 0 0 [v]) :: M) 1 (.slice (some ⟨n0 + 1 + 1 + 1 + 1 + 2, 0, some 0⟩) m (2 * m + 1)) (nodes (divK n m k)) := Sl.mkd (by simp [divK_len])
      refine YS.intro hH6 (.tail _ (.head _)) (by rw [← hR2]) (by rw [← hR2]) (by rw [← hR2]; rfl) (by rw [← hR2]; exact ht) ?_
      subst hR2
      dsimp only
      repeat' (first | refine zA ?_ | (refine zM ?_; intro _ _) | (apply Ws <;> intro hg))
      refine Ends.asg hH6 (.there .here) fun H7 hH7 => ?_
      dsimp only
      clear hH6 hrow
      have hVb : ∀ {X : HL}, (∀ q ∈ M, q ∈ X) → ValsN X v vs := fun h => hVal.mono h
      have hok := divK_ok (m := m) (k := k) hn1
      repeat' (first | refine zP ?_ | refine zA ?_ | (refine zM ?_; intro _ _) | refine zX ?_ | (refine zC ?_; intro _ _ _ _) | (refine zS ?_; intro _ _) | (apply Ws <;> intro hg))
      have hrow : ∀ {X : HL}, Sl ((n0 + 1 + 1 + 1 + 1 + 2, .row 3 0 0 (nodes (divK n m k))) :: X) 1 (.slice (some ⟨n0 + 1 + 1 + 1 + 1 + 2, 0, some 0⟩) m (2 * m + 1)) (ints (IL (divK n m k))) := Sl.asInts (Sl.mkd (by simp [divK_len]))
      obtain ⟨ws, hW, hwl, hws⟩ := hVal.ex
      refine WR.call (by first | exact gN | exact gS rfl) rfl rfl (divide_fs hH7 (hW.mono fun q hq => by simp [hq]) (by omega) hrow (by simp [divK_len]; omega) (by rw [hwl, hvl]; exact hok.bd)) ?_
      rintro _ H8 ⟨b, n8, hn8, rfl, hH8⟩
      rw [hwl, hvl] at hH8
      rw [hwl, hvl]
      refine WR.call (by first | exact gN | exact gS rfl) rfl rfl (isFair_fs (vs := vs) (ss := shs n (IL (divK n m k))) (n := n) (m := m) ⟨hV, hVal.mono fun q hq => by simp [hq], Sl.mkd (by simp [shs]), shs_len _ _, shs_bd hok.len⟩ hH8) ?_
      rintro _ H9 ⟨rfl, n9, hn9, hH9⟩
      clear hH7 hH8
      replace hH9 := hH9.tail
      have hfk : fairK vs n m k = (pairsL (envP vs (shs n (IL (divK n m k)))) n).isEmpty := rfl
      rw [← hfk]
      cases hf : fairK vs n m k with
      | false =>
        repeat' (first | refine zP ?_ | refine zA ?_ | (refine zM ?_; intro _ _) | refine zX ?_ | (refine zC ?_; intro _ _ _ _) | (refine zS ?_; intro _ _) | (apply Ws <;> intro hg))
        exact Ends.rd rfl rfl rfl hH9 (.there .here) fun H' h' => ⟨_, n9, h', .inl ⟨rfl, by omega, fun i hi => by
          by_cases e : i = k
          · rw [e]; exact hf
          · exact hno i (by omega), rfl⟩⟩
      | true =>
        repeat' (first | refine zP ?_ | refine zA ?_ | (refine zM ?_; intro _ _) | refine zX ?_ | (refine zC ?_; intro _ _ _ _) | (refine zS ?_; intro _ _) | (apply Ws <;> intro hg))
        refine WR.call (by first | exact gN | exact gS rfl) rfl rfl (cloneR_fs (m := m) hH9 (.head _) (divK_len n m k) (by omega)) ?_
        rintro _ HA ⟨cb, cp, nA, rfl, hSc, hnA, hHA⟩
        repeat' (first | refine zP ?_ | refine zA ?_ | (refine zM ?_; intro _ _) | refine zX ?_ | (refine zC ?_; intro _ _ _ _) | (refine zS ?_; intro _ _) | (apply Ws <;> intro hg))
        refine WR.storeBox (by first | exact gN | exact gS rfl) hHA rfl rfl rfl (.there (.there (.there (.there (.there (.there .here)))))) fun HB hHB => ?_
        refine WR.storeBox (by first | exact gN | exact gS rfl) hHB rfl rfl rfl (.there (.there (.there (.there (.there .here))))) fun HC hHC => ?_
        repeat' (first | refine zP ?_ | refine zA ?_ | (refine zM ?_; intro _ _) | refine zX ?_ | (refine zC ?_; intro _ _ _ _) | (refine zS ?_; intro _ _) | (apply Ws <;> intro hg))
        exact Ends.rd rfl rfl rfl hHC (.there (.there .here)) fun H' h' => ⟨_, nA, (h'.sub (.cons_cons _ (.cons_cons _ (.cons_cons _ (.cons_cons _ (.cons _ (.cons_cons _ (.cons_cons _ (.cons _ (List.Sublist.refl M)))))))))).perm (List.perm_middle (l₁ := [_, _, _, _, _])).symm, .inr ⟨rfl, k, cb, cp, by omega, hk, hf, hno, hSc, rfl⟩⟩
    · rintro _ H7 ⟨M7, n7, hH7, ⟨hn7, hno, rfl⟩ | ⟨k, b, cp, hn7, hk, hf, hno, hSc, rfl⟩⟩
      · refine rangeEnd_of hH7 .here (by rw [← hR2]; simp) (by rw [← hR2]; rfl) fun H8 hH8 => ?_
        repeat' (first | refine zP ?_ | refine zA ?_ | (refine zM ?_; intro _ _) | refine zX ?_ | (refine zC ?_; intro _ _ _ _) | (refine zS ?_; intro _ _) | (apply Ws <;> intro hg))
        rename_i H9 hH9 HA hHA
        exact retC2D (v := .slice none 0 0) (w := .int .i64 12) trivial rfl rfl hHA (.cons _ (List.Sublist.refl _)) (List.Perm.refl _) fun H' h' => ⟨h'.read (.tail _ (.tail _ (.head _))) (.row _ _ _ _) (Nat.zero_le _) rfl, h'.read (.tail _ (.head _)) (.row _ _ _ _) (Nat.zero_le _) rfl, n7, hn7, .inr ⟨vs, n, m, rfl, hV, .inl ⟨hno, rfl, h'.sub (.cons _ (.cons _ (.cons _ (.cons _ (List.Sublist.refl _)))))⟩⟩⟩
      · refine rangeEnd_of hH7 .here (by simp) rfl fun H8 hH8 => ?_
        repeat' (first | refine zP ?_ | refine zA ?_ | (refine zM ?_; intro _ _) | refine zX ?_ | (refine zC ?_; intro _ _ _ _) | (refine zS ?_; intro _ _) | (apply Ws <;> intro hg))
        exact retC2D (v := .slice (some ⟨b, 0, some 0⟩) m cp) (w := .int .i64 0) trivial rfl rfl hH8 (.cons _ (List.Sublist.refl _)) (List.Perm.refl _) fun H' h' => ⟨h'.read (.tail _ (.head _)) (.row _ _ _ _) (Nat.zero_le _) rfl, h'.read (.head _) (.row _ _ _ _) (Nat.zero_le _) rfl, n7, hn7, .inr ⟨vs, n, m, rfl, hV, .inr ⟨k, b, cp, hk, hf, hno, rfl, hSc, h'.sub (.cons _ (.cons _ (List.Sublist.refl _)))⟩⟩⟩
  · repeat' (first | refine zP ?_ | refine zA ?_ | (refine zM ?_; intro _ _) | refine zX ?_ | (refine zC ?_; intro _ _ _ _) | (refine zS ?_; intro _ _) | refine zO ?_ | (apply Ws <;> intro hg))
    rename_i H4 hH4 H5 hH5
    exact retC2D (v := .slice none 0 0) (w := .int .i64 (valsE fs)) trivial rfl rfl hH5 (List.Sublist.refl _) (List.Perm.refl _) fun H' h' => ⟨h'.read (.tail _ (.head _)) (.row _ _ _ _) (Nat.zero_le _) rfl, h'.read (.head _) (.row _ _ _ _) (Nat.zero_le _) rfl, n0 + 3, by omega, .inl ⟨h1, rfl, h'.tail.tail.tail⟩⟩
end
end Go.Proofs.Ytaipmdhnhffckaa.Sh

namespace Go.Abs
set_option linter.unusedSectionVars false
variable [Globs]
open Go
section
variable {C : CW} {nt : Nat} {L : Env} {D : List Nat} {H H' : Heap} {K : St → Prop} {M M' : HL} {n i : Nat} {gd : Option (Tmp × Bool)} {lo : List Nat} {l : List POp} {rs : List Rd}
theorem WD.op0 {op : AOp} {v : Value} (hg : gOK L gd) (hv : OpV C op L H v H') (hn : reads op = false) (hs : stands H' lo rs = true) (k : WD C nt l rs L D H' K) : WD C nt (⟨i, none, op, gd, lo⟩ :: l) rs L D H K := by
  intro t ht
  obtain ⟨m, s', h1, h2⟩ := k _ ht
  refine ⟨m, s', ?_, h2⟩
  have e1 : doOp C.c (runW C m) nt ⟨i, none, op, gd, lo⟩ ⟨t, D, H⟩ = some ⟨t, D, H'⟩ := by simp only [doOp, hg.wanted ht, cond_true, hv t ht, ans, afterOp, putT, stOf]
  have e2 : noteRd ⟨i, none, op, gd, lo⟩ ⟨t, D, H⟩ ⟨t, D, H'⟩ rs = rs := by
    unfold noteRd
    rw [hg.wanted ht, cond_true]
    cases op <;> first | rfl | cases hn
  simp only [stepOpsD, e1, hs, cond_true, e2]; exact h1
/-- One cell is stored to while a read is still looked at. -/
theorem WD.storeBox {x y : Operand} {v w : Value} {b e u : Nat} (hg : gOK L gd) (hH : hasH M n H) (hx : ev L x = some (.pointer (some ⟨b, 0, some u⟩))) (hy : ev L y = some v) (h1 : one v = true) (hu : Upd M b (.row e u 0 [w]) (.row e u 0 [v]) M')
    (k : ∀ H', hasH M' n H' → stands H' lo rs = true ∧ WD C nt l rs L D H' K) : WD C nt (⟨i, none, .store x y 1, gd, lo⟩ :: l) rs L D H K := by
  obtain ⟨H', g1, g2⟩ := hH.writeN (l := [v]) hu (by simp [h1]) (Nat.le_refl _) (by simp) (by simp [splice])
  obtain ⟨k1, k2⟩ := k H' g2
  have hc : v.cells.toList = [v] := by cases v <;> first | rfl | cases h1
  refine WD.op0 hg (v := undef) (H' := H') (fun t ht => ?_) rfl k1 k2
  have hb : Nat.beq [v].length 1 = true := rfl
  simp only [opA, ev_ok ht hx, ev_ok ht hy, hc, oStore, hb, cond_true, g1, asSkip]
end
end Go.Abs
namespace Go.Proofs.Ytaipmdhnhffckaa.Sh
open Go Go.Abs Go.Mth
set_option linter.unusedVariables false
set_option linter.unusedSimpArgs false
def gainK (vs : List (List Nat)) (n m k : Nat) : Nat × Nat := gainW (fun i => (ownL vs (shs n (IL (divK n m k))) n).getD i 0) n
/-- The first one with the greatest gain. -/
def bestK (g : Nat → Nat × Nat) : Nat → Nat
  | 0 => 0
  | k + 1 => if k = 0 then 0 else if gtG (g k) (g (bestK g k)) = true then k else bestK g k
attribute [local irreducible] gOK WS WC WR WD Ends FS YS OpV seqK blockK loopK midK retK rdK asgK rangeEnd sat Cell
section
variable {M B : HL} {n0 : Nat} {H : Heap} {v w vv sv : Value} {vs : List (List Nat)} {ss : List Nat} {n m : Nat}
set_option maxHeartbeats 4000000 in
theorem Count_fs (hH : hasH M n0 H) {fs : List (List Int)} (hR : RowsI M v fs) (hl : fs.length ≤ 1000) (hll : ∀ l ∈ fs, l.length ≤ 1000) :
    FS C 40 [v] H (fun e H' => ∃ n', n0 ≤ n' ∧ hasH M n' H' ∧ ((valsE fs ≠ 0 ∧ e = .tuple #[.int .i64 0, .int .i64 (valsE fs)]) ∨ (∃ vs n m, fs = ILL vs ∧ OKV vs n m ∧ e = .tuple #[.int .i64 (cntK (fairK vs n m) (n ^ m) : Nat), .int .i64 0]))) := by
  have hv1 := hR.one_
  refine FS.intro (pf := pf40) rfl rfl rfl ?_
  repeat' (first | refine zP ?_ | refine zA ?_ | (refine zM ?_; intro _ _) | refine zX ?_ | (refine zC ?_; intro _ _ _ _) | (refine zS ?_; intro _ _) | (apply Ws <;> intro hg))
  refine WR.box1 (by first | exact gN | exact gS rfl) rfl hH rfl hv1 fun H1 hH1 => ?_
  repeat' (first | refine zP ?_ | refine zA ?_ | (refine zM ?_; intro _ _) | refine zX ?_ | (refine zC ?_; intro _ _ _ _) | (refine zS ?_; intro _ _) | (apply Ws <;> intro hg))
  refine WR.call (by first | exact gN | exact gS rfl) rfl rfl (Check_fs hH1 hR.cons hl hll) ?_
  rintro _ _ ⟨rfl, rfl⟩
  by_cases h1 : valsE fs = 0
  · obtain ⟨vs, n, m, rfl, hV⟩ := vals_ok h1
    have hVal := RowsI.vals hR
    have hvl := hV.len
    have hm6 := hV.m6
    have hn4 := hV.n4
    have hn1 := hV.pos
    have hpw := pow_4096 hn4 hm6 hn1
    rw [h1]
    repeat' (first | refine zP ?_ | refine zA ?_ | (refine zM ?_; intro _ _) | refine zX ?_ | (refine zC ?_; intro _ _ _ _) | (refine zS ?_; intro _ _) | refine zO ?_ | (apply Ws <;> intro hg))
    rename_i H2 hH2 H3 hH3
    refine WR.call (by first | exact gN | exact gS rfl) rfl rfl (allOwners_fs hH3 hv1) ?_
    rintro _ H4 ⟨rfl, hH4⟩
    clear hH3 hH2 hH1
    repeat' (first | refine zP ?_ | refine zA ?_ | (refine zM ?_; intro _ _) | refine zX ?_ | (refine zC ?_; intro _ _ _ _) | (refine zS ?_; intro _ _) | (apply Ws <;> intro hg))
    refine WC.range0 (va := []) (vb := [.pointer (some ⟨n0 + 1 + 1, 0, some 0⟩)]) rfl hH4 fun t ht H5 hH5 => ?_
    clear hH4
    generalize hR2 : ({ state := .ready, pending := none, fn := 40, tmps := t, params := [14], assign := _, body := _, nt := _ } : LoopE) = R at hH5
    refine FS.mono (allOwners1_fs (lY := n0 + 1 + 1 + 1 + 1) (nv := n0 + 1 + 1) (v := v) (vs := vs) (n := n) (m := m) (n0 := n0 + 1 + 1 + 1 + 2)
      (M := (n0 + 1 + 1 + 1 + 1, .loop R) :: (n0 + 1 + 1 + 1, .defd false) :: (n0 + 1 + 1, .row 22 0 0 [v]) :: (n0 + 1, .row 3 0 0 [.int .i64 (0 : Nat)]) :: (n0, .row 22 0 0 [v]) :: M)
      (J := fun k M' n' => n0 ≤ n' ∧ M' = (n0 + 1 + 1 + 1 + 1, .loop R) :: (n0 + 1 + 1 + 1, .defd false) :: (n0 + 1 + 1, .row 22 0 0 [v]) :: (n0 + 1, .row 3 0 0 [.int .i64 (cntK (fairK vs n m) k : Nat)]) :: (n0, .row 22 0 0 [v]) :: M)
      (S := fun M' n' => False)
      hV ?_ (fun k M' n' n'' h1 h2 => ⟨by omega, h1.2⟩) ?_ hH5 ⟨by omega, rfl⟩) ?_
    · rintro k M' n' ⟨_, rfl⟩
      exact ⟨by simp, hVal.mono fun q hq => by simp [hq]⟩
    · rintro k _ n' H6 ⟨hn', rfl⟩ hk hH6
      refine YS.intro hH6 (.tail _ (.head _)) (by rw [← hR2]) (by rw [← hR2]) (by rw [← hR2]; rfl) (by rw [← hR2]; exact ht) ?_
      subst hR2
      dsimp only
      repeat' (first | refine zA ?_ | (refine zM ?_; intro _ _) | (apply Ws <;> intro hg))
      refine Ends.asg hH6 (.there .here) fun H7 hH7 => ?_
      dsimp only
      clear hH6
      have hok := divK_ok (m := m) (k := k) hn1
      have hcle := cntK_le (fairK vs n m) k
      have hcs : cntK (fairK vs n m) (k + 1) = cntK (fairK vs n m) k + (if fairK vs n m k = true then 1 else 0) := rfl
      repeat' (first | refine zP ?_ | refine zA ?_ | (refine zM ?_; intro _ _) | refine zX ?_ | (refine zC ?_; intro _ _ _ _) | (refine zS ?_; intro _ _) | (apply Ws <;> intro hg))
      have hrow : ∀ {X : HL}, Sl ((n0 + 1 + 1 + 1 + 2, .row 3 0 0 (nodes (divK n m k))) :: X) 1 (.slice (some ⟨n0 + 1 + 1 + 1 + 2, 0, some 0⟩) m (2 * m + 1)) (ints (IL (divK n m k))) := Sl.asInts (Sl.mkd (by simp [divK_len]))
      obtain ⟨ws, hW, hwl, hws⟩ := hVal.ex
      refine WR.call (by first | exact gN | exact gS rfl) rfl rfl (divide_fs hH7 (hW.mono fun q hq => by simp [hq]) (by omega) hrow (by simp [divK_len]; omega) (by rw [hwl, hvl]; exact hok.bd)) ?_
      rintro _ H8 ⟨b, n8, hn8, rfl, hH8⟩
      rw [hwl, hvl] at hH8
      rw [hwl, hvl]
      refine WR.call (by first | exact gN | exact gS rfl) rfl rfl (isFair_fs (vs := vs) (ss := shs n (IL (divK n m k))) (n := n) (m := m) ⟨hV, hVal.mono fun q hq => by simp [hq], Sl.mkd (by simp [shs]), shs_len _ _, shs_bd hok.len⟩ hH8) ?_
      rintro _ H9 ⟨rfl, n9, hn9, hH9⟩
      clear hH7 hH8
      replace hH9 := hH9.tail
      have hfk : fairK vs n m k = (pairsL (envP vs (shs n (IL (divK n m k)))) n).isEmpty := rfl
      rw [← hfk]
      cases hf : fairK vs n m k with
      | false =>
        rw [hf, if_neg (by decide), Nat.add_zero] at hcs
        repeat' (first | refine zP ?_ | refine zA ?_ | (refine zM ?_; intro _ _) | refine zX ?_ | (refine zC ?_; intro _ _ _ _) | (refine zS ?_; intro _ _) | (apply Ws <;> intro hg))
        exact Ends.rd rfl rfl rfl hH9 (.there .here) fun H' h' => ⟨_, n9, h', .inl ⟨rfl, by omega, by rw [hcs]; rfl⟩⟩
      | true =>
        rw [hf, if_pos rfl] at hcs
        repeat' (first | refine zP ?_ | refine zA ?_ | (refine zM ?_; intro _ _) | refine zX ?_ | (refine zC ?_; intro _ _ _ _) | (refine zS ?_; intro _ _) | (apply Ws <;> intro hg))
        rw [show ((cntK (fairK vs n m) k : Nat) : Int) + 1 = ((cntK (fairK vs n m) (k + 1) : Nat) : Int) by omega]
        rename_i HA hHA
        exact Ends.rd rfl rfl rfl hHA (.there .here) fun H' h' => ⟨_, n9, h', .inl ⟨rfl, by omega, by rw [show ((cntK (fairK vs n m) (k + 1) : Nat) : Int) = ((cntK (fairK vs n m) k : Nat) : Int) + 1 by omega]; rfl⟩⟩
    · rintro _ H7 ⟨M7, n7, hH7, ⟨hn7, rfl⟩ | h⟩
      · refine rangeEnd_of hH7 .here (by rw [← hR2]; simp) (by rw [← hR2]; rfl) fun H8 hH8 => ?_
        repeat' (first | refine zP ?_ | refine zA ?_ | (refine zM ?_; intro _ _) | refine zX ?_ | (refine zC ?_; intro _ _ _ _) | (refine zS ?_; intro _ _) | (apply Ws <;> intro hg))
        exact Ends.ret2D rfl rfl hH8 (.cons _ (List.Sublist.refl _)) (List.Perm.refl _) fun H' h' => ⟨n7, hn7, h'.sub (.cons _ (.cons _ (.cons _ (List.Sublist.refl _)))), .inr ⟨vs, n, m, rfl, hV, rfl⟩⟩
      · exact h.elim
  · repeat' (first | refine zP ?_ | refine zA ?_ | (refine zM ?_; intro _ _) | refine zX ?_ | (refine zC ?_; intro _ _ _ _) | (refine zS ?_; intro _ _) | refine zO ?_ | (apply Ws <;> intro hg))
    exact Ends.ret2 rfl rfl ⟨n0 + 1, by omega, hH1.tail, .inl ⟨h1, rfl⟩⟩
end
end Go.Proofs.Ytaipmdhnhffckaa.Sh

namespace Go.Proofs.Ytaipmdhnhffckaa.Sh
open Go Go.Abs Go.Mth
set_option linter.unusedVariables false
set_option linter.unusedSimpArgs false
structure KTK where
  t : Nat
  K : Nat
attribute [local irreducible] gOK WS WC WR WD Ends FS YS OpV seqK blockK loopK midK retK rdK asgK rangeEnd sat Cell
section
variable {M B : HL} {n0 : Nat} {H : Heap} {v w vv sv : Value} {vs : List (List Nat)} {ss : List Nat} {n m : Nat}
end
end Go.Proofs.Ytaipmdhnhffckaa.Sh

namespace Go.Proofs.Ytaipmdhnhffckaa.Sh
open Go Go.Abs Go.Mth
set_option linter.unusedVariables false
set_option linter.unusedSimpArgs false
/-- Each finder's share is worth at least the n-th part to it. -/
def partK (vs : List (List Nat)) (ss : List Nat) (n : Nat) : Nat → Bool
  | 0 => true
  | i + 1 => partK vs ss n i && decide (sumN (fun j => wor (vs.getD i []) (ss.getD j 0)) n ≤ n * wor (vs.getD i []) (ss.getD i 0))
attribute [local irreducible] gOK WS WC WR WD Ends FS YS OpV seqK blockK loopK midK retK rdK asgK rangeEnd sat Cell
section
variable {M : HL} {n0 : Nat} {H : Heap} {v w : Value} {vs : List (List Nat)} {n m : Nat}
end
end Go.Proofs.Ytaipmdhnhffckaa.Sh

namespace Go.Proofs.Ytaipmdhnhffckaa.Sh
open Go Go.Abs Go.Mth
set_option linter.unusedVariables false
set_option linter.unusedSimpArgs false
theorem okv_one {vs us : List (List Nat)} {n m N k : Nat} (h : OKV vs n m) (hu : OKV us N k) (he : ILL us = ILL vs) : us = vs ∧ N = n ∧ k = m := by
  have h1 : us = vs := by rw [← natV_ILL us, he, natV_ILL]
  subst h1
  have h2 : N = n := by rw [← hu.len, h.len]
  subst h2
  refine ⟨rfl, rfl, ?_⟩
  rw [← hu.rowLen hu.pos, h.rowLen hu.pos]
theorem cnt_zero {p : Nat → Bool} : ∀ {k : Nat}, cntK p k = 0 → ∀ i, i < k → p i = false
  | 0, _, i, hi => absurd hi (Nat.not_lt_zero _)
  | k + 1, h, i, hi => by
    have h1 : cntK p k + (if p k = true then 1 else 0) = 0 := h
    by_cases e : i = k
    · rw [e]
      cases hp : p k with
      | false => rfl
      | true => rw [hp, if_pos rfl] at h1; omega
    · exact cnt_zero (k := k) (by omega) i (by omega)
attribute [local irreducible] gOK WS WC WR WD Ends FS YS OpV seqK blockK loopK midK retK rdK asgK rangeEnd sat Cell
section
variable {M : HL} {n0 : Nat} {H : Heap}
end
end Go.Proofs.Ytaipmdhnhffckaa.Sh

namespace Go.Proofs.Ytaipmdhnhffckaa.Sh
open Go Go.Abs Go.Mth
set_option linter.unusedVariables false
set_option linter.unusedSimpArgs false
def betK (vs : List (List Nat)) (n m : Nat) (o : List Int) (k : Nat) : Bool := betB (fun i => (ownL vs (shs n (IL (divK n m k))) n).getD i 0) (fun i => (ownL vs (shs n o) n).getD i 0) n
attribute [local irreducible] gOK WS WC WR WD Ends FS YS OpV seqK blockK loopK midK retK rdK asgK rangeEnd sat Cell
section
variable {M B : HL} {n0 : Nat} {H : Heap} {v w vv sv : Value} {vs : List (List Nat)} {ss : List Nat} {n m : Nat}
end
end Go.Proofs.Ytaipmdhnhffckaa.Sh

/- The division with the greatest product: nobody envies anybody by more than one thing, and none is better. -/
namespace Go.Proofs.Ytaipmdhnhffckaa.Sh
open Go Go.Abs Go.Mth
set_option linter.unusedVariables false
set_option linter.unusedSimpArgs false
theorem worTo_sum (f : List Nat) (s : Nat) : ∀ k, worTo f s k = sumN (fun i => if s.testBit i = true then f.getD i 0 else 0) k
  | 0 => rfl
  | k + 1 => by
    show worTo f s k + _ = sumN _ k + _
    rw [worTo_sum f s k]
theorem wor_sum {f : List Nat} {o : List Int} {x m : Nat} (hf : f.length = m) (ho : o.length = m) : wor f (shr o x) = sumN (fun k => if o.getD k (-1) = (x : Int) then f.getD k 0 else 0) m := by
  rw [wor, hf, worTo_sum]
  refine sumN_congr fun i hi => ?_
  by_cases e : o.getD i (-1) = (x : Int)
  · rw [if_pos e, if_pos (shr_bit.2 ⟨by omega, e⟩)]
  · rw [if_neg e, if_neg fun h => e (shr_bit.1 h).2]
end Go.Proofs.Ytaipmdhnhffckaa.Sh

/- Divisions under a numbering of the finders, and with a thing more. -/
namespace Go.Proofs.Ytaipmdhnhffckaa.Sh
open Go Go.Abs Go.Mth
set_option linter.unusedVariables false
set_option linter.unusedSimpArgs false
/-- A sum over all divisions. -/
def sumD (F : List Nat → Nat) (n m : Nat) : Nat := sumN (fun k => F (divK n m k)) (n ^ m)
theorem sumN_plus (g : Nat → Nat) (a : Nat) : ∀ b, sumN g (a + b) = sumN g a + sumN (fun i => g (a + i)) b
  | 0 => rfl
  | b + 1 => by
    show sumN g (a + b) + g (a + b) = _
    rw [sumN_plus g a b]
    simp only [sumN]
    omega
theorem sumN_mul (g : Nat → Nat) (n : Nat) : ∀ N, sumN g (N * n) = sumN (fun k => sumN (fun x => g (k * n + x)) n) N
  | 0 => by rw [Nat.zero_mul]; rfl
  | N + 1 => by
    rw [Nat.succ_mul, sumN_plus, sumN_mul g n N]; rfl
theorem sumN_const (F : Nat → Nat) (c : Nat) : ∀ N, sumN (fun k => c * F k) N = c * sumN F N
  | 0 => rfl
  | N + 1 => by
    simp only [sumN]
    rw [sumN_const F c N, Nat.mul_add]
theorem sumN_same (c : Nat) : ∀ N, sumN (fun _ => c) N = N * c
  | 0 => by simp [sumN]
  | N + 1 => by
    simp only [sumN]
    rw [sumN_same c N, Nat.succ_mul]
theorem sumD_succ {F : List Nat → Nat} {n m : Nat} (hn : 1 ≤ n) : sumD F n (m + 1) = sumD (fun l => sumN (fun x => F (l ++ [x])) n) n m := by
  unfold sumD
  rw [Nat.pow_succ, sumN_mul]
  refine sumN_congr fun k hk => sumN_congr fun x hx => ?_
  rw [show divK n (m + 1) (k * n + x) = divK n m ((k * n + x) / n) ++ [(k * n + x) % n] from rfl, Nat.mul_comm, Nat.mul_add_div (by omega), Nat.div_eq_of_lt hx, Nat.add_zero, Nat.mul_add_mod, Nat.mod_eq_of_lt hx]
theorem sumD_congr {F G : List Nat → Nat} {n m : Nat} (hn : 1 ≤ n) (h : ∀ l : List Nat, l.length = m → (∀ x ∈ l, x < n) → F l = G l) : sumD F n m = sumD G n m :=
  sumN_congr fun k hk => h _ (divK_len n m k) (divK_lt hn m k)
theorem sumD_perm {π : Nat → Nat} {n : Nat} (hn : 1 ≤ n) (hp : ∀ f : Nat → Nat, sumN (fun x => f (π x)) n = sumN f n) : ∀ (m : Nat) (F : List Nat → Nat), sumD (fun l => F (l.map π)) n m = sumD F n m
  | 0, F => rfl
  | m + 1, F => by
    rw [sumD_succ hn, sumD_succ hn]
    refine Eq.trans ?_ (sumD_perm hn hp m (fun l => sumN (fun x => F (l ++ [x])) n))
    refine sumD_congr hn fun l _ _ => ?_
    show sumN (fun x => F ((l ++ [x]).map π)) n = sumN (fun x => F (l.map π ++ [x])) n
    rw [← hp fun x => F (l.map π ++ [x])]
    refine sumN_congr fun x hx => ?_
    rw [List.map_append, List.map_singleton]
theorem cnt_sum (vs : List (List Nat)) (n m : Nat) : cntK (fairK vs n m) (n ^ m) = sumD (fun l => if (pairsL (envP vs (shs n (IL l))) n).isEmpty = true then 1 else 0) n m := rfl
/-- The finders in another order. -/
theorem shr_map {l : List Nat} {π : Nat → Nat} {n i : Nat} (hl : ∀ x ∈ l, x < n) (hi : i < n) (hinj : ∀ a b, a < n → b < n → π a = π b → a = b) : shr (IL (l.map π)) (π i) = shr (IL l) i := by
  refine Nat.eq_of_testBit_eq fun j => ?_
  rw [Bool.eq_iff_iff, shr_bit, shr_bit]
  simp only [List.length_map]
  refine and_congr_right fun hj => ?_
  have h1 : (IL (l.map π)).getD j (-1) = ((π (l.getD j 0) : Nat) : Int) := by
    rw [getD_eq (by simpa using hj), getD_eq (by simpa using hj)]; simp
  have h2 : (IL l).getD j (-1) = ((l.getD j 0 : Nat) : Int) := by
    rw [getD_eq (by simpa using hj), getD_eq (by simpa using hj)]; simp
  have hlt := hl _ (getD_mem (a := 0) hj)
  rw [h1, h2]
  constructor
  · intro h
    rw [hinj _ _ hlt hi (by omega)]
  · intro h
    rw [show l.getD j 0 = i by omega]
theorem env_ren {vs us : List (List Nat)} {l : List Nat} {π : Nat → Nat} {n : Nat} (hl : ∀ x ∈ l, x < n) (hlt : ∀ a, a < n → π a < n) (hinj : ∀ a b, a < n → b < n → π a = π b → a = b)
    (hsur : ∀ a, a < n → ∃ b, b < n ∧ π b = a) (hu : ∀ i, i < n → us.getD i [] = vs.getD (π i) []) :
    (pairsL (envP us (shs n (IL l))) n).isEmpty = (pairsL (envP vs (shs n (IL (l.map π)))) n).isEmpty := by
  have key : ∀ a b, a < n → b < n → envP us (shs n (IL l)) a b = envP vs (shs n (IL (l.map π))) (π a) (π b) := fun a b ha hb => by
    unfold envP
    rw [shs_get _ ha, shs_get _ hb, shs_get _ (hlt a ha), shs_get _ (hlt b hb), shr_map hl ha hinj, shr_map hl hb hinj, hu a ha]
  rw [Bool.eq_iff_iff, List.isEmpty_iff, List.isEmpty_iff, pairs_nil, pairs_nil]
  constructor
  · intro h a b ha hb
    obtain ⟨x, hx, rfl⟩ := hsur a ha
    obtain ⟨y, hy, rfl⟩ := hsur b hb
    rw [← key x y hx hy]; exact h x y hx hy
  · intro h a b ha hb
    rw [key a b ha hb]; exact h _ _ (hlt a ha) (hlt b hb)
theorem cnt_ren {vs us : List (List Nat)} {π : Nat → Nat} {n m : Nat} (hn : 1 ≤ n) (hp : ∀ f : Nat → Nat, sumN (fun x => f (π x)) n = sumN f n) (hlt : ∀ a, a < n → π a < n) (hinj : ∀ a b, a < n → b < n → π a = π b → a = b)
    (hsur : ∀ a, a < n → ∃ b, b < n ∧ π b = a) (hu : ∀ i, i < n → us.getD i [] = vs.getD (π i) []) : cntK (fairK us n m) (n ^ m) = cntK (fairK vs n m) (n ^ m) := by
  rw [cnt_sum, cnt_sum]
  refine Eq.trans ?_ (sumD_perm hn hp m (fun l => if (pairsL (envP vs (shs n (IL l))) n).isEmpty = true then 1 else 0))
  refine sumD_congr hn fun l h1 h2 => ?_
  rw [env_ren h2 hlt hinj hsur hu]
/-- A thing more, worth nothing to anybody. -/
theorem wor_more {f : List Nat} {l : List Nat} {x j m : Nat} (hf : f.length = m) (hl : l.length = m) : wor (f ++ [0]) (shr (IL (l ++ [x])) j) = wor f (shr (IL l) j) := by
  rw [wor_sum (m := m + 1) (by simp [hf]) (by simp [hl]), wor_sum (m := m) hf (by simp [hl])]
  simp only [sumN]
  have h0 : (f ++ [0]).getD m 0 = 0 := by
    rw [List.getD_eq_getElem?_getD, List.getElem?_append_right (by omega), hf, Nat.sub_self]; rfl
  rw [h0, ite_self, Nat.add_zero]
  refine sumN_congr fun i hi => ?_
  have h1 : (IL (l ++ [x])).getD i (-1) = (IL l).getD i (-1) := by
    rw [getD_eq (by simp [hl]; omega), getD_eq (by simp [hl]; omega)]
    simp only [List.getElem_map]
    rw [List.getElem_append_left (by omega)]
  have h2 : (f ++ [0]).getD i 0 = f.getD i 0 := by
    rw [getD_eq (by simp [hf]; omega), getD_eq (by omega), List.getElem_append_left (by omega)]
  rw [h1, h2]
theorem env_more {vs us : List (List Nat)} {l : List Nat} {x n m : Nat} (hl : l.length = m) (hr : ∀ i, i < n → (vs.getD i []).length = m) (hu : ∀ i, i < n → us.getD i [] = vs.getD i [] ++ [0]) :
    (pairsL (envP us (shs n (IL (l ++ [x])))) n).isEmpty = (pairsL (envP vs (shs n (IL l))) n).isEmpty := by
  have key : ∀ a b, a < n → b < n → envP us (shs n (IL (l ++ [x]))) a b = envP vs (shs n (IL l)) a b := fun a b ha hb => by
    unfold envP envB
    rw [shs_get _ ha, shs_get _ hb, shs_get _ ha, shs_get _ hb, hu a ha, wor_more (hr a ha) hl, wor_more (hr a ha) hl]
  rw [Bool.eq_iff_iff, List.isEmpty_iff, List.isEmpty_iff, pairs_nil, pairs_nil]
  exact ⟨fun h a b ha hb => by rw [← key a b ha hb]; exact h a b ha hb, fun h a b ha hb => by rw [key a b ha hb]; exact h a b ha hb⟩
theorem cnt_more {vs us : List (List Nat)} {n m : Nat} (hn : 1 ≤ n) (hr : ∀ i, i < n → (vs.getD i []).length = m) (hu : ∀ i, i < n → us.getD i [] = vs.getD i [] ++ [0]) : cntK (fairK us n (m + 1)) (n ^ (m + 1)) = cntK (fairK vs n m) (n ^ m) * n := by
  rw [cnt_sum, cnt_sum, sumD_succ hn, Nat.mul_comm]
  rw [show n * sumD (fun l => if (pairsL (envP vs (shs n (IL l))) n).isEmpty = true then 1 else 0) n m = sumD (fun l => n * (if (pairsL (envP vs (shs n (IL l))) n).isEmpty = true then 1 else 0)) n m from (sumN_const _ n _).symm]
  refine sumD_congr hn fun l h1 h2 => ?_
  rw [← sumN_same]
  exact sumN_congr fun x hx => by rw [env_more h1 hr hu]
/-- Turned by a, and the other way round. -/
def rotR (n r x : Nat) : Nat := (n - 1 - x + r) % n
theorem rot_sum {n r : Nat} (hn1 : 1 ≤ n) (hn : n ≤ 4) (hr : r < n) (f : Nat → Nat) : sumN (fun x => f (rotR n r x)) n = sumN f n := by
  obtain rfl | rfl | rfl | rfl : n = 1 ∨ n = 2 ∨ n = 3 ∨ n = 4 := by omega
  · obtain rfl : r = 0 := by omega
    rfl
  · obtain rfl | rfl : r = 0 ∨ r = 1 := by omega
    all_goals simp [sumN, rotR]; try omega
  · obtain rfl | rfl | rfl : r = 0 ∨ r = 1 ∨ r = 2 := by omega
    all_goals simp [sumN, rotR]; try omega
  · obtain rfl | rfl | rfl | rfl : r = 0 ∨ r = 1 ∨ r = 2 ∨ r = 3 := by omega
    all_goals simp [sumN, rotR]; try omega
theorem rot_dec : ∀ n : Fin 5, ∀ r : Fin 4, r.val < n.val → (∀ a : Fin 4, a.val < n.val → rotR n.val r.val a.val < n.val) ∧ (∀ a b : Fin 4, a.val < n.val → b.val < n.val → rotR n.val r.val a.val = rotR n.val r.val b.val → a = b) ∧ (∀ a : Fin 4, a.val < n.val → ∃ b : Fin 4, b.val < n.val ∧ rotR n.val r.val b.val = a.val) := by decide
theorem rot_facts {n r : Nat} (hn : n ≤ 4) (hr : r < n) : (∀ a, a < n → rotR n r a < n) ∧ (∀ a b, a < n → b < n → rotR n r a = rotR n r b → a = b) ∧ (∀ a, a < n → ∃ b, b < n ∧ rotR n r b = a) := by
  obtain ⟨h1, h2, h3⟩ := rot_dec ⟨n, by omega⟩ ⟨r, by omega⟩ hr
  refine ⟨fun a ha => h1 ⟨a, by omega⟩ ha, fun a b ha hb e => Fin.mk.inj (h2 ⟨a, by omega⟩ ⟨b, by omega⟩ ha hb e), fun a ha => ?_⟩
  obtain ⟨b, hb, e⟩ := h3 ⟨a, by omega⟩ ha
  exact ⟨b.val, hb, e⟩
end Go.Proofs.Ytaipmdhnhffckaa.Sh
