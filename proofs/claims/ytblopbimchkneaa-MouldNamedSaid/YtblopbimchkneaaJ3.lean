/- Texts of the law, joined. -/
import Derived.Test.YtblopbimchkneaaJ2
import Derived.Test.YtblopbimchkneaaSymG
import Derived.Test.YtblopbimchkneaaJ1
import Derived.Test.YtblopbimchkneaaSymK
import Derived.Test.YtblopbimchkneaaSymR
namespace Go.Proofs.Ytblopbimchkneaa.Md
open Go Go.Abs Go.Mth
set_option linter.unusedVariables false
set_option linter.unusedSimpArgs false
/-! How many bits are 1. -/
def pc1 (x : Nat) : Nat := ((x >>> 1) &&& 6148914691236517205) + (x &&& 6148914691236517205)
def pc2 (x : Nat) : Nat := ((x >>> 2) &&& 3689348814741910323) + (x &&& 3689348814741910323)
def pc3 (x : Nat) : Nat := ((x >>> 4) + x) &&& 1085102592571150095
def pcS (k x : Nat) : Nat := x + (x >>> k)
def pcA (x : Nat) : Nat := pcS 32 (pcS 16 (pcS 8 (pc3 (pc2 (pc1 x))))) &&& 127
attribute [local irreducible] gOK WS WC WR WD Ends FS YS OpV seqK blockK loopK midK retK rdK asgK rangeEnd sat Cell
end Go.Proofs.Ytblopbimchkneaa.Md

namespace Go.Proofs.Ytblopbimchkneaa.Md
open Go Go.Abs Go.Mth
set_option linter.unusedVariables false
set_option linter.unusedSimpArgs false
/-! After which mark each one arose. -/
def folB (ns : List Nat) (m o : Nat) : Bool := !someB ns o false m true && (someB ns o true m false || decide (o < m))
def cnt (ns : List Nat) (a : Nat) : Nat := (bitsL (msk ns a) 8).length
/-- The nearest one of those before k. -/
def NR (ns : List Nat) (m k : Nat) (r : Int) : Prop :=
  (r = -1 ∧ ∀ o, o < k → folB ns m o = false) ∨ ∃ o : Nat, r = o ∧ o < k ∧ folB ns m o = true ∧ ∀ o', o' < k → folB ns m o' = true → cnt ns o ≤ cnt ns o' ∧ (cnt ns o' = cnt ns o → o' ≤ o)
theorem NR.unique {ns : List Nat} {m k : Nat} {r s : Int} (h : NR ns m k r) (h' : NR ns m k s) : r = s := by
  rcases h with ⟨rfl, h1⟩ | ⟨o, rfl, h1, h2, h3⟩ <;> rcases h' with ⟨rfl, g1⟩ | ⟨p, rfl, g1, g2, g3⟩
  · rfl
  · rw [h1 p g1] at g2; cases g2
  · rw [g1 o h1] at h2; cases h2
  · have a := h3 p g1 g2
    have b := g3 o h1 h2
    have e : cnt ns p = cnt ns o := by omega
    have := a.2 e
    have := b.2 e.symm
    omega
/-- After which mark one arose. -/
def AfterR (N : Nat) (ns : List Nat) (m : Nat) (r : Int) : Prop := if cnt ns m = 0 then r = -1 else NR ns m N r
theorem AfterR.unique {N : Nat} {ns : List Nat} {m : Nat} {r s : Int} (h : AfterR N ns m r) (h' : AfterR N ns m s) : r = s := by
  unfold AfterR at h h'
  split at h
  · rename_i h0; rw [if_pos h0] at h'; rw [h, h']
  · rename_i h0; rw [if_neg h0] at h'; exact h.unique h'
def OriginR (N : Nat) (ns : List Nat) (o : List Int) : Prop := o.length = N ∧ ∀ m, m < N → AfterR N ns m (o.getD m 0)
theorem OriginR.unique {N : Nat} {ns : List Nat} {o p : List Int} (h : OriginR N ns o) (h' : OriginR N ns p) : o = p :=
  ext_getD (a := 0) (by rw [h.1, h'.1]) fun i hi => (h.2 i (by rw [← h.1]; exact hi)).unique (h'.2 i (by rw [← h.1]; exact hi))
structure AS where
  k : Nat
  num : Int
  msk : Nat
  n : Nat
attribute [local irreducible] gOK WS WC WR WD Ends FS YS OpV seqK blockK loopK midK retK rdK asgK rangeEnd sat Cell
section
variable {M : HL} {n0 : Nat} {H : Heap} {v : Value} {ns : List Nat}
end
end Go.Proofs.Ytblopbimchkneaa.Md

namespace Go.Proofs.Ytblopbimchkneaa.Md
open Go Go.Abs Go.Mth
set_option linter.unusedVariables false
set_option linter.unusedSimpArgs false
attribute [local irreducible] gOK WS WC WR WD Ends FS YS OpV seqK blockK loopK midK retK rdK asgK rangeEnd sat Cell
section
variable {M : HL} {n0 : Nat} {H : Heap} {v : Value} {ns : List Nat}
end
end Go.Proofs.Ytblopbimchkneaa.Md

namespace Go.Proofs.Ytblopbimchkneaa.Md
open Go Go.Abs Go.Mth
set_option linter.unusedVariables false
set_option linter.unusedSimpArgs false
theorem NR.range {ns : List Nat} {m k : Nat} {r : Int} (h : NR ns m k r) : -1 ≤ r ∧ r < k := by
  rcases h with ⟨rfl, _⟩ | ⟨o, rfl, h, _⟩ <;> omega
theorem AfterR.range {N : Nat} {ns : List Nat} {m : Nat} {r : Int} (h : AfterR N ns m r) : -1 ≤ r ∧ r < N := by
  unfold AfterR at h
  split at h
  · omega
  · exact h.range
def cntTo (ns : List Nat) (a k : Nat) : Nat := ((List.range k).filter fun i => (ns.getD i 0).testBit a).length
structure OI where
  k : Nat
  v : Value
  l : List Int
  Mx : HL
  n : Nat
attribute [local irreducible] gOK WS WC WR WD Ends FS YS OpV seqK blockK loopK midK retK rdK asgK rangeEnd sat Cell
section
variable {M : HL} {n0 : Nat} {H : Heap} {v : Value} {ns : List Nat}
/-- What Origin returns of casts that were checked. -/
def OrgR (N : Nat) (ns : List Nat) (o : List Int) : Prop := if honB N ns = true then OriginR N ns o else o = []
end
end Go.Proofs.Ytblopbimchkneaa.Md

namespace Go.Proofs.Ytblopbimchkneaa.Md
open Go Go.Abs Go.Mth
set_option linter.unusedVariables false
set_option linter.unusedSimpArgs false
/-! Paths. -/
theorem someF {ns : List Nat} {a b : Nat} {p q : Bool} : someB ns a p b q = false ↔ ∀ c ∈ ns, ¬ (c.testBit a = p ∧ c.testBit b = q) := by
  unfold someB
  rw [List.any_eq_false]
  simp
theorem someT {ns : List Nat} {a b : Nat} {p q : Bool} : someB ns a p b q = true ↔ ∃ c ∈ ns, c.testBit a = p ∧ c.testBit b = q := by
  unfold someB
  rw [List.any_eq_true]
  simp
/-- All casts with m have o. -/
def In (ns : List Nat) (m o : Nat) : Prop := ∀ c ∈ ns, c.testBit m = true → c.testBit o = true
theorem fol_iff {ns : List Nat} {m o : Nat} : folB ns m o = true ↔ In ns m o ∧ ((∃ c ∈ ns, c.testBit o = true ∧ c.testBit m = false) ∨ o < m) := by
  unfold folB
  rw [Bool.and_eq_true, Bool.or_eq_true, Bool.not_eq_true', decide_eq_true_eq, someF, someT]
  refine and_congr_left' ?_
  constructor
  · intro h c hc hm
    cases hb : c.testBit o with
    | true => rfl
    | false => exact absurd ⟨hb, hm⟩ (h c hc)
  · rintro h c hc ⟨h1, h2⟩
    rw [h c hc h2] at h1; cases h1
theorem fol_irr (ns : List Nat) (m : Nat) : folB ns m m = false := by
  cases h : folB ns m m with
  | false => rfl
  | true =>
    obtain ⟨_, ⟨c, _, h1, h2⟩ | h1⟩ := fol_iff.1 h
    · rw [h1] at h2; cases h2
    · omega
theorem fol_trans {ns : List Nat} {m o p : Nat} (h1 : folB ns m o = true) (h2 : folB ns o p = true) : folB ns m p = true := by
  obtain ⟨a1, a2⟩ := fol_iff.1 h1
  obtain ⟨b1, b2⟩ := fol_iff.1 h2
  refine fol_iff.2 ⟨fun c hc hm => b1 c hc (a1 c hc hm), ?_⟩
  rcases a2 with ⟨c, hc, e1, e2⟩ | a2
  · exact .inl ⟨c, hc, b1 c hc e1, e2⟩
  · rcases b2 with ⟨c, hc, e1, e2⟩ | b2
    · refine .inl ⟨c, hc, e1, ?_⟩
      cases hb : c.testBit m with
      | false => rfl
      | true => rw [a1 c hc hb] at e2; cases e2
    · exact .inr (by omega)
theorem org_fol {ns : List Nat} {N : Nat} {o : List Int} (ho : OriginR N ns o) {x y : Nat} (hx : x < N) (h : o.getD x 0 = (y : Int)) : folB ns x y = true ∧ y < N := by
  have hA := ho.2 x hx
  unfold AfterR at hA
  split at hA
  · omega
  · rcases hA with ⟨h1, _⟩ | ⟨z, hz, h1, h2, _⟩
    · omega
    · have : y = z := by omega
      subst this; exact ⟨h2, h1⟩
def NextIs (N : Nat) (o : List Int) (c : Nat) (b : Int) (x : Nat) : Prop := x < N ∧ o.getD x 0 = b ∧ c.testBit x = true ∧ ∀ y, y < x → ¬ (o.getD y 0 = b ∧ c.testBit y = true)
def NoNext (N : Nat) (o : List Int) (c : Nat) (b : Int) : Prop := ∀ y, y < N → ¬ (o.getD y 0 = b ∧ c.testBit y = true)
inductive PathF (N : Nat) (o : List Int) (c : Nat) : Int → List Nat → Prop
  | nil {b : Int} (h : NoNext N o c b) : PathF N o c b []
  | cons {b : Int} {x : Nat} {l : List Nat} (h : NextIs N o c b x) (k : PathF N o c (x : Int) l) : PathF N o c b (x :: l)
theorem NextIs.unique {N c : Nat} {o : List Int} {b : Int} {x y : Nat} (h : NextIs N o c b x) (g : NextIs N o c b y) : x = y := by
  rcases Nat.lt_trichotomy x y with h1 | h1 | h1
  · exact absurd ⟨h.2.1, h.2.2.1⟩ (g.2.2.2 x h1)
  · exact h1
  · exact absurd ⟨g.2.1, g.2.2.1⟩ (h.2.2.2 y h1)
theorem PathF.unique {N c : Nat} {o : List Int} : ∀ {l k : List Nat} {b : Int}, PathF N o c b l → PathF N o c b k → l = k
  | [], [], _, _, _ => rfl
  | [], y :: k, _, .nil h, .cons g _ => absurd ⟨g.2.1, g.2.2.1⟩ (h y g.1)
  | x :: l, [], _, .cons g _, .nil h => absurd ⟨g.2.1, g.2.2.1⟩ (h x g.1)
  | x :: l, y :: k, _, .cons h h', .cons g g' => by
    obtain rfl := h.unique g
    rw [h'.unique g']
/-- A path that is under way. -/
inductive PathP (N : Nat) (o : List Int) (c : Nat) : List Nat → Int → Prop
  | nil : PathP N o c [] (-1)
  | snoc {l : List Nat} {b : Int} {x : Nat} (h : PathP N o c l b) (k : NextIs N o c b x) : PathP N o c (l ++ [x]) (x : Int)
theorem PathP.done {N c : Nat} {o : List Int} {l m : List Nat} {b : Int} (h : PathP N o c l b) : PathF N o c b m → PathF N o c (-1) (l ++ m) := by
  induction h generalizing m with
  | nil => exact fun k => k
  | snoc h k ih =>
    intro g
    rw [List.append_assoc]
    exact ih (.cons k g)
/-- Marks on the way are different, and each one follows those before. -/
theorem PathP.chain {ns : List Nat} {N c : Nat} {o : List Int} (ho : OriginR N ns o) {l : List Nat} {b : Int} (h : PathP N o c l b) :
    (∀ x ∈ l, x < N ∧ c.testBit x = true) ∧ l.Nodup ∧ ∀ y : Nat, (y : Int) = b → y ∈ l ∧ ∀ x ∈ l, x = y ∨ folB ns y x = true := by
  induction h with
  | nil => exact ⟨fun x hx => (by cases hx), .nil, fun y hy => by omega⟩
  | @snoc l b x h k ih =>
    obtain ⟨i1, i2, i3⟩ := ih
    obtain ⟨k1, k2, k3, k4⟩ := k
    have hfx : ∀ z ∈ l, folB ns x z = true := fun z hz => by
      rcases h with _ | @⟨l', b', y, h', k'⟩
      · cases hz
      · obtain ⟨_, hy⟩ := i3 y rfl
        have hf := (org_fol ho k1 k2).1
        rcases hy z hz with rfl | hyz
        · exact hf
        · exact fol_trans hf hyz
    refine ⟨fun z hz => ?_, ?_, fun y hy => ?_⟩
    · rcases List.mem_append.1 hz with h1 | h1
      · exact i1 z h1
      · rw [List.mem_singleton.1 h1]; exact ⟨k1, k3⟩
    · rw [List.nodup_append]
      refine ⟨i2, by simp, fun z hz w hw => ?_⟩
      rw [List.mem_singleton.1 hw]
      rintro rfl
      have := hfx z hz
      rw [fol_irr] at this; cases this
    · have : y = x := by omega
      subst this
      refine ⟨by simp, fun z hz => ?_⟩
      rcases List.mem_append.1 hz with h1 | h1
      · exact .inr (hfx z h1)
      · exact .inl (List.mem_singleton.1 h1)
theorem PathP.len {ns : List Nat} {N c : Nat} {o : List Int} (ho : OriginR N ns o) {l : List Nat} {b : Int} (h : PathP N o c l b) : l.length ≤ N := by
  obtain ⟨h1, h2, _⟩ := h.chain ho
  exact nodup_le N l h2 fun y hy => (h1 y hy).1
end Go.Proofs.Ytblopbimchkneaa.Md

namespace Go.Proofs.Ytblopbimchkneaa.Md
open Go Go.Abs Go.Mth
set_option linter.unusedVariables false
set_option linter.unusedSimpArgs false
structure PS where
  l : List Nat
  b : Int
  c : Int
  v : Value
  Mx : HL
  n : Nat
attribute [local irreducible] gOK WS WC WR WD Ends FS YS OpV seqK blockK loopK midK retK rdK asgK rangeEnd sat Cell
section
variable {M : HL} {n0 : Nat} {H : Heap} {v w : Value} {ns : List Nat}
end
end Go.Proofs.Ytblopbimchkneaa.Md

namespace Go.Proofs.Ytblopbimchkneaa.Md
open Go Go.Abs Go.Mth
set_option linter.unusedVariables false
set_option linter.unusedSimpArgs false
def lastI (l : List Nat) : Int := match l.getLast? with | some x => (x : Int) | none => -1
/-- What Path returns of casts that were checked. -/
def PthR (N : Nat) (ns : List Nat) (i : Int) (l : List Nat) (e : Int) : Prop :=
  if ¬ (0 ≤ i ∧ i < ns.length) then l = [] ∧ e = 2 else if honB N ns = false then l = [] ∧ e = 12 else e = 0 ∧ ∃ o, OriginR N ns o ∧ PathF N o (ns.getD i.toNat 0) (-1) l
theorem PthR.unique {N : Nat} {ns : List Nat} {i : Int} {l k : List Nat} {e f : Int} (h : PthR N ns i l e) (g : PthR N ns i k f) : l = k ∧ e = f := by
  unfold PthR at h g
  split at h
  · rename_i h0; rw [if_pos h0] at g; exact ⟨by rw [h.1, g.1], by rw [h.2, g.2]⟩
  · rename_i h0; rw [if_neg h0] at g
    split at h
    · rename_i h1; rw [if_pos h1] at g; exact ⟨by rw [h.1, g.1], by rw [h.2, g.2]⟩
    · rename_i h1; rw [if_neg h1] at g
      obtain ⟨h2, o, ho, hp⟩ := h
      obtain ⟨g2, p, hp', gp⟩ := g
      obtain rfl := ho.unique hp'
      exact ⟨hp.unique gp, by rw [h2, g2]⟩
def LstR (N : Nat) (ns : List Nat) (i j : Int) (q e : Int) : Prop :=
  if ¬ ((0 ≤ i ∧ i < ns.length) ∧ (0 ≤ j ∧ j < ns.length)) then q = 0 ∧ e = 2 else if honB N ns = false then q = 0 ∧ e = 12 else e = 0 ∧ ∃ o l, OriginR N ns o ∧ PathF N o (ns.getD i.toNat 0 &&& ns.getD j.toNat 0) (-1) l ∧ q = lastI l
theorem LstR.unique {N : Nat} {ns : List Nat} {i j q r e f : Int} (h : LstR N ns i j q e) (g : LstR N ns i j r f) : q = r ∧ e = f := by
  unfold LstR at h g
  split at h
  · rename_i h0; rw [if_pos h0] at g; exact ⟨by rw [h.1, g.1], by rw [h.2, g.2]⟩
  · rename_i h0; rw [if_neg h0] at g
    split at h
    · rename_i h1; rw [if_pos h1] at g; exact ⟨by rw [h.1, g.1], by rw [h.2, g.2]⟩
    · rename_i h1; rw [if_neg h1] at g
      obtain ⟨h2, o, l, ho, hp, hq⟩ := h
      obtain ⟨g2, p, k, hp', gp, gq⟩ := g
      obtain rfl := ho.unique hp'
      obtain rfl := hp.unique gp
      exact ⟨by rw [hq, gq], by rw [h2, g2]⟩
attribute [local irreducible] gOK WS WC WR WD Ends FS YS OpV seqK blockK loopK midK retK rdK asgK rangeEnd sat Cell
section
variable {M : HL} {n0 : Nat} {H : Heap} {v : Value} {ns : List Nat}
end
end Go.Proofs.Ytblopbimchkneaa.Md

namespace Go.Proofs.Ytblopbimchkneaa.Md
open Go Go.Abs Go.Mth
set_option linter.unusedVariables false
set_option linter.unusedSimpArgs false
attribute [local irreducible] gOK WS WC WR WD Ends FS YS OpV seqK blockK loopK midK retK rdK asgK rangeEnd sat Cell
section
variable {M : HL} {n0 : Nat} {H : Heap} {v w : Value} {ns : List Nat}
def openE (N : Nat) (ns : List Nat) (i j : Int) : Int := if ¬ ((0 ≤ i ∧ i < ns.length) ∧ (0 ≤ j ∧ j < ns.length)) then 2 else if honB N ns = false then 12 else 0
end
end Go.Proofs.Ytblopbimchkneaa.Md

namespace Go.Proofs.Ytblopbimchkneaa.Md
open Go Go.Abs Go.Mth
set_option linter.unusedVariables false
set_option linter.unusedSimpArgs false
end Go.Proofs.Ytblopbimchkneaa.Md

namespace Go.Proofs.Ytblopbimchkneaa.Md
open Go Go.Abs Go.Mth
set_option linter.unusedVariables false
set_option linter.unusedSimpArgs false
def leaveTo (ns : List Nat) (s k : Nat) : List Nat := ((List.range k).filter fun i => !s.testBit i).map fun i => ns.getD i 0
def leave (ns : List Nat) (s : Nat) : List Nat := leaveTo ns s ns.length
def wearL (ns : List Nat) (s : Nat) : List Nat := ns.map fun c => c ^^^ (c &&& s)
theorem leave_yes {ns : List Nat} {s k : Nat} (h : s.testBit k = false) : leaveTo ns s (k + 1) = leaveTo ns s k ++ [ns.getD k 0] := by
  rw [leaveTo, List.range_succ, List.filter_append, List.filter_cons_of_pos (by simp [h]), List.map_append]; rfl
theorem leave_no {ns : List Nat} {s k : Nat} (h : s.testBit k = true) : leaveTo ns s (k + 1) = leaveTo ns s k := by
  rw [leaveTo, List.range_succ, List.filter_append, List.filter_cons_of_neg (by simp [h]), List.filter_nil, List.append_nil]; rfl
theorem leave_len (ns : List Nat) (s k : Nat) : (leaveTo ns s k).length ≤ k := by
  rw [leaveTo, List.length_map]; exact Nat.le_trans (List.length_filter_le _ _) (by simp)
theorem leave_mem {ns : List Nat} {s x : Nat} (h : x ∈ leave ns s) : x ∈ ns := by
  obtain ⟨i, hi, rfl⟩ := List.mem_map.1 h
  exact getD_mem (List.mem_range.1 (List.mem_filter.1 hi).1)
theorem wear_lt {ns : List Nat} {s N : Nat} (h : ∀ x ∈ ns, x < 2 ^ N) : ∀ x ∈ wearL ns s, x < 2 ^ N := fun x hx => by
  obtain ⟨c, hc, rfl⟩ := List.mem_map.1 hx
  exact Nat.xor_lt_two_pow (h c hc) (Nat.lt_of_le_of_lt Nat.and_le_left (h c hc))
theorem full_bit {n i : Nat} (h : i < n) : (2 ^ n - 1).testBit i = true := by rw [Nat.testBit_two_pow_sub_one]; simpa using h
theorem leave_all (ns : List Nat) : leave ns (2 ^ ns.length - 1) = [] := by
  unfold leave leaveTo
  rw [List.map_eq_nil_iff, List.filter_eq_nil_iff]
  intro i hi
  rw [full_bit (List.mem_range.1 hi)]; simp
theorem hon_nil (N : Nat) : honB N [] = true := hon_iff.2 fun a b _ _ => rfl
theorem hon_zero {N : Nat} {l : List Nat} (h : ∀ x ∈ l, x = 0) : honB N l = true := hon_iff.2 fun a b _ _ => by
  cases hc : clashB l a b with
  | false => rfl
  | true =>
    obtain ⟨⟨c, hc, h1, _⟩, _⟩ := clash_iff.1 hc
    rw [h c hc, Nat.zero_testBit] at h1; cases h1
theorem wear_all {ns : List Nat} {N : Nat} (h : ∀ x ∈ ns, x < 2 ^ N) : honB N (wearL ns (2 ^ N - 1)) = true := hon_zero fun x hx => by
  obtain ⟨c, hc, rfl⟩ := List.mem_map.1 hx
  rw [Nat.and_two_pow_sub_one_of_lt_two_pow (h c hc), Nat.xor_self]
def forgP (N : Nat) (ns : List Nat) (s : Nat) : Bool := honB N (leave ns s)
def wornP (N : Nat) (ns : List Nat) (s : Nat) : Bool := honB N (wearL ns s)
theorem forg_all (N : Nat) (ns : List Nat) : forgP N ns (2 ^ ns.length - 1) = true := by rw [forgP, leave_all, hon_nil]
theorem worn_all {N : Nat} {ns : List Nat} (h : ∀ x ∈ ns, x < 2 ^ N) : wornP N ns (2 ^ N - 1) = true := wear_all h
attribute [local irreducible] gOK WS WC WR WD Ends FS YS OpV seqK blockK loopK midK retK rdK asgK rangeEnd sat Cell

section
variable {M : HL} {n0 : Nat} {H : Heap} {v w : Value} {ns : List Nat}
set_option maxHeartbeats 1000000 in
theorem fewest_fs {g : FuncId} {vb : List Value} (hH : hasH M n0 H) {n : Nat} (hn : n ≤ 8) {P : Nat → Bool} (hall : P (2 ^ n - 1) = true)
    (hR : ∀ s M' n1 H1, s < 2 ^ n → (∀ p ∈ M, p ∈ M') → hasH M' n1 H1 → FS C g ([] ++ [.int .i64 (s : Int)] ++ vb) H1 (fun e H' => e = .bool (P s) ∧ ∃ n', n1 ≤ n' ∧ hasH M' n' H')) :
    FS C 69 [.int .i64 (n : Int), .func (.func g) #[] vb.toArray] H (fun e H' => ∃ r Mx n', LeastR n P r ∧ Own 3 1 e (nodes r) Mx ∧ n0 ≤ n' ∧ hasH (Mx ++ M) n' H') := by
  have hB1 : 1 ≤ 2 ^ n := Nat.two_pow_pos n
  have hB256 : 2 ^ n ≤ 256 := Nat.pow_le_pow_right (n := 2) (by omega) hn
  have hp63 := pow_lt_63 (N := n) (by omega)
  refine FS.intro (pf := pf69) rfl rfl rfl ?_
  repeat' (first | refine zP ?_ | refine zA ?_ | (refine zM ?_; intro _ _) | refine zX ?_ | (refine zC ?_; intro _ _ _ _) | (refine zS ?_; intro _ _) | (apply Ws <;> intro hg))
  refine WR.op (by first | exact gN | exact gS rfl) rfl (OpV.shl1 rfl rfl (by show n ≤ 64; omega) hp63) ?_
  obtain ⟨B, hB⟩ : ∃ B, 2 ^ n = B := ⟨_, rfl⟩
  have hlt : ∀ {s}, s < B → s < 2 ^ n := fun h => by omega
  rw [hB] at hall hB1 hB256 hp63 ⊢
  simp only [hB] at hR
  repeat' (first | refine zP ?_ | refine zA ?_ | (refine zM ?_; intro _ _) | refine zX ?_ | (refine zC ?_; intro _ _ _ _) | (refine zS ?_; intro _ _) | (apply Ws <;> intro hg))
  rw [show (B : Int) - 1 = ((B - 1 : Nat) : Int) by omega]
  refine WR.call (by first | exact gN | exact gS rfl) rfl rfl (numbersOf_fs hH (hlt (s := B - 1) (by omega)) (by omega)) ?_
  rintro v0 H1 ⟨Mx, n1, hO, hn1, hH1⟩
  repeat' (first | refine zP ?_ | refine zA ?_ | (refine zM ?_; intro _ _) | refine zX ?_ | (refine zC ?_; intro _ _ _ _) | (refine zS ?_; intro _ _) | (apply Ws <;> intro hg))
  refine WR.op (by first | exact gN | exact gS rfl) rfl (OpV.shl1 rfl rfl (by show n ≤ 64; omega) (by rw [hB]; exact hp63)) ?_
  rw [hB]
  repeat' (first | refine zP ?_ | refine zA ?_ | (refine zM ?_; intro _ _) | refine zX ?_ | (refine zC ?_; intro _ _ _ _) | (refine zS ?_; intro _ _) | (apply Ws <;> intro hg))
  refine WC.loopX [(0, _), (1, _), (14, _)] (fun s : FW => [(5, s.v), (15, .int .i64 (s.k : Int))]) []
    (fun z H' => z.k ≤ B ∧ n0 ≤ z.n ∧ z.s < B ∧ P z.s = true ∧ Own 3 1 z.v (nodes (bitsL z.s n)) z.Mx ∧ hasH (z.Mx ++ M) z.n H' ∧ ∀ t, t < z.k → P t = true → ¬ ordC (IL (bitsL t n)) (IL (bitsL z.s n)) < 0) (fun z => B - z.k) ⟨0, v0, B - 1, Mx, n1⟩ (by repeat' (first | exact .nil | refine .cons rfl ?_)) rfl
    ⟨Nat.zero_le _, hn1, by simp only; omega, hall, hO, hH1, fun t h => absurd h (Nat.not_lt_zero _)⟩ ?_
  clear hH1 hO hn1
  rintro ⟨k, bv, s, Mx, n1⟩ H1 ⟨hk, hn1, hs, hPs, hO, hH1, hmin⟩
  simp only at hk hn1 hs hPs hO hH1 hmin
  dsimp only [List.cons_append, List.nil_append]
  repeat' (first | refine zP ?_ | refine zA ?_ | (refine zM ?_; intro _ _) | refine zX ?_ | (refine zC ?_; intro _ _ _ _) | (refine zS ?_; intro _ _) | (apply Ws <;> intro hg))
  refine WC.condP rfl (fun hlt1 => ?_) (fun hlt1 => ?_)
  · have hk' : k < B := by omega
    repeat' (first | refine zP ?_ | refine zA ?_ | (refine zM ?_; intro _ _) | refine zX ?_ | (refine zC ?_; intro _ _ _ _) | (refine zS ?_; intro _ _) | (apply Ws <;> intro hg))
    refine WR.call (by first | exact gN | exact gS rfl) rfl rfl (numbersOf_fs hH1 (hlt hk') (by omega)) ?_
    rintro wv H2 ⟨Mn, n2, hOn, hn2, hH2⟩
    have hSn := hOn.sl (Mx ++ M)
    have hSb := (hO.sl M).mono (M' := Mn ++ (Mx ++ M)) fun p hp => List.mem_append_right _ hp
    have hl1 := bits_len k n
    have hl2 := bits_len s n
    repeat' (first | refine zP ?_ | refine zA ?_ | (refine zM ?_; intro _ _) | refine zX ?_ | (refine zC ?_; intro _ _ _ _) | (refine zS ?_; intro _ _) | (apply Ws <;> intro hg))
    refine WR.call (by first | exact gN | exact gS rfl) rfl rfl (cmpI_fs _ _ _) ?_
    rintro _ _ ⟨rfl, rfl⟩
    repeat' (first | refine zP ?_ | refine zA ?_ | (refine zM ?_; intro _ _) | refine zX ?_ | (refine zC ?_; intro _ _ _ _) | (refine zS ?_; intro _ _) | (apply Ws <;> intro hg))
    refine WR.call (by first | exact gN | exact gS rfl) rfl rfl (Compare_fs hH2 (xs := IL (bitsL k n)) (ys := IL (bitsL s n)) (by rw [← nodesI]; exact hSn) (by rw [← nodesI]; exact hSb) (by simp; omega) (by simp; omega)) ?_
    rintro _ _ ⟨rfl, rfl⟩
    have hord : ordC (IL (bitsL k n)) (IL (bitsL s n)) = if cmpI ((bitsL k n).length : Int) ((bitsL s n).length : Int) ≠ 0 then cmpI ((bitsL k n).length : Int) ((bitsL s n).length : Int) else lexC (IL (bitsL k n)) (IL (bitsL s n)) := by
      unfold ordC; rw [List.length_map, List.length_map]
    obtain ⟨x, hx⟩ : ∃ x, cmpI ((bitsL k n).length : Int) ((bitsL s n).length : Int) = x := ⟨_, rfl⟩
    obtain ⟨y, hy⟩ : ∃ y, lexC (IL (bitsL k n)) (IL (bitsL s n)) = y := ⟨_, rfl⟩
    rw [hx, hy] at hord ⊢
    refine WR.bldS (by first | exact gN | exact gS rfl) rfl hH2 (vs := [(0, .int .i64 x), (1, .int .i64 y)]) rfl (cs := [.int .i64 x, .int .i64 y]) (by rfl) rfl fun H3 hH3 => ?_
    refine WR.call (by first | exact gN | exact gS rfl) rfl rfl (Or_fs hH3 (x := x) (y := y) (.row (lo := 0) (cs := [.int .i64 x, .int .i64 y]) (.head _) (.row _ _ _ _) (Nat.zero_le _) rfl rfl (by simp) (.inr ⟨2, rfl, Nat.le_refl _⟩))) ?_
    rintro _ _ ⟨rfl, rfl⟩
    rw [← hord]
    replace hH3 := hH3.tail
    clear hH2 hx hy hord
    obtain ⟨o, ho⟩ : ∃ o, ordC (IL (bitsL k n)) (IL (bitsL s n)) = o := ⟨_, rfl⟩
    rw [ho]
    have hkeep : P k = false ∨ ¬ o < 0 → ∀ t, t < k + 1 → P t = true → ¬ ordC (IL (bitsL t n)) (IL (bitsL s n)) < 0 := fun h t ht hPt => by
      rcases Nat.lt_or_ge t k with h1 | h1
      · exact hmin t h1 hPt
      · have : t = k := by omega
        subst this
        rcases h with h | h
        · rw [h] at hPt; cases hPt
        · rw [ho]; exact h
    have hdrop := hH3.sub (List.sublist_append_right Mn (Mx ++ M))
    by_cases hbef : o < 0
    · repeat' (first | refine zP ?_ | refine zA ?_ | (refine zM ?_; intro _ _) | refine zX ?_ | (refine zC ?_; intro _ _ _ _) | (refine zS ?_; intro _ _) | refine zO ?_ | (apply Ws <;> intro hg))
      refine WR.callV (by first | exact gN | exact gS rfl) rfl rfl rfl (hR k _ _ _ hk' (fun p hp => List.mem_append_right _ (List.mem_append_right _ hp)) hH3) ?_
      rintro _ H4 ⟨rfl, n4, hn4, hH4⟩
      cases hPk : P k with
      | true =>
        repeat' (first | refine zP ?_ | refine zA ?_ | (refine zM ?_; intro _ _) | refine zX ?_ | (refine zC ?_; intro _ _ _ _) | (refine zS ?_; intro _ _) | (apply Ws <;> intro hg))
        refine Ends.loop ⟨k + 1, wv, k, Mn, n4⟩ (by show B - (k + 1) < B - k; omega) (by repeat' (first | exact .nil | refine .cons rfl ?_)) rfl ⟨hk', by simp only; omega, hk', hPk, hOn, hH4.sub (List.Sublist.append_left (List.sublist_append_right Mx M) Mn), fun t ht hPt h => ?_⟩
        replace ht : t < k + 1 := ht
        simp only at h
        rcases Nat.lt_or_ge t k with h1 | h1
        · exact hmin t h1 hPt (ord_trans h (by rw [ho]; exact hbef))
        · have : t = k := by omega
          subst this
          rw [(ord_zero _ _).2 rfl] at h; omega
      | false =>
        repeat' (first | refine zP ?_ | refine zA ?_ | (refine zM ?_; intro _ _) | refine zX ?_ | (refine zC ?_; intro _ _ _ _) | (refine zS ?_; intro _ _) | (apply Ws <;> intro hg))
        exact Ends.loop ⟨k + 1, bv, s, Mx, n4⟩ (by show B - (k + 1) < B - k; omega) (by repeat' (first | exact .nil | refine .cons rfl ?_)) rfl ⟨hk', by simp only; omega, hs, hPs, hO, hH4.sub (List.sublist_append_right Mn (Mx ++ M)), hkeep (.inl hPk)⟩
    · repeat' (first | refine zP ?_ | refine zA ?_ | (refine zM ?_; intro _ _) | refine zX ?_ | (refine zC ?_; intro _ _ _ _) | (refine zS ?_; intro _ _) | refine zO ?_ | (apply Ws <;> intro hg))
      exact Ends.loop ⟨k + 1, bv, s, Mx, n2 + 1⟩ (by show B - (k + 1) < B - k; omega) (by repeat' (first | exact .nil | refine .cons rfl ?_)) rfl ⟨hk', by simp only; omega, hs, hPs, hO, hdrop, hkeep (.inr hbef)⟩
  · have hkB : k = B := by omega
    repeat' (first | refine zP ?_ | refine zA ?_ | (refine zM ?_; intro _ _) | refine zX ?_ | (refine zC ?_; intro _ _ _ _) | (refine zS ?_; intro _ _) | (apply Ws <;> intro hg))
    exact Ends.ret1 rfl ⟨bitsL s n, Mx, n1, ⟨s, by omega, hPs, rfl, fun t ht => hmin t (by omega)⟩, hO, hn1, hH1⟩

theorem leaveOut_fs (hH : hasH M n0 H) (hS : Sl M 1 v (nodes ns)) (hl : ns.length ≤ 61) {s : Nat} (hs : s < 2 ^ 62) :
    FS C 71 [v, .int .i64 (s : Int)] H (fun e H' => ∃ Mx n', Own 3 1 e (nodes (leave ns s)) Mx ∧ n0 ≤ n' ∧ hasH (Mx ++ M) n' H') := by
  refine FS.intro (pf := pf71) rfl rfl rfl ?_
  repeat' (first | refine zP ?_ | refine zA ?_ | (refine zM ?_; intro _ _) | refine zX ?_ | (refine zC ?_; intro _ _ _ _) | (refine zS ?_; intro _ _) | (apply Ws <;> intro hg))
  refine WC.loopX [(1, _), (8, _), (9, _)] (fun s : NV => [(5, s.v), (10, .int .i64 (s.k : Int))]) []
    (fun z H' => z.k ≤ ns.length ∧ n0 ≤ z.n ∧ Own 3 1 z.v (nodes (leaveTo ns s z.k)) z.Mx ∧ hasH (z.Mx ++ M) z.n H') (fun z => ns.length - z.k) ⟨0, .slice none 0 0, [], [], n0⟩ (by repeat' (first | exact .nil | refine .cons rfl ?_)) rfl
    ⟨Nat.zero_le _, Nat.le_refl _, .nil, hH⟩ ?_
  clear hH
  rintro ⟨k, w, _, Mx, n1⟩ H1 ⟨hk, hn1, hO, hH1⟩
  simp only at hk hn1 hO hH1
  have hS1 := hS.mono (M' := Mx ++ M) fun p hp => List.mem_append_right _ hp
  dsimp only [List.cons_append, List.nil_append]
  repeat' (first | refine zP ?_ | refine zA ?_ | (refine zM ?_; intro _ _) | refine zX ?_ | (refine zC ?_; intro _ _ _ _) | (refine zS ?_; intro _ _) | (apply Ws <;> intro hg))
  refine WC.condP rfl (fun hlt => ?_) (fun hlt => ?_)
  · have hk' : k < ns.length := by omega
    repeat' (first | refine zP ?_ | refine zA ?_ | (refine zM ?_; intro _ _) | refine zX ?_ | (refine zC ?_; intro _ _ _ _) | (refine zS ?_; intro _ _) | (apply Ws <;> intro hg))
    refine WR.call (by first | exact gN | exact gS rfl) rfl rfl (has_fs hs (by omega) _) ?_
    rintro _ H2 ⟨rfl, rfl⟩
    cases hb : s.testBit k with
    | false =>
      repeat' (first | refine zP ?_ | refine zA ?_ | (refine zM ?_; intro _ _) | refine zX ?_ | (refine zC ?_; intro _ _ _ _) | (refine zS ?_; intro _ _) | (apply Ws <;> intro hg))
      refine WR.append1F [] Mx M rfl rfl rfl rfl hO hH1 (new := [.int .i64 ((ns.getD k 0 : Nat) : Int)]) (by rfl) rfl rfl (Nat.le_refl _) (by omega) (by have := leave_len ns s k; simp; omega) fun v3 M3 n3 H3 hO3 hH3 hn3 => ?_
      repeat' (first | refine zP ?_ | refine zA ?_ | (refine zM ?_; intro _ _) | refine zX ?_ | (refine zC ?_; intro _ _ _ _) | (refine zS ?_; intro _ _) | (apply Ws <;> intro hg))
      refine Ends.loop ⟨k + 1, v3, [], M3, n3⟩ (by show ns.length - (k + 1) < ns.length - k; omega) (by repeat' (first | exact .nil | refine .cons rfl ?_)) rfl ⟨hk', by simp only; omega, ?_, hH3⟩
      simp only
      rw [leave_yes hb]
      simpa [nodes] using hO3
    | true =>
      repeat' (first | refine zP ?_ | refine zA ?_ | (refine zM ?_; intro _ _) | refine zX ?_ | (refine zC ?_; intro _ _ _ _) | (refine zS ?_; intro _ _) | (apply Ws <;> intro hg))
      refine Ends.loop ⟨k + 1, w, [], Mx, n1⟩ (by show ns.length - (k + 1) < ns.length - k; omega) (by repeat' (first | exact .nil | refine .cons rfl ?_)) rfl ⟨hk', hn1, ?_, hH1⟩
      simp only
      rw [leave_no hb]; exact hO
  · have hkl : ns.length = k := by omega
    subst hkl
    repeat' (first | refine zP ?_ | refine zA ?_ | (refine zM ?_; intro _ _) | refine zX ?_ | (refine zC ?_; intro _ _ _ _) | (refine zS ?_; intro _ _) | (apply Ws <;> intro hg))
    exact Ends.ret1 rfl ⟨Mx, n1, hO, hn1, hH1⟩
theorem wear_fs (hH : hasH M n0 H) (hS : Sl M 1 v (nodes ns)) (hl : ns.length ≤ 1000) (hb : ∀ x ∈ ns, x < 2 ^ 62) {m : Nat} (hm : m < 2 ^ 62) :
    FS C 75 [v, .int .i64 (m : Int)] H (fun e H' => ∃ Mx n', Own 3 1 e (nodes (wearL ns m)) Mx ∧ n0 ≤ n' ∧ hasH (Mx ++ M) n' H') := by
  refine FS.intro (pf := pf75) rfl rfl rfl ?_
  repeat' (first | refine zP ?_ | refine zA ?_ | (refine zM ?_; intro _ _) | refine zX ?_ | (refine zC ?_; intro _ _ _ _) | (refine zS ?_; intro _ _) | (apply Ws <;> intro hg))
  refine WC.loopX [(1, _), (8, _), (9, _)] (fun s : NV => [(5, s.v), (10, .int .i64 (s.k : Int))]) []
    (fun s H' => s.k ≤ ns.length ∧ n0 ≤ s.n ∧ Own 3 1 s.v (nodes (wearL (ns.take s.k) m)) s.Mx ∧ hasH (s.Mx ++ M) s.n H') (fun s => ns.length - s.k) ⟨0, .slice none 0 0, [], [], n0⟩ (by repeat' (first | exact .nil | refine .cons rfl ?_)) rfl
    ⟨Nat.zero_le _, Nat.le_refl _, .nil, hH⟩ ?_
  clear hH
  rintro ⟨k, w, _, Mx, n1⟩ H1 ⟨hk, hn1, hO, hH1⟩
  simp only at hk hn1 hO hH1
  have hS1 := hS.mono (M' := Mx ++ M) fun p hp => List.mem_append_right _ hp
  dsimp only [List.cons_append, List.nil_append]
  repeat' (first | refine zP ?_ | refine zA ?_ | (refine zM ?_; intro _ _) | refine zX ?_ | (refine zC ?_; intro _ _ _ _) | (refine zS ?_; intro _ _) | (apply Ws <;> intro hg))
  refine WC.condP rfl (fun hlt => ?_) (fun hlt => ?_)
  · have hk' : k < ns.length := by omega
    have hx := hb _ (getD_mem (a := 0) hk')
    repeat' (first | refine zP ?_ | refine zA ?_ | (refine zM ?_; intro _ _) | refine zX ?_ | (refine zC ?_; intro _ _ _ _) | (refine zS ?_; intro _ _) | (apply Ws <;> intro hg))
    refine WR.op (by first | exact gN | exact gS rfl) rfl (OpV.andNotN rfl rfl (by show ns.getD k 0 < 2 ^ 63; omega) (by show m < 2 ^ 63; omega)) ?_
    refine WR.append1F [] Mx M rfl rfl rfl rfl hO hH1 (new := [.int .i64 ((ns.getD k 0 ^^^ (ns.getD k 0 &&& m) : Nat) : Int)]) (by rfl) rfl rfl (Nat.le_refl _) (by omega) (by simp [wearL]; omega) fun v3 M3 n3 H3 hO3 hH3 hn3 => ?_
    repeat' (first | refine zP ?_ | refine zA ?_ | (refine zM ?_; intro _ _) | refine zX ?_ | (refine zC ?_; intro _ _ _ _) | (refine zS ?_; intro _ _) | (apply Ws <;> intro hg))
    refine Ends.loop ⟨k + 1, v3, [], M3, n3⟩ (by show ns.length - (k + 1) < ns.length - k; omega) (by repeat' (first | exact .nil | refine .cons rfl ?_)) rfl ⟨hk', by simp only; omega, ?_, hH3⟩
    simp only
    rw [List.take_succ_eq_append_getElem hk', wearL, List.map_append, ← getD_eq (a := 0) hk']
    simpa [nodes, wearL] using hO3
  · have hkl : ns.length = k := by omega
    subst hkl
    rw [List.take_length] at hO
    repeat' (first | refine zP ?_ | refine zA ?_ | (refine zM ?_; intro _ _) | refine zX ?_ | (refine zC ?_; intro _ _ _ _) | (refine zS ?_; intro _ _) | (apply Ws <;> intro hg))
    exact Ends.ret1 rfl ⟨Mx, n1, hO, hn1, hH1⟩

theorem forgC_fs (hH : hasH M n0 H) (hS : Sl M 1 v (nodes ns)) (hl : ns.length ≤ 8) {N : Nat} (hN : N ≤ 6) (hb : ∀ x ∈ ns, x < 2 ^ N) {s b3 b4 : Nat} (hs : s < 2 ^ ns.length)
    (h3 : (b3, Ch.row 3 0 0 [.int .i64 (N : Int)]) ∈ M) (h4 : (b4, Ch.row 22 0 0 [v]) ∈ M) :
    FS C 70 [.int .i64 (s : Int), .pointer (some ⟨b3, 0, some 0⟩), .pointer (some ⟨b4, 0, some 0⟩)] H (fun e H' => e = .bool (forgP N ns s) ∧ ∃ n', n0 ≤ n' ∧ hasH M n' H') := by
  have hs62 : s < 2 ^ 62 := Nat.lt_of_lt_of_le hs (Nat.pow_le_pow_right (by omega) (by omega))
  refine FS.intro (pf := pf70) rfl rfl rfl ?_
  repeat' (first | refine zP ?_ | refine zA ?_ | (refine zM ?_; intro _ _) | refine zX ?_ | (refine zC ?_; intro _ _ _ _) | (refine zS ?_; intro _ _) | (apply Ws <;> intro hg))
  refine WC.regionD ?_
  repeat' (first | refine zD ?_ | (refine zE ?_; intro _ _ _ _))
  refine WD.call (by first | exact gN | exact gS rfl) rfl rfl (leaveOut_fs hH hS (by omega) hs62) ?_
  rintro w H1 ⟨Mx, n1, hO, hn1, hH1⟩
  have h3' := List.mem_append_right Mx h3
  have h4' := List.mem_append_right Mx h4
  refine ⟨zSt, ?_⟩
  refine WD.call (by first | exact gN | exact gS rfl) rfl rfl (honest_fs hH1 (hO.sl M) (by have := leave_len ns s ns.length; show (leaveTo ns s ns.length).length ≤ 61; omega) (lt_62 hN fun x hx => hb x (leave_mem hx)) (by omega)) ?_
  rintro _ H2 ⟨rfl, n2, hn2, hH2⟩
  refine ⟨zSt, ?_⟩
  repeat' (first | refine zD ?_ | (refine zE ?_; intro _ _ _ _))
  refine WD.nil ?_
  repeat' (first | refine zP ?_ | refine zA ?_ | (refine zM ?_; intro _ _) | refine zX ?_ | (refine zC ?_; intro _ _ _ _) | (refine zS ?_; intro _ _) | (apply Ws <;> intro hg))
  exact Ends.ret1 rfl ⟨rfl, n2, by omega, hH2.sub (List.sublist_append_right Mx M)⟩
theorem wornC_fs (hH : hasH M n0 H) (hS : Sl M 1 v (nodes ns)) (hl : ns.length ≤ 8) {N : Nat} (hN : N ≤ 6) (hb : ∀ x ∈ ns, x < 2 ^ N) {s b3 b4 : Nat} (hs : s < 2 ^ N)
    (h3 : (b3, Ch.row 3 0 0 [.int .i64 (N : Int)]) ∈ M) (h4 : (b4, Ch.row 22 0 0 [v]) ∈ M) :
    FS C 74 [.int .i64 (s : Int), .pointer (some ⟨b3, 0, some 0⟩), .pointer (some ⟨b4, 0, some 0⟩)] H (fun e H' => e = .bool (wornP N ns s) ∧ ∃ n', n0 ≤ n' ∧ hasH M n' H') := by
  have hs62 : s < 2 ^ 62 := Nat.lt_of_lt_of_le hs (Nat.pow_le_pow_right (by omega) (by omega))
  refine FS.intro (pf := pf74) rfl rfl rfl ?_
  repeat' (first | refine zP ?_ | refine zA ?_ | (refine zM ?_; intro _ _) | refine zX ?_ | (refine zC ?_; intro _ _ _ _) | (refine zS ?_; intro _ _) | (apply Ws <;> intro hg))
  refine WC.regionD ?_
  repeat' (first | refine zD ?_ | (refine zE ?_; intro _ _ _ _))
  refine WD.call (by first | exact gN | exact gS rfl) rfl rfl (wear_fs hH hS (by omega) (lt_62 hN hb) hs62) ?_
  rintro w H1 ⟨Mx, n1, hO, hn1, hH1⟩
  have h3' := List.mem_append_right Mx h3
  have h4' := List.mem_append_right Mx h4
  refine ⟨zSt, ?_⟩
  refine WD.call (by first | exact gN | exact gS rfl) rfl rfl (honest_fs hH1 (hO.sl M) (by simp [wearL]; omega) (lt_62 hN (wear_lt hb)) (by omega)) ?_
  rintro _ H2 ⟨rfl, n2, hn2, hH2⟩
  refine ⟨zSt, ?_⟩
  repeat' (first | refine zD ?_ | (refine zE ?_; intro _ _ _ _))
  refine WD.nil ?_
  repeat' (first | refine zP ?_ | refine zA ?_ | (refine zM ?_; intro _ _) | refine zX ?_ | (refine zC ?_; intro _ _ _ _) | (refine zS ?_; intro _ _) | (apply Ws <;> intro hg))
  exact Ends.ret1 rfl ⟨rfl, n2, by omega, hH2.sub (List.sublist_append_right Mx M)⟩
end
end Go.Proofs.Ytblopbimchkneaa.Md

namespace Go.Proofs.Ytblopbimchkneaa.Md
open Go Go.Abs Go.Mth
set_option linter.unusedVariables false
set_option linter.unusedSimpArgs false
attribute [local irreducible] gOK WS WC WR WD Ends FS YS OpV seqK blockK loopK midK retK rdK asgK rangeEnd sat Cell
section
variable {M : HL} {n0 : Nat} {H : Heap} {v w : Value} {ns : List Nat}
theorem Forged_fs (hH : hasH M n0 H) (hS : Sl M 1 v (nodes ns)) (hl : ns.length ≤ 8) {N : Nat} (hN1 : 1 ≤ N) (hN : N ≤ 6) (hb : ∀ x ∈ ns, x < 2 ^ N) :
    FS C 30 [.int .i64 (N : Int), v] H (fun e H' => ∃ r u Mx n', e = .tuple #[u, .int .i64 0] ∧ LeastR ns.length (forgP N ns) r ∧ Own 3 1 u (nodes r) Mx ∧ n0 ≤ n' ∧ hasH (Mx ++ M) n' H') := by
  obtain ⟨av, cv, hv⟩ := hS.len
  rw [List.length_map] at hv
  subst hv
  refine FS.intro (pf := pf30) rfl rfl rfl ?_
  repeat' (first | refine zP ?_ | refine zA ?_ | (refine zM ?_; intro _ _) | refine zX ?_ | (refine zC ?_; intro _ _ _ _) | (refine zS ?_; intro _ _) | (apply Ws <;> intro hg))
  rename_i Ha hHa Hb hHb
  have h3 : (n0, Ch.row 3 0 0 [.int .i64 (N : Int)]) ∈ (n0 + 1, Ch.row 22 0 0 [.slice av ns.length cv]) :: (n0, Ch.row 3 0 0 [.int .i64 (N : Int)]) :: M := .tail _ (.head _)
  have h4 : (n0 + 1, Ch.row 22 0 0 [.slice av ns.length cv]) ∈ (n0 + 1, Ch.row 22 0 0 [.slice av ns.length cv]) :: (n0, Ch.row 3 0 0 [.int .i64 (N : Int)]) :: M := .head _
  replace hS := (hS.cons (p := (n0, Ch.row 3 0 0 [.int .i64 (N : Int)]))).cons (p := (n0 + 1, Ch.row 22 0 0 [.slice av ns.length cv]))
  have hback : ∀ {Mx : HL} {n' : Nat} {H' : Heap}, hasH (Mx ++ ((n0 + 1, Ch.row 22 0 0 [.slice av ns.length cv]) :: (n0, Ch.row 3 0 0 [.int .i64 (N : Int)]) :: M)) n' H' → hasH (Mx ++ M) n' H' := fun h => h.sub (List.Sublist.append_left ((List.sublist_cons_self _ _).trans (List.sublist_cons_self _ _)) _)
  generalize (n0 + 1, Ch.row 22 0 0 [.slice av ns.length cv]) :: (n0, Ch.row 3 0 0 [.int .i64 (N : Int)]) :: M = U at hHb hS h3 h4 hback
  clear hHa hH
  have hSI : Unit → Sl U 1 (.slice av ns.length cv) (ints (IL ns)) := fun _ => by rw [← nodesI]; exact hS
  repeat' (first | refine zP ?_ | refine zA ?_ | (refine zM ?_; intro _ _) | refine zX ?_ | (refine zC ?_; intro _ _ _ _) | (refine zS ?_; intro _ _) | (apply Ws <;> intro hg))
  refine WR.call (by first | exact gN | exact gS rfl) rfl rfl (Check_fs hHb (hSI ()) (by simp; omega) _) ?_
  rintro _ H1 ⟨rfl, rfl⟩
  rw [casts_intro hN1 hN hl hb]
  repeat' (first | refine zP ?_ | refine zA ?_ | (refine zM ?_; intro _ _) | refine zX ?_ | (refine zC ?_; intro _ _ _ _) | (refine zS ?_; intro _ _) | (apply Ws <;> intro hg))
  refine WR.call (by first | exact gN | exact gS rfl) rfl rfl (fewest_fs (g := 70) (vb := [.pointer (some ⟨n0, 0, some 0⟩), .pointer (some ⟨n0 + 1, 0, some 0⟩)]) hHb hl (forg_all N ns) fun s M' n1 H1 hs hM hH1 => forgC_fs hH1 (hS.mono hM) hl hN hb hs (hM _ h3) (hM _ h4)) ?_
  rintro u H2 ⟨r, Mx, n2, hr, hO, hn2, hH2⟩
  repeat' (first | refine zP ?_ | refine zA ?_ | (refine zM ?_; intro _ _) | refine zX ?_ | (refine zC ?_; intro _ _ _ _) | (refine zS ?_; intro _ _) | (apply Ws <;> intro hg))
  exact Ends.ret2 rfl rfl ⟨r, u, Mx, n2, rfl, hr, hO, by omega, hback hH2⟩
theorem Worn_fs (hH : hasH M n0 H) (hS : Sl M 1 v (nodes ns)) (hl : ns.length ≤ 8) {N : Nat} (hN1 : 1 ≤ N) (hN : N ≤ 6) (hb : ∀ x ∈ ns, x < 2 ^ N) :
    FS C 32 [.int .i64 (N : Int), v] H (fun e H' => ∃ r u Mx n', e = .tuple #[u, .int .i64 0] ∧ LeastR N (wornP N ns) r ∧ Own 3 1 u (nodes r) Mx ∧ n0 ≤ n' ∧ hasH (Mx ++ M) n' H') := by
  obtain ⟨av, cv, hv⟩ := hS.len
  rw [List.length_map] at hv
  subst hv
  refine FS.intro (pf := pf32) rfl rfl rfl ?_
  repeat' (first | refine zP ?_ | refine zA ?_ | (refine zM ?_; intro _ _) | refine zX ?_ | (refine zC ?_; intro _ _ _ _) | (refine zS ?_; intro _ _) | (apply Ws <;> intro hg))
  rename_i Ha hHa Hb hHb
  have h3 : (n0, Ch.row 3 0 0 [.int .i64 (N : Int)]) ∈ (n0 + 1, Ch.row 22 0 0 [.slice av ns.length cv]) :: (n0, Ch.row 3 0 0 [.int .i64 (N : Int)]) :: M := .tail _ (.head _)
  have h4 : (n0 + 1, Ch.row 22 0 0 [.slice av ns.length cv]) ∈ (n0 + 1, Ch.row 22 0 0 [.slice av ns.length cv]) :: (n0, Ch.row 3 0 0 [.int .i64 (N : Int)]) :: M := .head _
  replace hS := (hS.cons (p := (n0, Ch.row 3 0 0 [.int .i64 (N : Int)]))).cons (p := (n0 + 1, Ch.row 22 0 0 [.slice av ns.length cv]))
  have hback : ∀ {Mx : HL} {n' : Nat} {H' : Heap}, hasH (Mx ++ ((n0 + 1, Ch.row 22 0 0 [.slice av ns.length cv]) :: (n0, Ch.row 3 0 0 [.int .i64 (N : Int)]) :: M)) n' H' → hasH (Mx ++ M) n' H' := fun h => h.sub (List.Sublist.append_left ((List.sublist_cons_self _ _).trans (List.sublist_cons_self _ _)) _)
  generalize (n0 + 1, Ch.row 22 0 0 [.slice av ns.length cv]) :: (n0, Ch.row 3 0 0 [.int .i64 (N : Int)]) :: M = U at hHb hS h3 h4 hback
  clear hHa hH
  have hSI : Unit → Sl U 1 (.slice av ns.length cv) (ints (IL ns)) := fun _ => by rw [← nodesI]; exact hS
  repeat' (first | refine zP ?_ | refine zA ?_ | (refine zM ?_; intro _ _) | refine zX ?_ | (refine zC ?_; intro _ _ _ _) | (refine zS ?_; intro _ _) | (apply Ws <;> intro hg))
  refine WR.call (by first | exact gN | exact gS rfl) rfl rfl (Check_fs hHb (hSI ()) (by simp; omega) _) ?_
  rintro _ H1 ⟨rfl, rfl⟩
  rw [casts_intro hN1 hN hl hb]
  repeat' (first | refine zP ?_ | refine zA ?_ | (refine zM ?_; intro _ _) | refine zX ?_ | (refine zC ?_; intro _ _ _ _) | (refine zS ?_; intro _ _) | (apply Ws <;> intro hg))
  refine WR.call (by first | exact gN | exact gS rfl) rfl rfl (fewest_fs (g := 74) (vb := [.pointer (some ⟨n0, 0, some 0⟩), .pointer (some ⟨n0 + 1, 0, some 0⟩)]) hHb (n := N) (by omega) (worn_all hb) fun s M' n1 H1 hs hM hH1 => wornC_fs hH1 (hS.mono hM) hl hN hb hs (hM _ h3) (hM _ h4)) ?_
  rintro u H2 ⟨r, Mx, n2, hr, hO, hn2, hH2⟩
  repeat' (first | refine zP ?_ | refine zA ?_ | (refine zM ?_; intro _ _) | refine zX ?_ | (refine zC ?_; intro _ _ _ _) | (refine zS ?_; intro _ _) | (apply Ws <;> intro hg))
  exact Ends.ret2 rfl rfl ⟨r, u, Mx, n2, rfl, hr, hO, by omega, hback hH2⟩
end
end Go.Proofs.Ytblopbimchkneaa.Md

namespace Go.Proofs.Ytblopbimchkneaa.Md
open Go Go.Abs Go.Mth
set_option linter.unusedVariables false
set_option linter.unusedSimpArgs false
/-! A cast more, a cast less. -/
theorem LeastR.min {n : Nat} {P : Nat → Bool} {r : List Nat} (h : LeastR n P r) {t : Nat} (ht : t < 2 ^ n) (hP : P t = true) : r.length ≤ (bitsL t n).length := by
  obtain ⟨s, _, _, _, h4⟩ := h
  rcases Nat.lt_or_ge (bitsL t n).length r.length with h1 | h1
  · refine absurd ?_ (h4 t ht hP)
    have : cmpI ((IL (bitsL t n)).length : Int) ((IL r).length : Int) = -1 := by unfold cmpI; rw [if_pos (by simp; omega)]
    unfold ordC; rw [this, if_pos (by decide)]; decide
  · exact h1
theorem mem_leave {ns : List Nat} {s x : Nat} : x ∈ leave ns s ↔ ∃ i, i < ns.length ∧ s.testBit i = false ∧ ns.getD i 0 = x := by
  unfold leave leaveTo
  rw [List.mem_map]
  simp only [List.mem_filter, List.mem_range, Bool.not_eq_true']
  constructor
  · rintro ⟨i, ⟨h1, h2⟩, h3⟩; exact ⟨i, h1, h2, h3⟩
  · rintro ⟨i, h1, h2, h3⟩; exact ⟨i, ⟨h1, h2⟩, h3⟩
attribute [local irreducible] gOK WS WC WR WD Ends FS YS OpV seqK blockK loopK midK retK rdK asgK rangeEnd sat Cell
section
variable {M : HL} {n0 : Nat} {H : Heap} {v w : Value} {ns : List Nat}
/-- Some elements less. -/
theorem Delete_fs {b u o len cp R i j : Nat} {ys : List Int} (hH : hasH ((b, .row 3 u o (ints ys)) :: M) n0 H) (hc : capR cp len R) (hly : len ≤ ys.length) (hij : i < j) (hjl : j ≤ len) (hyl : ys.length ≤ 100000) :
    FS C 48 [.slice (some ⟨b, o, some u⟩) len cp, .int .i64 (i : Int), .int .i64 (j : Int)] H (fun e H' => ∃ zs, e = .slice (some ⟨b, o, some u⟩) (len - (j - i)) (roomCode 1 R) ∧ hasH ((b, .row 3 u o (ints zs)) :: M) n0 H' ∧
      zs.length = ys.length ∧ zs.take (len - (j - i)) = ys.take i ++ (ys.take len).drop j) := by
  have hR := hc.le
  refine FS.intro (pf := pf48) rfl rfl rfl ?_
  repeat' (first | refine zP ?_ | refine zA ?_ | (refine zM ?_; intro _ _) | refine zX ?_ | (refine zC ?_; intro _ _ _ _) | (refine zS ?_; intro _ _) | (apply Ws <;> intro hg))
  refine WR.cutMax (by first | exact gN | exact gS rfl) rfl rfl hc rfl rfl rfl (Nat.le_of_lt hij) hjl (Nat.le_refl _) (by omega) fun v13 => ?_
  repeat' (first | refine zP ?_ | refine zA ?_ | (refine zM ?_; intro _ _) | refine zX ?_ | (refine zC ?_; intro _ _ _ _) | (refine zS ?_; intro _ _) | refine zO ?_ | (apply Ws <;> intro hg))
  refine WR.op (by first | exact gN | exact gS rfl) rfl (OpV.cutPre rfl hc rfl (by omega) (by omega)) ?_
  repeat' (first | refine zP ?_ | refine zA ?_ | (refine zM ?_; intro _ _) | refine zX ?_ | (refine zC ?_; intro _ _ _ _) | (refine zS ?_; intro _ _) | (apply Ws <;> intro hg))
  refine WR.cutSuf (by first | exact gN | exact gS rfl) rfl rfl hc rfl hjl fun cp' => ?_
  refine WR.appendR (M' := (b, .row 3 u o (ints (ys.take i ++ (ys.drop j).take (len - j) ++ ys.drop (i + (len - j))))) :: M) (by first | exact gN | exact gS rfl) rfl rfl rfl hH .here (by omega) (by omega) (by omega) fun H1 hH1 => ?_
  have hl2 : i + (len - j) = len - (j - i) := by omega
  rw [hl2] at hH1 ⊢
  obtain ⟨zs, hzs⟩ : ∃ zs, ys.take i ++ (ys.drop j).take (len - j) ++ ys.drop (len - (j - i)) = zs := ⟨_, rfl⟩
  rw [hzs] at hH1
  have hzl : zs.length = ys.length := by rw [← hzs]; simp; omega
  have hzt : zs.take (len - (j - i)) = ys.take i ++ (ys.take len).drop j := by
    rw [← hzs, List.take_append_of_le_length (by simp; omega), List.take_of_length_le (by simp; omega), List.drop_take]
  repeat' (first | refine zP ?_ | refine zA ?_ | (refine zM ?_; intro _ _) | refine zX ?_ | (refine zC ?_; intro _ _ _ _) | (refine zS ?_; intro _ _) | (apply Ws <;> intro hg))
  refine WR.cutOver (by first | exact gN | exact gS rfl) rfl rfl (by omega) rfl rfl (by omega) (by omega) fun cp2 => ?_
  refine WR.clrI (M' := (b, .row 3 u o (ints (zs.take (len - (j - i)) ++ List.replicate (len - (len - (j - i))) 0 ++ zs.drop (len - (j - i) + (len - (len - (j - i))))))) :: M) (by first | exact gN | exact gS rfl) rfl hH1 .here (by omega) (by omega) fun H2 hH2 => ?_
  repeat' (first | refine zP ?_ | refine zA ?_ | (refine zM ?_; intro _ _) | refine zX ?_ | (refine zC ?_; intro _ _ _ _) | (refine zS ?_; intro _ _) | (apply Ws <;> intro hg))
  refine Ends.ret1 rfl ⟨_, rfl, hH2, by simp; omega, ?_⟩
  rw [List.append_assoc, List.take_append_of_le_length (by simp; omega), List.take_of_length_le (by simp; omega), hzt]
end
end Go.Proofs.Ytblopbimchkneaa.Md

namespace Go.Proofs.Ytblopbimchkneaa.Md
open Go Go.Abs Go.Mth
set_option linter.unusedVariables false
set_option linter.unusedSimpArgs false
/-! Other numbers of the marks, and another order of the casts. -/
structure Ren (N : Nat) (g h : Nat → Nat) : Prop where
  gb : ∀ x, x < N → g x < N
  hb : ∀ x, x < N → h x < N
  gh : ∀ x, x < N → g (h x) = x
  hg : ∀ x, x < N → h (g x) = x
theorem Ren.sym {N : Nat} {g h : Nat → Nat} (r : Ren N g h) : Ren N h g := ⟨r.hb, r.gb, r.hg, r.gh⟩
/-- A set with other numbers. -/
def img (g : Nat → Nat) (n s : Nat) : Nat := maskN ((bitsL s n).map g)
theorem img_bit {g : Nat → Nat} {n s j : Nat} : (img g n s).testBit j = true ↔ ∃ i, i < n ∧ s.testBit i = true ∧ g i = j := by
  unfold img
  rw [mask_bit, List.mem_map]
  simp only [mem_bits, and_assoc]
theorem img_lt {g h : Nat → Nat} {n s : Nat} (r : Ren n g h) : img g n s < 2 ^ n := mask_lt fun x hx => by
  obtain ⟨i, hi, rfl⟩ := List.mem_map.1 hx
  exact r.gb i (mem_bits.1 hi).1
theorem img_at {g h : Nat → Nat} {n s a : Nat} (r : Ren n g h) (ha : a < n) : (img g n s).testBit (g a) = s.testBit a := by
  rw [Bool.eq_iff_iff, img_bit]
  constructor
  · rintro ⟨i, hi, h1, h2⟩
    rw [← r.hg i hi, h2, r.hg a ha] at h1
    exact h1
  · intro h1; exact ⟨a, ha, h1, rfl⟩
theorem img_len {g h : Nat → Nat} {n s : Nat} (r : Ren n g h) : (bitsL (img g n s) n).length = (bitsL s n).length := by
  have hp : (bitsL (img g n s) n).Perm ((bitsL s n).map g) := by
    refine (List.perm_ext_iff_of_nodup (show (bitsL (img g n s) n).Nodup from List.nodup_range.filter _) ?_).2 fun x => ?_
    · refine List.pairwise_map.2 ((List.nodup_range.filter _).imp_of_mem fun {a b} ha hb hab he => hab ?_)
      rw [← r.hg a (mem_bits.1 ha).1, he, r.hg b (mem_bits.1 hb).1]
    · rw [mem_bits, img_bit, List.mem_map]
      constructor
      · rintro ⟨_, i, hi, h1, h2⟩; exact ⟨i, mem_bits.2 ⟨hi, h1⟩, h2⟩
      · rintro ⟨i, hi, h2⟩
        have := mem_bits.1 hi
        exact ⟨by rw [← h2]; exact r.gb i this.1, i, this.1, this.2, h2⟩
  rw [hp.length_eq, List.length_map]
theorem least_ren {n : Nat} {P Q : Nat → Bool} {r q : List Nat} {g h : Nat → Nat} (hr : LeastR n P r) (hq : LeastR n Q q) (hg : Ren n g h) (h1 : ∀ s, P s = true → Q (img g n s) = true) (h2 : ∀ s, Q s = true → P (img h n s) = true) : r.length = q.length := by
  refine Nat.le_antisymm ?_ ?_
  · obtain ⟨s, _, hs, rfl, _⟩ := hq
    have := hr.min (img_lt (s := s) hg.sym) (h2 s hs)
    rwa [img_len hg.sym] at this
  · obtain ⟨s, _, hs, rfl, _⟩ := hr
    have := hq.min (img_lt (s := s) hg) (h1 s hs)
    rwa [img_len hg] at this
theorem hon_ren {N : Nat} {g h : Nat → Nat} (r : Ren N g h) {l k : List Nat} (hk : ∀ y ∈ k, ∃ x ∈ l, ∀ a, a < N → y.testBit (g a) = x.testBit a) (hh : honB N l = true) : honB N k = true := hon_iff.2 fun a b hab hb => by
  have ha : a < N := by omega
  have hcl : ∀ y ∈ k, ∃ x ∈ l, y.testBit a = x.testBit (h a) ∧ y.testBit b = x.testBit (h b) := fun y hy => by
    obtain ⟨x, hx, h1⟩ := hk y hy
    have e1 := h1 (h a) (r.hb a ha)
    have e2 := h1 (h b) (r.hb b hb)
    rw [r.gh a ha] at e1
    rw [r.gh b hb] at e2
    exact ⟨x, hx, e1, e2⟩
  have hno : clashB l (h a) (h b) = false := by
    have hne : h a ≠ h b := fun e => by
      have := r.gh a ha
      rw [e, r.gh b hb] at this
      omega
    rcases Nat.lt_or_gt_of_ne hne with h1 | h1
    · exact hon_iff.1 hh _ _ h1 (r.hb b hb)
    · rw [clash_comm]; exact hon_iff.1 hh _ _ h1 (r.hb a ha)
  cases hc : clashB k a b with
  | false => rfl
  | true =>
    obtain ⟨⟨x, hx, x1, x2⟩, ⟨y, hy, y1, y2⟩, ⟨z, hz, z1, z2⟩⟩ := clash_iff.1 hc
    obtain ⟨x', hx', e1, e2⟩ := hcl x hx
    obtain ⟨y', hy', e3, e4⟩ := hcl y hy
    obtain ⟨z', hz', e5, e6⟩ := hcl z hz
    rw [clash_iff.2 ⟨⟨x', hx', by rw [← e1, x1], by rw [← e2, x2]⟩, ⟨y', hy', by rw [← e3, y1], by rw [← e4, y2]⟩, ⟨z', hz', by rw [← e5, z1], by rw [← e6, z2]⟩⟩] at hno
    cases hno
/-- Casts with other numbers of marks, in another order. -/
structure RenC (N : Nat) (g h p q : Nat → Nat) (ns os : List Nat) : Prop where
  r : Ren N g h
  len : os.length = ns.length
  w : Ren ns.length p q
  bit : ∀ i, i < ns.length → ∀ a, a < N → (os.getD (p i) 0).testBit (g a) = (ns.getD i 0).testBit a
section
variable {N : Nat} {g h p q : Nat → Nat} {ns os : List Nat}
theorem RenC.sym (k : RenC N g h p q ns os) : RenC N h g q p os ns := by
  refine ⟨k.r.sym, k.len.symm, by rw [k.len]; exact k.w.sym, fun i hi a ha => ?_⟩
  rw [k.len] at hi
  have := k.bit (q i) (k.w.hb i hi) (h a) (k.r.hb a ha)
  rw [k.w.gh i hi, k.r.gh a ha] at this
  exact this.symm
theorem RenC.mem (k : RenC N g h p q ns os) {y : Nat} (hy : y ∈ os) : ∃ x ∈ ns, ∀ a, a < N → y.testBit (g a) = x.testBit a := by
  obtain ⟨j, hj, rfl⟩ := List.mem_iff_getElem.1 hy
  have hj' : j < ns.length := by rw [← k.len]; exact hj
  have hi := k.w.hb j hj'
  refine ⟨ns.getD (q j) 0, getD_mem hi, fun a ha => ?_⟩
  rw [← k.bit (q j) hi a ha, k.w.gh j hj', getD_eq hj]
theorem RenC.hon1 (k : RenC N g h p q ns os) (hh : honB N ns = true) : honB N os = true := hon_ren k.r (fun y hy => k.mem hy) hh
theorem RenC.hon (k : RenC N g h p q ns os) : honB N os = honB N ns := by
  rw [Bool.eq_iff_iff]
  exact ⟨k.sym.hon1, k.hon1⟩
theorem RenC.forg1 (k : RenC N g h p q ns os) (s : Nat) (hs : forgP N ns s = true) : forgP N os (img p ns.length s) = true := by
  refine hon_ren k.r (fun y hy => ?_) hs
  obtain ⟨j, hj, h1, h2⟩ := mem_leave.1 hy
  have hj' : j < ns.length := by rw [← k.len]; exact hj
  have hi := k.w.hb j hj'
  refine ⟨ns.getD (q j) 0, mem_leave.2 ⟨q j, hi, ?_, rfl⟩, fun a ha => ?_⟩
  · rw [← img_at (s := s) k.w hi, k.w.gh j hj']; exact h1
  · rw [← k.bit (q j) hi a ha, k.w.gh j hj', h2]
theorem RenC.forg (k : RenC N g h p q ns os) {l m : List Nat} (hl : LeastR ns.length (forgP N ns) l) (hm : LeastR os.length (forgP N os) m) : l.length = m.length := by
  rw [k.len] at hm
  exact least_ren hl hm k.w k.forg1 (by have := k.sym.forg1; rwa [k.len] at this)
theorem RenC.worn1 (k : RenC N g h p q ns os) (s : Nat) (hs : wornP N ns s = true) : wornP N os (img g N s) = true := by
  refine hon_ren k.r (fun y hy => ?_) hs
  obtain ⟨c, hc, rfl⟩ := List.mem_map.1 hy
  obtain ⟨x, hx, h1⟩ := k.mem hc
  refine ⟨_, List.mem_map.2 ⟨x, hx, rfl⟩, fun a ha => ?_⟩
  rw [Nat.testBit_xor, Nat.testBit_and, Nat.testBit_xor, Nat.testBit_and, h1 a ha, img_at k.r ha]
theorem RenC.worn (k : RenC N g h p q ns os) {l m : List Nat} (hl : LeastR N (wornP N ns) l) (hm : LeastR N (wornP N os) m) : l.length = m.length :=
  least_ren hl hm k.r k.worn1 k.sym.worn1
theorem RenC.mod1 (k : RenC N g h p q ns os) (s : Nat) (hs : honB N (xorL ns s) = true) : honB N (xorL os (img g N s)) = true := by
  refine hon_ren k.r (fun y hy => ?_) hs
  obtain ⟨c, hc, rfl⟩ := List.mem_map.1 hy
  obtain ⟨x, hx, h1⟩ := k.mem hc
  refine ⟨_, List.mem_map.2 ⟨x, hx, rfl⟩, fun a ha => ?_⟩
  rw [Nat.testBit_xor, Nat.testBit_xor, h1 a ha, img_at k.r ha]
theorem RenC.mod2 (k : RenC N g h p q ns os) {x y e f : Int} (h1 : ModR N ns x e) (h2 : ModR N os y f) (he : e = 0) : f = 0 := by
  obtain ⟨r, hr, _, h3⟩ := h1
  obtain ⟨t, ht, _, h4⟩ := h2
  rcases hr with ⟨i, hi, hP, _, rfl⟩ | ⟨_, rfl⟩
  · rcases ht with ⟨j, _, _, _, rfl⟩ | ⟨hno, rfl⟩
    · rw [h4, if_neg (by omega)]
    · have := hno (img g N i) (img_lt k.r)
      have h5 := k.mod1 i hP
      dsimp only at this
      rw [h5] at this; cases this
  · rw [if_pos (by decide)] at h3; omega
theorem RenC.mod (k : RenC N g h p q ns os) {x y e f : Int} (h1 : ModR N ns x e) (h2 : ModR N os y f) : e = f := by
  have a1 := k.mod2 h1 h2
  have a2 := k.sym.mod2 h2 h1
  obtain ⟨r, hr, _, h3⟩ := h1
  obtain ⟨t, ht, _, h4⟩ := h2
  split at h3 <;> split at h4 <;> omega
end
/-- A list of the numbers below N in some order is a way to number anew. -/
theorem ren_perm {N : Nat} {l : List Nat} (hp : l.Perm (List.range N)) : Ren N (fun a => l.getD a 0) (fun x => l.idxOf x) := by
  have hnd : l.Nodup := hp.nodup_iff.2 List.nodup_range
  have hlen : l.length = N := by rw [hp.length_eq, List.length_range]
  have hm : ∀ x, x < N → x ∈ l := fun x hx => hp.mem_iff.2 (List.mem_range.2 hx)
  refine ⟨fun x hx => ?_, fun x hx => ?_, fun x hx => ?_, fun x hx => ?_⟩
  · exact List.mem_range.1 (hp.mem_iff.1 (getD_mem (by omega)))
  · rw [← hlen]; exact List.idxOf_lt_length_of_mem (hm x hx)
  · show l.getD (l.idxOf x) 0 = x
    have h1 := List.idxOf_lt_length_of_mem (hm x hx)
    rw [getD_eq h1]; exact List.getElem_idxOf h1
  · show l.idxOf (l.getD x 0) = x
    have h1 : x < l.length := by omega
    rw [getD_eq h1]
    exact hnd.idxOf_getElem x h1
theorem mod_two {y L : Nat} (h : y < 2 * L) : y % L = if y < L then y else y - L := by
  split
  · rename_i h1; exact Nat.mod_eq_of_lt h1
  · rename_i h1; rw [Nat.mod_eq_sub_mod (by omega)]; exact Nat.mod_eq_of_lt (by omega)
/-- Turned, and from the last to the first. -/
theorem ren_turn (L t : Nat) : Ren L (fun i => L - 1 - (i + (L - t % L)) % L) (fun j => ((L - 1 - j) + t) % L) := by
  have hq : ∀ j, j < L → ((L - 1 - j) + t) % L = ((L - 1 - j) + t % L) % L := fun j hj => by rw [Nat.add_mod_mod]
  refine ⟨fun x hx => ?_, fun x hx => Nat.mod_lt _ (by omega), fun x hx => ?_, fun x hx => ?_⟩
  · show L - 1 - _ < L
    omega
  · have ht := Nat.mod_lt t (show 0 < L by omega)
    show L - 1 - (((L - 1 - x) + t) % L + (L - t % L)) % L = x
    rw [hq x hx, mod_two (y := L - 1 - x + t % L) (by omega)]
    split
    · rw [mod_two (by omega)]; split <;> omega
    · rw [mod_two (by omega)]; split <;> omega
  · have ht := Nat.mod_lt t (show 0 < L by omega)
    show ((L - 1 - (L - 1 - (x + (L - t % L)) % L)) + t) % L = x
    rw [hq _ (by omega), mod_two (y := x + (L - t % L)) (by omega)]
    split
    · rw [mod_two (by omega)]; split <;> omega
    · rw [mod_two (by omega)]; split <;> omega
end Go.Proofs.Ytblopbimchkneaa.Md

namespace Go.Proofs.Ytblopbimchkneaa.Md
open Go Go.Abs Go.Mth
set_option linter.unusedVariables false
set_option linter.unusedSimpArgs false
theorem nq4 : ∀ a b : Bool, pureRun C.c.P (binOp .neq 4 (.bool a) (.bool b)) = some (.bool (a != b)) := by
  intro a b
  cases a <;> cases b <;> kernel_rfl
/-- Whether three casts have been found, of those before. -/
def prov3 (ns : List Nat) (a b i j k : Nat) : Prop := provB ns a b i j k = true
attribute [local irreducible] gOK WS WC WR WD Ends FS YS OpV seqK blockK loopK midK retK rdK asgK rangeEnd sat Cell
section
variable {M : HL} {n0 : Nat} {H : Heap}
end
end Go.Proofs.Ytblopbimchkneaa.Md

namespace Go.Proofs.Ytblopbimchkneaa.Md
open Go Go.Abs Go.Mth
set_option linter.unusedVariables false
set_option linter.unusedSimpArgs false
def upTo (n : Nat) : List Int := (List.range n).map fun (x : Nat) => (x : Int)
theorem upTo_succ (n : Nat) : upTo (n + 1) = upTo n ++ [(n : Int)] := by simp [upTo, List.range_succ]
theorem upTo_len (n : Nat) : (upTo n).length = n := by simp [upTo]
/-- What is taken out of a list, and what is left of it: together they are the list. -/
theorem perm_take {ys : List Int} {m i : Nat} (hi : i < m) (hm : m ≤ ys.length) : (ys.take m).Perm (ys.getD i 0 :: (ys.take i ++ (ys.take m).drop (i + 1))) := by
  have h1 : ys.take m = ys.take i ++ (ys.getD i 0 :: (ys.take m).drop (i + 1)) := by
    have h2 : (ys.take m).drop i = ys.getD i 0 :: (ys.take m).drop (i + 1) := by
      rw [List.drop_eq_getElem_cons (by simp; omega), List.getElem_take, getD_eq (by omega)]
    rw [← h2]
    have h3 : ys.take i = (ys.take m).take i := by rw [List.take_take, Nat.min_eq_left (by omega)]
    rw [h3, List.take_append_drop]
  exact (List.Perm.of_eq h1).trans List.perm_middle
theorem perm_nat {N : Nat} {o : List Int} (h : o.Perm (upTo N)) : ∃ l : List Nat, o = l.map (fun (x : Nat) => (x : Int)) ∧ l.Perm (List.range N) := by
  refine ⟨o.map Int.toNat, ?_, ?_⟩
  · rw [List.map_map]
    conv => lhs; rw [← List.map_id o]
    refine List.map_congr_left fun x hx => ?_
    obtain ⟨y, _, rfl⟩ := List.mem_map.1 (h.mem_iff.1 hx)
    simp
  · have := h.map Int.toNat
    rw [upTo, List.map_map] at this
    have e : (List.range N).map (Int.toNat ∘ fun (x : Nat) => (x : Int)) = List.range N := by
      conv => rhs; rw [← List.map_id (List.range N)]
      exact List.map_congr_left fun x _ => by simp
    rwa [e] at this
structure PV where
  k : Nat
  cp : Nat
  R : Nat
  ys : List Int
  v : Value
  Mx : HL
  n : Nat
  o : List Int
structure OV where
  k : Nat
  v : Value
  Mx : HL
  n : Nat
/-- A cast with other numbers, mark by mark. -/
theorem img_step (g : Nat → Nat) (a c : Nat) : img g (a + 1) c = img g a c ||| (c >>> a &&& 1) * 2 ^ g a := by
  have hb : c >>> a &&& 1 = if c.testBit a then 1 else 0 := by
    have : c.testBit a = decide ((c >>> a) % 2 = 1) := by rw [Nat.testBit_eq_decide_div_mod_eq, Nat.shiftRight_eq_div_pow]
    rw [Nat.and_one_is_mod, this]
    by_cases h : (c >>> a) % 2 = 1
    · simp [h]
    · rw [if_neg (by rw [decide_eq_true_eq]; exact h)]; omega
  unfold img
  rw [hb]
  cases h : c.testBit a with
  | true => rw [bits_yes h, List.map_append, List.map_singleton, mask_snoc]; simp
  | false => rw [bits_no h]; simp
theorem img_le {g : Nat → Nat} {a N c : Nat} (hg : ∀ x, x < a → g x < N) : img g a c < 2 ^ N := mask_lt fun x hx => by
  obtain ⟨i, hi, rfl⟩ := List.mem_map.1 hx
  exact hg i (mem_bits.1 hi).1
/-- The other casts before they are turned round. -/
def othL (g : Nat → Nat) (N : Nat) (ns : List Nat) (t k : Nat) : List Nat := (List.range k).map fun j => img g N (ns.getD ((j + t) % ns.length) 0)
theorem oth_succ (g : Nat → Nat) (N : Nat) (ns : List Nat) (t k : Nat) : othL g N ns t (k + 1) = othL g N ns t k ++ [img g N (ns.getD ((k + t) % ns.length) 0)] := by simp [othL, List.range_succ]
theorem oth_len (g : Nat → Nat) (N : Nat) (ns : List Nat) (t k : Nat) : (othL g N ns t k).length = k := by simp [othL]
theorem ren_made {N t : Nat} {to ns : List Nat} (hp : to.Perm (List.range N)) :
    RenC N (fun a => to.getD a 0) (fun x => to.idxOf x) (fun i => ns.length - 1 - (i + (ns.length - t % ns.length)) % ns.length) (fun j => ((ns.length - 1 - j) + t) % ns.length) ns (othL (fun a => to.getD a 0) N ns t ns.length).reverse := by
  refine ⟨ren_perm hp, by simp [oth_len], ren_turn _ _, fun i hi a ha => ?_⟩
  have hw := ren_turn ns.length t
  have h1 : ns.length - 1 - (i + (ns.length - t % ns.length)) % ns.length < ns.length := hw.gb i hi
  have h2 : ((ns.length - 1 - (ns.length - 1 - (i + (ns.length - t % ns.length)) % ns.length)) + t) % ns.length = i := hw.hg i hi
  show ((othL (fun a => to.getD a 0) N ns t ns.length).reverse.getD (ns.length - 1 - (i + (ns.length - t % ns.length)) % ns.length) 0).testBit (to.getD a 0) = (ns.getD i 0).testBit a
  obtain ⟨j, hj⟩ : ∃ j, ns.length - 1 - (i + (ns.length - t % ns.length)) % ns.length = j := ⟨_, rfl⟩
  rw [hj] at h1 h2 ⊢
  have hlr : j < (othL (fun a => to.getD a 0) N ns t ns.length).reverse.length := by simpa [oth_len] using h1
  rw [getD_eq hlr, List.getElem_reverse]
  simp only [oth_len]
  rw [show (othL (fun a => to.getD a 0) N ns t ns.length)[ns.length - 1 - j]'(by rw [oth_len]; omega) = img (fun a => to.getD a 0) N (ns.getD ((ns.length - 1 - j + t) % ns.length) 0) by simp [othL], h2]
  exact img_at (g := fun a => to.getD a 0) (ren_perm hp) ha
attribute [local irreducible] gOK WS WC WR WD Ends FS YS OpV seqK blockK loopK midK retK rdK asgK rangeEnd sat Cell
section
variable {M : HL} {n0 : Nat} {H : Heap} {o : List Int}
theorem Reverse_fs {b u q cp : Nat} (hH : hasH ((b, .row 3 u q (ints o)) :: M) n0 H) (hol : o.length ≤ 1000) :
    FS C 49 [.slice (some ⟨b, q, some u⟩) o.length cp] H (fun e H' => hasH ((b, .row 3 u q (ints o.reverse)) :: M) n0 H') := by
  refine FS.intro (pf := pf49) rfl rfl rfl ?_
  repeat' (first | refine zP ?_ | refine zA ?_ | (refine zM ?_; intro _ _) | refine zX ?_ | (refine zC ?_; intro _ _ _ _) | (refine zS ?_; intro _ _) | (apply Ws <;> intro hg))
  refine WC.loopX [(0, .slice (some ⟨b, q, some u⟩) o.length cp)] (fun s : Nat × List Int => [(2, .int .i64 (s.1 : Int)), (3, .int .i64 ((o.length : Int) - 1 - s.1))]) []
    (fun s H' => hasH ((b, .row 3 u q (ints s.2)) :: M) n0 H' ∧ 2 * s.1 ≤ o.length ∧ s.2.length = o.length ∧ ∀ k, k < o.length → s.2.getD k 0 = if k < s.1 ∨ o.length - s.1 ≤ k then o.getD (o.length - 1 - k) 0 else o.getD k 0) (fun s => o.length - s.1) (0, o) ?_ rfl
    ⟨hH, Nat.zero_le _, rfl, fun k hk => by simp only; rw [if_neg (by omega)]⟩ ?_
  · refine .cons rfl (.cons ?_ (.cons rfl .nil))
    show some (Value.int .i64 ((o.length : Int) - 1)) = some (.int .i64 ((o.length : Int) - 1 - ((0 : Nat) : Int)))
    simp
  clear hH
  rintro ⟨k, ys⟩ H1 ⟨hH1, hk, hyl, hys⟩
  simp only at hH1 hk hyl hys
  dsimp only [List.cons_append, List.nil_append]
  repeat' (first | refine zP ?_ | refine zA ?_ | (refine zM ?_; intro _ _) | refine zX ?_ | (refine zC ?_; intro _ _ _ _) | (refine zS ?_; intro _ _) | (apply Ws <;> intro hg))
  refine WC.condP rfl (fun hlt => ?_) (fun hlt => ?_)
  · have hk' : k < o.length := by omega
    obtain ⟨j, hj⟩ : ∃ j : Nat, (o.length : Int) - 1 - k = j := ⟨o.length - 1 - k, by omega⟩
    rw [hj]
    repeat' (first | refine zP ?_ | refine zA ?_ | (refine zM ?_; intro _ _) | refine zX ?_ | (refine zC ?_; intro _ _ _ _) | (refine zS ?_; intro _ _) | (apply Ws <;> intro hg))
    refine WR.op (by first | exact gN | exact gS rfl) rfl (OpV.load1 (v := .int .i64 (ys.getD j 0)) rfl hH1 (.head _) (.row _ _ _ _) (Nat.le_add_right _ _) (by rw [show q + j - q = j by omega]; exact ints_get (by omega))) ?_
    repeat' (first | refine zP ?_ | refine zA ?_ | (refine zM ?_; intro _ _) | refine zX ?_ | (refine zC ?_; intro _ _ _ _) | (refine zS ?_; intro _ _) | (apply Ws <;> intro hg))
    refine WR.op (by first | exact gN | exact gS rfl) rfl (OpV.load1 (v := .int .i64 (ys.getD k 0)) rfl hH1 (.head _) (.row _ _ _ _) (Nat.le_add_right _ _) (by rw [show q + k - q = k by omega]; exact ints_get (by omega))) ?_
    repeat' (first | refine zP ?_ | refine zA ?_ | (refine zM ?_; intro _ _) | refine zX ?_ | (refine zC ?_; intro _ _ _ _) | (refine zS ?_; intro _ _) | (apply Ws <;> intro hg))
    refine WR.store1 (cs' := ints (ys.set k (ys.getD j 0))) (by first | exact gN | exact gS rfl) hH1 rfl rfl rfl .here (Nat.le_add_right _ _) (by simp; omega) (by rw [show q + k - q = k by omega]; simp [List.map_set]) fun H2 hH2 => ?_
    have hl2 : (ys.set k (ys.getD j 0)).length = o.length := by simp [hyl]
    repeat' (first | refine zP ?_ | refine zA ?_ | (refine zM ?_; intro _ _) | refine zX ?_ | (refine zC ?_; intro _ _ _ _) | (refine zS ?_; intro _ _) | (apply Ws <;> intro hg))
    refine WR.store1 (cs' := ints ((ys.set k (ys.getD j 0)).set j (ys.getD k 0))) (by first | exact gN | exact gS rfl) hH2 rfl rfl rfl .here (Nat.le_add_right _ _) (by simp; omega) (by rw [show q + j - q = j by omega]; simp [List.map_set]) fun H3 hH3 => ?_
    repeat' (first | refine zP ?_ | refine zA ?_ | (refine zM ?_; intro _ _) | refine zX ?_ | (refine zC ?_; intro _ _ _ _) | (refine zS ?_; intro _ _) | (apply Ws <;> intro hg))
    rw [show (j : Int) - 1 = (o.length : Int) - 1 - ((k + 1 : Nat) : Int) by omega]
    refine Ends.loop (k + 1, (ys.set k (ys.getD j 0)).set j (ys.getD k 0)) (by simp only; omega) (by repeat' (first | exact .nil | refine .cons rfl ?_)) rfl ⟨hH3, by simp only; omega, by simp [hyl], fun i hi => ?_⟩
    simp only
    rw [getD_set' (by omega), getD_set' (by omega)]
    have hjk := hys j (by omega)
    have hkk := hys k (by omega)
    rw [if_neg (by omega)] at hjk hkk
    by_cases h1 : i = j
    · rw [if_pos h1, if_pos (by omega), hkk]; congr 1; omega
    · rw [if_neg h1]
      by_cases h2 : i = k
      · rw [if_pos h2, if_pos (by omega), hjk]; congr 1; omega
      · rw [if_neg h2, hys i hi]
        by_cases h3 : i < k ∨ o.length - k ≤ i
        · rw [if_pos h3, if_pos (by omega)]
        · rw [if_neg h3, if_neg (by omega)]
  · have hre : ys = o.reverse := by
      refine ext_getD (a := 0) (by simp [hyl]) fun i hi => ?_
      rw [hys i (by omega), getD_eq (show i < o.reverse.length by simp; omega), List.getElem_reverse]
      by_cases h3 : i < k ∨ o.length - k ≤ i
      · rw [if_pos h3, getD_eq (by omega)]
      · rw [if_neg h3, getD_eq (by omega)]
        congr 1; omega
    subst hre
    repeat' (first | refine zP ?_ | refine zA ?_ | (refine zM ?_; intro _ _) | refine zX ?_ | (refine zC ?_; intro _ _ _ _) | (refine zS ?_; intro _ _) | (apply Ws <;> intro hg))
    exact Ends.end0 hH1
theorem Reverse0_fs (H : Heap) : FS C 49 [.slice none 0 0] H (fun e H' => H' = H) := by
  refine FS.intro (pf := pf49) rfl rfl rfl ?_
  repeat' (first | refine zP ?_ | refine zA ?_ | (refine zM ?_; intro _ _) | refine zX ?_ | (refine zC ?_; intro _ _ _ _) | (refine zS ?_; intro _ _) | (apply Ws <;> intro hg))
  refine WC.loopX [(0, .slice none 0 0)] (fun s : Nat => [(2, .int .i64 0), (3, .int .i64 (-1))]) [] (fun s H' => H' = H) (fun s => 0) 0 (by repeat' (first | exact .nil | refine .cons rfl ?_)) rfl rfl ?_
  rintro s _ rfl
  dsimp only [List.cons_append, List.nil_append]
  repeat' (first | refine zP ?_ | refine zA ?_ | (refine zM ?_; intro _ _) | refine zX ?_ | (refine zC ?_; intro _ _ _ _) | (refine zS ?_; intro _ _) | (apply Ws <;> intro hg))
  exact Ends.end0 rfl
end
end Go.Proofs.Ytblopbimchkneaa.Md

namespace Go.Proofs.Ytblopbimchkneaa.Md
open Go Go.Abs Go.Mth
set_option linter.unusedVariables false
set_option linter.unusedSimpArgs false
theorem IL_snoc (ns : List Nat) (x : Nat) : nodes ns ++ [Value.int .i64 (x : Int)] = nodes (ns ++ [x]) := by simp [nodes]
attribute [local irreducible] gOK WS WC WR WD Ends FS YS OpV seqK blockK loopK midK retK rdK asgK rangeEnd sat Cell
section
variable {M : HL} {n0 : Nat} {H : Heap} {v : Value} {ns : List Nat}
end
end Go.Proofs.Ytblopbimchkneaa.Md

namespace Go.Proofs.Ytblopbimchkneaa.Md
open Go Go.Abs Go.Mth
set_option linter.unusedVariables false
set_option linter.unusedSimpArgs false
theorem othL_lt {g : Nat → Nat} {N t k : Nat} {ns : List Nat} (hg : ∀ x, x < N → g x < N) : ∀ x ∈ othL g N ns t k, x < 2 ^ N := fun x hx => by
  obtain ⟨i, _, rfl⟩ := List.mem_map.1 hx
  exact img_le hg
attribute [local irreducible] gOK WS WC WR WD Ends FS YS OpV seqK blockK loopK midK retK rdK asgK rangeEnd sat Cell
section
theorem Rev_fs {M Mx : HL} {n0 : Nat} {H : Heap} {v : Value} {l : List Nat} (hH : hasH (Mx ++ M) n0 H) (hO : (l = [] ∧ v = .slice none 0 0 ∧ Mx = []) ∨ OwnR 3 1 v (nodes l) Mx) (hl : l.length ≤ 1000) :
    FS C 49 [v] H (fun e H' => ∃ X, hasH X n0 H' ∧ (∀ p ∈ M, p ∈ X) ∧ Sl X 1 v (nodes l.reverse)) := by
  rcases hO with ⟨rfl, rfl, rfl⟩ | h
  · refine (Reverse0_fs H).mono ?_
    rintro e _ rfl
    exact ⟨M, hH, fun p h => h, .nil _⟩
  · cases h with
    | mk hlen =>
    rename_i b u o len
    have hle : (IL l).length = len := by have := hlen; simp [nodes] at this; simp; omega
    subst hle
    rw [nodesI] at hH
    refine (Reverse_fs (o := IL l) hH (by simp; omega)).mono fun e H' hH' => ⟨_, hH', fun p h => List.mem_cons_of_mem _ h, ?_⟩
    have e : nodes l.reverse = ints (IL l).reverse := by rw [nodesI, ← List.map_reverse]
    rw [e]
    exact .row (lo := o) (cs := ints (IL l).reverse) (.head _) (.row _ _ _ _) (Nat.le_refl _) (by simp) (by simp [List.take_of_length_le]) (by simp) (.inl (.inl rfl))
variable {M : HL} {n0 : Nat} {H : Heap} {v : Value} {ns : List Nat}
set_option maxHeartbeats 8000000 in
theorem MouldNamed_fs (hH : hasH M n0 H) {a b c : Int} {hs us : List Int} (ha : 0 ≤ a ∧ a ≤ 255) (hb : 0 ≤ b ∧ b ≤ 255) (hc : 0 ≤ c ∧ c ≤ 255) (hl : hs.length = 14) (hu : ∀ x ∈ hs, 0 ≤ x ∧ x ≤ 255) (hul : us.length = 6) (hus : ∀ x ∈ us, 0 ≤ x ∧ x ≤ 255) {turn : Int} (h1 : 0 ≤ turn ∧ turn ≤ 255) :
    FS C 11 [.agg (trayV a b c hs).toArray, .agg (bytesV us).toArray, .int .u8 turn] H (fun e H' => e = .bool true) := by
  have hone := tray_one a b c hs
  have hone2 := bytes_one us
  refine FS.intro (pf := pf11) rfl rfl rfl ?_
  repeat' (first | refine zP ?_ | refine zA ?_ | (refine zM ?_; intro _ _) | refine zX ?_ | (refine zC ?_; intro _ _ _ _) | (refine zS ?_; intro _ _))
  rename_i H0 hH0 H1 hH1
  clear hH0
  refine WR.op (by first | exact gN | exact gS rfl) rfl (OpV.loadAll (k := 17) rfl hH1 (.tail _ (.head _)) (.row _ _ _ _) (by simp [trayV, hl])) ?_
  refine WR.call (by first | exact gN | exact gS rfl) rfl rfl (made0_fs hH1 ha hb hc hl hu (most := 6) (many := 7) (by omega) (by omega)) ?_
  rintro _ H2 ⟨N, ns, v, Mx, n2, rfl, hN1, hN6, hl7, hnb, hO, hn2, hH2, hv0⟩
  clear hH1
  have hS := hO.sl ((n0 + 1, Ch.row 42 0 0 (bytesV us)) :: (n0, Ch.row 44 0 0 (trayV a b c hs)) :: M)
  have hmU : (n0 + 1, Ch.row 42 0 0 (bytesV us)) ∈ Mx ++ ((n0 + 1, Ch.row 42 0 0 (bytesV us)) :: (n0, Ch.row 44 0 0 (trayV a b c hs)) :: M) := by simp
  clear hO hone hone2
  generalize Mx ++ ((n0 + 1, Ch.row 42 0 0 (bytesV us)) :: (n0, Ch.row 44 0 0 (trayV a b c hs)) :: M) = T at hH2 hS hmU
  have hb62 := lt_62 hN6 hnb
  have hl8 : ns.length ≤ 8 := by omega
  have hE0 := casts_intro hN1 hN6 hl8 hnb
  have hI : ∀ {X : HL} {w : Value} {l : List Nat}, Sl X 1 w (nodes l) → Sl X 1 w (ints (IL l)) := fun h => by rw [← nodesI]; exact h
  obtain ⟨tn, rfl⟩ : ∃ k : Nat, turn = k := ⟨turn.toNat, by omega⟩
  repeat' (first | refine zP ?_ | refine zA ?_ | (refine zM ?_; intro _ _) | refine zX ?_ | (refine zC ?_; intro _ _ _ _) | (refine zS ?_; intro _ _) | (apply Ws <;> intro hg))
  -- all marks
  refine WC.loopX [(2, _), (4, _), (7, _), (8, _), (10, _), (38, _)] (fun s : OV => [(9, s.v), (39, .int .i64 (s.k : Int))]) []
    (fun s H' => s.k ≤ N ∧ n2 ≤ s.n ∧ hasH (s.Mx ++ T) s.n H' ∧ ((s.k = 0 ∧ s.v = .slice none 0 0 ∧ s.Mx = []) ∨ OwnR 3 1 s.v (ints (upTo s.k)) s.Mx)) (fun s => N - s.k) ⟨0, .slice none 0 0, [], n2⟩ (by repeat' (first | exact .nil | refine .cons rfl ?_)) rfl ⟨Nat.zero_le _, Nat.le_refl _, hH2, .inl ⟨rfl, rfl, rfl⟩⟩ ?_
  clear hH2
  rintro ⟨k, w, Mx, n1⟩ H2 ⟨hk, hn1, hH2, hO⟩
  simp only at hk hn1 hH2 hO
  have hOwn : Own 3 1 w (ints (upTo k)) Mx := by
    rcases hO with ⟨rfl, rfl, rfl⟩ | h
    · exact .nil
    · exact h.own
  dsimp only [List.cons_append, List.nil_append]
  repeat' (first | refine zP ?_ | refine zA ?_ | (refine zM ?_; intro _ _) | refine zX ?_ | (refine zC ?_; intro _ _ _ _) | (refine zS ?_; intro _ _) | (apply Ws <;> intro hg))
  refine WC.condP rfl (fun hlt => ?_) (fun hlt => ?_)
  · have hk' : k < N := by omega
    repeat' (first | refine zP ?_ | refine zA ?_ | (refine zM ?_; intro _ _) | refine zX ?_ | (refine zC ?_; intro _ _ _ _) | (refine zS ?_; intro _ _) | (apply Ws <;> intro hg))
    refine WR.append1R rfl rfl rfl rfl hOwn hH2 (new := [.int .i64 (k : Int)]) (by rfl) rfl rfl (Nat.le_refl _) (by omega) (by simp [upTo]; omega) fun v3 M3 n3 H3 hO3 hH3 hn3 => ?_
    repeat' (first | refine zP ?_ | refine zA ?_ | (refine zM ?_; intro _ _) | refine zX ?_ | (refine zC ?_; intro _ _ _ _) | (refine zS ?_; intro _ _) | (apply Ws <;> intro hg))
    refine Ends.loop ⟨k + 1, v3, M3, n3⟩ (by simp only; omega) (by repeat' (first | exact .nil | refine .cons rfl ?_)) rfl ⟨hk', by simp only; omega, hH3, .inr ?_⟩
    rw [upTo_succ]
    simpa using hO3
  have hkn : N = k := by omega
  subst hkn
  have hOR : OwnR 3 1 w (ints (upTo N)) Mx := by
    rcases hO with ⟨h, _⟩ | h
    · omega
    · exact h
  clear hO hOwn hlt hk
  cases hOR with
  | mk hlen =>
  rename_i bl ul ol len
  have hle : N = len := by have := hlen; simp [upTo] at this; omega
  subst hle
  repeat' (first | refine zP ?_ | refine zA ?_ | (refine zM ?_; intro _ _) | refine zX ?_ | (refine zC ?_; intro _ _ _ _) | (refine zS ?_; intro _ _) | (apply Ws <;> intro hg))
  refine WC.loopX [(2, _), (4, _), (7, _), (8, _), (47, _)] (fun s : PV => [(9, .slice (some ⟨bl, ol, some ul⟩) (N - s.k) s.cp), (10, s.v), (48, .int .i64 (s.k : Int))]) []
    (fun s H' => s.k ≤ N ∧ n2 ≤ s.n ∧ capR s.cp (N - s.k) s.R ∧ s.ys.length = N ∧ s.o.length = s.k ∧ Own 3 1 s.v (ints s.o) s.Mx ∧ hasH ((bl, .row 3 ul ol (ints s.ys)) :: (s.Mx ++ T)) s.n H' ∧ (s.o ++ s.ys.take (N - s.k)).Perm (upTo N))
    (fun s => N - s.k) ⟨0, 2 * 1, N, upTo N, .slice none 0 0, [], n1, []⟩ (by repeat' (first | exact .nil | refine .cons rfl ?_)) rfl ⟨Nat.zero_le _, hn1, .inl ⟨rfl, rfl⟩, by simp [upTo], rfl, .nil, hH2, by simp [upTo_len, List.take_of_length_le]⟩ ?_
  clear hH2 hlen
  rintro ⟨k, cp, R, ys, v6, Mo, n3, o⟩ H3 ⟨hk, hn3, hcR, hyl, hol, hOo, hH3, hperm⟩
  simp only at hk hn3 hcR hyl hol hOo hH3 hperm
  dsimp only [List.cons_append, List.nil_append]
  repeat' (first | refine zP ?_ | refine zA ?_ | (refine zM ?_; intro _ _) | refine zX ?_ | (refine zC ?_; intro _ _ _ _) | (refine zS ?_; intro _ _) | (apply Ws <;> intro hg))
  refine WC.condP rfl (fun hlt => ?_) (fun hlt => ?_)
  · have hk' : k < N := by omega
    have huk := hus _ (getD_mem (a := 0) (l := us) (k := k) (by omega))
    have hm3 : (n0 + 1, Ch.row 42 0 0 (bytesV us)) ∈ (bl, Ch.row 3 ul ol (ints ys)) :: (Mo ++ T) := List.mem_cons_of_mem _ (List.mem_append_right _ hmU)
    repeat' (first | refine zP ?_ | refine zA ?_ | (refine zM ?_; intro _ _) | refine zX ?_ | (refine zC ?_; intro _ _ _ _) | (refine zS ?_; intro _ _) | (apply Ws <;> intro hg))
    refine WR.op (by first | exact gN | exact gS rfl) rfl (OpV.load1 (v := .int .u8 (us.getD k 0)) rfl hH3 hm3 (.row _ _ _ _) (Nat.zero_le _) (by rw [Nat.sub_zero]; exact bytes_get (by omega))) ?_
    refine WR.op (by first | exact gN | exact gS rfl) rfl (OpV.conv u8k i64k rfl (c := us.getD k 0) (IntWalk.i64_in _ (by omega))) ?_
    obtain ⟨i, hi⟩ : ∃ i : Nat, us.getD k 0 % ((N - k : Nat) : Int) = i := ⟨(us.getD k 0 % ((N - k : Nat) : Int)).toNat, by have := Int.emod_nonneg (us.getD k 0) (show ((N - k : Nat) : Int) ≠ 0 by omega); omega⟩
    have hil : i < N - k := by have := Int.emod_lt_of_pos (us.getD k 0) (show (0 : Int) < ((N - k : Nat) : Int) by omega); omega
    repeat' (first | refine zP ?_ | refine zA ?_ | (refine zM ?_; intro _ _) | refine zX ?_ | (refine zC ?_; intro _ _ _ _) | (refine zS ?_; intro _ _) | (apply Ws <;> intro hg))
    rw [hi]
    repeat' (first | refine zP ?_ | refine zA ?_ | (refine zM ?_; intro _ _) | refine zX ?_ | (refine zC ?_; intro _ _ _ _) | (refine zS ?_; intro _ _) | (apply Ws <;> intro hg))
    refine WR.op (by first | exact gN | exact gS rfl) rfl (OpV.load1 (v := .int .i64 (ys.getD i 0)) rfl hH3 (.head _) (.row _ _ _ _) (Nat.le_add_right _ _) (by rw [show ol + i - ol = i by omega]; exact ints_get (by omega))) ?_
    refine WR.append1F [(bl, .row 3 ul ol (ints ys))] Mo _ rfl rfl rfl rfl hOo hH3 (new := [.int .i64 (ys.getD i 0)]) (by rfl) rfl rfl (Nat.le_refl _) (by omega) (by simp; omega) fun v7 M7 n7 H7 hO7 hH7 hn7 => ?_
    repeat' (first | refine zP ?_ | refine zA ?_ | (refine zM ?_; intro _ _) | refine zX ?_ | (refine zC ?_; intro _ _ _ _) | (refine zS ?_; intro _ _) | (apply Ws <;> intro hg))
    refine WR.call (by first | exact gN | exact gS rfl) rfl rfl (Delete_fs (i := i) (j := i + 1) hH7 hcR (by omega) (by omega) (by omega) (by omega)) ?_
    rintro _ H8 ⟨zs, rfl, hH8, hzl, hzt⟩
    rw [show i + 1 - i = 1 by omega] at hzt ⊢
    repeat' (first | refine zP ?_ | refine zA ?_ | (refine zM ?_; intro _ _) | refine zX ?_ | (refine zC ?_; intro _ _ _ _) | (refine zS ?_; intro _ _) | (apply Ws <;> intro hg))
    have hR1 := hcR.le
    have hO8 : Own 3 1 v7 (ints (o ++ [ys.getD i 0])) M7 := by simpa using hO7
    rw [show N - k - 1 = N - (k + 1) by omega] at hzt ⊢
    refine Ends.loop ⟨k + 1, roomCode 1 R, R, zs, v7, M7, n7, o ++ [ys.getD i 0]⟩ (by simp only; omega) (by repeat' (first | exact .nil | refine .cons rfl ?_)) rfl ⟨hk', by simp only; omega, .inr ⟨rfl, by simp only; omega⟩, by simp only; omega, by simp [hol], hO8, hH8, ?_⟩
    simp only
    rw [hzt, List.append_assoc]
    refine List.Perm.trans ?_ hperm
    exact List.Perm.append_left _ (perm_take hil (by omega)).symm
  have hkn : N = k := by omega
  subst hkn
  obtain ⟨to, rfl, hp⟩ := perm_nat (N := N) (o := o) (by simpa using hperm)
  have hSt : Sl (Mo ++ T) 1 v6 (nodes to) := by rw [nodesI]; exact hOo.sl T
  replace hS := hS.mono (M' := Mo ++ T) fun p hp => List.mem_append_right _ hp
  replace hH3 : hasH (Mo ++ T) n3 H3 := hH3.tail
  clear hOo hmU hperm hlt hk hcR hyl hol
  generalize Mo ++ T = U at hH3 hSt hS
  have htl : to.length = N := by rw [hp.length_eq, List.length_range]
  have hRen := ren_perm hp
  have hRC := ren_made (t := tn) (ns := ns) hp
  obtain ⟨g, hg⟩ : ∃ g : Nat → Nat, (fun a => to.getD a 0) = g := ⟨_, rfl⟩
  rw [hg] at hRen hRC
  have hga : ∀ a, to.getD a 0 = g a := fun a => by rw [← hg]
  have hgN : ∀ a, a < N → g a < N := hRen.gb
  have hol := othL_lt (t := tn) (ns := ns) (k := ns.length) hgN
  repeat' (first | refine zP ?_ | refine zA ?_ | (refine zM ?_; intro _ _) | refine zX ?_ | (refine zC ?_; intro _ _ _ _) | (refine zS ?_; intro _ _) | (apply Ws <;> intro hg))
  refine WC.loopX [(2, _), (7, _), (8, _), (10, _), (72, _)] (fun s : OV => [(14, s.v), (73, .int .i64 (s.k : Int))]) []
    (fun s H' => s.k ≤ ns.length ∧ hasH (s.Mx ++ U) s.n H' ∧ ((s.k = 0 ∧ s.v = .slice none 0 0 ∧ s.Mx = []) ∨ OwnR 3 1 s.v (nodes (othL g N ns tn s.k)) s.Mx)) (fun s => ns.length - s.k) ⟨0, .slice none 0 0, [], n3⟩ (by repeat' (first | exact .nil | refine .cons rfl ?_)) rfl ⟨Nat.zero_le _, hH3, .inl ⟨rfl, rfl, rfl⟩⟩ ?_
  clear hH3
  rintro ⟨k, w, Mw, n4⟩ H4 ⟨hk, hH4, hO⟩
  simp only at hk hH4 hO
  have hOwn : Own 3 1 w (nodes (othL g N ns tn k)) Mw := by
    rcases hO with ⟨rfl, rfl, rfl⟩ | h
    · exact .nil
    · exact h.own
  dsimp only [List.cons_append, List.nil_append]
  repeat' (first | refine zP ?_ | refine zA ?_ | (refine zM ?_; intro _ _) | refine zX ?_ | (refine zC ?_; intro _ _ _ _) | (refine zS ?_; intro _ _) | (apply Ws <;> intro hg))
  refine WC.condP rfl (fun hlt => ?_) (fun hlt => ?_)
  · have hk' : k < ns.length := by omega
    have hS4 := hS.mono (M' := Mw ++ U) fun p hp => List.mem_append_right _ hp
    have hT4 := hSt.mono (M' := Mw ++ U) fun p hp => List.mem_append_right _ hp
    repeat' (first | refine zP ?_ | refine zA ?_ | (refine zM ?_; intro _ _) | refine zX ?_ | (refine zC ?_; intro _ _ _ _) | (refine zS ?_; intro _ _) | (apply Ws <;> intro hg))
    refine WR.op (by first | exact gN | exact gS rfl) rfl (OpV.conv u8k i64k rfl (c := (tn : Int)) (IntWalk.i64_in _ (by omega))) ?_
    have hjm := Nat.mod_lt (k + tn) (show 0 < ns.length by omega)
    repeat' (first | refine zP ?_ | refine zA ?_ | (refine zM ?_; intro _ _) | refine zX ?_ | (refine zC ?_; intro _ _ _ _) | (refine zS ?_; intro _ _) | refine zO ?_ | (apply Ws <;> intro hg))
    rw [show ((k : Int) + (tn : Int)) % (ns.length : Int) = (((k + tn) % ns.length : Nat) : Int) by simp]
    obtain ⟨j, hj⟩ : ∃ j, (k + tn) % ns.length = j := ⟨_, rfl⟩
    rw [hj] at hjm ⊢
    have hcb := hb62 _ (getD_mem (a := 0) hjm)
    repeat' (first | refine zP ?_ | refine zA ?_ | (refine zM ?_; intro _ _) | refine zX ?_ | (refine zC ?_; intro _ _ _ _) | (refine zS ?_; intro _ _) | (apply Ws <;> intro hg))
    obtain ⟨c, hc⟩ : ∃ c, ns.getD j 0 = c := ⟨_, rfl⟩
    rw [hc] at hcb ⊢
    have hsh : ∀ m, c >>> m < 2 ^ 63 := fun m => Nat.lt_of_le_of_lt (Nat.shiftRight_le c m) (by omega)
    refine WC.loopX [(2, _), (7, _), (8, _), (10, _), (14, _), (16, _), (72, _), (73, _), (86, _)] (fun s : Nat => [(17, .int .i64 (img g s c : Int)), (87, .int .i64 (s : Int))]) [] (fun s H' => H' = H4 ∧ s ≤ N) (fun s => N - s) 0 (by repeat' (first | exact .nil | refine .cons rfl ?_)) rfl ⟨rfl, Nat.zero_le _⟩ ?_
    rintro s _ ⟨rfl, hs⟩
    dsimp only [List.cons_append, List.nil_append]
    repeat' (first | refine zP ?_ | refine zA ?_ | (refine zM ?_; intro _ _) | refine zX ?_ | (refine zC ?_; intro _ _ _ _) | (refine zS ?_; intro _ _) | (apply Ws <;> intro hg))
    refine WC.condP rfl (fun hlt2 => ?_) (fun hlt2 => ?_)
    · have hs' : s < N := by omega
      have hgs := hgN s hs'
      have hh : to.getD s 0 = g s := hga s
      have hi1 : img g s c < 2 ^ 63 := Nat.lt_of_lt_of_le (img_le (N := N) fun x hx => hgN x (by omega)) (Nat.pow_le_pow_right (by omega) (by omega))
      have hone1 : c >>> s &&& 1 ≤ 1 := Nat.and_le_right
      have hp63 := pow_lt_63 (N := g s) (by omega)
      have hmul : (c >>> s &&& 1) * 2 ^ g s < 2 ^ 63 := Nat.lt_of_le_of_lt (Nat.mul_le_mul_right _ hone1) (by rw [Nat.one_mul]; exact hp63)
      have hst := img_step g s c
      repeat' (first | refine zP ?_ | refine zA ?_ | (refine zM ?_; intro _ _) | refine zX ?_ | (refine zC ?_; intro _ _ _ _) | (refine zS ?_; intro _ _) | (apply Ws <;> intro hg))
      refine WR.op (by first | exact gN | exact gS rfl) rfl (OpV.shrN rfl rfl (by show s ≤ 64; omega)) ?_
      refine WR.op (by first | exact gN | exact gS rfl) rfl (OpV.andN (b := 1) rfl rfl (hsh s) (by decide)) ?_
      repeat' (first | refine zP ?_ | refine zA ?_ | (refine zM ?_; intro _ _) | refine zX ?_ | (refine zC ?_; intro _ _ _ _) | (refine zS ?_; intro _ _) | (apply Ws <;> intro hg))
      rw [hh]
      refine WR.op (by first | exact gN | exact gS rfl) rfl (OpV.shlN rfl rfl (by show g s ≤ 64; omega) hmul) ?_
      refine WR.op (by first | exact gN | exact gS rfl) rfl (OpV.orN rfl rfl hi1 hmul) ?_
      rw [← hst]
      repeat' (first | refine zP ?_ | refine zA ?_ | (refine zM ?_; intro _ _) | refine zX ?_ | (refine zC ?_; intro _ _ _ _) | (refine zS ?_; intro _ _) | (apply Ws <;> intro hg))
      exact Ends.loop (s + 1) (by omega) (by repeat' (first | exact .nil | refine .cons rfl ?_)) rfl ⟨rfl, hs'⟩
    have hNs : N = s := by omega
    subst hNs
    repeat' (first | refine zP ?_ | refine zA ?_ | (refine zM ?_; intro _ _) | refine zX ?_ | (refine zC ?_; intro _ _ _ _) | (refine zS ?_; intro _ _) | (apply Ws <;> intro hg))
    refine WR.append1R rfl rfl rfl rfl hOwn hH4 (new := [.int .i64 (img g N c : Int)]) (by rfl) rfl rfl (Nat.le_refl _) (by omega) (by simp [oth_len]; omega) fun v5 M5 n5 H5 hO5 hH5 hn5 => ?_
    repeat' (first | refine zP ?_ | refine zA ?_ | (refine zM ?_; intro _ _) | refine zX ?_ | (refine zC ?_; intro _ _ _ _) | (refine zS ?_; intro _ _) | (apply Ws <;> intro hg))
    refine Ends.loop ⟨k + 1, v5, M5, n5⟩ (by simp only; omega) (by repeat' (first | exact .nil | refine .cons rfl ?_)) rfl ⟨hk', hH5, .inr ?_⟩
    rw [IL_snoc, ← hc, ← hj, ← oth_succ] at hO5
    exact hO5
  have hkL : ns.length = k := by omega
  subst hkL
  have hO' : (othL g N ns tn ns.length = [] ∧ w = .slice none 0 0 ∧ Mw = []) ∨ OwnR 3 1 w (nodes (othL g N ns tn ns.length)) Mw := by
    rcases hO with ⟨h1, h2, h3⟩ | h
    · exact .inl ⟨List.length_eq_zero_iff.1 (by rw [oth_len]; exact h1), h2, h3⟩
    · exact .inr h
  clear hO hOwn
  have hob : ∀ x ∈ (othL g N ns tn ns.length).reverse, x < 2 ^ N := fun x hx => hol x (List.mem_reverse.1 hx)
  have hoL : (othL g N ns tn ns.length).length ≤ 1000 := by rw [oth_len]; omega
  repeat' (first | refine zP ?_ | refine zA ?_ | (refine zM ?_; intro _ _) | refine zX ?_ | (refine zC ?_; intro _ _ _ _) | (refine zS ?_; intro _ _) | (apply Ws <;> intro hg))
  refine WR.call (by first | exact gN | exact gS rfl) rfl rfl (Rev_fs hH4 hO' hoL) ?_
  rintro _ H5 ⟨X, hH5, hX, hW⟩
  replace hS := hS.mono hX
  have hlo := hRC.len
  obtain ⟨os, hos⟩ : ∃ os, (othL g N ns tn ns.length).reverse = os := ⟨_, rfl⟩
  rw [hos] at hW hob hRC hlo
  clear hH4 hO' hSt hX hoL hol
  have hlo8 : os.length ≤ 8 := by omega
  have hE1 := casts_intro hN1 hN6 hlo8 hob
  have hhon := hRC.hon
  repeat' (first | refine zP ?_ | refine zA ?_ | (refine zM ?_; intro _ _) | refine zX ?_ | (refine zC ?_; intro _ _ _ _) | (refine zS ?_; intro _ _) | (apply Ws <;> intro hg))
  refine WR.call (by first | exact gN | exact gS rfl) rfl rfl (Honest_fs hH5 (hI hS) (by simp; omega)) ?_
  rintro _ H6 ⟨rfl, n6, hn6, hH6⟩
  rw [if_pos hE0, hE0, cast_toNat, Int.toNat_natCast]
  clear hH5
  repeat' (first | refine zP ?_ | refine zA ?_ | (refine zM ?_; intro _ _) | refine zX ?_ | (refine zC ?_; intro _ _ _ _) | (refine zS ?_; intro _ _) | (apply Ws <;> intro hg))
  refine WR.call (by first | exact gN | exact gS rfl) rfl rfl (Honest_fs hH6 (hI hW) (by simp; omega)) ?_
  rintro _ H7 ⟨rfl, n7, hn7, hH7⟩
  rw [if_pos hE1, hE1, cast_toNat, Int.toNat_natCast, hhon]
  clear hH6
  repeat' (first | refine zP ?_ | refine zA ?_ | (refine zM ?_; intro _ _) | refine zX ?_ | (refine zC ?_; intro _ _ _ _) | (refine zS ?_; intro _ _) | refine zO ?_ | (apply Ws <;> intro hg))
  refine WR.op (by first | exact gN | exact gS rfl) rfl (OpV.neB (nq4 _ _) rfl rfl) ?_
  rw [bne_self_eq_false]
  repeat' (first | refine zP ?_ | refine zA ?_ | (refine zM ?_; intro _ _) | refine zX ?_ | (refine zC ?_; intro _ _ _ _) | (refine zS ?_; intro _ _) | refine zO ?_ | (apply Ws <;> intro hg))
  refine WR.call (by first | exact gN | exact gS rfl) rfl rfl (Forged_fs hH7 hS hl8 hN1 hN6 hnb) ?_
  rintro _ H8 ⟨r1, u1, M1, n8, rfl, hr1, hO1, hn8, hH8⟩
  have hU1 := hO1.sl X
  have hS8 := hS.mono (M' := M1 ++ X) fun p hp => List.mem_append_right _ hp
  have hW8 := hW.mono (M' := M1 ++ X) fun p hp => List.mem_append_right _ hp
  clear hH7 hO1 hS hW
  generalize M1 ++ X = X1 at hH8 hU1 hS8 hW8
  repeat' (first | refine zP ?_ | refine zA ?_ | (refine zM ?_; intro _ _) | refine zX ?_ | (refine zC ?_; intro _ _ _ _) | (refine zS ?_; intro _ _) | (apply Ws <;> intro hg))
  refine WR.call (by first | exact gN | exact gS rfl) rfl rfl (Forged_fs hH8 hW8 hlo8 hN1 hN6 hob) ?_
  rintro _ H9 ⟨r2, u2, M2, n9, rfl, hr2, hO2, hn9, hH9⟩
  have hf := hRC.forg hr1 hr2
  have hU2 := hO2.sl X1
  have hU19 := hU1.mono (M' := M2 ++ X1) fun p hp => List.mem_append_right _ hp
  have hS9 := hS8.mono (M' := M2 ++ X1) fun p hp => List.mem_append_right _ hp
  have hW9 := hW8.mono (M' := M2 ++ X1) fun p hp => List.mem_append_right _ hp
  clear hH8 hO2 hS8 hW8 hU1
  generalize M2 ++ X1 = X2 at hH9 hU2 hU19 hS9 hW9
  repeat' (first | refine zP ?_ | refine zA ?_ | (refine zM ?_; intro _ _) | refine zX ?_ | (refine zC ?_; intro _ _ _ _) | (refine zS ?_; intro _ _) | (apply Ws <;> intro hg))
  refine WR.call (by first | exact gN | exact gS rfl) rfl rfl (Worn_fs hH9 hS9 hl8 hN1 hN6 hnb) ?_
  rintro _ H10 ⟨r3, u3, M3, n10, rfl, hr3, hO3, hn10, hH10⟩
  have hU3 := hO3.sl X2
  have hU1a := hU19.mono (M' := M3 ++ X2) fun p hp => List.mem_append_right _ hp
  have hU2a := hU2.mono (M' := M3 ++ X2) fun p hp => List.mem_append_right _ hp
  have hS10 := hS9.mono (M' := M3 ++ X2) fun p hp => List.mem_append_right _ hp
  have hW10 := hW9.mono (M' := M3 ++ X2) fun p hp => List.mem_append_right _ hp
  clear hH9 hO3 hS9 hW9 hU19 hU2
  generalize M3 ++ X2 = X3 at hH10 hU3 hU1a hU2a hS10 hW10
  repeat' (first | refine zP ?_ | refine zA ?_ | (refine zM ?_; intro _ _) | refine zX ?_ | (refine zC ?_; intro _ _ _ _) | (refine zS ?_; intro _ _) | (apply Ws <;> intro hg))
  refine WR.call (by first | exact gN | exact gS rfl) rfl rfl (Worn_fs hH10 hW10 hlo8 hN1 hN6 hob) ?_
  rintro _ H11 ⟨r4, u4, M4, n11, rfl, hr4, hO4, hn11, hH11⟩
  have hw := hRC.worn hr3 hr4
  have hU4 := hO4.sl X3
  have hU1b := hU1a.mono (M' := M4 ++ X3) fun p hp => List.mem_append_right _ hp
  have hU2b := hU2a.mono (M' := M4 ++ X3) fun p hp => List.mem_append_right _ hp
  have hU3b := hU3.mono (M' := M4 ++ X3) fun p hp => List.mem_append_right _ hp
  have hS11 := hS10.mono (M' := M4 ++ X3) fun p hp => List.mem_append_right _ hp
  have hW11 := hW10.mono (M' := M4 ++ X3) fun p hp => List.mem_append_right _ hp
  clear hH10 hO4 hS10 hW10 hU1a hU2a hU3
  generalize M4 ++ X3 = X4 at hH11 hU4 hU1b hU2b hU3b hS11 hW11
  repeat' (first | refine zP ?_ | refine zA ?_ | (refine zM ?_; intro _ _) | refine zX ?_ | (refine zC ?_; intro _ _ _ _) | (refine zS ?_; intro _ _) | (apply Ws <;> intro hg))
  refine WR.call (by first | exact gN | exact gS rfl) rfl rfl (Model_fs hH11 hS11 hl8 hN1 hN6 hnb) ?_
  rintro _ H12 ⟨k1, f1, rfl, hm1, n12, hn12, hH12⟩
  clear hH11
  repeat' (first | refine zP ?_ | refine zA ?_ | (refine zM ?_; intro _ _) | refine zX ?_ | (refine zC ?_; intro _ _ _ _) | (refine zS ?_; intro _ _) | (apply Ws <;> intro hg))
  refine WR.call (by first | exact gN | exact gS rfl) rfl rfl (Model_fs hH12 hW11 hlo8 hN1 hN6 hob) ?_
  rintro _ H13 ⟨k2, f2, rfl, hm2, n13, hn13, hH13⟩
  have hff := hRC.mod hm1 hm2
  clear hH12
  repeat' (first | refine zP ?_ | refine zA ?_ | (refine zM ?_; intro _ _) | refine zX ?_ | (refine zC ?_; intro _ _ _ _) | (refine zS ?_; intro _ _) | refine zO ?_ | (apply Ws <;> intro hg))
  refine WR.call (by first | exact gN | exact gS rfl) rfl rfl (FS.works (C := C) (R := fun v H' => v = .bool true) rfl) ?_
  rintro _ _ rfl
  repeat' (first | refine zP ?_ | refine zA ?_ | (refine zM ?_; intro _ _) | refine zX ?_ | (refine zC ?_; intro _ _ _ _) | (refine zS ?_; intro _ _) | (apply Ws <;> intro hg))
  exact Ends.ret1 rfl rfl
end
end Go.Proofs.Ytblopbimchkneaa.Md
