/- Texts of the law, joined. -/
import Derived.Test.YtblopbimchkneaaJ2
import Derived.Test.YtblopbimchkneaaSymG
import Derived.Test.YtblopbimchkneaaJ1
import Derived.Test.YtblopbimchkneaaSymK
import Derived.Test.YtblopbimchkneaaSymR
namespace Go.Proofs.Ytblopbimchkneaa.Md
open Go Go.Abs Go.Mth
set_option linter.unusedVariables false
set_option linter.unusedSimpArgs false
theorem u64k : C.c.P.underlying 102 = some (.int .u64) := by kernel_rfl
/-! How many bits are 1. -/
def pc1 (x : Nat) : Nat := ((x >>> 1) &&& 6148914691236517205) + (x &&& 6148914691236517205)
def pc2 (x : Nat) : Nat := ((x >>> 2) &&& 3689348814741910323) + (x &&& 3689348814741910323)
def pc3 (x : Nat) : Nat := ((x >>> 4) + x) &&& 1085102592571150095
def pcS (k x : Nat) : Nat := x + (x >>> k)
def pcA (x : Nat) : Nat := pcS 32 (pcS 16 (pcS 8 (pc3 (pc2 (pc1 x))))) &&& 127
theorem pop_ok : ∀ x, x < 256 → pcA x = (bitsL x 8).length := by decide +kernel
attribute [local irreducible] gOK WS WC WR WD Ends FS YS OpV seqK blockK loopK midK retK rdK asgK rangeEnd sat Cell
theorem pop_fs {x : Nat} (hx : x < 256) (H : Heap) : FS C 99 [.int .u64 (x : Int)] H (fun e H' => e = .int .i64 ((bitsL x 8).length : Int) ∧ H' = H) := by
  have hsh : ∀ a k : Nat, a >>> k ≤ a := fun a k => Nat.shiftRight_le a k
  have hand : ∀ a b : Nat, a &&& b ≤ a := fun a b => Nat.and_le_left
  refine FS.intro (pf := pf99) rfl rfl rfl ?_
  repeat' (first | refine zP ?_ | refine zA ?_ | (refine zM ?_; intro _ _) | refine zX ?_ | (refine zC ?_; intro _ _ _ _) | (refine zS ?_; intro _ _) | (apply Ws <;> intro hg))
  refine WR.op (by first | exact gN | exact gS rfl) rfl (OpV.shrN (m := 1) rfl rfl (by decide)) ?_
  refine WR.op (by first | exact gN | exact gS rfl) rfl (OpV.andN (b := 6148914691236517205) rfl rfl (by show x >>> 1 < 2 ^ 64; have := hsh x 1; omega) (by decide)) ?_
  repeat' (first | refine zP ?_ | refine zA ?_ | (refine zM ?_; intro _ _) | refine zX ?_ | (refine zC ?_; intro _ _ _ _) | (refine zS ?_; intro _ _) | (apply Ws <;> intro hg))
  refine WR.op (by first | exact gN | exact gS rfl) rfl (OpV.andN (b := 6148914691236517205) rfl rfl (by show x < 2 ^ 64; omega) (by decide)) ?_
  refine WR.op (by first | exact gN | exact gS rfl) rfl (OpV.addN rfl rfl (by show _ < 2 ^ 64; have := hsh x 1; have := hand (x >>> 1) 6148914691236517205; have := hand x 6148914691236517205; omega)) ?_
  have b1 : pc1 x < 512 := by unfold pc1; have := hsh x 1; have := hand (x >>> 1) 6148914691236517205; have := hand x 6148914691236517205; omega
  have e0 := pop_ok x hx
  rw [show ((x >>> 1) &&& 6148914691236517205) + (x &&& 6148914691236517205) = pc1 x from rfl]
  unfold pcA at e0
  obtain ⟨y, hy⟩ : ∃ y, pc1 x = y := ⟨_, rfl⟩
  rw [hy] at b1 e0 ⊢
  repeat' (first | refine zP ?_ | refine zA ?_ | (refine zM ?_; intro _ _) | refine zX ?_ | (refine zC ?_; intro _ _ _ _) | (refine zS ?_; intro _ _) | (apply Ws <;> intro hg))
  refine WR.op (by first | exact gN | exact gS rfl) rfl (OpV.shrN (m := 2) rfl rfl (by decide)) ?_
  refine WR.op (by first | exact gN | exact gS rfl) rfl (OpV.andN (b := 3689348814741910323) rfl rfl (by show y >>> 2 < 2 ^ 64; have := hsh y 2; omega) (by decide)) ?_
  repeat' (first | refine zP ?_ | refine zA ?_ | (refine zM ?_; intro _ _) | refine zX ?_ | (refine zC ?_; intro _ _ _ _) | (refine zS ?_; intro _ _) | (apply Ws <;> intro hg))
  refine WR.op (by first | exact gN | exact gS rfl) rfl (OpV.andN (b := 3689348814741910323) rfl rfl (by show y < 2 ^ 64; omega) (by decide)) ?_
  refine WR.op (by first | exact gN | exact gS rfl) rfl (OpV.addN rfl rfl (by show _ < 2 ^ 64; have := hsh y 2; have := hand (y >>> 2) 3689348814741910323; have := hand y 3689348814741910323; omega)) ?_
  have b2 : pc2 y < 1024 := by unfold pc2; have := hsh y 2; have := hand (y >>> 2) 3689348814741910323; have := hand y 3689348814741910323; omega
  rw [show ((y >>> 2) &&& 3689348814741910323) + (y &&& 3689348814741910323) = pc2 y from rfl]
  obtain ⟨z, hz⟩ : ∃ z, pc2 y = z := ⟨_, rfl⟩
  rw [hz] at b2 e0 ⊢
  repeat' (first | refine zP ?_ | refine zA ?_ | (refine zM ?_; intro _ _) | refine zX ?_ | (refine zC ?_; intro _ _ _ _) | (refine zS ?_; intro _ _) | (apply Ws <;> intro hg))
  refine WR.op (by first | exact gN | exact gS rfl) rfl (OpV.shrN (m := 4) rfl rfl (by decide)) ?_
  repeat' (first | refine zP ?_ | refine zA ?_ | (refine zM ?_; intro _ _) | refine zX ?_ | (refine zC ?_; intro _ _ _ _) | (refine zS ?_; intro _ _) | (apply Ws <;> intro hg))
  refine WR.op (by first | exact gN | exact gS rfl) rfl (OpV.addN rfl rfl (by show _ < 2 ^ 64; have := hsh z 4; omega)) ?_
  refine WR.op (by first | exact gN | exact gS rfl) rfl (OpV.andN (b := 1085102592571150095) rfl rfl (by show _ < 2 ^ 64; have := hsh z 4; omega) (by decide)) ?_
  have b3 : pc3 z < 2048 := by unfold pc3; have := hsh z 4; have := hand (z >>> 4 + z) 1085102592571150095; omega
  rw [show ((z >>> 4) + z) &&& 1085102592571150095 = pc3 z from rfl]
  obtain ⟨w, hw⟩ : ∃ w, pc3 z = w := ⟨_, rfl⟩
  rw [hw] at b3 e0 ⊢
  repeat' (first | refine zP ?_ | refine zA ?_ | (refine zM ?_; intro _ _) | refine zX ?_ | (refine zC ?_; intro _ _ _ _) | (refine zS ?_; intro _ _) | (apply Ws <;> intro hg))
  refine WR.op (by first | exact gN | exact gS rfl) rfl (OpV.shrN (m := 8) rfl rfl (by decide)) ?_
  refine WR.op (by first | exact gN | exact gS rfl) rfl (OpV.addN rfl rfl (by show _ < 2 ^ 64; have := hsh w 8; omega)) ?_
  have b4 : pcS 8 w < 4096 := by unfold pcS; have := hsh w 8; omega
  rw [show w + w >>> 8 = pcS 8 w from rfl]
  obtain ⟨p, hp⟩ : ∃ p, pcS 8 w = p := ⟨_, rfl⟩
  rw [hp] at b4 e0 ⊢
  repeat' (first | refine zP ?_ | refine zA ?_ | (refine zM ?_; intro _ _) | refine zX ?_ | (refine zC ?_; intro _ _ _ _) | (refine zS ?_; intro _ _) | (apply Ws <;> intro hg))
  refine WR.op (by first | exact gN | exact gS rfl) rfl (OpV.shrN (m := 16) rfl rfl (by decide)) ?_
  refine WR.op (by first | exact gN | exact gS rfl) rfl (OpV.addN rfl rfl (by show _ < 2 ^ 64; have := hsh p 16; omega)) ?_
  have b5 : pcS 16 p < 8192 := by unfold pcS; have := hsh p 16; omega
  rw [show p + p >>> 16 = pcS 16 p from rfl]
  obtain ⟨q, hq⟩ : ∃ q, pcS 16 p = q := ⟨_, rfl⟩
  rw [hq] at b5 e0 ⊢
  repeat' (first | refine zP ?_ | refine zA ?_ | (refine zM ?_; intro _ _) | refine zX ?_ | (refine zC ?_; intro _ _ _ _) | (refine zS ?_; intro _ _) | (apply Ws <;> intro hg))
  refine WR.op (by first | exact gN | exact gS rfl) rfl (OpV.shrN (m := 32) rfl rfl (by decide)) ?_
  refine WR.op (by first | exact gN | exact gS rfl) rfl (OpV.addN rfl rfl (by show _ < 2 ^ 64; have := hsh q 32; omega)) ?_
  have b6 : pcS 32 q < 16384 := by unfold pcS; have := hsh q 32; omega
  rw [show q + q >>> 32 = pcS 32 q from rfl]
  obtain ⟨r, hr⟩ : ∃ r, pcS 32 q = r := ⟨_, rfl⟩
  rw [hr] at b6 e0 ⊢
  repeat' (first | refine zP ?_ | refine zA ?_ | (refine zM ?_; intro _ _) | refine zX ?_ | (refine zC ?_; intro _ _ _ _) | (refine zS ?_; intro _ _) | (apply Ws <;> intro hg))
  refine WR.op (by first | exact gN | exact gS rfl) rfl (OpV.conv u64k i64k rfl (c := (r : Int)) (IntWalk.i64_in _ (by omega))) ?_
  refine WR.op (by first | exact gN | exact gS rfl) rfl (OpV.andN (b := 127) rfl rfl (by show r < 2 ^ 63; omega) (by decide)) ?_
  repeat' (first | refine zP ?_ | refine zA ?_ | (refine zM ?_; intro _ _) | refine zX ?_ | (refine zC ?_; intro _ _ _ _) | (refine zS ?_; intro _ _) | (apply Ws <;> intro hg))
  exact Ends.ret1 rfl ⟨by rw [e0], rfl⟩
theorem count_fs {M : HL} {n0 : Nat} {H : Heap} (hH : hasH M n0 H) {x : Nat} (hx : x < 256) : FS C 95 [.agg #[.int .u64 (x : Int)]] H (fun e H' => e = .int .i64 ((bitsL x 8).length : Int) ∧ ∃ n', n0 ≤ n' ∧ hasH M n' H') := by
  refine FS.intro (pf := pf95) rfl rfl rfl ?_
  repeat' (first | refine zP ?_ | refine zA ?_ | (refine zM ?_; intro _ _) | refine zX ?_ | (refine zC ?_; intro _ _ _ _) | (refine zS ?_; intro _ _) | (apply Ws <;> intro hg))
  rename_i H1 hH1
  have h97 : FS C 97 [.int .u64 (x : Int)] H1 (fun e H' => e = .int .i64 ((bitsL x 8).length : Int) ∧ H' = H1) := by
    refine FS.intro (pf := pf97) rfl rfl rfl ?_
    repeat' (first | refine zP ?_ | refine zA ?_ | (refine zM ?_; intro _ _) | refine zX ?_ | (refine zC ?_; intro _ _ _ _) | (refine zS ?_; intro _ _) | (apply Ws <;> intro hg))
    refine WR.call (by first | exact gN | exact gS rfl) rfl rfl (pop_fs hx _) ?_
    rintro _ _ ⟨rfl, rfl⟩
    repeat' (first | refine zP ?_ | refine zA ?_ | (refine zM ?_; intro _ _) | refine zX ?_ | (refine zC ?_; intro _ _ _ _) | (refine zS ?_; intro _ _) | (apply Ws <;> intro hg))
    exact Ends.ret1 rfl ⟨rfl, rfl⟩
  refine WR.call (by first | exact gN | exact gS rfl) rfl rfl h97 ?_
  rintro _ _ ⟨rfl, rfl⟩
  repeat' (first | refine zP ?_ | refine zA ?_ | (refine zM ?_; intro _ _) | refine zX ?_ | (refine zC ?_; intro _ _ _ _) | (refine zS ?_; intro _ _) | (apply Ws <;> intro hg))
  exact Ends.ret1 rfl ⟨rfl, n0 + 1, by omega, hH1.tail⟩
end Go.Proofs.Ytblopbimchkneaa.Md

namespace Go.Proofs.Ytblopbimchkneaa.Md
open Go Go.Abs Go.Mth
set_option linter.unusedVariables false
set_option linter.unusedSimpArgs false
/-! After which mark each one arose. -/
def folB (ns : List Nat) (m o : Nat) : Bool := !someB ns o false m true && (someB ns o true m false || decide (o < m))
def cnt (ns : List Nat) (a : Nat) : Nat := (bitsL (msk ns a) 8).length
theorem within_some (ns : List Nat) (m o : Nat) : decide (msk ns m ^^^ (msk ns m &&& msk ns o) = 0) = !someB ns o false m true := by
  have h := @msk_one ns m o
  have e : someB ns o false m true = ns.any fun c => c.testBit m && !c.testBit o := by
    unfold someB; congr 1; funext c; cases c.testBit o <;> cases c.testBit m <;> rfl
  rw [e]
  cases hb : (ns.any fun c => c.testBit m && !c.testBit o) with
  | true => rw [hb] at h; rw [decide_eq_false (h.2 rfl)]; rfl
  | false =>
    rw [hb] at h
    have : ¬ (msk ns m ^^^ (msk ns m &&& msk ns o) ≠ 0) := fun hh => by have := h.1 hh; cases this
    rw [decide_eq_true (Decidable.not_not.1 this)]; rfl
theorem some_swap (ns : List Nat) (a b : Nat) (p q : Bool) : someB ns a p b q = someB ns b q a p := by
  unfold someB; congr 1; funext c; rw [Bool.and_comm]
theorem msk_eq_iff {ns : List Nat} {m o : Nat} : msk ns m = msk ns o ↔ someB ns o false m true = false ∧ someB ns o true m false = false := by
  have h1 := within_some ns m o
  have h2 := within_some ns o m
  rw [some_swap ns m o] at h2
  constructor
  · intro h
    have hx : ∀ x : Nat, x ^^^ (x &&& x) = 0 := fun x => by rw [Nat.and_self, Nat.xor_self]
    rw [h, hx] at h1
    rw [h, hx] at h2
    simp only [decide_true] at h1 h2
    exact ⟨by simpa using h1.symm, by simpa using h2.symm⟩
  · rintro ⟨g1, g2⟩
    rw [g1] at h1
    rw [g2] at h2
    have k1 : msk ns m ^^^ (msk ns m &&& msk ns o) = 0 := of_decide_eq_true h1
    have k2 : msk ns o ^^^ (msk ns o &&& msk ns m) = 0 := of_decide_eq_true h2
    refine Nat.eq_of_testBit_eq fun i => ?_
    have e1 : (msk ns m ^^^ (msk ns m &&& msk ns o)).testBit i = false := by rw [k1, Nat.zero_testBit]
    have e2 : (msk ns o ^^^ (msk ns o &&& msk ns m)).testBit i = false := by rw [k2, Nat.zero_testBit]
    rw [Nat.testBit_xor, Nat.testBit_and] at e1 e2
    revert e1 e2
    cases (msk ns m).testBit i <;> cases (msk ns o).testBit i <;> simp
theorem fol_mask (ns : List Nat) (m o : Nat) : folB ns m o = if msk ns m = msk ns o then decide (o < m) else decide (msk ns m ^^^ (msk ns m &&& msk ns o) = 0) := by
  rw [within_some]
  unfold folB
  split
  · rename_i h
    obtain ⟨h1, h2⟩ := msk_eq_iff.1 h
    rw [h1, h2]; rfl
  · rename_i h
    cases h1 : someB ns o false m true with
    | true => rfl
    | false =>
      cases h2 : someB ns o true m false with
      | true => rfl
      | false => exact absurd (msk_eq_iff.2 ⟨h1, h2⟩) h
/-- The nearest one of those before k. -/
def NR (ns : List Nat) (m k : Nat) (r : Int) : Prop :=
  (r = -1 ∧ ∀ o, o < k → folB ns m o = false) ∨ ∃ o : Nat, r = o ∧ o < k ∧ folB ns m o = true ∧ ∀ o', o' < k → folB ns m o' = true → cnt ns o ≤ cnt ns o' ∧ (cnt ns o' = cnt ns o → o' ≤ o)
theorem NR.unique {ns : List Nat} {m k : Nat} {r s : Int} (h : NR ns m k r) (h' : NR ns m k s) : r = s := by
  rcases h with ⟨rfl, h1⟩ | ⟨o, rfl, h1, h2, h3⟩ <;> rcases h' with ⟨rfl, g1⟩ | ⟨p, rfl, g1, g2, g3⟩
  · rfl
  · rw [h1 p g1] at g2; cases g2
  · rw [g1 o h1] at h2; cases h2
  · have a := h3 p g1 g2
    have b := g3 o h1 h2
    have e : cnt ns p = cnt ns o := by omega
    have := a.2 e
    have := b.2 e.symm
    omega
theorem NR.step_no {ns : List Nat} {m k : Nat} {r : Int} (h : NR ns m k r) (hf : folB ns m k = false) : NR ns m (k + 1) r := by
  rcases h with ⟨rfl, h1⟩ | ⟨o, rfl, h1, h2, h3⟩
  · refine .inl ⟨rfl, fun o ho => ?_⟩
    rcases Nat.lt_or_ge o k with h4 | h4
    · exact h1 o h4
    · have : o = k := by omega
      subst this; exact hf
  · refine .inr ⟨o, rfl, by omega, h2, fun o' ho hf' => ?_⟩
    rcases Nat.lt_or_ge o' k with h4 | h4
    · exact h3 o' h4 hf'
    · have : o' = k := by omega
      subst this; rw [hf] at hf'; cases hf'
theorem NR.step_keep {ns : List Nat} {m k o : Nat} (h : NR ns m k (o : Int)) (hc : ¬ cnt ns k ≤ cnt ns o) : NR ns m (k + 1) (o : Int) := by
  rcases h with ⟨h0, h1⟩ | ⟨p, hp, h1, h2, h3⟩
  · omega
  · have : o = p := by omega
    subst this
    refine .inr ⟨o, rfl, by omega, h2, fun o' ho hf' => ?_⟩
    rcases Nat.lt_or_ge o' k with h4 | h4
    · exact h3 o' h4 hf'
    · have : o' = k := by omega
      subst this; omega
theorem NR.step_take {ns : List Nat} {m k : Nat} {r : Int} (h : NR ns m k r) (hf : folB ns m k = true) (hc : ∀ o : Nat, r = o → cnt ns k ≤ cnt ns o) : NR ns m (k + 1) (k : Int) := by
  refine .inr ⟨k, rfl, by omega, hf, fun o' ho hf' => ?_⟩
  rcases Nat.lt_or_ge o' k with h4 | h4
  · rcases h with ⟨rfl, h1⟩ | ⟨o, rfl, h1, h2, h3⟩
    · rw [h1 o' h4] at hf'; cases hf'
    · have a := h3 o' h4 hf'
      have b := hc o rfl
      exact ⟨by omega, fun _ => by omega⟩
  · have : o' = k := by omega
    subst this; exact ⟨Nat.le_refl _, fun _ => Nat.le_refl _⟩
/-- After which mark one arose. -/
def AfterR (N : Nat) (ns : List Nat) (m : Nat) (r : Int) : Prop := if cnt ns m = 0 then r = -1 else NR ns m N r
theorem AfterR.unique {N : Nat} {ns : List Nat} {m : Nat} {r s : Int} (h : AfterR N ns m r) (h' : AfterR N ns m s) : r = s := by
  unfold AfterR at h h'
  split at h
  · rename_i h0; rw [if_pos h0] at h'; rw [h, h']
  · rename_i h0; rw [if_neg h0] at h'; exact h.unique h'
def OriginR (N : Nat) (ns : List Nat) (o : List Int) : Prop := o.length = N ∧ ∀ m, m < N → AfterR N ns m (o.getD m 0)
theorem OriginR.unique {N : Nat} {ns : List Nat} {o p : List Int} (h : OriginR N ns o) (h' : OriginR N ns p) : o = p :=
  ext_getD (a := 0) (by rw [h.1, h'.1]) fun i hi => (h.2 i (by rw [← h.1]; exact hi)).unique (h'.2 i (by rw [← h.1]; exact hi))
theorem msk_lt8 {ns : List Nat} (h : ns.length ≤ 8) (a : Nat) : msk ns a < 256 := Nat.lt_of_lt_of_le (mskTo_lt ns a ns.length) (Nat.pow_le_pow_right (n := 2) (by omega) h)
structure AS where
  k : Nat
  num : Int
  msk : Nat
  n : Nat
attribute [local irreducible] gOK WS WC WR WD Ends FS YS OpV seqK blockK loopK midK retK rdK asgK rangeEnd sat Cell
section
variable {M : HL} {n0 : Nat} {H : Heap} {v : Value} {ns : List Nat}
theorem follows_fs (hH : hasH M n0 H) {m o a b : Nat} (ha : a < 2 ^ 62) (hb : b < 2 ^ 62) :
    FS C 96 [.agg #[.int .i64 (m : Int), .int .u64 (a : Int)], .agg #[.int .i64 (o : Int), .int .u64 (b : Int)]] H (fun e H' => e = .bool (if a = b then decide (o < m) else decide (a ^^^ (a &&& b) = 0)) ∧ ∃ n', n0 ≤ n' ∧ hasH M n' H') := by
  refine FS.intro (pf := pf96) rfl rfl rfl ?_
  repeat' (first | refine zP ?_ | refine zA ?_ | (refine zM ?_; intro _ _) | refine zX ?_ | (refine zC ?_; intro _ _ _ _) | (refine zS ?_; intro _ _) | (apply Ws <;> intro hg))
  rename_i H1 hH1 H2 hH2
  clear hH1
  refine WR.op (by first | exact gN | exact gS rfl) rfl (OpV.loadN (l := [.int .u64 (a : Int)]) rfl hH2 (.tail _ (.head _)) (.row _ _ _ _) (Nat.zero_le _) (by show 0 + 1 - 0 + 1 ≤ 2; omega) rfl) ?_
  repeat' (first | refine zP ?_ | refine zA ?_ | (refine zM ?_; intro _ _) | refine zX ?_ | (refine zC ?_; intro _ _ _ _) | (refine zS ?_; intro _ _) | (apply Ws <;> intro hg))
  refine WR.op (by first | exact gN | exact gS rfl) rfl (OpV.loadN (l := [.int .u64 (b : Int)]) rfl hH2 (.head _) (.row _ _ _ _) (Nat.zero_le _) (by show 0 + 1 - 0 + 1 ≤ 2; omega) rfl) ?_
  refine WR.op (by first | exact gN | exact gS rfl) rfl (OpV.eqAgg' (eqBearG _ _ a b) (eqBearOp a b) rfl rfl rfl rfl) ?_
  by_cases hab : a = b
  · have : ((a : Int) == (b : Int)) = true := by rw [hab]; exact beq_self_eq_true _
    rw [this]
    repeat' (first | refine zP ?_ | refine zA ?_ | (refine zM ?_; intro _ _) | refine zX ?_ | (refine zC ?_; intro _ _ _ _) | (refine zS ?_; intro _ _) | (apply Ws <;> intro hg))
    refine Ends.ret1 rfl ⟨?_, n0 + 2, by omega, hH2.tail.tail⟩
    rw [if_pos hab]
    congr 1
    rw [decide_eq_decide]
    show ((m : Int) > (o : Int)) ↔ _
    omega
  · have : ((a : Int) == (b : Int)) = false := by
      rw [beq_eq_false_iff_ne]; omega
    rw [this]
    repeat' (first | refine zP ?_ | refine zA ?_ | (refine zM ?_; intro _ _) | refine zX ?_ | (refine zC ?_; intro _ _ _ _) | (refine zS ?_; intro _ _) | (apply Ws <;> intro hg))
    refine WR.op (by first | exact gN | exact gS rfl) rfl (OpV.loadN (l := [.int .u64 (a : Int)]) rfl hH2 (.tail _ (.head _)) (.row _ _ _ _) (Nat.zero_le _) (by show 0 + 1 - 0 + 1 ≤ 2; omega) rfl) ?_
    repeat' (first | refine zP ?_ | refine zA ?_ | (refine zM ?_; intro _ _) | refine zX ?_ | (refine zC ?_; intro _ _ _ _) | (refine zS ?_; intro _ _) | (apply Ws <;> intro hg))
    refine WR.op (by first | exact gN | exact gS rfl) rfl (OpV.loadN (l := [.int .u64 (b : Int)]) rfl hH2 (.head _) (.row _ _ _ _) (Nat.zero_le _) (by show 0 + 1 - 0 + 1 ≤ 2; omega) rfl) ?_
    refine WR.call (by first | exact gN | exact gS rfl) rfl rfl (within_fs hH2 ha hb) ?_
    rintro _ H3 ⟨rfl, n3, hn3, hH3⟩
    repeat' (first | refine zP ?_ | refine zA ?_ | (refine zM ?_; intro _ _) | refine zX ?_ | (refine zC ?_; intro _ _ _ _) | (refine zS ?_; intro _ _) | (apply Ws <;> intro hg))
    exact Ends.ret1 rfl ⟨by rw [if_neg hab], n3, by omega, hH3.tail.tail⟩
end
end Go.Proofs.Ytblopbimchkneaa.Md

namespace Go.Proofs.Ytblopbimchkneaa.Md
open Go Go.Abs Go.Mth
set_option linter.unusedVariables false
set_option linter.unusedSimpArgs false
attribute [local irreducible] gOK WS WC WR WD Ends FS YS OpV seqK blockK loopK midK retK rdK asgK rangeEnd sat Cell
section
variable {M : HL} {n0 : Nat} {H : Heap} {v : Value} {ns : List Nat}
set_option maxHeartbeats 2000000 in
theorem after_fs (hH : hasH M n0 H) (hl : ns.length ≤ 8) {N m : Nat} (hN : N ≤ 6) (hS : Sl M 2 v (cellsF MC (marksL N ns))) :
    FS C 85 [.agg #[.int .i64 (m : Int), .int .u64 (msk ns m : Int)], v] H (fun e H' => ∃ r, e = .int .i64 r ∧ AfterR N ns m r ∧ ∃ n', n0 ≤ n' ∧ hasH M n' H') := by
  have h8 := fun a => msk_lt8 hl a
  have h62 := fun a => msk_lt (show ns.length ≤ 61 by omega) a
  have hml := marksL_len N ns
  refine FS.intro (pf := pf85) rfl rfl rfl ?_
  repeat' (first | refine zP ?_ | refine zA ?_ | (refine zM ?_; intro _ _) | refine zX ?_ | (refine zC ?_; intro _ _ _ _) | (refine zS ?_; intro _ _) | (apply Ws <;> intro hg))
  rename_i H1 hH1
  refine WR.op (by first | exact gN | exact gS rfl) rfl (OpV.bldT (vs := [(0, .int .i64 (-1))]) rfl (cs := #[.int .i64 (-1), .int .u64 0]) (by rfl)) ?_
  repeat' (first | refine zP ?_ | refine zA ?_ | (refine zM ?_; intro _ _) | refine zX ?_ | (refine zC ?_; intro _ _ _ _) | (refine zS ?_; intro _ _) | (apply Ws <;> intro hg))
  rename_i H2 hH2
  refine WR.storeAll (by first | exact gN | exact gS rfl) hH2 rfl rfl (ls := [.int .i64 (-1), .int .u64 0]) rfl rfl .here rfl rfl fun H3 hH3 => ?_
  clear hH1 hH2
  repeat' (first | refine zP ?_ | refine zA ?_ | (refine zM ?_; intro _ _) | refine zX ?_ | (refine zC ?_; intro _ _ _ _) | (refine zS ?_; intro _ _) | (apply Ws <;> intro hg))
  rename_i H4 hH4
  refine WR.storeAll (by first | exact gN | exact gS rfl) hH4 rfl rfl (ls := [.int .i64 (-1), .int .u64 0]) rfl rfl .here rfl rfl fun H5 hH5 => ?_
  clear hH3 hH4
  repeat' (first | refine zP ?_ | refine zA ?_ | (refine zM ?_; intro _ _) | refine zX ?_ | (refine zC ?_; intro _ _ _ _) | (refine zS ?_; intro _ _) | (apply Ws <;> intro hg))
  refine WR.op (by first | exact gN | exact gS rfl) rfl (OpV.loadN (l := [.int .u64 (msk ns m : Nat)]) rfl hH5 (.tail _ (.tail _ (.head _))) (.row _ _ _ _) (Nat.zero_le _) (by show 0 + 1 - 0 + 1 ≤ 2; omega) rfl) ?_
  refine WR.call (by first | exact gN | exact gS rfl) rfl rfl (count_fs hH5 (h8 m)) ?_
  rintro _ H6 ⟨rfl, n6, hn6, hH6⟩
  clear hH5
  rw [show ((bitsL (msk ns m) 8).length : Int) = (cnt ns m : Int) from rfl]
  repeat' (first | refine zP ?_ | refine zA ?_ | (refine zM ?_; intro _ _) | refine zX ?_ | (refine zC ?_; intro _ _ _ _) | (refine zS ?_; intro _ _) | (apply Ws <;> intro hg))
  refine WC.condP rfl (fun hz => ?_) (fun hz => ?_)
  · repeat' (first | refine zP ?_ | refine zA ?_ | (refine zM ?_; intro _ _) | refine zX ?_ | (refine zC ?_; intro _ _ _ _) | (refine zS ?_; intro _ _) | (apply Ws <;> intro hg))
    refine Ends.ret1 rfl ⟨-1, rfl, by rw [AfterR, if_pos (by omega)], n6, by omega, hH6.tail.tail.tail⟩
  have hz' : ¬ cnt ns m = 0 := by omega
  have hA : ∀ {r}, NR ns m N r → AfterR N ns m r := fun h => by rw [AfterR, if_neg hz']; exact h
  repeat' (first | refine zP ?_ | refine zA ?_ | (refine zM ?_; intro _ _) | refine zX ?_ | (refine zC ?_; intro _ _ _ _) | (refine zS ?_; intro _ _) | (apply Ws <;> intro hg))
  refine WR.op (by first | exact gN | exact gS rfl) rfl (OpV.lenK MC_len (by decide) rfl hS) ?_
  rw [hml]
  repeat' (first | refine zP ?_ | refine zA ?_ | (refine zM ?_; intro _ _) | refine zX ?_ | (refine zC ?_; intro _ _ _ _) | (refine zS ?_; intro _ _) | (apply Ws <;> intro hg))
  refine WC.loopX [(2, _), (5, _), (6, _), (17, _), (18, _)] (fun s : AS => [(19, .int .i64 (s.k : Int))]) []
    (fun s H' => s.k ≤ N ∧ n0 ≤ s.n ∧ NR ns m s.k s.num ∧ ((s.num = -1 ∧ s.msk = 0) ∨ ∃ o : Nat, o < N ∧ s.num = o ∧ s.msk = msk ns o) ∧ hasH ((n0 + 1 + 1, .row 87 0 0 [.int .i64 s.num, .int .u64 (s.msk : Int)]) :: (n0 + 1, .row 87 0 0 [.int .i64 (-1), .int .u64 0]) :: (n0, .row 87 0 0 [.int .i64 (m : Int), .int .u64 (msk ns m : Int)]) :: M) s.n H') (fun s => N - s.k) ⟨0, -1, 0, n6⟩ (by repeat' (first | exact .nil | refine .cons rfl ?_)) rfl
    ⟨Nat.zero_le _, by simp only; omega, .inl ⟨rfl, fun o h => absurd h (Nat.not_lt_zero _)⟩, .inl ⟨rfl, rfl⟩, hH6⟩ ?_
  clear hH6 hn6
  rintro ⟨k, num, mk, n7⟩ H7 ⟨hk, hn7, hR, hnm, hH7⟩
  simp only at hk hn7 hR hnm hH7
  dsimp only [List.cons_append, List.nil_append]
  repeat' (first | refine zP ?_ | refine zA ?_ | (refine zM ?_; intro _ _) | refine zX ?_ | (refine zC ?_; intro _ _ _ _) | (refine zS ?_; intro _ _) | (apply Ws <;> intro hg))
  refine WC.condP rfl (fun hlt => ?_) (fun hlt => ?_)
  · have hk' : k < N := by omega
    repeat' (first | refine zP ?_ | refine zA ?_ | (refine zM ?_; intro _ _) | refine zX ?_ | (refine zC ?_; intro _ _ _ _) | (refine zS ?_; intro _ _) | (apply Ws <;> intro hg))
    have hS7 := hS.mono (M' := (n0 + 1 + 1, .row 87 0 0 [.int .i64 num, .int .u64 (mk : Int)]) :: (n0 + 1, .row 87 0 0 [.int .i64 (-1), .int .u64 0]) :: (n0, .row 87 0 0 [.int .i64 (m : Int), .int .u64 (msk ns m : Int)]) :: M) fun p hp => .tail _ (.tail _ (.tail _ hp))
    refine WR.idxK MC_len (by decide) (by first | exact gN | exact gS rfl) rfl rfl hS7 rfl (by omega) fun b o u hP => ?_
    rw [marksL_get] at hP
    refine WR.op (by first | exact gN | exact gS rfl) rfl (OpV.loadK rfl hP hH7 rfl) ?_
    repeat' (first | refine zP ?_ | refine zA ?_ | (refine zM ?_; intro _ _) | refine zX ?_ | (refine zC ?_; intro _ _ _ _) | (refine zS ?_; intro _ _) | (apply Ws <;> intro hg))
    rename_i H8 hH8
    refine WR.storeAll (by first | exact gN | exact gS rfl) hH8 rfl rfl (ls := [.int .i64 (k : Int), .int .u64 (msk ns k : Nat)]) rfl rfl .here rfl rfl fun H9 hH9 => ?_
    clear hH8 hH7 hS7
    have hM8 : (n7, Ch.row 87 0 0 [.int .i64 (k : Int), .int .u64 (msk ns k : Int)]) ∈ (n7, Ch.row 87 0 0 [.int .i64 (k : Int), .int .u64 (msk ns k : Int)]) :: (n0 + 1 + 1, .row 87 0 0 [.int .i64 num, .int .u64 (mk : Int)]) :: (n0 + 1, .row 87 0 0 [.int .i64 (-1), .int .u64 0]) :: (n0, .row 87 0 0 [.int .i64 (m : Int), .int .u64 (msk ns m : Int)]) :: M := .head _
    have hM2 : (n0 + 1 + 1, Ch.row 87 0 0 [.int .i64 num, .int .u64 (mk : Int)]) ∈ (n7, Ch.row 87 0 0 [.int .i64 (k : Int), .int .u64 (msk ns k : Int)]) :: (n0 + 1 + 1, .row 87 0 0 [.int .i64 num, .int .u64 (mk : Int)]) :: (n0 + 1, .row 87 0 0 [.int .i64 (-1), .int .u64 0]) :: (n0, .row 87 0 0 [.int .i64 (m : Int), .int .u64 (msk ns m : Int)]) :: M := .tail _ (.head _)
    have hM0 : (n0, Ch.row 87 0 0 [.int .i64 (m : Int), .int .u64 (msk ns m : Int)]) ∈ (n7, Ch.row 87 0 0 [.int .i64 (k : Int), .int .u64 (msk ns k : Int)]) :: (n0 + 1 + 1, .row 87 0 0 [.int .i64 num, .int .u64 (mk : Int)]) :: (n0 + 1, .row 87 0 0 [.int .i64 (-1), .int .u64 0]) :: (n0, .row 87 0 0 [.int .i64 (m : Int), .int .u64 (msk ns m : Int)]) :: M := .tail _ (.tail _ (.tail _ (.head _)))
    repeat' (first | refine zP ?_ | refine zA ?_ | (refine zM ?_; intro _ _) | refine zX ?_ | (refine zC ?_; intro _ _ _ _) | (refine zS ?_; intro _ _) | (apply Ws <;> intro hg))
    refine WC.regionD ?_
    repeat' (first | refine WD.guardF rfl rfl (stands_nil _ _) ?_ | refine WD.guardU rfl rfl (stands_nil _ _) ?_ | refine zD ?_ | (refine zE ?_; intro _ _ _ _))
    refine WD.call (by first | exact gN | exact gS rfl) rfl rfl (follows_fs hH9 (h62 m) (h62 k)) ?_
    rintro _ H10 ⟨rfl, n10, hn10, hH10⟩
    clear hH9
    rw [← fol_mask]
    refine ⟨zSt, ?_⟩
    cases hf : folB ns m k with
    | false =>
      repeat' (first | refine WD.guardF rfl rfl (stands_nil _ _) ?_ | refine WD.guardU rfl rfl (stands_nil _ _) ?_ | refine zD ?_ | (refine zE ?_; intro _ _ _ _))
      refine WD.guardU rfl rfl zSt ?_
      repeat' (first | refine WD.guardF rfl rfl (stands_nil _ _) ?_ | refine WD.guardU rfl rfl (stands_nil _ _) ?_ | refine zD ?_ | (refine zE ?_; intro _ _ _ _))
      refine WD.nil ?_
      repeat' (first | refine zP ?_ | refine zA ?_ | (refine zM ?_; intro _ _) | refine zX ?_ | (refine zC ?_; intro _ _ _ _) | (refine zS ?_; intro _ _) | (apply Ws <;> intro hg))
      exact Ends.loop ⟨k + 1, num, mk, n10⟩ (by show N - (k + 1) < N - k; omega) (by repeat' (first | exact .nil | refine .cons rfl ?_)) rfl ⟨hk', by simp only; omega, hR.step_no hf, hnm, hH10.tail⟩
    | true =>
      rcases hnm with ⟨rfl, rfl⟩ | ⟨o, ho, rfl, rfl⟩
      · repeat' (first | refine WD.guardF rfl rfl (stands_nil _ _) ?_ | refine WD.guardU rfl rfl (stands_nil _ _) ?_ | refine zD ?_ | (refine zE ?_; intro _ _ _ _))
        refine WD.op (by first | exact gN | exact gS rfl) rfl (OpV.eqAgg' (eqMarkG _ _ _ _ _ _) eqMark1 rfl rfl rfl rfl) rfl (stands_nil _ _) ?_
        repeat' (first | refine WD.guardF rfl rfl (stands_nil _ _) ?_ | refine WD.guardU rfl rfl (stands_nil _ _) ?_ | refine zD ?_ | (refine zE ?_; intro _ _ _ _))
        refine WD.guardF rfl rfl zSt ?_
        repeat' (first | refine WD.guardF rfl rfl (stands_nil _ _) ?_ | refine WD.guardU rfl rfl (stands_nil _ _) ?_ | refine zD ?_ | (refine zE ?_; intro _ _ _ _))
        refine WD.nil ?_
        repeat' (first | refine zP ?_ | refine zA ?_ | (refine zM ?_; intro _ _) | refine zX ?_ | (refine zC ?_; intro _ _ _ _) | (refine zS ?_; intro _ _) | (apply Ws <;> intro hg))
        refine WR.storeAll (by first | exact gN | exact gS rfl) hH10 rfl rfl (ls := [.int .i64 (k : Int), .int .u64 (msk ns k : Nat)]) rfl rfl (.there .here) rfl rfl fun H11 hH11 => ?_
        repeat' (first | refine zP ?_ | refine zA ?_ | (refine zM ?_; intro _ _) | refine zX ?_ | (refine zC ?_; intro _ _ _ _) | (refine zS ?_; intro _ _) | (apply Ws <;> intro hg))
        exact Ends.loop ⟨k + 1, (k : Int), msk ns k, n10⟩ (by show N - (k + 1) < N - k; omega) (by repeat' (first | exact .nil | refine .cons rfl ?_)) rfl ⟨hk', by simp only; omega, hR.step_take hf (fun o h => by omega), .inr ⟨k, hk', rfl, rfl⟩, hH11.tail⟩
      · repeat' (first | refine WD.guardF rfl rfl (stands_nil _ _) ?_ | refine WD.guardU rfl rfl (stands_nil _ _) ?_ | refine zD ?_ | (refine zE ?_; intro _ _ _ _))
        refine WD.op (by first | exact gN | exact gS rfl) rfl (OpV.eqAgg' (eqMarkG _ _ _ _ _ _) (eqMark0 _ o (by omega)) rfl rfl rfl rfl) rfl (stands_nil _ _) ?_
        repeat' (first | refine WD.guardF rfl rfl (stands_nil _ _) ?_ | refine WD.guardU rfl rfl (stands_nil _ _) ?_ | refine zD ?_ | (refine zE ?_; intro _ _ _ _))
        refine WD.loadN (ls := [.int .u64 (msk ns k : Nat)]) (by first | exact gN | exact gS rfl) rfl rfl (hH10.readN (k := 1) hM8 (.row _ _ _ _) (Nat.zero_le _) (by show 1 - 0 + 1 ≤ 2; omega)) ?_
        repeat' (first | refine WD.guardF rfl rfl (stands_nil _ _) ?_ | refine WD.guardU rfl rfl (stands_nil _ _) ?_ | refine zD ?_ | (refine zE ?_; intro _ _ _ _))
        refine WD.loadN (ls := [.int .u64 (msk ns o : Nat)]) (by first | exact gN | exact gS rfl) rfl rfl (hH10.readN (k := 1) hM2 (.row _ _ _ _) (Nat.zero_le _) (by show 1 - 0 + 1 ≤ 2; omega)) ?_
        refine WD.call (by first | exact gN | exact gS rfl) rfl rfl (count_fs hH10 (h8 k)) ?_
        rintro _ H11 ⟨rfl, n11, hn11, hH11⟩
        rw [show ((bitsL (msk ns k) 8).length : Int) = (cnt ns k : Int) from rfl]
        refine ⟨?_, ?_⟩
        · exact stands_cons (.inr (holdsN' (l := [.int .u64 (msk ns o : Nat)]) (hH11.readN (k := 1) hM2 (.row _ _ _ _) (Nat.zero_le _) (by show 1 - 0 + 1 ≤ 2; omega)) (by simp [sameL, same_int]))) zSt
        refine WD.call (by first | exact gN | exact gS rfl) rfl rfl (count_fs hH11 (h8 o)) ?_
        rintro _ H12 ⟨rfl, n12, hn12, hH12⟩
        rw [show ((bitsL (msk ns o) 8).length : Int) = (cnt ns o : Int) from rfl]
        refine ⟨zSt, ?_⟩
        repeat' (first | refine WD.guardF rfl rfl (stands_nil _ _) ?_ | refine WD.guardU rfl rfl (stands_nil _ _) ?_ | refine zD ?_ | (refine zE ?_; intro _ _ _ _))
        refine WD.nil ?_
        repeat' (first | refine zP ?_ | refine zA ?_ | (refine zM ?_; intro _ _) | refine zX ?_ | (refine zC ?_; intro _ _ _ _) | (refine zS ?_; intro _ _) | (apply Ws <;> intro hg))
        refine WC.condP rfl (fun hle => ?_) (fun hle => ?_)
        · have htake : ∀ o' : Nat, (o : Int) = o' → cnt ns k ≤ cnt ns o' := fun o' h => by
            have e : o = o' := by omega
            rw [← e]; omega
          repeat' (first | refine zP ?_ | refine zA ?_ | (refine zM ?_; intro _ _) | refine zX ?_ | (refine zC ?_; intro _ _ _ _) | (refine zS ?_; intro _ _) | (apply Ws <;> intro hg))
          refine WR.storeAll (by first | exact gN | exact gS rfl) hH12 rfl rfl (ls := [.int .i64 (k : Int), .int .u64 (msk ns k : Nat)]) rfl rfl (.there .here) rfl rfl fun H13 hH13 => ?_
          repeat' (first | refine zP ?_ | refine zA ?_ | (refine zM ?_; intro _ _) | refine zX ?_ | (refine zC ?_; intro _ _ _ _) | (refine zS ?_; intro _ _) | (apply Ws <;> intro hg))
          exact Ends.loop ⟨k + 1, (k : Int), msk ns k, n12⟩ (by show N - (k + 1) < N - k; omega) (by repeat' (first | exact .nil | refine .cons rfl ?_)) rfl ⟨hk', by simp only; omega, hR.step_take hf htake, .inr ⟨k, hk', rfl, rfl⟩, hH13.tail⟩
        · repeat' (first | refine zP ?_ | refine zA ?_ | (refine zM ?_; intro _ _) | refine zX ?_ | (refine zC ?_; intro _ _ _ _) | (refine zS ?_; intro _ _) | (apply Ws <;> intro hg))
          exact Ends.loop ⟨k + 1, (o : Int), msk ns o, n12⟩ (by show N - (k + 1) < N - k; omega) (by repeat' (first | exact .nil | refine .cons rfl ?_)) rfl ⟨hk', by simp only; omega, hR.step_keep (by omega), .inr ⟨o, ho, rfl, rfl⟩, hH12.tail⟩
  have hkN : N = k := by omega
  subst hkN
  repeat' (first | refine zP ?_ | refine zA ?_ | (refine zM ?_; intro _ _) | refine zX ?_ | (refine zC ?_; intro _ _ _ _) | (refine zS ?_; intro _ _) | (apply Ws <;> intro hg))
  exact Ends.ret1 rfl ⟨num, rfl, hA hR, n7, hn7, hH7.tail.tail.tail⟩
end
end Go.Proofs.Ytblopbimchkneaa.Md

namespace Go.Proofs.Ytblopbimchkneaa.Md
open Go Go.Abs Go.Mth
set_option linter.unusedVariables false
set_option linter.unusedSimpArgs false
theorem NR.range {ns : List Nat} {m k : Nat} {r : Int} (h : NR ns m k r) : -1 ≤ r ∧ r < k := by
  rcases h with ⟨rfl, _⟩ | ⟨o, rfl, h, _⟩ <;> omega
theorem AfterR.range {N : Nat} {ns : List Nat} {m : Nat} {r : Int} (h : AfterR N ns m r) : -1 ≤ r ∧ r < N := by
  unfold AfterR at h
  split at h
  · omega
  · exact h.range
/-- Lists in ascending order with the same members are the same. -/
theorem sorted_eq : ∀ {l k : List Nat}, l.Pairwise (· < ·) → k.Pairwise (· < ·) → (∀ x, x ∈ l ↔ x ∈ k) → l = k
  | [], [], _, _, _ => rfl
  | [], a :: k, _, _, h => by have := (h a).2 (by simp); cases this
  | a :: l, [], _, _, h => by have := (h a).1 (by simp); cases this
  | a :: l, b :: k, hl, hk, h => by
    obtain ⟨l1, l2⟩ := List.pairwise_cons.1 hl
    obtain ⟨k1, k2⟩ := List.pairwise_cons.1 hk
    have hab : a = b := by
      have h1 := (h a).1 (by simp)
      have h2 := (h b).2 (by simp)
      rcases List.mem_cons.1 h1 with h1 | h1
      · exact h1
      · rcases List.mem_cons.1 h2 with h2 | h2
        · exact h2.symm
        · have := k1 a h1; have := l1 b h2; omega
    subst hab
    congr 1
    refine sorted_eq l2 k2 fun x => ?_
    constructor
    · intro hx
      have h1 := l1 x hx
      rcases List.mem_cons.1 ((h x).1 (by simp [hx])) with h2 | h2
      · omega
      · exact h2
    · intro hx
      have h1 := k1 x hx
      rcases List.mem_cons.1 ((h x).2 (by simp [hx])) with h2 | h2
      · omega
      · exact h2
def cntTo (ns : List Nat) (a k : Nat) : Nat := ((List.range k).filter fun i => (ns.getD i 0).testBit a).length
theorem cntTo_yes {ns : List Nat} {a k : Nat} (h : (ns.getD k 0).testBit a = true) : cntTo ns a (k + 1) = cntTo ns a k + 1 := by
  rw [cntTo, List.range_succ, List.filter_append, List.filter_cons_of_pos (by exact h), List.length_append]; rfl
theorem cntTo_no {ns : List Nat} {a k : Nat} (h : (ns.getD k 0).testBit a = false) : cntTo ns a (k + 1) = cntTo ns a k := by
  rw [cntTo, List.range_succ, List.filter_append, List.filter_cons_of_neg (by rw [h]; simp), List.filter_nil, List.append_nil]; rfl
theorem cntTo_le (ns : List Nat) (a k : Nat) : cntTo ns a k ≤ k := Nat.le_trans (List.length_filter_le _ _) (by simp)
theorem cnt_to {ns : List Nat} (h : ns.length ≤ 8) (a : Nat) : cnt ns a = cntTo ns a ns.length := by
  rw [cnt, msk, mskTo]
  have e : bitsL (maskN ((List.range ns.length).filter fun i => (ns.getD i 0).testBit a)) 8 = (List.range ns.length).filter fun i => (ns.getD i 0).testBit a := by
    have hm : ∀ x, x ∈ bitsL (maskN ((List.range ns.length).filter fun i => (ns.getD i 0).testBit a)) 8 ↔ x ∈ (List.range ns.length).filter fun i => (ns.getD i 0).testBit a := fun x => by
      rw [mem_bits, mask_bit]
      refine ⟨fun h => h.2, fun hx => ⟨?_, hx⟩⟩
      have := List.mem_range.1 (List.mem_filter.1 hx).1
      omega
    have a1 : (bitsL (maskN ((List.range ns.length).filter fun i => (ns.getD i 0).testBit a)) 8).Pairwise (· < ·) := List.pairwise_lt_range.filter _
    have a2 : ((List.range ns.length).filter fun i => (ns.getD i 0).testBit a).Pairwise (· < ·) := List.pairwise_lt_range.filter _
    exact sorted_eq a1 a2 hm
  rw [e]; rfl
structure OI where
  k : Nat
  v : Value
  l : List Int
  Mx : HL
  n : Nat
attribute [local irreducible] gOK WS WC WR WD Ends FS YS OpV seqK blockK loopK midK retK rdK asgK rangeEnd sat Cell
section
variable {M : HL} {n0 : Nat} {H : Heap} {v : Value} {ns : List Nat}
theorem originOf_fs (hH : hasH M n0 H) (hl : ns.length ≤ 8) {N : Nat} (hN : N ≤ 6) (hS : Sl M 2 v (cellsF MC (marksL N ns))) :
    FS C 64 [v] H (fun e H' => ∃ o Mx n', OriginR N ns o ∧ Own 3 1 e (ints o) Mx ∧ n0 ≤ n' ∧ hasH (Mx ++ M) n' H') := by
  have hml := marksL_len N ns
  refine FS.intro (pf := pf64) rfl rfl rfl ?_
  repeat' (first | refine zP ?_ | refine zA ?_ | (refine zM ?_; intro _ _) | refine zX ?_ | (refine zC ?_; intro _ _ _ _) | (refine zS ?_; intro _ _) | (apply Ws <;> intro hg))
  refine WR.op (by first | exact gN | exact gS rfl) rfl (OpV.lenK MC_len (by decide) rfl hS) ?_
  rw [hml]
  repeat' (first | refine zP ?_ | refine zA ?_ | (refine zM ?_; intro _ _) | refine zX ?_ | (refine zC ?_; intro _ _ _ _) | (refine zS ?_; intro _ _) | (apply Ws <;> intro hg))
  refine WC.loopX [(0, _), (6, _), (7, _)] (fun s : OI => [(3, s.v), (8, .int .i64 (s.k : Int))]) []
    (fun z H' => z.k ≤ N ∧ n0 ≤ z.n ∧ z.l.length = z.k ∧ (∀ i, i < z.k → AfterR N ns i (z.l.getD i 0)) ∧ Own 3 1 z.v (ints z.l) z.Mx ∧ hasH (z.Mx ++ M) z.n H') (fun z => N - z.k) ⟨0, .slice none 0 0, [], [], n0⟩ (by repeat' (first | exact .nil | refine .cons rfl ?_)) rfl
    ⟨Nat.zero_le _, Nat.le_refl _, rfl, fun i h => absurd h (Nat.not_lt_zero _), .nil, hH⟩ ?_
  clear hH
  rintro ⟨k, ov, l, Mx, n1⟩ H1 ⟨hk, hn1, hll, hA, hO, hH1⟩
  simp only at hk hn1 hll hA hO hH1
  have hS1 := hS.mono (M' := Mx ++ M) fun p hp => List.mem_append_right _ hp
  dsimp only [List.cons_append, List.nil_append]
  repeat' (first | refine zP ?_ | refine zA ?_ | (refine zM ?_; intro _ _) | refine zX ?_ | (refine zC ?_; intro _ _ _ _) | (refine zS ?_; intro _ _) | (apply Ws <;> intro hg))
  refine WC.condP rfl (fun hlt => ?_) (fun hlt => ?_)
  · have hk' : k < N := by omega
    repeat' (first | refine zP ?_ | refine zA ?_ | (refine zM ?_; intro _ _) | refine zX ?_ | (refine zC ?_; intro _ _ _ _) | (refine zS ?_; intro _ _) | (apply Ws <;> intro hg))
    refine WR.idxK MC_len (by decide) (by first | exact gN | exact gS rfl) rfl rfl hS1 rfl (by omega) fun b o u hP => ?_
    rw [marksL_get] at hP
    refine WR.op (by first | exact gN | exact gS rfl) rfl (OpV.loadK rfl hP hH1 rfl) ?_
    repeat' (first | refine zP ?_ | refine zA ?_ | (refine zM ?_; intro _ _) | refine zX ?_ | (refine zC ?_; intro _ _ _ _) | (refine zS ?_; intro _ _) | (apply Ws <;> intro hg))
    rename_i H2 hH2
    refine WR.storeAll (by first | exact gN | exact gS rfl) hH2 rfl rfl (ls := [.int .i64 (k : Int), .int .u64 (msk ns k : Nat)]) rfl rfl .here rfl rfl fun H3 hH3 => ?_
    clear hH2 hH1
    repeat' (first | refine zP ?_ | refine zA ?_ | (refine zM ?_; intro _ _) | refine zX ?_ | (refine zC ?_; intro _ _ _ _) | (refine zS ?_; intro _ _) | (apply Ws <;> intro hg))
    refine WR.call (by first | exact gN | exact gS rfl) rfl rfl (after_fs hH3 hl hN (hS1.cons)) ?_
    rintro _ H4 ⟨r, rfl, hr, n4, hn4, hH4⟩
    clear hH3
    refine WR.append1F [] Mx M rfl rfl rfl rfl hO hH4.tail (new := [.int .i64 r]) (by rfl) rfl rfl (Nat.le_refl _) (by omega) (by simp; omega) fun v3 M3 n5 H5 hO5 hH5 hn5 => ?_
    repeat' (first | refine zP ?_ | refine zA ?_ | (refine zM ?_; intro _ _) | refine zX ?_ | (refine zC ?_; intro _ _ _ _) | (refine zS ?_; intro _ _) | (apply Ws <;> intro hg))
    refine Ends.loop ⟨k + 1, v3, l ++ [r], M3, n5⟩ (by show N - (k + 1) < N - k; omega) (by repeat' (first | exact .nil | refine .cons rfl ?_)) rfl ⟨hk', by simp only; omega, by simp [hll], fun i hi => ?_, by simpa using hO5, hH5⟩
    replace hi : i < k + 1 := hi
    simp only
    rcases Nat.lt_or_ge i k with h | h
    · rw [getD_app_l (by omega)]; exact hA i h
    · have : i = l.length := by omega
      subst this
      rw [getD_snoc, hll]; exact hr
  · have hkN : N = k := by omega
    subst hkN
    repeat' (first | refine zP ?_ | refine zA ?_ | (refine zM ?_; intro _ _) | refine zX ?_ | (refine zC ?_; intro _ _ _ _) | (refine zS ?_; intro _ _) | (apply Ws <;> intro hg))
    exact Ends.ret1 rfl ⟨l, Mx, n1, ⟨hll, hA⟩, hO, hn1, hH1⟩

/-- What Origin returns of casts that were checked. -/
def OrgR (N : Nat) (ns : List Nat) (o : List Int) : Prop := if honB N ns = true then OriginR N ns o else o = []
theorem Origin_fs (hH : hasH M n0 H) (hS : Sl M 1 v (nodes ns)) (hl : ns.length ≤ 8) {N : Nat} (hN1 : 1 ≤ N) (hN : N ≤ 6) (hb : ∀ x ∈ ns, x < 2 ^ N) :
    FS C 23 [.int .i64 (N : Int), v] H (fun e H' => ∃ o u Mx n', e = .tuple #[u, .int .i64 (if honB N ns = true then 0 else 12)] ∧ OrgR N ns o ∧ Own 3 1 u (ints o) Mx ∧ n0 ≤ n' ∧ hasH (Mx ++ M) n' H') := by
  have hSI : Unit → Sl M 1 v (ints (ns.map fun (x : Nat) => (x : Int))) := fun _ => by rw [← nodesI]; exact hS
  have hb62 := lt_62 hN hb
  refine FS.intro (pf := pf23) rfl rfl rfl ?_
  repeat' (first | refine zP ?_ | refine zA ?_ | (refine zM ?_; intro _ _) | refine zX ?_ | (refine zC ?_; intro _ _ _ _) | (refine zS ?_; intro _ _) | (apply Ws <;> intro hg))
  refine WR.call (by first | exact gN | exact gS rfl) rfl rfl (Check_fs hH (hSI ()) (by simp; omega) _) ?_
  rintro _ H1 ⟨rfl, rfl⟩
  rw [casts_intro hN1 hN hl hb]
  repeat' (first | refine zP ?_ | refine zA ?_ | (refine zM ?_; intro _ _) | refine zX ?_ | (refine zC ?_; intro _ _ _ _) | (refine zS ?_; intro _ _) | (apply Ws <;> intro hg))
  refine WR.call (by first | exact gN | exact gS rfl) rfl rfl (honest_fs hH hS (by omega) hb62 (by omega)) ?_
  rintro _ H2 ⟨rfl, n2, hn2, hH2⟩
  clear hH
  cases hh : honB N ns with
  | false =>
    repeat' (first | refine zP ?_ | refine zA ?_ | (refine zM ?_; intro _ _) | refine zX ?_ | (refine zC ?_; intro _ _ _ _) | (refine zS ?_; intro _ _) | (apply Ws <;> intro hg))
    exact Ends.ret2 rfl rfl ⟨[], .slice none 0 0, [], n2, by rw [if_neg (by decide)], by rw [OrgR, if_neg (by rw [hh]; decide)], .nil, hn2, hH2⟩
  | true =>
    repeat' (first | refine zP ?_ | refine zA ?_ | (refine zM ?_; intro _ _) | refine zX ?_ | (refine zC ?_; intro _ _ _ _) | (refine zS ?_; intro _ _) | (apply Ws <;> intro hg))
    refine WR.call (by first | exact gN | exact gS rfl) rfl rfl (marksOf_fs hH2 hS (by omega) hb62 (N := N) (by omega)) ?_
    rintro _ H3 ⟨c, rfl, hS3, hH3⟩
    refine WR.call (by first | exact gN | exact gS rfl) rfl rfl (originOf_fs hH3 hl hN hS3) ?_
    rintro u H4 ⟨o, Mx, n4, ho, hO, hn4, hH4⟩
    repeat' (first | refine zP ?_ | refine zA ?_ | (refine zM ?_; intro _ _) | refine zX ?_ | (refine zC ?_; intro _ _ _ _) | (refine zS ?_; intro _ _) | (apply Ws <;> intro hg))
    exact Ends.ret2 rfl rfl ⟨o, u, Mx, n4, by rw [if_pos rfl], by rw [OrgR, if_pos hh]; exact ho, hO, by omega, hH4.sub (List.Sublist.append_left (List.sublist_cons_self _ _) _)⟩
end
end Go.Proofs.Ytblopbimchkneaa.Md

namespace Go.Proofs.Ytblopbimchkneaa.Md
open Go Go.Abs Go.Mth
set_option linter.unusedVariables false
set_option linter.unusedSimpArgs false
/-! Paths. -/
theorem someF {ns : List Nat} {a b : Nat} {p q : Bool} : someB ns a p b q = false ↔ ∀ c ∈ ns, ¬ (c.testBit a = p ∧ c.testBit b = q) := by
  unfold someB
  rw [List.any_eq_false]
  simp
theorem someT {ns : List Nat} {a b : Nat} {p q : Bool} : someB ns a p b q = true ↔ ∃ c ∈ ns, c.testBit a = p ∧ c.testBit b = q := by
  unfold someB
  rw [List.any_eq_true]
  simp
/-- All casts with m have o. -/
def In (ns : List Nat) (m o : Nat) : Prop := ∀ c ∈ ns, c.testBit m = true → c.testBit o = true
theorem fol_iff {ns : List Nat} {m o : Nat} : folB ns m o = true ↔ In ns m o ∧ ((∃ c ∈ ns, c.testBit o = true ∧ c.testBit m = false) ∨ o < m) := by
  unfold folB
  rw [Bool.and_eq_true, Bool.or_eq_true, Bool.not_eq_true', decide_eq_true_eq, someF, someT]
  refine and_congr_left' ?_
  constructor
  · intro h c hc hm
    cases hb : c.testBit o with
    | true => rfl
    | false => exact absurd ⟨hb, hm⟩ (h c hc)
  · rintro h c hc ⟨h1, h2⟩
    rw [h c hc h2] at h1; cases h1
theorem fol_irr (ns : List Nat) (m : Nat) : folB ns m m = false := by
  cases h : folB ns m m with
  | false => rfl
  | true =>
    obtain ⟨_, ⟨c, _, h1, h2⟩ | h1⟩ := fol_iff.1 h
    · rw [h1] at h2; cases h2
    · omega
theorem fol_trans {ns : List Nat} {m o p : Nat} (h1 : folB ns m o = true) (h2 : folB ns o p = true) : folB ns m p = true := by
  obtain ⟨a1, a2⟩ := fol_iff.1 h1
  obtain ⟨b1, b2⟩ := fol_iff.1 h2
  refine fol_iff.2 ⟨fun c hc hm => b1 c hc (a1 c hc hm), ?_⟩
  rcases a2 with ⟨c, hc, e1, e2⟩ | a2
  · exact .inl ⟨c, hc, b1 c hc e1, e2⟩
  · rcases b2 with ⟨c, hc, e1, e2⟩ | b2
    · refine .inl ⟨c, hc, e1, ?_⟩
      cases hb : c.testBit m with
      | false => rfl
      | true => rw [a1 c hc hb] at e2; cases e2
    · exact .inr (by omega)
/-- Of two marks of a cast one follows the other one. -/
theorem fol_total {ns : List Nat} {N x y c : Nat} (hh : honB N ns = true) (hc : c ∈ ns) (hx : x < N) (hy : y < N) (hne : x ≠ y) (h1 : c.testBit x = true) (h2 : c.testBit y = true) : folB ns x y = true ∨ folB ns y x = true := by
  have hcl : clashB ns x y = false := by
    rcases Nat.lt_or_gt_of_ne hne with h | h
    · exact hon_iff.1 hh x y h hy
    · rw [clash_comm]; exact hon_iff.1 hh y x h hx
  by_cases p1 : ∃ d ∈ ns, d.testBit x = true ∧ d.testBit y = false
  · by_cases p2 : ∃ d ∈ ns, d.testBit x = false ∧ d.testBit y = true
    · rw [clash_iff.2 ⟨⟨c, hc, h1, h2⟩, p1, p2⟩] at hcl; cases hcl
    · refine .inr (fol_iff.2 ⟨fun d hd hm => ?_, .inl p1⟩)
      cases hb : d.testBit x with
      | true => rfl
      | false => exact absurd ⟨d, hd, hb, hm⟩ p2
  · have hin : In ns x y := fun d hd hm => by
      cases hb : d.testBit y with
      | true => rfl
      | false => exact absurd ⟨d, hd, hm, hb⟩ p1
    by_cases p2 : ∃ d ∈ ns, d.testBit x = false ∧ d.testBit y = true
    · obtain ⟨d, hd, e1, e2⟩ := p2
      exact .inl (fol_iff.2 ⟨hin, .inl ⟨d, hd, e2, e1⟩⟩)
    · have hin2 : In ns y x := fun d hd hm => by
        cases hb : d.testBit x with
        | true => rfl
        | false => exact absurd ⟨d, hd, hb, hm⟩ p2
      rcases Nat.lt_or_gt_of_ne hne with h | h
      · exact .inr (fol_iff.2 ⟨hin2, .inr h⟩)
      · exact .inl (fol_iff.2 ⟨hin, .inr h⟩)
/-- Fewer casts have what comes later. -/
theorem cntTo_in {ns : List Nat} {m o : Nat} (h : In ns m o) : ∀ k, k ≤ ns.length → cntTo ns m k ≤ cntTo ns o k ∧ (cntTo ns m k = cntTo ns o k → ∀ i, i < k → (ns.getD i 0).testBit o = true → (ns.getD i 0).testBit m = true)
  | 0, _ => ⟨Nat.le_refl _, fun _ i hi => absurd hi (Nat.not_lt_zero _)⟩
  | k + 1, hk => by
    obtain ⟨h1, h2⟩ := cntTo_in h k (by omega)
    have hin := h _ (getD_mem (a := 0) (show k < ns.length by omega))
    cases hm : (ns.getD k 0).testBit m with
    | true =>
      rw [cntTo_yes hm, cntTo_yes (hin hm)]
      refine ⟨by omega, fun he i hi hb => ?_⟩
      rcases Nat.lt_or_ge i k with h3 | h3
      · exact h2 (by omega) i h3 hb
      · have : i = k := by omega
        subst this; exact hm
    | false =>
      cases ho : (ns.getD k 0).testBit o with
      | true =>
        rw [cntTo_no hm, cntTo_yes ho]
        exact ⟨by omega, fun he => by omega⟩
      | false =>
        rw [cntTo_no hm, cntTo_no ho]
        refine ⟨h1, fun he i hi hb => ?_⟩
        rcases Nat.lt_or_ge i k with h3 | h3
        · exact h2 he i h3 hb
        · have : i = k := by omega
          subst this; rw [ho] at hb; cases hb
theorem fol_cnt {ns : List Nat} (hl : ns.length ≤ 8) {m o : Nat} (h : folB ns m o = true) : cnt ns m ≤ cnt ns o ∧ (cnt ns m = cnt ns o → o < m) := by
  obtain ⟨h1, h2⟩ := fol_iff.1 h
  obtain ⟨g1, g2⟩ := cntTo_in h1 ns.length (Nat.le_refl _)
  rw [cnt_to hl, cnt_to hl]
  refine ⟨g1, fun he => ?_⟩
  rcases h2 with ⟨c, hc, e1, e2⟩ | h2
  · obtain ⟨i, hi, rfl⟩ := List.mem_iff_getElem.1 hc
    have := g2 he i hi (by rw [getD_eq hi]; exact e1)
    rw [getD_eq hi, e2] at this; cases this
  · exact h2
theorem cnt_pos {ns : List Nat} (hl : ns.length ≤ 8) {m c : Nat} (hc : c ∈ ns) (hm : c.testBit m = true) : cnt ns m ≠ 0 := by
  obtain ⟨i, hi, rfl⟩ := List.mem_iff_getElem.1 hc
  intro h
  rw [cnt_to hl, cntTo, List.length_eq_zero_iff, List.filter_eq_nil_iff] at h
  have := h i (List.mem_range.2 hi)
  rw [getD_eq hi, hm] at this
  exact this rfl
theorem org_fol {ns : List Nat} {N : Nat} {o : List Int} (ho : OriginR N ns o) {x y : Nat} (hx : x < N) (h : o.getD x 0 = (y : Int)) : folB ns x y = true ∧ y < N := by
  have hA := ho.2 x hx
  unfold AfterR at hA
  split at hA
  · omega
  · rcases hA with ⟨h1, _⟩ | ⟨z, hz, h1, h2, _⟩
    · omega
    · have : y = z := by omega
      subst this; exact ⟨h2, h1⟩
/-- Two marks of a cast with the same origin are the same. -/
theorem org_one {ns : List Nat} {N : Nat} {o : List Int} (hl : ns.length ≤ 8) (hh : honB N ns = true) (ho : OriginR N ns o) {c x y : Nat} (hc : c ∈ ns) (hx : x < N) (hy : y < N) (h1 : c.testBit x = true) (h2 : c.testBit y = true) (he : o.getD x 0 = o.getD y 0) : x = y := by
  have key : ∀ {x y : Nat}, x < N → y < N → c.testBit x = true → c.testBit y = true → o.getD x 0 = o.getD y 0 → folB ns x y = true → False := by
    intro x y hx hy h1 h2 he hf
    have hA := ho.2 x hx
    have hB := ho.2 y hy
    unfold AfterR at hA hB
    rw [if_neg (cnt_pos hl hc h1)] at hA
    rw [if_neg (cnt_pos hl hc h2)] at hB
    rw [he] at hA
    rcases hA with ⟨hr, hn⟩ | ⟨z, hr, hz1, hz2, hz3⟩
    · rw [hn y hy] at hf; cases hf
    · rcases hB with ⟨hr', _⟩ | ⟨w, hr', hw1, hw2, hw3⟩
      · omega
      · have : z = w := by omega
        subst this
        obtain ⟨a1, a2⟩ := hz3 y hy hf
        obtain ⟨b1, b2⟩ := fol_cnt hl hw2
        have e : cnt ns y = cnt ns z := by omega
        have := a2 e
        have := b2 e
        omega
  refine Classical.byContradiction fun hne => ?_
  rcases fol_total hh hc hx hy hne h1 h2 with h | h
  · exact key hx hy h1 h2 he h
  · exact key hy hx h2 h1 he.symm h
def NextIs (N : Nat) (o : List Int) (c : Nat) (b : Int) (x : Nat) : Prop := x < N ∧ o.getD x 0 = b ∧ c.testBit x = true ∧ ∀ y, y < x → ¬ (o.getD y 0 = b ∧ c.testBit y = true)
def NoNext (N : Nat) (o : List Int) (c : Nat) (b : Int) : Prop := ∀ y, y < N → ¬ (o.getD y 0 = b ∧ c.testBit y = true)
inductive PathF (N : Nat) (o : List Int) (c : Nat) : Int → List Nat → Prop
  | nil {b : Int} (h : NoNext N o c b) : PathF N o c b []
  | cons {b : Int} {x : Nat} {l : List Nat} (h : NextIs N o c b x) (k : PathF N o c (x : Int) l) : PathF N o c b (x :: l)
theorem NextIs.unique {N c : Nat} {o : List Int} {b : Int} {x y : Nat} (h : NextIs N o c b x) (g : NextIs N o c b y) : x = y := by
  rcases Nat.lt_trichotomy x y with h1 | h1 | h1
  · exact absurd ⟨h.2.1, h.2.2.1⟩ (g.2.2.2 x h1)
  · exact h1
  · exact absurd ⟨g.2.1, g.2.2.1⟩ (h.2.2.2 y h1)
theorem PathF.unique {N c : Nat} {o : List Int} : ∀ {l k : List Nat} {b : Int}, PathF N o c b l → PathF N o c b k → l = k
  | [], [], _, _, _ => rfl
  | [], y :: k, _, .nil h, .cons g _ => absurd ⟨g.2.1, g.2.2.1⟩ (h y g.1)
  | x :: l, [], _, .cons g _, .nil h => absurd ⟨g.2.1, g.2.2.1⟩ (h x g.1)
  | x :: l, y :: k, _, .cons h h', .cons g g' => by
    obtain rfl := h.unique g
    rw [h'.unique g']
/-- A path that is under way. -/
inductive PathP (N : Nat) (o : List Int) (c : Nat) : List Nat → Int → Prop
  | nil : PathP N o c [] (-1)
  | snoc {l : List Nat} {b : Int} {x : Nat} (h : PathP N o c l b) (k : NextIs N o c b x) : PathP N o c (l ++ [x]) (x : Int)
theorem PathP.done {N c : Nat} {o : List Int} {l m : List Nat} {b : Int} (h : PathP N o c l b) : PathF N o c b m → PathF N o c (-1) (l ++ m) := by
  induction h generalizing m with
  | nil => exact fun k => k
  | snoc h k ih =>
    intro g
    rw [List.append_assoc]
    exact ih (.cons k g)
/-- Marks on the way are different, and each one follows those before. -/
theorem PathP.chain {ns : List Nat} {N c : Nat} {o : List Int} (ho : OriginR N ns o) {l : List Nat} {b : Int} (h : PathP N o c l b) :
    (∀ x ∈ l, x < N ∧ c.testBit x = true) ∧ l.Nodup ∧ ∀ y : Nat, (y : Int) = b → y ∈ l ∧ ∀ x ∈ l, x = y ∨ folB ns y x = true := by
  induction h with
  | nil => exact ⟨fun x hx => (by cases hx), .nil, fun y hy => by omega⟩
  | @snoc l b x h k ih =>
    obtain ⟨i1, i2, i3⟩ := ih
    obtain ⟨k1, k2, k3, k4⟩ := k
    have hfx : ∀ z ∈ l, folB ns x z = true := fun z hz => by
      rcases h with _ | @⟨l', b', y, h', k'⟩
      · cases hz
      · obtain ⟨_, hy⟩ := i3 y rfl
        have hf := (org_fol ho k1 k2).1
        rcases hy z hz with rfl | hyz
        · exact hf
        · exact fol_trans hf hyz
    refine ⟨fun z hz => ?_, ?_, fun y hy => ?_⟩
    · rcases List.mem_append.1 hz with h1 | h1
      · exact i1 z h1
      · rw [List.mem_singleton.1 h1]; exact ⟨k1, k3⟩
    · rw [List.nodup_append]
      refine ⟨i2, by simp, fun z hz w hw => ?_⟩
      rw [List.mem_singleton.1 hw]
      rintro rfl
      have := hfx z hz
      rw [fol_irr] at this; cases this
    · have : y = x := by omega
      subst this
      refine ⟨by simp, fun z hz => ?_⟩
      rcases List.mem_append.1 hz with h1 | h1
      · exact .inr (hfx z h1)
      · exact .inl (List.mem_singleton.1 h1)
theorem PathP.len {ns : List Nat} {N c : Nat} {o : List Int} (ho : OriginR N ns o) {l : List Nat} {b : Int} (h : PathP N o c l b) : l.length ≤ N := by
  obtain ⟨h1, h2, _⟩ := h.chain ho
  exact nodup_le N l h2 fun y hy => (h1 y hy).1
end Go.Proofs.Ytblopbimchkneaa.Md

namespace Go.Proofs.Ytblopbimchkneaa.Md
open Go Go.Abs Go.Mth
set_option linter.unusedVariables false
set_option linter.unusedSimpArgs false
structure PS where
  l : List Nat
  b : Int
  c : Int
  v : Value
  Mx : HL
  n : Nat
attribute [local irreducible] gOK WS WC WR WD Ends FS YS OpV seqK blockK loopK midK retK rdK asgK rangeEnd sat Cell
section
variable {M : HL} {n0 : Nat} {H : Heap} {v w : Value} {ns : List Nat}
theorem next_fs (hH : hasH M n0 H) {o : List Int} (hS : Sl M 1 v (ints o)) (hl : o.length ≤ 6) {c : Nat} (hc : c < 2 ^ 62) (b : Int) :
    FS C 88 [v, .int .i64 (c : Int), .int .i64 b] H (fun e H' => H' = H ∧ ((∃ x : Nat, NextIs o.length o c b x ∧ e = .int .i64 (x : Int)) ∨ (NoNext o.length o c b ∧ e = .int .i64 (-1)))) := by
  refine FS.intro (pf := pf88) rfl rfl rfl ?_
  repeat' (first | refine zP ?_ | refine zA ?_ | (refine zM ?_; intro _ _) | refine zX ?_ | (refine zC ?_; intro _ _ _ _) | (refine zS ?_; intro _ _) | (apply Ws <;> intro hg))
  refine WC.loopX [(0, _), (1, _), (2, _), (9, _), (10, _)] (fun s : Nat => [(11, .int .i64 (s : Int))]) [] (fun s H' => H' = H ∧ s ≤ o.length ∧ ∀ y, y < s → ¬ (o.getD y 0 = b ∧ c.testBit y = true)) (fun s => o.length - s) 0 (by repeat' (first | exact .nil | refine .cons rfl ?_)) rfl ⟨rfl, Nat.zero_le _, fun y h => absurd h (Nat.not_lt_zero _)⟩ ?_
  rintro k _ ⟨rfl, hk, hno⟩
  dsimp only [List.cons_append, List.nil_append]
  repeat' (first | refine zP ?_ | refine zA ?_ | (refine zM ?_; intro _ _) | refine zX ?_ | (refine zC ?_; intro _ _ _ _) | (refine zS ?_; intro _ _) | (apply Ws <;> intro hg))
  refine WC.condP rfl (fun hlt => ?_) (fun hlt => ?_)
  · have hk' : k < o.length := by omega
    have hnext : ¬ (o.getD k 0 = b ∧ c.testBit k = true) → ∀ y, y < k + 1 → ¬ (o.getD y 0 = b ∧ c.testBit y = true) := fun h y hy => by
      rcases Nat.lt_or_ge y k with h1 | h1
      · exact hno y h1
      · have : y = k := by omega
        subst this; exact h
    by_cases he : o.getD k 0 = b
    · repeat' (first | refine zP ?_ | refine zA ?_ | (refine zM ?_; intro _ _) | refine zX ?_ | (refine zC ?_; intro _ _ _ _) | (refine zS ?_; intro _ _) | refine zO ?_ | (apply Ws <;> intro hg))
      refine WR.call (by first | exact gN | exact gS rfl) rfl rfl (has_fs hc (by omega) _) ?_
      rintro _ H2 ⟨rfl, rfl⟩
      cases hbit : c.testBit k with
      | true =>
        repeat' (first | refine zP ?_ | refine zA ?_ | (refine zM ?_; intro _ _) | refine zX ?_ | (refine zC ?_; intro _ _ _ _) | (refine zS ?_; intro _ _) | (apply Ws <;> intro hg))
        exact Ends.ret1 rfl ⟨rfl, .inl ⟨k, ⟨hk', he, hbit, hno⟩, rfl⟩⟩
      | false =>
        repeat' (first | refine zP ?_ | refine zA ?_ | (refine zM ?_; intro _ _) | refine zX ?_ | (refine zC ?_; intro _ _ _ _) | (refine zS ?_; intro _ _) | (apply Ws <;> intro hg))
        exact Ends.loop (k + 1) (by omega) (by repeat' (first | exact .nil | refine .cons rfl ?_)) rfl ⟨rfl, hk', hnext (fun h => by rw [hbit] at h; cases h.2)⟩
    · repeat' (first | refine zP ?_ | refine zA ?_ | (refine zM ?_; intro _ _) | refine zX ?_ | (refine zC ?_; intro _ _ _ _) | (refine zS ?_; intro _ _) | refine zO ?_ | (apply Ws <;> intro hg))
      exact Ends.loop (k + 1) (by omega) (by repeat' (first | exact .nil | refine .cons rfl ?_)) rfl ⟨rfl, hk', hnext (fun h => he h.1)⟩
  · repeat' (first | refine zP ?_ | refine zA ?_ | (refine zM ?_; intro _ _) | refine zX ?_ | (refine zC ?_; intro _ _ _ _) | (refine zS ?_; intro _ _) | (apply Ws <;> intro hg))
    exact Ends.ret1 rfl ⟨rfl, .inr ⟨fun y hy => hno y (by omega), rfl⟩⟩

theorem pathOf_fs (hH : hasH M n0 H) {N : Nat} {o : List Int} (ho : OriginR N ns o) (hN : N ≤ 6) (hS : Sl M 1 v (ints o)) {c : Nat} (hc : c < 2 ^ 62) :
    FS C 66 [v, .int .i64 (c : Int)] H (fun e H' => ∃ l Mx n', PathF N o c (-1) l ∧ l.length ≤ N ∧ Own 3 1 e (nodes l) Mx ∧ n0 ≤ n' ∧ hasH (Mx ++ M) n' H') := by
  have hol := ho.1
  refine FS.intro (pf := pf66) rfl rfl rfl ?_
  repeat' (first | refine zP ?_ | refine zA ?_ | (refine zM ?_; intro _ _) | refine zX ?_ | (refine zC ?_; intro _ _ _ _) | (refine zS ?_; intro _ _) | (apply Ws <;> intro hg))
  refine WR.call (by first | exact gN | exact gS rfl) rfl rfl (next_fs hH hS (by omega) hc (-1)) ?_
  have hloop : ∀ {b : Int} {e : Value}, ((∃ x : Nat, NextIs o.length o c b x ∧ e = .int .i64 (x : Int)) ∨ (NoNext o.length o c b ∧ e = .int .i64 (-1))) → ∃ q : Int, e = .int .i64 q ∧ ((∃ x : Nat, q = x ∧ NextIs N o c b x) ∨ (q = -1 ∧ NoNext N o c b)) := fun h => by
    rw [hol] at h
    rcases h with ⟨x, hx, rfl⟩ | ⟨h, rfl⟩
    · exact ⟨x, rfl, .inl ⟨x, rfl, hx⟩⟩
    · exact ⟨-1, rfl, .inr ⟨rfl, h⟩⟩
  rintro e1 H1 ⟨rfl, he⟩
  obtain ⟨q, rfl, hq⟩ := hloop he
  clear he
  repeat' (first | refine zP ?_ | refine zA ?_ | (refine zM ?_; intro _ _) | refine zX ?_ | (refine zC ?_; intro _ _ _ _) | (refine zS ?_; intro _ _) | (apply Ws <;> intro hg))
  refine WC.loopX [(0, _), (1, _)] (fun s : PS => [(5, s.v), (6, .int .i64 s.c)]) []
    (fun z H' => n0 ≤ z.n ∧ PathP N o c z.l z.b ∧ ((∃ x : Nat, z.c = x ∧ NextIs N o c z.b x) ∨ (z.c = -1 ∧ NoNext N o c z.b)) ∧ Own 3 1 z.v (nodes z.l) z.Mx ∧ hasH (z.Mx ++ M) z.n H') (fun z => N - z.l.length) ⟨[], -1, q, .slice none 0 0, [], n0⟩ (by repeat' (first | exact .nil | refine .cons rfl ?_)) rfl
    ⟨Nat.le_refl _, .nil, hq, .nil, hH⟩ ?_
  clear hH hq
  rintro ⟨l, b, q, ov, Mx, n1⟩ H2 ⟨hn1, hP, hq, hO, hH2⟩
  simp only at hn1 hP hq hO hH2
  have hS2 := hS.mono (M' := Mx ++ M) fun p hp => List.mem_append_right _ hp
  have hlen := hP.len ho
  dsimp only [List.cons_append, List.nil_append]
  rcases hq with ⟨x, rfl, hx⟩ | ⟨rfl, hx⟩
  · have hP2 := hP.snoc hx
    have hlen2 := hP2.len ho
    rw [List.length_append] at hlen2
    simp only [List.length_singleton] at hlen2
    repeat' (first | refine zP ?_ | refine zA ?_ | (refine zM ?_; intro _ _) | refine zX ?_ | (refine zC ?_; intro _ _ _ _) | (refine zS ?_; intro _ _) | refine zO ?_ | (apply Ws <;> intro hg))
    refine WR.append1F [] Mx M rfl rfl rfl rfl hO hH2 (new := [.int .i64 (x : Int)]) (by rfl) rfl rfl (Nat.le_refl _) (by omega) (by simp; omega) fun v3 M3 n5 H5 hO5 hH5 hn5 => ?_
    have hS5 := hS.mono (M' := M3 ++ M) fun p hp => List.mem_append_right _ hp
    repeat' (first | refine zP ?_ | refine zA ?_ | (refine zM ?_; intro _ _) | refine zX ?_ | (refine zC ?_; intro _ _ _ _) | (refine zS ?_; intro _ _) | (apply Ws <;> intro hg))
    refine WR.call (by first | exact gN | exact gS rfl) rfl rfl (next_fs hH5 hS5 (by omega) hc (x : Int)) ?_
    rintro e1 H6 ⟨rfl, he⟩
    obtain ⟨q, rfl, hq⟩ := hloop he
    repeat' (first | refine zP ?_ | refine zA ?_ | (refine zM ?_; intro _ _) | refine zX ?_ | (refine zC ?_; intro _ _ _ _) | (refine zS ?_; intro _ _) | (apply Ws <;> intro hg))
    refine Ends.loop ⟨l ++ [x], (x : Int), q, v3, M3, n5⟩ (by simp only [List.length_append, List.length_singleton]; omega) (by repeat' (first | exact .nil | refine .cons rfl ?_)) rfl ⟨by simp only; omega, hP2, hq, by simpa [nodes] using hO5, hH5⟩
  · repeat' (first | refine zP ?_ | refine zA ?_ | (refine zM ?_; intro _ _) | refine zX ?_ | (refine zC ?_; intro _ _ _ _) | (refine zS ?_; intro _ _) | refine zO ?_ | (apply Ws <;> intro hg))
    refine Ends.ret1 rfl ⟨l, Mx, n1, ?_, hlen, hO, hn1, hH2⟩
    have := hP.done (.nil hx)
    rwa [List.append_nil] at this
end
end Go.Proofs.Ytblopbimchkneaa.Md

namespace Go.Proofs.Ytblopbimchkneaa.Md
open Go Go.Abs Go.Mth
set_option linter.unusedVariables false
set_option linter.unusedSimpArgs false
def lastI (l : List Nat) : Int := match l.getLast? with | some x => (x : Int) | none => -1
/-- What Path returns of casts that were checked. -/
def PthR (N : Nat) (ns : List Nat) (i : Int) (l : List Nat) (e : Int) : Prop :=
  if ¬ (0 ≤ i ∧ i < ns.length) then l = [] ∧ e = 2 else if honB N ns = false then l = [] ∧ e = 12 else e = 0 ∧ ∃ o, OriginR N ns o ∧ PathF N o (ns.getD i.toNat 0) (-1) l
theorem PthR.unique {N : Nat} {ns : List Nat} {i : Int} {l k : List Nat} {e f : Int} (h : PthR N ns i l e) (g : PthR N ns i k f) : l = k ∧ e = f := by
  unfold PthR at h g
  split at h
  · rename_i h0; rw [if_pos h0] at g; exact ⟨by rw [h.1, g.1], by rw [h.2, g.2]⟩
  · rename_i h0; rw [if_neg h0] at g
    split at h
    · rename_i h1; rw [if_pos h1] at g; exact ⟨by rw [h.1, g.1], by rw [h.2, g.2]⟩
    · rename_i h1; rw [if_neg h1] at g
      obtain ⟨h2, o, ho, hp⟩ := h
      obtain ⟨g2, p, hp', gp⟩ := g
      obtain rfl := ho.unique hp'
      exact ⟨hp.unique gp, by rw [h2, g2]⟩
def LstR (N : Nat) (ns : List Nat) (i j : Int) (q e : Int) : Prop :=
  if ¬ ((0 ≤ i ∧ i < ns.length) ∧ (0 ≤ j ∧ j < ns.length)) then q = 0 ∧ e = 2 else if honB N ns = false then q = 0 ∧ e = 12 else e = 0 ∧ ∃ o l, OriginR N ns o ∧ PathF N o (ns.getD i.toNat 0 &&& ns.getD j.toNat 0) (-1) l ∧ q = lastI l
theorem LstR.unique {N : Nat} {ns : List Nat} {i j q r e f : Int} (h : LstR N ns i j q e) (g : LstR N ns i j r f) : q = r ∧ e = f := by
  unfold LstR at h g
  split at h
  · rename_i h0; rw [if_pos h0] at g; exact ⟨by rw [h.1, g.1], by rw [h.2, g.2]⟩
  · rename_i h0; rw [if_neg h0] at g
    split at h
    · rename_i h1; rw [if_pos h1] at g; exact ⟨by rw [h.1, g.1], by rw [h.2, g.2]⟩
    · rename_i h1; rw [if_neg h1] at g
      obtain ⟨h2, o, l, ho, hp, hq⟩ := h
      obtain ⟨g2, p, k, hp', gp, gq⟩ := g
      obtain rfl := ho.unique hp'
      obtain rfl := hp.unique gp
      exact ⟨by rw [hq, gq], by rw [h2, g2]⟩
theorem belowB1 (n a : Int) : belowB n [a] = decide (0 ≤ a ∧ a < n) := by
  rw [Bool.eq_iff_iff]; simp [belowB]
attribute [local irreducible] gOK WS WC WR WD Ends FS YS OpV seqK blockK loopK midK retK rdK asgK rangeEnd sat Cell
section
variable {M : HL} {n0 : Nat} {H : Heap} {v : Value} {ns : List Nat}
theorem Path_fs (hH : hasH M n0 H) (hS : Sl M 1 v (nodes ns)) (hl : ns.length ≤ 8) {N : Nat} (hN1 : 1 ≤ N) (hN : N ≤ 6) (hb : ∀ x ∈ ns, x < 2 ^ N) (i : Int) :
    FS C 25 [.int .i64 (N : Int), v, .int .i64 i] H (fun e H' => ∃ l u f Mx n', e = .tuple #[u, .int .i64 f] ∧ PthR N ns i l f ∧ l.length ≤ N ∧ Own 3 1 u (nodes l) Mx ∧ n0 ≤ n' ∧ hasH (Mx ++ M) n' H') := by
  have hSI : Unit → Sl M 1 v (ints (ns.map fun (x : Nat) => (x : Int))) := fun _ => by rw [← nodesI]; exact hS
  have hb62 := lt_62 hN hb
  refine FS.intro (pf := pf25) rfl rfl rfl ?_
  repeat' (first | refine zP ?_ | refine zA ?_ | (refine zM ?_; intro _ _) | refine zX ?_ | (refine zC ?_; intro _ _ _ _) | (refine zS ?_; intro _ _) | (apply Ws <;> intro hg))
  refine WR.call (by first | exact gN | exact gS rfl) rfl rfl (Check_fs hH (hSI ()) (by simp; omega) _) ?_
  rintro _ H1 ⟨rfl, rfl⟩
  rw [casts_intro hN1 hN hl hb]
  repeat' (first | refine zP ?_ | refine zA ?_ | (refine zM ?_; intro _ _) | refine zX ?_ | (refine zC ?_; intro _ _ _ _) | (refine zS ?_; intro _ _) | (apply Ws <;> intro hg))
  refine WR.bldS (by first | exact gN | exact gS rfl) rfl hH (vs := [(0, .int .i64 i)]) rfl (cs := ints [i]) (by rfl) rfl fun H2 hH2 => ?_
  refine WR.call (by first | exact gN | exact gS rfl) rfl rfl (below_fs hH2 (xs := [i]) (.row (lo := 0) (.head _) (.row _ _ _ _) (Nat.le_refl _) rfl (by simp) (by simp) (.inr ⟨1, rfl, Nat.le_refl _⟩)) (by simp) _) ?_
  rintro _ H3 ⟨rfl, rfl⟩
  rw [belowB1]
  replace hH2 := hH2.tail
  by_cases hi : 0 ≤ i ∧ i < (ns.length : Int)
  · rw [decide_eq_true hi]
    repeat' (first | refine zP ?_ | refine zA ?_ | (refine zM ?_; intro _ _) | refine zX ?_ | (refine zC ?_; intro _ _ _ _) | (refine zS ?_; intro _ _) | (apply Ws <;> intro hg))
    refine WR.call (by first | exact gN | exact gS rfl) rfl rfl (Origin_fs hH2 hS hl hN1 hN hb) ?_
    rintro _ H4 ⟨o, u, Mx, n4, rfl, ho, hO, hn4, hH4⟩
    cases hh : honB N ns with
    | false =>
      rw [if_neg (by decide)]
      repeat' (first | refine zP ?_ | refine zA ?_ | (refine zM ?_; intro _ _) | refine zX ?_ | (refine zC ?_; intro _ _ _ _) | (refine zS ?_; intro _ _) | (apply Ws <;> intro hg))
      exact Ends.ret2 rfl rfl ⟨[], _, _, [], n4, rfl, by rw [PthR, if_neg (not_not_intro hi), if_pos hh]; exact ⟨rfl, rfl⟩, Nat.zero_le _, .nil, by omega, hH4.sub (List.sublist_append_right Mx M)⟩
    | true =>
      rw [if_pos rfl]
      rw [OrgR, if_pos hh] at ho
      have hS4 := hS.mono (M' := Mx ++ M) fun p hp => List.mem_append_right _ hp
      obtain ⟨k, rfl⟩ : ∃ k : Nat, i = (k : Int) := ⟨i.toNat, by omega⟩
      have hk : k < ns.length := by omega
      repeat' (first | refine zP ?_ | refine zA ?_ | (refine zM ?_; intro _ _) | refine zX ?_ | (refine zC ?_; intro _ _ _ _) | (refine zS ?_; intro _ _) | (apply Ws <;> intro hg))
      refine WR.call (by first | exact gN | exact gS rfl) rfl rfl (pathOf_fs hH4 ho hN (hO.sl M) (hb62 _ (getD_mem (a := 0) hk))) ?_
      rintro pv H5 ⟨l, Mp, n5, hp, hpl, hOp, hn5, hH5⟩
      repeat' (first | refine zP ?_ | refine zA ?_ | (refine zM ?_; intro _ _) | refine zX ?_ | (refine zC ?_; intro _ _ _ _) | (refine zS ?_; intro _ _) | (apply Ws <;> intro hg))
      exact Ends.ret2 rfl rfl ⟨l, pv, 0, Mp, n5, rfl, by rw [PthR, if_neg (by omega), if_neg (by rw [hh]; decide), Int.toNat_natCast]; exact ⟨rfl, o, ho, hp⟩, hpl, hOp, by omega, hH5.sub (List.Sublist.append_left (List.sublist_append_right Mx M) Mp)⟩
  · rw [decide_eq_false hi]
    repeat' (first | refine zP ?_ | refine zA ?_ | (refine zM ?_; intro _ _) | refine zX ?_ | (refine zC ?_; intro _ _ _ _) | (refine zS ?_; intro _ _) | (apply Ws <;> intro hg))
    exact Ends.ret2 rfl rfl ⟨[], _, _, [], n0 + 1, rfl, by rw [PthR, if_pos hi]; exact ⟨rfl, rfl⟩, Nat.zero_le _, .nil, by omega, hH2⟩
end
end Go.Proofs.Ytblopbimchkneaa.Md

namespace Go.Proofs.Ytblopbimchkneaa.Md
open Go Go.Abs Go.Mth
set_option linter.unusedVariables false
set_option linter.unusedSimpArgs false
attribute [local irreducible] gOK WS WC WR WD Ends FS YS OpV seqK blockK loopK midK retK rdK asgK rangeEnd sat Cell
section
variable {M : HL} {n0 : Nat} {H : Heap} {v w : Value} {ns : List Nat}
def openE (N : Nat) (ns : List Nat) (i j : Int) : Int := if ¬ ((0 ≤ i ∧ i < ns.length) ∧ (0 ≤ j ∧ j < ns.length)) then 2 else if honB N ns = false then 12 else 0
theorem path_lt {N c : Nat} {o : List Int} : ∀ {l : List Nat} {b : Int}, PathF N o c b l → ∀ x ∈ l, x < N
  | [], _, _, x, hx => by cases hx
  | y :: l, _, .cons h k, x, hx => by
    rcases List.mem_cons.1 hx with rfl | hx
    · exact h.1
    · exact path_lt k x hx
end
end Go.Proofs.Ytblopbimchkneaa.Md

namespace Go.Proofs.Ytblopbimchkneaa.Md
open Go Go.Abs Go.Mth
set_option linter.unusedVariables false
set_option linter.unusedSimpArgs false
theorem path_next {N c : Nat} {o : List Int} : ∀ {l : List Nat} {b : Int}, PathF N o c b l → ∀ y ∈ l, NoNext N o c (y : Int) ∨ ∃ z ∈ l, NextIs N o c (y : Int) z
  | x :: l, b, .cons h k, y, hy => by
    rcases List.mem_cons.1 hy with rfl | hy
    · cases k with
      | nil h => exact .inl h
      | cons h' k' => exact .inr ⟨_, by simp, h'⟩
    · rcases path_next k y hy with h | ⟨z, hz, h⟩
      · exact .inl h
      · exact .inr ⟨z, by simp [hz], h⟩
theorem cnt_le {ns : List Nat} (hl : ns.length ≤ 8) (a : Nat) : cnt ns a ≤ 8 := by
  rw [cnt_to hl]; exact Nat.le_trans (cntTo_le ns a _) hl
/-- A path has all marks of its cast. -/
theorem path_all {ns : List Nat} {N c : Nat} {o : List Int} (hN : N ≤ 6) (hl : ns.length ≤ 8) (hh : honB N ns = true) (ho : OriginR N ns o) (hc : c ∈ ns) {l : List Nat} (hp : PathF N o c (-1) l) :
    ∀ (k x : Nat), (8 - cnt ns x) * 7 + x < k → x < N → c.testBit x = true → x ∈ l
  | 0, x, h, _, _ => absurd h (Nat.not_lt_zero _)
  | k + 1, x, h, hx, hb => by
    have hA := ho.2 x hx
    unfold AfterR at hA
    rw [if_neg (cnt_pos hl hc hb)] at hA
    rcases hA with ⟨hr, _⟩ | ⟨y, hr, hy, hf, _⟩
    · cases hp with
      | nil h => exact absurd ⟨hr, hb⟩ (h x hx)
      | @cons _ z l' h' k' =>
        have := org_one hl hh ho hc h'.1 hx h'.2.2.1 hb (by rw [hr, h'.2.1])
        rw [← this]; simp
    · have hyb := (fol_iff.1 hf).1 c hc hb
      obtain ⟨a1, a2⟩ := fol_cnt hl hf
      have b1 := cnt_le hl x
      have b2 := cnt_le hl y
      have hyl := path_all hN hl hh ho hc hp k y (by
        rcases Nat.lt_or_eq_of_le a1 with h1 | h1
        · omega
        · have := a2 h1; omega) hy hyb
      rcases path_next hp y hyl with h1 | ⟨z, hz, h1⟩
      · exact absurd ⟨hr, hb⟩ (h1 x hx)
      · have := org_one hl hh ho hc h1.1 hx h1.2.2.1 hb (by rw [hr, h1.2.1])
        rw [← this]; exact hz
theorem path_bit {N c : Nat} {o : List Int} : ∀ {l : List Nat} {b : Int}, PathF N o c b l → ∀ x ∈ l, c.testBit x = true
  | [], _, _, x, hx => by cases hx
  | y :: l, _, .cons h k, x, hx => by
    rcases List.mem_cons.1 hx with rfl | hx
    · exact h.2.2.1
    · exact path_bit k x hx
/-- Its marks, as bits, are the cast. -/
theorem path_mask {ns : List Nat} {N c : Nat} {o : List Int} (hN : N ≤ 6) (hl : ns.length ≤ 8) (hh : honB N ns = true) (ho : OriginR N ns o) (hb : ∀ x ∈ ns, x < 2 ^ N) (hc : c ∈ ns) {l : List Nat} (hp : PathF N o c (-1) l) : maskN l = c :=
  Nat.eq_of_testBit_eq fun i => by
    rw [Bool.eq_iff_iff, mask_bit]
    refine ⟨path_bit hp i, fun hi => ?_⟩
    have hiN : i < N := by
      rcases Nat.lt_or_ge i N with h | h
      · exact h
      · rw [Nat.testBit_lt_two_pow (Nat.lt_of_lt_of_le (hb c hc) (Nat.pow_le_pow_right (by omega) h))] at hi; cases hi
    exact path_all hN hl hh ho hc hp _ i (Nat.lt_succ_self _) hiN hi
theorem path_nodup {ns : List Nat} {N c : Nat} {o : List Int} (ho : OriginR N ns o) : ∀ {l : List Nat} {b : Int}, PathF N o c b l → (∀ y : Nat, b = (y : Int) → ∀ x ∈ l, folB ns x y = true) ∧ l.Nodup
  | [], _, _ => ⟨fun _ _ x hx => (by cases hx), .nil⟩
  | x :: l, b, .cons h k => by
    obtain ⟨h1, h2⟩ := path_nodup ho k
    have h3 := h1 x rfl
    refine ⟨fun y hy z hz => ?_, List.nodup_cons.2 ⟨fun hx => ?_, h2⟩⟩
    · have hf := (org_fol ho h.1 (h.2.1.trans hy)).1
      rcases List.mem_cons.1 hz with rfl | hz
      · exact hf
      · exact fol_trans (h3 z hz) hf
    · have := h3 x hx
      rw [fol_irr] at this; cases this
end Go.Proofs.Ytblopbimchkneaa.Md

namespace Go.Proofs.Ytblopbimchkneaa.Md
open Go Go.Abs Go.Mth
set_option linter.unusedVariables false
set_option linter.unusedSimpArgs false
def leaveTo (ns : List Nat) (s k : Nat) : List Nat := ((List.range k).filter fun i => !s.testBit i).map fun i => ns.getD i 0
def leave (ns : List Nat) (s : Nat) : List Nat := leaveTo ns s ns.length
def wearL (ns : List Nat) (s : Nat) : List Nat := ns.map fun c => c ^^^ (c &&& s)
theorem leave_yes {ns : List Nat} {s k : Nat} (h : s.testBit k = false) : leaveTo ns s (k + 1) = leaveTo ns s k ++ [ns.getD k 0] := by
  rw [leaveTo, List.range_succ, List.filter_append, List.filter_cons_of_pos (by simp [h]), List.map_append]; rfl
theorem leave_no {ns : List Nat} {s k : Nat} (h : s.testBit k = true) : leaveTo ns s (k + 1) = leaveTo ns s k := by
  rw [leaveTo, List.range_succ, List.filter_append, List.filter_cons_of_neg (by simp [h]), List.filter_nil, List.append_nil]; rfl
theorem leave_len (ns : List Nat) (s k : Nat) : (leaveTo ns s k).length ≤ k := by
  rw [leaveTo, List.length_map]; exact Nat.le_trans (List.length_filter_le _ _) (by simp)
theorem leave_mem {ns : List Nat} {s x : Nat} (h : x ∈ leave ns s) : x ∈ ns := by
  obtain ⟨i, hi, rfl⟩ := List.mem_map.1 h
  exact getD_mem (List.mem_range.1 (List.mem_filter.1 hi).1)
theorem full_bit {n i : Nat} (h : i < n) : (2 ^ n - 1).testBit i = true := by rw [Nat.testBit_two_pow_sub_one]; simpa using h
theorem leave_all (ns : List Nat) : leave ns (2 ^ ns.length - 1) = [] := by
  unfold leave leaveTo
  rw [List.map_eq_nil_iff, List.filter_eq_nil_iff]
  intro i hi
  rw [full_bit (List.mem_range.1 hi)]; simp
theorem hon_nil (N : Nat) : honB N [] = true := hon_iff.2 fun a b _ _ => rfl
theorem leave_zero (ns : List Nat) : leave ns 0 = ns := by
  have e : (List.range ns.length).filter (fun i => !(0 : Nat).testBit i) = List.range ns.length := List.filter_eq_self.2 fun i _ => by simp
  rw [leave, leaveTo, e]
  refine List.ext_getElem (by simp) fun i h1 h2 => ?_
  rw [List.getElem_map, List.getElem_range, getD_eq h2]
def forgP (N : Nat) (ns : List Nat) (s : Nat) : Bool := honB N (leave ns s)
def wornP (N : Nat) (ns : List Nat) (s : Nat) : Bool := honB N (wearL ns s)
theorem forg_all (N : Nat) (ns : List Nat) : forgP N ns (2 ^ ns.length - 1) = true := by rw [forgP, leave_all, hon_nil]
attribute [local irreducible] gOK WS WC WR WD Ends FS YS OpV seqK blockK loopK midK retK rdK asgK rangeEnd sat Cell

section
variable {M : HL} {n0 : Nat} {H : Heap} {v w : Value} {ns : List Nat}
set_option maxHeartbeats 1000000 in
theorem fewest_fs {g : FuncId} {vb : List Value} (hH : hasH M n0 H) {n : Nat} (hn : n ≤ 8) {P : Nat → Bool} (hall : P (2 ^ n - 1) = true)
    (hR : ∀ s M' n1 H1, s < 2 ^ n → (∀ p ∈ M, p ∈ M') → hasH M' n1 H1 → FS C g ([] ++ [.int .i64 (s : Int)] ++ vb) H1 (fun e H' => e = .bool (P s) ∧ ∃ n', n1 ≤ n' ∧ hasH M' n' H')) :
    FS C 69 [.int .i64 (n : Int), .func (.func g) #[] vb.toArray] H (fun e H' => ∃ r Mx n', LeastR n P r ∧ Own 3 1 e (nodes r) Mx ∧ n0 ≤ n' ∧ hasH (Mx ++ M) n' H') := by
  have hB1 : 1 ≤ 2 ^ n := Nat.two_pow_pos n
  have hB256 : 2 ^ n ≤ 256 := Nat.pow_le_pow_right (n := 2) (by omega) hn
  have hp63 := pow_lt_63 (N := n) (by omega)
  refine FS.intro (pf := pf69) rfl rfl rfl ?_
  repeat' (first | refine zP ?_ | refine zA ?_ | (refine zM ?_; intro _ _) | refine zX ?_ | (refine zC ?_; intro _ _ _ _) | (refine zS ?_; intro _ _) | (apply Ws <;> intro hg))
  refine WR.op (by first | exact gN | exact gS rfl) rfl (OpV.shl1 rfl rfl (by show n ≤ 64; omega) hp63) ?_
  obtain ⟨B, hB⟩ : ∃ B, 2 ^ n = B := ⟨_, rfl⟩
  have hlt : ∀ {s}, s < B → s < 2 ^ n := fun h => by omega
  rw [hB] at hall hB1 hB256 hp63 ⊢
  simp only [hB] at hR
  repeat' (first | refine zP ?_ | refine zA ?_ | (refine zM ?_; intro _ _) | refine zX ?_ | (refine zC ?_; intro _ _ _ _) | (refine zS ?_; intro _ _) | (apply Ws <;> intro hg))
  rw [show (B : Int) - 1 = ((B - 1 : Nat) : Int) by omega]
  refine WR.call (by first | exact gN | exact gS rfl) rfl rfl (numbersOf_fs hH (hlt (s := B - 1) (by omega)) (by omega)) ?_
  rintro v0 H1 ⟨Mx, n1, hO, hn1, hH1⟩
  repeat' (first | refine zP ?_ | refine zA ?_ | (refine zM ?_; intro _ _) | refine zX ?_ | (refine zC ?_; intro _ _ _ _) | (refine zS ?_; intro _ _) | (apply Ws <;> intro hg))
  refine WR.op (by first | exact gN | exact gS rfl) rfl (OpV.shl1 rfl rfl (by show n ≤ 64; omega) (by rw [hB]; exact hp63)) ?_
  rw [hB]
  repeat' (first | refine zP ?_ | refine zA ?_ | (refine zM ?_; intro _ _) | refine zX ?_ | (refine zC ?_; intro _ _ _ _) | (refine zS ?_; intro _ _) | (apply Ws <;> intro hg))
  refine WC.loopX [(0, _), (1, _), (14, _)] (fun s : FW => [(5, s.v), (15, .int .i64 (s.k : Int))]) []
    (fun z H' => z.k ≤ B ∧ n0 ≤ z.n ∧ z.s < B ∧ P z.s = true ∧ Own 3 1 z.v (nodes (bitsL z.s n)) z.Mx ∧ hasH (z.Mx ++ M) z.n H' ∧ ∀ t, t < z.k → P t = true → ¬ ordC (IL (bitsL t n)) (IL (bitsL z.s n)) < 0) (fun z => B - z.k) ⟨0, v0, B - 1, Mx, n1⟩ (by repeat' (first | exact .nil | refine .cons rfl ?_)) rfl
    ⟨Nat.zero_le _, hn1, by simp only; omega, hall, hO, hH1, fun t h => absurd h (Nat.not_lt_zero _)⟩ ?_
  clear hH1 hO hn1
  rintro ⟨k, bv, s, Mx, n1⟩ H1 ⟨hk, hn1, hs, hPs, hO, hH1, hmin⟩
  simp only at hk hn1 hs hPs hO hH1 hmin
  dsimp only [List.cons_append, List.nil_append]
  repeat' (first | refine zP ?_ | refine zA ?_ | (refine zM ?_; intro _ _) | refine zX ?_ | (refine zC ?_; intro _ _ _ _) | (refine zS ?_; intro _ _) | (apply Ws <;> intro hg))
  refine WC.condP rfl (fun hlt1 => ?_) (fun hlt1 => ?_)
  · have hk' : k < B := by omega
    repeat' (first | refine zP ?_ | refine zA ?_ | (refine zM ?_; intro _ _) | refine zX ?_ | (refine zC ?_; intro _ _ _ _) | (refine zS ?_; intro _ _) | (apply Ws <;> intro hg))
    refine WR.call (by first | exact gN | exact gS rfl) rfl rfl (numbersOf_fs hH1 (hlt hk') (by omega)) ?_
    rintro wv H2 ⟨Mn, n2, hOn, hn2, hH2⟩
    have hSn := hOn.sl (Mx ++ M)
    have hSb := (hO.sl M).mono (M' := Mn ++ (Mx ++ M)) fun p hp => List.mem_append_right _ hp
    have hl1 := bits_len k n
    have hl2 := bits_len s n
    repeat' (first | refine zP ?_ | refine zA ?_ | (refine zM ?_; intro _ _) | refine zX ?_ | (refine zC ?_; intro _ _ _ _) | (refine zS ?_; intro _ _) | (apply Ws <;> intro hg))
    refine WR.call (by first | exact gN | exact gS rfl) rfl rfl (cmpI_fs _ _ _) ?_
    rintro _ _ ⟨rfl, rfl⟩
    repeat' (first | refine zP ?_ | refine zA ?_ | (refine zM ?_; intro _ _) | refine zX ?_ | (refine zC ?_; intro _ _ _ _) | (refine zS ?_; intro _ _) | (apply Ws <;> intro hg))
    refine WR.call (by first | exact gN | exact gS rfl) rfl rfl (Compare_fs hH2 (xs := IL (bitsL k n)) (ys := IL (bitsL s n)) (by rw [← nodesI]; exact hSn) (by rw [← nodesI]; exact hSb) (by simp; omega) (by simp; omega)) ?_
    rintro _ _ ⟨rfl, rfl⟩
    have hord : ordC (IL (bitsL k n)) (IL (bitsL s n)) = if cmpI ((bitsL k n).length : Int) ((bitsL s n).length : Int) ≠ 0 then cmpI ((bitsL k n).length : Int) ((bitsL s n).length : Int) else lexC (IL (bitsL k n)) (IL (bitsL s n)) := by
      unfold ordC; rw [List.length_map, List.length_map]
    obtain ⟨x, hx⟩ : ∃ x, cmpI ((bitsL k n).length : Int) ((bitsL s n).length : Int) = x := ⟨_, rfl⟩
    obtain ⟨y, hy⟩ : ∃ y, lexC (IL (bitsL k n)) (IL (bitsL s n)) = y := ⟨_, rfl⟩
    rw [hx, hy] at hord ⊢
    refine WR.bldS (by first | exact gN | exact gS rfl) rfl hH2 (vs := [(0, .int .i64 x), (1, .int .i64 y)]) rfl (cs := [.int .i64 x, .int .i64 y]) (by rfl) rfl fun H3 hH3 => ?_
    refine WR.call (by first | exact gN | exact gS rfl) rfl rfl (Or_fs hH3 (x := x) (y := y) (.row (lo := 0) (cs := [.int .i64 x, .int .i64 y]) (.head _) (.row _ _ _ _) (Nat.zero_le _) rfl rfl (by simp) (.inr ⟨2, rfl, Nat.le_refl _⟩))) ?_
    rintro _ _ ⟨rfl, rfl⟩
    rw [← hord]
    replace hH3 := hH3.tail
    clear hH2 hx hy hord
    obtain ⟨o, ho⟩ : ∃ o, ordC (IL (bitsL k n)) (IL (bitsL s n)) = o := ⟨_, rfl⟩
    rw [ho]
    have hkeep : P k = false ∨ ¬ o < 0 → ∀ t, t < k + 1 → P t = true → ¬ ordC (IL (bitsL t n)) (IL (bitsL s n)) < 0 := fun h t ht hPt => by
      rcases Nat.lt_or_ge t k with h1 | h1
      · exact hmin t h1 hPt
      · have : t = k := by omega
        subst this
        rcases h with h | h
        · rw [h] at hPt; cases hPt
        · rw [ho]; exact h
    have hdrop := hH3.sub (List.sublist_append_right Mn (Mx ++ M))
    by_cases hbef : o < 0
    · repeat' (first | refine zP ?_ | refine zA ?_ | (refine zM ?_; intro _ _) | refine zX ?_ | (refine zC ?_; intro _ _ _ _) | (refine zS ?_; intro _ _) | refine zO ?_ | (apply Ws <;> intro hg))
      refine WR.callV (by first | exact gN | exact gS rfl) rfl rfl rfl (hR k _ _ _ hk' (fun p hp => List.mem_append_right _ (List.mem_append_right _ hp)) hH3) ?_
      rintro _ H4 ⟨rfl, n4, hn4, hH4⟩
      cases hPk : P k with
      | true =>
        repeat' (first | refine zP ?_ | refine zA ?_ | (refine zM ?_; intro _ _) | refine zX ?_ | (refine zC ?_; intro _ _ _ _) | (refine zS ?_; intro _ _) | (apply Ws <;> intro hg))
        refine Ends.loop ⟨k + 1, wv, k, Mn, n4⟩ (by show B - (k + 1) < B - k; omega) (by repeat' (first | exact .nil | refine .cons rfl ?_)) rfl ⟨hk', by simp only; omega, hk', hPk, hOn, hH4.sub (List.Sublist.append_left (List.sublist_append_right Mx M) Mn), fun t ht hPt h => ?_⟩
        replace ht : t < k + 1 := ht
        simp only at h
        rcases Nat.lt_or_ge t k with h1 | h1
        · exact hmin t h1 hPt (ord_trans h (by rw [ho]; exact hbef))
        · have : t = k := by omega
          subst this
          rw [(ord_zero _ _).2 rfl] at h; omega
      | false =>
        repeat' (first | refine zP ?_ | refine zA ?_ | (refine zM ?_; intro _ _) | refine zX ?_ | (refine zC ?_; intro _ _ _ _) | (refine zS ?_; intro _ _) | (apply Ws <;> intro hg))
        exact Ends.loop ⟨k + 1, bv, s, Mx, n4⟩ (by show B - (k + 1) < B - k; omega) (by repeat' (first | exact .nil | refine .cons rfl ?_)) rfl ⟨hk', by simp only; omega, hs, hPs, hO, hH4.sub (List.sublist_append_right Mn (Mx ++ M)), hkeep (.inl hPk)⟩
    · repeat' (first | refine zP ?_ | refine zA ?_ | (refine zM ?_; intro _ _) | refine zX ?_ | (refine zC ?_; intro _ _ _ _) | (refine zS ?_; intro _ _) | refine zO ?_ | (apply Ws <;> intro hg))
      exact Ends.loop ⟨k + 1, bv, s, Mx, n2 + 1⟩ (by show B - (k + 1) < B - k; omega) (by repeat' (first | exact .nil | refine .cons rfl ?_)) rfl ⟨hk', by simp only; omega, hs, hPs, hO, hdrop, hkeep (.inr hbef)⟩
  · have hkB : k = B := by omega
    repeat' (first | refine zP ?_ | refine zA ?_ | (refine zM ?_; intro _ _) | refine zX ?_ | (refine zC ?_; intro _ _ _ _) | (refine zS ?_; intro _ _) | (apply Ws <;> intro hg))
    exact Ends.ret1 rfl ⟨bitsL s n, Mx, n1, ⟨s, by omega, hPs, rfl, fun t ht => hmin t (by omega)⟩, hO, hn1, hH1⟩

theorem leaveOut_fs (hH : hasH M n0 H) (hS : Sl M 1 v (nodes ns)) (hl : ns.length ≤ 61) {s : Nat} (hs : s < 2 ^ 62) :
    FS C 71 [v, .int .i64 (s : Int)] H (fun e H' => ∃ Mx n', Own 3 1 e (nodes (leave ns s)) Mx ∧ n0 ≤ n' ∧ hasH (Mx ++ M) n' H') := by
  refine FS.intro (pf := pf71) rfl rfl rfl ?_
  repeat' (first | refine zP ?_ | refine zA ?_ | (refine zM ?_; intro _ _) | refine zX ?_ | (refine zC ?_; intro _ _ _ _) | (refine zS ?_; intro _ _) | (apply Ws <;> intro hg))
  refine WC.loopX [(1, _), (8, _), (9, _)] (fun s : NV => [(5, s.v), (10, .int .i64 (s.k : Int))]) []
    (fun z H' => z.k ≤ ns.length ∧ n0 ≤ z.n ∧ Own 3 1 z.v (nodes (leaveTo ns s z.k)) z.Mx ∧ hasH (z.Mx ++ M) z.n H') (fun z => ns.length - z.k) ⟨0, .slice none 0 0, [], [], n0⟩ (by repeat' (first | exact .nil | refine .cons rfl ?_)) rfl
    ⟨Nat.zero_le _, Nat.le_refl _, .nil, hH⟩ ?_
  clear hH
  rintro ⟨k, w, _, Mx, n1⟩ H1 ⟨hk, hn1, hO, hH1⟩
  simp only at hk hn1 hO hH1
  have hS1 := hS.mono (M' := Mx ++ M) fun p hp => List.mem_append_right _ hp
  dsimp only [List.cons_append, List.nil_append]
  repeat' (first | refine zP ?_ | refine zA ?_ | (refine zM ?_; intro _ _) | refine zX ?_ | (refine zC ?_; intro _ _ _ _) | (refine zS ?_; intro _ _) | (apply Ws <;> intro hg))
  refine WC.condP rfl (fun hlt => ?_) (fun hlt => ?_)
  · have hk' : k < ns.length := by omega
    repeat' (first | refine zP ?_ | refine zA ?_ | (refine zM ?_; intro _ _) | refine zX ?_ | (refine zC ?_; intro _ _ _ _) | (refine zS ?_; intro _ _) | (apply Ws <;> intro hg))
    refine WR.call (by first | exact gN | exact gS rfl) rfl rfl (has_fs hs (by omega) _) ?_
    rintro _ H2 ⟨rfl, rfl⟩
    cases hb : s.testBit k with
    | false =>
      repeat' (first | refine zP ?_ | refine zA ?_ | (refine zM ?_; intro _ _) | refine zX ?_ | (refine zC ?_; intro _ _ _ _) | (refine zS ?_; intro _ _) | (apply Ws <;> intro hg))
      refine WR.append1F [] Mx M rfl rfl rfl rfl hO hH1 (new := [.int .i64 ((ns.getD k 0 : Nat) : Int)]) (by rfl) rfl rfl (Nat.le_refl _) (by omega) (by have := leave_len ns s k; simp; omega) fun v3 M3 n3 H3 hO3 hH3 hn3 => ?_
      repeat' (first | refine zP ?_ | refine zA ?_ | (refine zM ?_; intro _ _) | refine zX ?_ | (refine zC ?_; intro _ _ _ _) | (refine zS ?_; intro _ _) | (apply Ws <;> intro hg))
      refine Ends.loop ⟨k + 1, v3, [], M3, n3⟩ (by show ns.length - (k + 1) < ns.length - k; omega) (by repeat' (first | exact .nil | refine .cons rfl ?_)) rfl ⟨hk', by simp only; omega, ?_, hH3⟩
      simp only
      rw [leave_yes hb]
      simpa [nodes] using hO3
    | true =>
      repeat' (first | refine zP ?_ | refine zA ?_ | (refine zM ?_; intro _ _) | refine zX ?_ | (refine zC ?_; intro _ _ _ _) | (refine zS ?_; intro _ _) | (apply Ws <;> intro hg))
      refine Ends.loop ⟨k + 1, w, [], Mx, n1⟩ (by show ns.length - (k + 1) < ns.length - k; omega) (by repeat' (first | exact .nil | refine .cons rfl ?_)) rfl ⟨hk', hn1, ?_, hH1⟩
      simp only
      rw [leave_no hb]; exact hO
  · have hkl : ns.length = k := by omega
    subst hkl
    repeat' (first | refine zP ?_ | refine zA ?_ | (refine zM ?_; intro _ _) | refine zX ?_ | (refine zC ?_; intro _ _ _ _) | (refine zS ?_; intro _ _) | (apply Ws <;> intro hg))
    exact Ends.ret1 rfl ⟨Mx, n1, hO, hn1, hH1⟩
theorem forgC_fs (hH : hasH M n0 H) (hS : Sl M 1 v (nodes ns)) (hl : ns.length ≤ 8) {N : Nat} (hN : N ≤ 6) (hb : ∀ x ∈ ns, x < 2 ^ N) {s b3 b4 : Nat} (hs : s < 2 ^ ns.length)
    (h3 : (b3, Ch.row 3 0 0 [.int .i64 (N : Int)]) ∈ M) (h4 : (b4, Ch.row 22 0 0 [v]) ∈ M) :
    FS C 70 [.int .i64 (s : Int), .pointer (some ⟨b3, 0, some 0⟩), .pointer (some ⟨b4, 0, some 0⟩)] H (fun e H' => e = .bool (forgP N ns s) ∧ ∃ n', n0 ≤ n' ∧ hasH M n' H') := by
  have hs62 : s < 2 ^ 62 := Nat.lt_of_lt_of_le hs (Nat.pow_le_pow_right (by omega) (by omega))
  refine FS.intro (pf := pf70) rfl rfl rfl ?_
  repeat' (first | refine zP ?_ | refine zA ?_ | (refine zM ?_; intro _ _) | refine zX ?_ | (refine zC ?_; intro _ _ _ _) | (refine zS ?_; intro _ _) | (apply Ws <;> intro hg))
  refine WC.regionD ?_
  repeat' (first | refine zD ?_ | (refine zE ?_; intro _ _ _ _))
  refine WD.call (by first | exact gN | exact gS rfl) rfl rfl (leaveOut_fs hH hS (by omega) hs62) ?_
  rintro w H1 ⟨Mx, n1, hO, hn1, hH1⟩
  have h3' := List.mem_append_right Mx h3
  have h4' := List.mem_append_right Mx h4
  refine ⟨zSt, ?_⟩
  refine WD.call (by first | exact gN | exact gS rfl) rfl rfl (honest_fs hH1 (hO.sl M) (by have := leave_len ns s ns.length; show (leaveTo ns s ns.length).length ≤ 61; omega) (lt_62 hN fun x hx => hb x (leave_mem hx)) (by omega)) ?_
  rintro _ H2 ⟨rfl, n2, hn2, hH2⟩
  refine ⟨zSt, ?_⟩
  repeat' (first | refine zD ?_ | (refine zE ?_; intro _ _ _ _))
  refine WD.nil ?_
  repeat' (first | refine zP ?_ | refine zA ?_ | (refine zM ?_; intro _ _) | refine zX ?_ | (refine zC ?_; intro _ _ _ _) | (refine zS ?_; intro _ _) | (apply Ws <;> intro hg))
  exact Ends.ret1 rfl ⟨rfl, n2, by omega, hH2.sub (List.sublist_append_right Mx M)⟩
end
end Go.Proofs.Ytblopbimchkneaa.Md

namespace Go.Proofs.Ytblopbimchkneaa.Md
open Go Go.Abs Go.Mth
set_option linter.unusedVariables false
set_option linter.unusedSimpArgs false
attribute [local irreducible] gOK WS WC WR WD Ends FS YS OpV seqK blockK loopK midK retK rdK asgK rangeEnd sat Cell
section
variable {M : HL} {n0 : Nat} {H : Heap} {v w : Value} {ns : List Nat}
theorem Forged_fs (hH : hasH M n0 H) (hS : Sl M 1 v (nodes ns)) (hl : ns.length ≤ 8) {N : Nat} (hN1 : 1 ≤ N) (hN : N ≤ 6) (hb : ∀ x ∈ ns, x < 2 ^ N) :
    FS C 30 [.int .i64 (N : Int), v] H (fun e H' => ∃ r u Mx n', e = .tuple #[u, .int .i64 0] ∧ LeastR ns.length (forgP N ns) r ∧ Own 3 1 u (nodes r) Mx ∧ n0 ≤ n' ∧ hasH (Mx ++ M) n' H') := by
  obtain ⟨av, cv, hv⟩ := hS.len
  rw [List.length_map] at hv
  subst hv
  refine FS.intro (pf := pf30) rfl rfl rfl ?_
  repeat' (first | refine zP ?_ | refine zA ?_ | (refine zM ?_; intro _ _) | refine zX ?_ | (refine zC ?_; intro _ _ _ _) | (refine zS ?_; intro _ _) | (apply Ws <;> intro hg))
  rename_i Ha hHa Hb hHb
  have h3 : (n0, Ch.row 3 0 0 [.int .i64 (N : Int)]) ∈ (n0 + 1, Ch.row 22 0 0 [.slice av ns.length cv]) :: (n0, Ch.row 3 0 0 [.int .i64 (N : Int)]) :: M := .tail _ (.head _)
  have h4 : (n0 + 1, Ch.row 22 0 0 [.slice av ns.length cv]) ∈ (n0 + 1, Ch.row 22 0 0 [.slice av ns.length cv]) :: (n0, Ch.row 3 0 0 [.int .i64 (N : Int)]) :: M := .head _
  replace hS := (hS.cons (p := (n0, Ch.row 3 0 0 [.int .i64 (N : Int)]))).cons (p := (n0 + 1, Ch.row 22 0 0 [.slice av ns.length cv]))
  have hback : ∀ {Mx : HL} {n' : Nat} {H' : Heap}, hasH (Mx ++ ((n0 + 1, Ch.row 22 0 0 [.slice av ns.length cv]) :: (n0, Ch.row 3 0 0 [.int .i64 (N : Int)]) :: M)) n' H' → hasH (Mx ++ M) n' H' := fun h => h.sub (List.Sublist.append_left ((List.sublist_cons_self _ _).trans (List.sublist_cons_self _ _)) _)
  generalize (n0 + 1, Ch.row 22 0 0 [.slice av ns.length cv]) :: (n0, Ch.row 3 0 0 [.int .i64 (N : Int)]) :: M = U at hHb hS h3 h4 hback
  clear hHa hH
  have hSI : Unit → Sl U 1 (.slice av ns.length cv) (ints (IL ns)) := fun _ => by rw [← nodesI]; exact hS
  repeat' (first | refine zP ?_ | refine zA ?_ | (refine zM ?_; intro _ _) | refine zX ?_ | (refine zC ?_; intro _ _ _ _) | (refine zS ?_; intro _ _) | (apply Ws <;> intro hg))
  refine WR.call (by first | exact gN | exact gS rfl) rfl rfl (Check_fs hHb (hSI ()) (by simp; omega) _) ?_
  rintro _ H1 ⟨rfl, rfl⟩
  rw [casts_intro hN1 hN hl hb]
  repeat' (first | refine zP ?_ | refine zA ?_ | (refine zM ?_; intro _ _) | refine zX ?_ | (refine zC ?_; intro _ _ _ _) | (refine zS ?_; intro _ _) | (apply Ws <;> intro hg))
  refine WR.call (by first | exact gN | exact gS rfl) rfl rfl (fewest_fs (g := 70) (vb := [.pointer (some ⟨n0, 0, some 0⟩), .pointer (some ⟨n0 + 1, 0, some 0⟩)]) hHb hl (forg_all N ns) fun s M' n1 H1 hs hM hH1 => forgC_fs hH1 (hS.mono hM) hl hN hb hs (hM _ h3) (hM _ h4)) ?_
  rintro u H2 ⟨r, Mx, n2, hr, hO, hn2, hH2⟩
  repeat' (first | refine zP ?_ | refine zA ?_ | (refine zM ?_; intro _ _) | refine zX ?_ | (refine zC ?_; intro _ _ _ _) | (refine zS ?_; intro _ _) | (apply Ws <;> intro hg))
  exact Ends.ret2 rfl rfl ⟨r, u, Mx, n2, rfl, hr, hO, by omega, hback hH2⟩
end
end Go.Proofs.Ytblopbimchkneaa.Md

namespace Go.Proofs.Ytblopbimchkneaa.Md
open Go Go.Abs Go.Mth
set_option linter.unusedVariables false
set_option linter.unusedSimpArgs false
/-! A cast more, a cast less. -/
theorem LeastR.min {n : Nat} {P : Nat → Bool} {r : List Nat} (h : LeastR n P r) {t : Nat} (ht : t < 2 ^ n) (hP : P t = true) : r.length ≤ (bitsL t n).length := by
  obtain ⟨s, _, _, _, h4⟩ := h
  rcases Nat.lt_or_ge (bitsL t n).length r.length with h1 | h1
  · refine absurd ?_ (h4 t ht hP)
    have : cmpI ((IL (bitsL t n)).length : Int) ((IL r).length : Int) = -1 := by unfold cmpI; rw [if_pos (by simp; omega)]
    unfold ordC; rw [this, if_pos (by decide)]; decide
  · exact h1
theorem hon_sub {N : Nat} {l k : List Nat} (h : honB N l = true) (hs : ∀ x ∈ k, x ∈ l) : honB N k = true := hon_iff.2 fun a b hab hb => by
  have h1 := hon_iff.1 h a b hab hb
  cases hc : clashB k a b with
  | false => rfl
  | true =>
    obtain ⟨⟨x, hx, x1⟩, ⟨y, hy, y1⟩, ⟨z, hz, z1⟩⟩ := clash_iff.1 hc
    rw [clash_iff.2 ⟨⟨x, hs x hx, x1⟩, ⟨y, hs y hy, y1⟩, ⟨z, hs z hz, z1⟩⟩] at h1; cases h1
theorem mem_leave {ns : List Nat} {s x : Nat} : x ∈ leave ns s ↔ ∃ i, i < ns.length ∧ s.testBit i = false ∧ ns.getD i 0 = x := by
  unfold leave leaveTo
  rw [List.mem_map]
  simp only [List.mem_filter, List.mem_range, Bool.not_eq_true']
  constructor
  · rintro ⟨i, ⟨h1, h2⟩, h3⟩; exact ⟨i, h1, h2, h3⟩
  · rintro ⟨i, h1, h2, h3⟩; exact ⟨i, ⟨h1, h2⟩, h3⟩
theorem forged_more {ns : List Nat} {N x : Nat} {r q : List Nat} (hr : LeastR ns.length (forgP N ns) r) (hq : LeastR (ns.length + 1) (forgP N (ns ++ [x])) q) : r.length ≤ q.length ∧ q.length ≤ r.length + 1 := by
  constructor
  · obtain ⟨s, h1, h2, rfl, _⟩ := hq
    have hm := Nat.mod_lt s (Nat.two_pow_pos ns.length)
    have hb : ∀ i, i < ns.length → (s % 2 ^ ns.length).testBit i = s.testBit i := fun i hi => by rw [Nat.testBit_mod_two_pow]; simp [hi]
    have hP : forgP N ns (s % 2 ^ ns.length) = true := hon_sub h2 fun y hy => by
      obtain ⟨i, hi, h3, h4⟩ := mem_leave.1 hy
      refine mem_leave.2 ⟨i, by simp; omega, by rw [← hb i hi]; exact h3, by rw [getD_app_l hi]; exact h4⟩
    have h3 := hr.min hm hP
    have h4 : bitsL (s % 2 ^ ns.length) ns.length = bitsL s ns.length := by
      unfold bitsL
      refine List.filter_congr fun i hi => hb i (List.mem_range.1 hi)
    rw [h4] at h3
    refine Nat.le_trans h3 ?_
    cases hk : s.testBit ns.length with
    | true => rw [bits_yes hk, List.length_append]; omega
    | false => rw [bits_no hk]; exact Nat.le_refl _
  · obtain ⟨s, h1, h2, rfl, _⟩ := hr
    have hs0 : s.testBit ns.length = false := Nat.testBit_lt_two_pow h1
    have hb : ∀ i, i < ns.length → (s ||| 2 ^ ns.length).testBit i = s.testBit i := fun i hi => by
      rw [Nat.testBit_or, Nat.testBit_two_pow]; simp; omega
    have hbl : (s ||| 2 ^ ns.length).testBit ns.length = true := by rw [Nat.testBit_or, Nat.testBit_two_pow]; simp
    have hlt : s ||| 2 ^ ns.length < 2 ^ (ns.length + 1) := Nat.or_lt_two_pow (Nat.lt_of_lt_of_le h1 (Nat.pow_le_pow_right (by omega) (by omega))) (Nat.pow_lt_pow_right (by omega) (by omega))
    have hP : forgP N (ns ++ [x]) (s ||| 2 ^ ns.length) = true := hon_sub h2 fun y hy => by
      obtain ⟨i, hi, h3, h4⟩ := mem_leave.1 hy
      rw [List.length_append, List.length_singleton] at hi
      by_cases he : i = ns.length
      · rw [he, hbl] at h3; cases h3
      · have hi' : i < ns.length := by omega
        exact mem_leave.2 ⟨i, hi', by rw [← hb i hi']; exact h3, by rw [getD_app_l hi'] at h4; exact h4⟩
    have h3 := hq.min hlt hP
    rw [bits_yes hbl, List.length_append] at h3
    have h4 : bitsL (s ||| 2 ^ ns.length) ns.length = bitsL s ns.length := by
      unfold bitsL
      refine List.filter_congr fun i hi => hb i (List.mem_range.1 hi)
    rw [h4] at h3
    exact h3
theorem path_pair {ns : List Nat} {N c : Nat} {o : List Int} (ho : OriginR N ns o) : ∀ {l : List Nat} {b : Int}, PathF N o c b l → l.Pairwise fun x y => folB ns y x = true
  | [], _, _ => .nil
  | x :: l, b, .cons h k => List.pairwise_cons.2 ⟨(path_nodup ho k).1 x rfl, path_pair ho k⟩
/-- With a beginning of a path casts stay honest. -/
theorem hon_path {ns : List Nat} {N d k : Nat} {o : List Int} (hN : N ≤ 6) (hl : ns.length ≤ 8) (hh : honB N ns = true) (ho : OriginR N ns o) (hb : ∀ x ∈ ns, x < 2 ^ N) (hd : d ∈ ns) {l : List Nat} (hp : PathF N o d (-1) l) : honB N (ns ++ [maskN (l.take k)]) = true := by
  have hmask := path_mask hN hl hh ho hb hd hp
  have hin : ∀ {x y : Nat}, x ∈ l.take k → y ∉ l.take k → d.testBit y = true → In ns y x := fun {x y} hx hy hdy => by
    have hyl : y ∈ l := by rw [← mask_bit, hmask]; exact hdy
    rw [← List.take_append_drop k l, List.mem_append] at hyl
    have hyd := hyl.resolve_left hy
    have hpp := path_pair ho hp
    rw [← List.take_append_drop k l, List.pairwise_append] at hpp
    exact (fol_iff.1 (hpp.2.2 x hx y hyd)).1
  have htk : ∀ {x : Nat}, x ∈ l.take k → d.testBit x = true := fun {x} hx => by rw [← hmask, mask_bit]; exact List.mem_of_mem_take hx
  obtain ⟨c, hc⟩ : ∃ c, maskN (l.take k) = c := ⟨_, rfl⟩
  have hcb : ∀ x, c.testBit x = true ↔ x ∈ l.take k := fun x => by rw [← hc, mask_bit]
  rw [hc]
  refine hon_iff.2 fun a b hab hbN => ?_
  have hno := hon_iff.1 hh a b hab hbN
  cases hcl : clashB (ns ++ [c]) a b with
  | false => rfl
  | true =>
    exfalso
    obtain ⟨⟨x, hx, x1, x2⟩, ⟨y, hy, y1, y2⟩, ⟨z, hz, z1, z2⟩⟩ := clash_iff.1 hcl
    have hcase : ∀ {w : Nat}, w ∈ ns ++ [c] → w ∈ ns ∨ w = c := fun h => by simpa using h
    have hfin : (∃ w ∈ ns, w.testBit a = true ∧ w.testBit b = true) → (∃ w ∈ ns, w.testBit a = true ∧ w.testBit b = false) → (∃ w ∈ ns, w.testBit a = false ∧ w.testBit b = true) → False := fun h1 h2 h3 => by
      rw [clash_iff.2 ⟨h1, h2, h3⟩] at hno; cases hno
    cases ha : c.testBit a with
    | true =>
      have ha' := (hcb a).1 ha
      have hz' : z ∈ ns := by
        rcases hcase hz with h | h
        · exact h
        · rw [h, ha] at z1; cases z1
      cases hbb : c.testBit b with
      | true =>
        have hy' : y ∈ ns := by
          rcases hcase hy with h | h
          · exact h
          · rw [h, hbb] at y2; cases y2
        exact hfin ⟨d, hd, htk ha', htk ((hcb b).1 hbb)⟩ ⟨y, hy', y1, y2⟩ ⟨z, hz', z1, z2⟩
      | false =>
        have hx' : x ∈ ns := by
          rcases hcase hx with h | h
          · exact h
          · rw [h, hbb] at x2; cases x2
        have hbn : b ∉ l.take k := fun h => by rw [(hcb b).2 h] at hbb; cases hbb
        cases hdb : d.testBit b with
        | false => exact hfin ⟨x, hx', x1, x2⟩ ⟨d, hd, htk ha', hdb⟩ ⟨z, hz', z1, z2⟩
        | true =>
          have := hin ha' hbn hdb z hz' z2
          rw [z1] at this; cases this
    | false =>
      have hx' : x ∈ ns := by
        rcases hcase hx with h | h
        · exact h
        · rw [h, ha] at x1; cases x1
      have hy' : y ∈ ns := by
        rcases hcase hy with h | h
        · exact h
        · rw [h, ha] at y1; cases y1
      cases hbb : c.testBit b with
      | false =>
        have hz' : z ∈ ns := by
          rcases hcase hz with h | h
          · exact h
          · rw [h, hbb] at z2; cases z2
        exact hfin ⟨x, hx', x1, x2⟩ ⟨y, hy', y1, y2⟩ ⟨z, hz', z1, z2⟩
      | true =>
        have hb' := (hcb b).1 hbb
        have han : a ∉ l.take k := fun h => by rw [(hcb a).2 h] at ha; cases ha
        cases hda : d.testBit a with
        | false => exact hfin ⟨x, hx', x1, x2⟩ ⟨y, hy', y1, y2⟩ ⟨d, hd, hda, htk hb'⟩
        | true =>
          have := hin hb' han hda y hy' y1
          rw [y2] at this; cases this
theorem nodes_one' (l : List Nat) : (nodes l).all one = true := by
  rw [List.all_eq_true]; intro q hq; obtain ⟨z, _, rfl⟩ := List.mem_map.1 hq; rfl
attribute [local irreducible] gOK WS WC WR WD Ends FS YS OpV seqK blockK loopK midK retK rdK asgK rangeEnd sat Cell
section
variable {M : HL} {n0 : Nat} {H : Heap} {v w : Value} {ns : List Nat}
theorem Clone_fs (hH : hasH M n0 H) (hS : Sl M 1 v (nodes ns)) (h0 : ns = [] → v = .slice none 0 0) (hl : ns.length ≤ 1000) :
    FS C 50 [v] H (fun e H' => ∃ Mx n', Own 3 1 e (nodes ns) Mx ∧ (ns ≠ [] → ∃ b, e = .slice (some ⟨b, 0, some 0⟩) ns.length (2 * 1) ∧ Mx = [(b, .row 3 0 0 (nodes ns))]) ∧ n0 ≤ n' ∧ hasH (Mx ++ M) n' H') := by
  refine FS.intro (pf := pf50) rfl rfl rfl ?_
  by_cases hn : ns = []
  · rw [h0 hn]
    repeat' (first | refine zP ?_ | refine zA ?_ | (refine zM ?_; intro _ _) | refine zX ?_ | (refine zC ?_; intro _ _ _ _) | (refine zS ?_; intro _ _) | (apply Ws <;> intro hg))
    refine Ends.ret1 rfl ⟨[], n0, ?_, fun h => absurd hn h, Nat.le_refl _, hH⟩
    rw [hn]; exact .nil
  · have hne : nodes ns ≠ [] := fun h => hn (by simpa [nodes] using h)
    have hsm : ∃ a len cap, v = .slice (some a) len cap := by
      revert hS
      generalize hcs : nodes ns = cs at hne ⊢
      intro hS
      cases hS with
      | nil c => exact absurd rfl hne
      | emp a => exact ⟨_, _, _, rfl⟩
      | row => exact ⟨_, _, _, rfl⟩
    obtain ⟨a, len, cap, rfl⟩ := hsm
    repeat' (first | refine zP ?_ | refine zA ?_ | (refine zM ?_; intro _ _) | refine zX ?_ | (refine zC ?_; intro _ _ _ _) | (refine zS ?_; intro _ _) | (apply Ws <;> intro hg))
    refine WR.bldS (by first | exact gN | exact gS rfl) rfl hH (vs := []) rfl (cs := []) (by rfl) rfl fun H3 hH3 => ?_
    repeat' (first | refine zP ?_ | refine zA ?_ | (refine zM ?_; intro _ _) | refine zX ?_ | (refine zC ?_; intro _ _ _ _) | (refine zS ?_; intro _ _) | (apply Ws <;> intro hg))
    obtain ⟨hk, hsr⟩ := (hS.cons (p := (n0, .row 3 0 0 []))).src hH3 hne
    refine WR.appendNew (by first | exact gN | exact gS rfl) rfl rfl rfl hH3 (.head _) (.row _ _ _ _) (Nat.zero_le _) (Nat.zero_le _) hk (by have := hsr _ (Nat.le_refl _); rw [List.take_length] at this; exact this) (by simp) (by cases ns with | nil => exact absurd rfl hn | cons => simp) (nodes_one' ns) (by omega) (by omega) (by simp; omega) fun H' hH' => ?_
    repeat' (first | refine zP ?_ | refine zA ?_ | (refine zM ?_; intro _ _) | refine zX ?_ | (refine zC ?_; intro _ _ _ _) | (refine zS ?_; intro _ _) | (apply Ws <;> intro hg))
    refine Ends.ret1 rfl ⟨[(n0 + 1, .row 3 0 0 (nodes ns))], n0 + 2, ?_, fun _ => ⟨n0 + 1, by rw [List.length_map], rfl⟩, by omega, hH'.sub (.cons_cons _ (List.sublist_cons_self _ _))⟩
    exact Own.row (by simp)
/-- Some elements less. -/
theorem Delete_fs {b u o len cp R i j : Nat} {ys : List Int} (hH : hasH ((b, .row 3 u o (ints ys)) :: M) n0 H) (hc : capR cp len R) (hly : len ≤ ys.length) (hij : i < j) (hjl : j ≤ len) (hyl : ys.length ≤ 100000) :
    FS C 48 [.slice (some ⟨b, o, some u⟩) len cp, .int .i64 (i : Int), .int .i64 (j : Int)] H (fun e H' => ∃ zs, e = .slice (some ⟨b, o, some u⟩) (len - (j - i)) (roomCode 1 R) ∧ hasH ((b, .row 3 u o (ints zs)) :: M) n0 H' ∧
      zs.length = ys.length ∧ zs.take (len - (j - i)) = ys.take i ++ (ys.take len).drop j) := by
  have hR := hc.le
  refine FS.intro (pf := pf48) rfl rfl rfl ?_
  repeat' (first | refine zP ?_ | refine zA ?_ | (refine zM ?_; intro _ _) | refine zX ?_ | (refine zC ?_; intro _ _ _ _) | (refine zS ?_; intro _ _) | (apply Ws <;> intro hg))
  refine WR.cutMax (by first | exact gN | exact gS rfl) rfl rfl hc rfl rfl rfl (Nat.le_of_lt hij) hjl (Nat.le_refl _) (by omega) fun v13 => ?_
  repeat' (first | refine zP ?_ | refine zA ?_ | (refine zM ?_; intro _ _) | refine zX ?_ | (refine zC ?_; intro _ _ _ _) | (refine zS ?_; intro _ _) | refine zO ?_ | (apply Ws <;> intro hg))
  refine WR.op (by first | exact gN | exact gS rfl) rfl (OpV.cutPre rfl hc rfl (by omega) (by omega)) ?_
  repeat' (first | refine zP ?_ | refine zA ?_ | (refine zM ?_; intro _ _) | refine zX ?_ | (refine zC ?_; intro _ _ _ _) | (refine zS ?_; intro _ _) | (apply Ws <;> intro hg))
  refine WR.cutSuf (by first | exact gN | exact gS rfl) rfl rfl hc rfl hjl fun cp' => ?_
  refine WR.appendR (M' := (b, .row 3 u o (ints (ys.take i ++ (ys.drop j).take (len - j) ++ ys.drop (i + (len - j))))) :: M) (by first | exact gN | exact gS rfl) rfl rfl rfl hH .here (by omega) (by omega) (by omega) fun H1 hH1 => ?_
  have hl2 : i + (len - j) = len - (j - i) := by omega
  rw [hl2] at hH1 ⊢
  obtain ⟨zs, hzs⟩ : ∃ zs, ys.take i ++ (ys.drop j).take (len - j) ++ ys.drop (len - (j - i)) = zs := ⟨_, rfl⟩
  rw [hzs] at hH1
  have hzl : zs.length = ys.length := by rw [← hzs]; simp; omega
  have hzt : zs.take (len - (j - i)) = ys.take i ++ (ys.take len).drop j := by
    rw [← hzs, List.take_append_of_le_length (by simp; omega), List.take_of_length_le (by simp; omega), List.drop_take]
  repeat' (first | refine zP ?_ | refine zA ?_ | (refine zM ?_; intro _ _) | refine zX ?_ | (refine zC ?_; intro _ _ _ _) | (refine zS ?_; intro _ _) | (apply Ws <;> intro hg))
  refine WR.cutOver (by first | exact gN | exact gS rfl) rfl rfl (by omega) rfl rfl (by omega) (by omega) fun cp2 => ?_
  refine WR.clrI (M' := (b, .row 3 u o (ints (zs.take (len - (j - i)) ++ List.replicate (len - (len - (j - i))) 0 ++ zs.drop (len - (j - i) + (len - (len - (j - i))))))) :: M) (by first | exact gN | exact gS rfl) rfl hH1 .here (by omega) (by omega) fun H2 hH2 => ?_
  repeat' (first | refine zP ?_ | refine zA ?_ | (refine zM ?_; intro _ _) | refine zX ?_ | (refine zC ?_; intro _ _ _ _) | (refine zS ?_; intro _ _) | (apply Ws <;> intro hg))
  refine Ends.ret1 rfl ⟨_, rfl, hH2, by simp; omega, ?_⟩
  rw [List.append_assoc, List.take_append_of_le_length (by simp; omega), List.take_of_length_le (by simp; omega), hzt]
end
end Go.Proofs.Ytblopbimchkneaa.Md

namespace Go.Proofs.Ytblopbimchkneaa.Md
open Go Go.Abs Go.Mth
set_option linter.unusedVariables false
set_option linter.unusedSimpArgs false
theorem nq4 : ∀ a b : Bool, pureRun C.c.P (binOp .neq 4 (.bool a) (.bool b)) = some (.bool (a != b)) := by
  intro a b
  cases a <;> cases b <;> kernel_rfl
/-- Whether three casts have been found, of those before. -/
def prov3 (ns : List Nat) (a b i j k : Nat) : Prop := provB ns a b i j k = true
attribute [local irreducible] gOK WS WC WR WD Ends FS YS OpV seqK blockK loopK midK retK rdK asgK rangeEnd sat Cell
section
variable {M : HL} {n0 : Nat} {H : Heap}
end
end Go.Proofs.Ytblopbimchkneaa.Md
