/- Texts of the law, joined. -/
import Derived.Test.YtblopbimchkneaaJ2
import Derived.Test.YtblopbimchkneaaSymG
import Derived.Test.YtblopbimchkneaaJ1
namespace Go.Proofs.Ytblopbimchkneaa.Md
open Go Go.Abs Go.Mth
set_option linter.unusedVariables false
set_option linter.unusedSimpArgs false
theorem u64k : C.c.P.underlying 102 = some (.int .u64) := by kernel_rfl
/-! How many bits are 1. -/
def pc1 (x : Nat) : Nat := ((x >>> 1) &&& 6148914691236517205) + (x &&& 6148914691236517205)
def pc2 (x : Nat) : Nat := ((x >>> 2) &&& 3689348814741910323) + (x &&& 3689348814741910323)
def pc3 (x : Nat) : Nat := ((x >>> 4) + x) &&& 1085102592571150095
def pcS (k x : Nat) : Nat := x + (x >>> k)
def pcA (x : Nat) : Nat := pcS 32 (pcS 16 (pcS 8 (pc3 (pc2 (pc1 x))))) &&& 127
theorem pop_ok : ∀ x, x < 256 → pcA x = (bitsL x 8).length := by decide +kernel
attribute [local irreducible] gOK WS WC WR WD Ends FS YS OpV seqK blockK loopK midK retK rdK asgK rangeEnd sat Cell
theorem pop_fs {x : Nat} (hx : x < 256) (H : Heap) : FS C 99 [.int .u64 (x : Int)] H (fun e H' => e = .int .i64 ((bitsL x 8).length : Int) ∧ H' = H) := by
  have hsh : ∀ a k : Nat, a >>> k ≤ a := fun a k => Nat.shiftRight_le a k
  have hand : ∀ a b : Nat, a &&& b ≤ a := fun a b => Nat.and_le_left
  refine FS.intro (pf := pf99) rfl rfl rfl ?_
  repeat' (first | refine zP ?_ | refine zA ?_ | (refine zM ?_; intro _ _) | refine zX ?_ | (refine zC ?_; intro _ _ _ _) | (refine zS ?_; intro _ _) | (apply Ws <;> intro hg))
  refine WR.op (by first | exact gN | exact gS rfl) rfl (OpV.shrN (m := 1) rfl rfl (by decide)) ?_
  refine WR.op (by first | exact gN | exact gS rfl) rfl (OpV.andN (b := 6148914691236517205) rfl rfl (by show x >>> 1 < 2 ^ 64; have := hsh x 1; omega) (by decide)) ?_
  repeat' (first | refine zP ?_ | refine zA ?_ | (refine zM ?_; intro _ _) | refine zX ?_ | (refine zC ?_; intro _ _ _ _) | (refine zS ?_; intro _ _) | (apply Ws <;> intro hg))
  refine WR.op (by first | exact gN | exact gS rfl) rfl (OpV.andN (b := 6148914691236517205) rfl rfl (by show x < 2 ^ 64; omega) (by decide)) ?_
  refine WR.op (by first | exact gN | exact gS rfl) rfl (OpV.addN rfl rfl (by show _ < 2 ^ 64; have := hsh x 1; have := hand (x >>> 1) 6148914691236517205; have := hand x 6148914691236517205; omega)) ?_
  have b1 : pc1 x < 512 := by unfold pc1; have := hsh x 1; have := hand (x >>> 1) 6148914691236517205; have := hand x 6148914691236517205; omega
  have e0 := pop_ok x hx
  rw [show ((x >>> 1) &&& 6148914691236517205) + (x &&& 6148914691236517205) = pc1 x from rfl]
  unfold pcA at e0
  obtain ⟨y, hy⟩ : ∃ y, pc1 x = y := ⟨_, rfl⟩
  rw [hy] at b1 e0 ⊢
  repeat' (first | refine zP ?_ | refine zA ?_ | (refine zM ?_; intro _ _) | refine zX ?_ | (refine zC ?_; intro _ _ _ _) | (refine zS ?_; intro _ _) | (apply Ws <;> intro hg))
  refine WR.op (by first | exact gN | exact gS rfl) rfl (OpV.shrN (m := 2) rfl rfl (by decide)) ?_
  refine WR.op (by first | exact gN | exact gS rfl) rfl (OpV.andN (b := 3689348814741910323) rfl rfl (by show y >>> 2 < 2 ^ 64; have := hsh y 2; omega) (by decide)) ?_
  repeat' (first | refine zP ?_ | refine zA ?_ | (refine zM ?_; intro _ _) | refine zX ?_ | (refine zC ?_; intro _ _ _ _) | (refine zS ?_; intro _ _) | (apply Ws <;> intro hg))
  refine WR.op (by first | exact gN | exact gS rfl) rfl (OpV.andN (b := 3689348814741910323) rfl rfl (by show y < 2 ^ 64; omega) (by decide)) ?_
  refine WR.op (by first | exact gN | exact gS rfl) rfl (OpV.addN rfl rfl (by show _ < 2 ^ 64; have := hsh y 2; have := hand (y >>> 2) 3689348814741910323; have := hand y 3689348814741910323; omega)) ?_
  have b2 : pc2 y < 1024 := by unfold pc2; have := hsh y 2; have := hand (y >>> 2) 3689348814741910323; have := hand y 3689348814741910323; omega
  rw [show ((y >>> 2) &&& 3689348814741910323) + (y &&& 3689348814741910323) = pc2 y from rfl]
  obtain ⟨z, hz⟩ : ∃ z, pc2 y = z := ⟨_, rfl⟩
  rw [hz] at b2 e0 ⊢
  repeat' (first | refine zP ?_ | refine zA ?_ | (refine zM ?_; intro _ _) | refine zX ?_ | (refine zC ?_; intro _ _ _ _) | (refine zS ?_; intro _ _) | (apply Ws <;> intro hg))
  refine WR.op (by first | exact gN | exact gS rfl) rfl (OpV.shrN (m := 4) rfl rfl (by decide)) ?_
  repeat' (first | refine zP ?_ | refine zA ?_ | (refine zM ?_; intro _ _) | refine zX ?_ | (refine zC ?_; intro _ _ _ _) | (refine zS ?_; intro _ _) | (apply Ws <;> intro hg))
  refine WR.op (by first | exact gN | exact gS rfl) rfl (OpV.addN rfl rfl (by show _ < 2 ^ 64; have := hsh z 4; omega)) ?_
  refine WR.op (by first | exact gN | exact gS rfl) rfl (OpV.andN (b := 1085102592571150095) rfl rfl (by show _ < 2 ^ 64; have := hsh z 4; omega) (by decide)) ?_
  have b3 : pc3 z < 2048 := by unfold pc3; have := hsh z 4; have := hand (z >>> 4 + z) 1085102592571150095; omega
  rw [show ((z >>> 4) + z) &&& 1085102592571150095 = pc3 z from rfl]
  obtain ⟨w, hw⟩ : ∃ w, pc3 z = w := ⟨_, rfl⟩
  rw [hw] at b3 e0 ⊢
  repeat' (first | refine zP ?_ | refine zA ?_ | (refine zM ?_; intro _ _) | refine zX ?_ | (refine zC ?_; intro _ _ _ _) | (refine zS ?_; intro _ _) | (apply Ws <;> intro hg))
  refine WR.op (by first | exact gN | exact gS rfl) rfl (OpV.shrN (m := 8) rfl rfl (by decide)) ?_
  refine WR.op (by first | exact gN | exact gS rfl) rfl (OpV.addN rfl rfl (by show _ < 2 ^ 64; have := hsh w 8; omega)) ?_
  have b4 : pcS 8 w < 4096 := by unfold pcS; have := hsh w 8; omega
  rw [show w + w >>> 8 = pcS 8 w from rfl]
  obtain ⟨p, hp⟩ : ∃ p, pcS 8 w = p := ⟨_, rfl⟩
  rw [hp] at b4 e0 ⊢
  repeat' (first | refine zP ?_ | refine zA ?_ | (refine zM ?_; intro _ _) | refine zX ?_ | (refine zC ?_; intro _ _ _ _) | (refine zS ?_; intro _ _) | (apply Ws <;> intro hg))
  refine WR.op (by first | exact gN | exact gS rfl) rfl (OpV.shrN (m := 16) rfl rfl (by decide)) ?_
  refine WR.op (by first | exact gN | exact gS rfl) rfl (OpV.addN rfl rfl (by show _ < 2 ^ 64; have := hsh p 16; omega)) ?_
  have b5 : pcS 16 p < 8192 := by unfold pcS; have := hsh p 16; omega
  rw [show p + p >>> 16 = pcS 16 p from rfl]
  obtain ⟨q, hq⟩ : ∃ q, pcS 16 p = q := ⟨_, rfl⟩
  rw [hq] at b5 e0 ⊢
  repeat' (first | refine zP ?_ | refine zA ?_ | (refine zM ?_; intro _ _) | refine zX ?_ | (refine zC ?_; intro _ _ _ _) | (refine zS ?_; intro _ _) | (apply Ws <;> intro hg))
  refine WR.op (by first | exact gN | exact gS rfl) rfl (OpV.shrN (m := 32) rfl rfl (by decide)) ?_
  refine WR.op (by first | exact gN | exact gS rfl) rfl (OpV.addN rfl rfl (by show _ < 2 ^ 64; have := hsh q 32; omega)) ?_
  have b6 : pcS 32 q < 16384 := by unfold pcS; have := hsh q 32; omega
  rw [show q + q >>> 32 = pcS 32 q from rfl]
  obtain ⟨r, hr⟩ : ∃ r, pcS 32 q = r := ⟨_, rfl⟩
  rw [hr] at b6 e0 ⊢
  repeat' (first | refine zP ?_ | refine zA ?_ | (refine zM ?_; intro _ _) | refine zX ?_ | (refine zC ?_; intro _ _ _ _) | (refine zS ?_; intro _ _) | (apply Ws <;> intro hg))
  refine WR.op (by first | exact gN | exact gS rfl) rfl (OpV.conv u64k i64k rfl (c := (r : Int)) (IntWalk.i64_in _ (by omega))) ?_
  refine WR.op (by first | exact gN | exact gS rfl) rfl (OpV.andN (b := 127) rfl rfl (by show r < 2 ^ 63; omega) (by decide)) ?_
  repeat' (first | refine zP ?_ | refine zA ?_ | (refine zM ?_; intro _ _) | refine zX ?_ | (refine zC ?_; intro _ _ _ _) | (refine zS ?_; intro _ _) | (apply Ws <;> intro hg))
  exact Ends.ret1 rfl ⟨by rw [e0], rfl⟩
theorem count_fs {M : HL} {n0 : Nat} {H : Heap} (hH : hasH M n0 H) {x : Nat} (hx : x < 256) : FS C 95 [.agg #[.int .u64 (x : Int)]] H (fun e H' => e = .int .i64 ((bitsL x 8).length : Int) ∧ ∃ n', n0 ≤ n' ∧ hasH M n' H') := by
  refine FS.intro (pf := pf95) rfl rfl rfl ?_
  repeat' (first | refine zP ?_ | refine zA ?_ | (refine zM ?_; intro _ _) | refine zX ?_ | (refine zC ?_; intro _ _ _ _) | (refine zS ?_; intro _ _) | (apply Ws <;> intro hg))
  rename_i H1 hH1
  have h97 : FS C 97 [.int .u64 (x : Int)] H1 (fun e H' => e = .int .i64 ((bitsL x 8).length : Int) ∧ H' = H1) := by
    refine FS.intro (pf := pf97) rfl rfl rfl ?_
    repeat' (first | refine zP ?_ | refine zA ?_ | (refine zM ?_; intro _ _) | refine zX ?_ | (refine zC ?_; intro _ _ _ _) | (refine zS ?_; intro _ _) | (apply Ws <;> intro hg))
    refine WR.call (by first | exact gN | exact gS rfl) rfl rfl (pop_fs hx _) ?_
    rintro _ _ ⟨rfl, rfl⟩
    repeat' (first | refine zP ?_ | refine zA ?_ | (refine zM ?_; intro _ _) | refine zX ?_ | (refine zC ?_; intro _ _ _ _) | (refine zS ?_; intro _ _) | (apply Ws <;> intro hg))
    exact Ends.ret1 rfl ⟨rfl, rfl⟩
  refine WR.call (by first | exact gN | exact gS rfl) rfl rfl h97 ?_
  rintro _ _ ⟨rfl, rfl⟩
  repeat' (first | refine zP ?_ | refine zA ?_ | (refine zM ?_; intro _ _) | refine zX ?_ | (refine zC ?_; intro _ _ _ _) | (refine zS ?_; intro _ _) | (apply Ws <;> intro hg))
  exact Ends.ret1 rfl ⟨rfl, n0 + 1, by omega, hH1.tail⟩
end Go.Proofs.Ytblopbimchkneaa.Md

namespace Go.Proofs.Ytblopbimchkneaa.Md
open Go Go.Abs Go.Mth
set_option linter.unusedVariables false
set_option linter.unusedSimpArgs false
/-! After which mark each one arose. -/
def folB (ns : List Nat) (m o : Nat) : Bool := !someB ns o false m true && (someB ns o true m false || decide (o < m))
def cnt (ns : List Nat) (a : Nat) : Nat := (bitsL (msk ns a) 8).length
theorem within_some (ns : List Nat) (m o : Nat) : decide (msk ns m ^^^ (msk ns m &&& msk ns o) = 0) = !someB ns o false m true := by
  have h := @msk_one ns m o
  have e : someB ns o false m true = ns.any fun c => c.testBit m && !c.testBit o := by
    unfold someB; congr 1; funext c; cases c.testBit o <;> cases c.testBit m <;> rfl
  rw [e]
  cases hb : (ns.any fun c => c.testBit m && !c.testBit o) with
  | true => rw [hb] at h; rw [decide_eq_false (h.2 rfl)]; rfl
  | false =>
    rw [hb] at h
    have : ¬ (msk ns m ^^^ (msk ns m &&& msk ns o) ≠ 0) := fun hh => by have := h.1 hh; cases this
    rw [decide_eq_true (Decidable.not_not.1 this)]; rfl
theorem some_swap (ns : List Nat) (a b : Nat) (p q : Bool) : someB ns a p b q = someB ns b q a p := by
  unfold someB; congr 1; funext c; rw [Bool.and_comm]
theorem msk_eq_iff {ns : List Nat} {m o : Nat} : msk ns m = msk ns o ↔ someB ns o false m true = false ∧ someB ns o true m false = false := by
  have h1 := within_some ns m o
  have h2 := within_some ns o m
  rw [some_swap ns m o] at h2
  constructor
  · intro h
    have hx : ∀ x : Nat, x ^^^ (x &&& x) = 0 := fun x => by rw [Nat.and_self, Nat.xor_self]
    rw [h, hx] at h1
    rw [h, hx] at h2
    simp only [decide_true] at h1 h2
    exact ⟨by simpa using h1.symm, by simpa using h2.symm⟩
  · rintro ⟨g1, g2⟩
    rw [g1] at h1
    rw [g2] at h2
    have k1 : msk ns m ^^^ (msk ns m &&& msk ns o) = 0 := of_decide_eq_true h1
    have k2 : msk ns o ^^^ (msk ns o &&& msk ns m) = 0 := of_decide_eq_true h2
    refine Nat.eq_of_testBit_eq fun i => ?_
    have e1 : (msk ns m ^^^ (msk ns m &&& msk ns o)).testBit i = false := by rw [k1, Nat.zero_testBit]
    have e2 : (msk ns o ^^^ (msk ns o &&& msk ns m)).testBit i = false := by rw [k2, Nat.zero_testBit]
    rw [Nat.testBit_xor, Nat.testBit_and] at e1 e2
    revert e1 e2
    cases (msk ns m).testBit i <;> cases (msk ns o).testBit i <;> simp
theorem fol_mask (ns : List Nat) (m o : Nat) : folB ns m o = if msk ns m = msk ns o then decide (o < m) else decide (msk ns m ^^^ (msk ns m &&& msk ns o) = 0) := by
  rw [within_some]
  unfold folB
  split
  · rename_i h
    obtain ⟨h1, h2⟩ := msk_eq_iff.1 h
    rw [h1, h2]; rfl
  · rename_i h
    cases h1 : someB ns o false m true with
    | true => rfl
    | false =>
      cases h2 : someB ns o true m false with
      | true => rfl
      | false => exact absurd (msk_eq_iff.2 ⟨h1, h2⟩) h
/-- The nearest one of those before k. -/
def NR (ns : List Nat) (m k : Nat) (r : Int) : Prop :=
  (r = -1 ∧ ∀ o, o < k → folB ns m o = false) ∨ ∃ o : Nat, r = o ∧ o < k ∧ folB ns m o = true ∧ ∀ o', o' < k → folB ns m o' = true → cnt ns o ≤ cnt ns o' ∧ (cnt ns o' = cnt ns o → o' ≤ o)
theorem NR.unique {ns : List Nat} {m k : Nat} {r s : Int} (h : NR ns m k r) (h' : NR ns m k s) : r = s := by
  rcases h with ⟨rfl, h1⟩ | ⟨o, rfl, h1, h2, h3⟩ <;> rcases h' with ⟨rfl, g1⟩ | ⟨p, rfl, g1, g2, g3⟩
  · rfl
  · rw [h1 p g1] at g2; cases g2
  · rw [g1 o h1] at h2; cases h2
  · have a := h3 p g1 g2
    have b := g3 o h1 h2
    have e : cnt ns p = cnt ns o := by omega
    have := a.2 e
    have := b.2 e.symm
    omega
theorem NR.step_no {ns : List Nat} {m k : Nat} {r : Int} (h : NR ns m k r) (hf : folB ns m k = false) : NR ns m (k + 1) r := by
  rcases h with ⟨rfl, h1⟩ | ⟨o, rfl, h1, h2, h3⟩
  · refine .inl ⟨rfl, fun o ho => ?_⟩
    rcases Nat.lt_or_ge o k with h4 | h4
    · exact h1 o h4
    · have : o = k := by omega
      subst this; exact hf
  · refine .inr ⟨o, rfl, by omega, h2, fun o' ho hf' => ?_⟩
    rcases Nat.lt_or_ge o' k with h4 | h4
    · exact h3 o' h4 hf'
    · have : o' = k := by omega
      subst this; rw [hf] at hf'; cases hf'
theorem NR.step_keep {ns : List Nat} {m k o : Nat} (h : NR ns m k (o : Int)) (hc : ¬ cnt ns k ≤ cnt ns o) : NR ns m (k + 1) (o : Int) := by
  rcases h with ⟨h0, h1⟩ | ⟨p, hp, h1, h2, h3⟩
  · omega
  · have : o = p := by omega
    subst this
    refine .inr ⟨o, rfl, by omega, h2, fun o' ho hf' => ?_⟩
    rcases Nat.lt_or_ge o' k with h4 | h4
    · exact h3 o' h4 hf'
    · have : o' = k := by omega
      subst this; omega
theorem NR.step_take {ns : List Nat} {m k : Nat} {r : Int} (h : NR ns m k r) (hf : folB ns m k = true) (hc : ∀ o : Nat, r = o → cnt ns k ≤ cnt ns o) : NR ns m (k + 1) (k : Int) := by
  refine .inr ⟨k, rfl, by omega, hf, fun o' ho hf' => ?_⟩
  rcases Nat.lt_or_ge o' k with h4 | h4
  · rcases h with ⟨rfl, h1⟩ | ⟨o, rfl, h1, h2, h3⟩
    · rw [h1 o' h4] at hf'; cases hf'
    · have a := h3 o' h4 hf'
      have b := hc o rfl
      exact ⟨by omega, fun _ => by omega⟩
  · have : o' = k := by omega
    subst this; exact ⟨Nat.le_refl _, fun _ => Nat.le_refl _⟩
/-- After which mark one arose. -/
def AfterR (N : Nat) (ns : List Nat) (m : Nat) (r : Int) : Prop := if cnt ns m = 0 then r = -1 else NR ns m N r
theorem AfterR.unique {N : Nat} {ns : List Nat} {m : Nat} {r s : Int} (h : AfterR N ns m r) (h' : AfterR N ns m s) : r = s := by
  unfold AfterR at h h'
  split at h
  · rename_i h0; rw [if_pos h0] at h'; rw [h, h']
  · rename_i h0; rw [if_neg h0] at h'; exact h.unique h'
def OriginR (N : Nat) (ns : List Nat) (o : List Int) : Prop := o.length = N ∧ ∀ m, m < N → AfterR N ns m (o.getD m 0)
theorem OriginR.unique {N : Nat} {ns : List Nat} {o p : List Int} (h : OriginR N ns o) (h' : OriginR N ns p) : o = p :=
  ext_getD (a := 0) (by rw [h.1, h'.1]) fun i hi => (h.2 i (by rw [← h.1]; exact hi)).unique (h'.2 i (by rw [← h.1]; exact hi))
theorem msk_lt8 {ns : List Nat} (h : ns.length ≤ 8) (a : Nat) : msk ns a < 256 := Nat.lt_of_lt_of_le (mskTo_lt ns a ns.length) (Nat.pow_le_pow_right (n := 2) (by omega) h)
structure AS where
  k : Nat
  num : Int
  msk : Nat
  n : Nat
attribute [local irreducible] gOK WS WC WR WD Ends FS YS OpV seqK blockK loopK midK retK rdK asgK rangeEnd sat Cell
section
variable {M : HL} {n0 : Nat} {H : Heap} {v : Value} {ns : List Nat}
theorem follows_fs (hH : hasH M n0 H) {m o a b : Nat} (ha : a < 2 ^ 62) (hb : b < 2 ^ 62) :
    FS C 96 [.agg #[.int .i64 (m : Int), .int .u64 (a : Int)], .agg #[.int .i64 (o : Int), .int .u64 (b : Int)]] H (fun e H' => e = .bool (if a = b then decide (o < m) else decide (a ^^^ (a &&& b) = 0)) ∧ ∃ n', n0 ≤ n' ∧ hasH M n' H') := by
  refine FS.intro (pf := pf96) rfl rfl rfl ?_
  repeat' (first | refine zP ?_ | refine zA ?_ | (refine zM ?_; intro _ _) | refine zX ?_ | (refine zC ?_; intro _ _ _ _) | (refine zS ?_; intro _ _) | (apply Ws <;> intro hg))
  rename_i H1 hH1 H2 hH2
  clear hH1
  refine WR.op (by first | exact gN | exact gS rfl) rfl (OpV.loadN (l := [.int .u64 (a : Int)]) rfl hH2 (.tail _ (.head _)) (.row _ _ _ _) (Nat.zero_le _) (by show 0 + 1 - 0 + 1 ≤ 2; omega) rfl) ?_
  repeat' (first | refine zP ?_ | refine zA ?_ | (refine zM ?_; intro _ _) | refine zX ?_ | (refine zC ?_; intro _ _ _ _) | (refine zS ?_; intro _ _) | (apply Ws <;> intro hg))
  refine WR.op (by first | exact gN | exact gS rfl) rfl (OpV.loadN (l := [.int .u64 (b : Int)]) rfl hH2 (.head _) (.row _ _ _ _) (Nat.zero_le _) (by show 0 + 1 - 0 + 1 ≤ 2; omega) rfl) ?_
  refine WR.op (by first | exact gN | exact gS rfl) rfl (OpV.eqAgg' (eqBearG _ _ a b) (eqBearOp a b) rfl rfl rfl rfl) ?_
  by_cases hab : a = b
  · have : ((a : Int) == (b : Int)) = true := by rw [hab]; exact beq_self_eq_true _
    rw [this]
    repeat' (first | refine zP ?_ | refine zA ?_ | (refine zM ?_; intro _ _) | refine zX ?_ | (refine zC ?_; intro _ _ _ _) | (refine zS ?_; intro _ _) | (apply Ws <;> intro hg))
    refine Ends.ret1 rfl ⟨?_, n0 + 2, by omega, hH2.tail.tail⟩
    rw [if_pos hab]
    congr 1
    rw [decide_eq_decide]
    show ((m : Int) > (o : Int)) ↔ _
    omega
  · have : ((a : Int) == (b : Int)) = false := by
      rw [beq_eq_false_iff_ne]; omega
    rw [this]
    repeat' (first | refine zP ?_ | refine zA ?_ | (refine zM ?_; intro _ _) | refine zX ?_ | (refine zC ?_; intro _ _ _ _) | (refine zS ?_; intro _ _) | (apply Ws <;> intro hg))
    refine WR.op (by first | exact gN | exact gS rfl) rfl (OpV.loadN (l := [.int .u64 (a : Int)]) rfl hH2 (.tail _ (.head _)) (.row _ _ _ _) (Nat.zero_le _) (by show 0 + 1 - 0 + 1 ≤ 2; omega) rfl) ?_
    repeat' (first | refine zP ?_ | refine zA ?_ | (refine zM ?_; intro _ _) | refine zX ?_ | (refine zC ?_; intro _ _ _ _) | (refine zS ?_; intro _ _) | (apply Ws <;> intro hg))
    refine WR.op (by first | exact gN | exact gS rfl) rfl (OpV.loadN (l := [.int .u64 (b : Int)]) rfl hH2 (.head _) (.row _ _ _ _) (Nat.zero_le _) (by show 0 + 1 - 0 + 1 ≤ 2; omega) rfl) ?_
    refine WR.call (by first | exact gN | exact gS rfl) rfl rfl (within_fs hH2 ha hb) ?_
    rintro _ H3 ⟨rfl, n3, hn3, hH3⟩
    repeat' (first | refine zP ?_ | refine zA ?_ | (refine zM ?_; intro _ _) | refine zX ?_ | (refine zC ?_; intro _ _ _ _) | (refine zS ?_; intro _ _) | (apply Ws <;> intro hg))
    exact Ends.ret1 rfl ⟨by rw [if_neg hab], n3, by omega, hH3.tail.tail⟩
end
end Go.Proofs.Ytblopbimchkneaa.Md

namespace Go.Proofs.Ytblopbimchkneaa.Md
open Go Go.Abs Go.Mth
set_option linter.unusedVariables false
set_option linter.unusedSimpArgs false
attribute [local irreducible] gOK WS WC WR WD Ends FS YS OpV seqK blockK loopK midK retK rdK asgK rangeEnd sat Cell
section
variable {M : HL} {n0 : Nat} {H : Heap} {v : Value} {ns : List Nat}
set_option maxHeartbeats 2000000 in
theorem after_fs (hH : hasH M n0 H) (hl : ns.length ≤ 8) {N m : Nat} (hN : N ≤ 6) (hS : Sl M 2 v (cellsF MC (marksL N ns))) :
    FS C 85 [.agg #[.int .i64 (m : Int), .int .u64 (msk ns m : Int)], v] H (fun e H' => ∃ r, e = .int .i64 r ∧ AfterR N ns m r ∧ ∃ n', n0 ≤ n' ∧ hasH M n' H') := by
  have h8 := fun a => msk_lt8 hl a
  have h62 := fun a => msk_lt (show ns.length ≤ 61 by omega) a
  have hml := marksL_len N ns
  refine FS.intro (pf := pf85) rfl rfl rfl ?_
  repeat' (first | refine zP ?_ | refine zA ?_ | (refine zM ?_; intro _ _) | refine zX ?_ | (refine zC ?_; intro _ _ _ _) | (refine zS ?_; intro _ _) | (apply Ws <;> intro hg))
  rename_i H1 hH1
  refine WR.op (by first | exact gN | exact gS rfl) rfl (OpV.bldT (vs := [(0, .int .i64 (-1))]) rfl (cs := #[.int .i64 (-1), .int .u64 0]) (by rfl)) ?_
  repeat' (first | refine zP ?_ | refine zA ?_ | (refine zM ?_; intro _ _) | refine zX ?_ | (refine zC ?_; intro _ _ _ _) | (refine zS ?_; intro _ _) | (apply Ws <;> intro hg))
  rename_i H2 hH2
  refine WR.storeAll (by first | exact gN | exact gS rfl) hH2 rfl rfl (ls := [.int .i64 (-1), .int .u64 0]) rfl rfl .here rfl rfl fun H3 hH3 => ?_
  clear hH1 hH2
  repeat' (first | refine zP ?_ | refine zA ?_ | (refine zM ?_; intro _ _) | refine zX ?_ | (refine zC ?_; intro _ _ _ _) | (refine zS ?_; intro _ _) | (apply Ws <;> intro hg))
  rename_i H4 hH4
  refine WR.storeAll (by first | exact gN | exact gS rfl) hH4 rfl rfl (ls := [.int .i64 (-1), .int .u64 0]) rfl rfl .here rfl rfl fun H5 hH5 => ?_
  clear hH3 hH4
  repeat' (first | refine zP ?_ | refine zA ?_ | (refine zM ?_; intro _ _) | refine zX ?_ | (refine zC ?_; intro _ _ _ _) | (refine zS ?_; intro _ _) | (apply Ws <;> intro hg))
  refine WR.op (by first | exact gN | exact gS rfl) rfl (OpV.loadN (l := [.int .u64 (msk ns m : Nat)]) rfl hH5 (.tail _ (.tail _ (.head _))) (.row _ _ _ _) (Nat.zero_le _) (by show 0 + 1 - 0 + 1 ≤ 2; omega) rfl) ?_
  refine WR.call (by first | exact gN | exact gS rfl) rfl rfl (count_fs hH5 (h8 m)) ?_
  rintro _ H6 ⟨rfl, n6, hn6, hH6⟩
  clear hH5
  rw [show ((bitsL (msk ns m) 8).length : Int) = (cnt ns m : Int) from rfl]
  repeat' (first | refine zP ?_ | refine zA ?_ | (refine zM ?_; intro _ _) | refine zX ?_ | (refine zC ?_; intro _ _ _ _) | (refine zS ?_; intro _ _) | (apply Ws <;> intro hg))
  refine WC.condP rfl (fun hz => ?_) (fun hz => ?_)
  · repeat' (first | refine zP ?_ | refine zA ?_ | (refine zM ?_; intro _ _) | refine zX ?_ | (refine zC ?_; intro _ _ _ _) | (refine zS ?_; intro _ _) | (apply Ws <;> intro hg))
    refine Ends.ret1 rfl ⟨-1, rfl, by rw [AfterR, if_pos (by omega)], n6, by omega, hH6.tail.tail.tail⟩
  have hz' : ¬ cnt ns m = 0 := by omega
  have hA : ∀ {r}, NR ns m N r → AfterR N ns m r := fun h => by rw [AfterR, if_neg hz']; exact h
  repeat' (first | refine zP ?_ | refine zA ?_ | (refine zM ?_; intro _ _) | refine zX ?_ | (refine zC ?_; intro _ _ _ _) | (refine zS ?_; intro _ _) | (apply Ws <;> intro hg))
  refine WR.op (by first | exact gN | exact gS rfl) rfl (OpV.lenK MC_len (by decide) rfl hS) ?_
  rw [hml]
  repeat' (first | refine zP ?_ | refine zA ?_ | (refine zM ?_; intro _ _) | refine zX ?_ | (refine zC ?_; intro _ _ _ _) | (refine zS ?_; intro _ _) | (apply Ws <;> intro hg))
  refine WC.loopX [(2, _), (5, _), (6, _), (17, _), (18, _)] (fun s : AS => [(19, .int .i64 (s.k : Int))]) []
    (fun s H' => s.k ≤ N ∧ n0 ≤ s.n ∧ NR ns m s.k s.num ∧ ((s.num = -1 ∧ s.msk = 0) ∨ ∃ o : Nat, o < N ∧ s.num = o ∧ s.msk = msk ns o) ∧ hasH ((n0 + 1 + 1, .row 87 0 0 [.int .i64 s.num, .int .u64 (s.msk : Int)]) :: (n0 + 1, .row 87 0 0 [.int .i64 (-1), .int .u64 0]) :: (n0, .row 87 0 0 [.int .i64 (m : Int), .int .u64 (msk ns m : Int)]) :: M) s.n H') (fun s => N - s.k) ⟨0, -1, 0, n6⟩ (by repeat' (first | exact .nil | refine .cons rfl ?_)) rfl
    ⟨Nat.zero_le _, by simp only; omega, .inl ⟨rfl, fun o h => absurd h (Nat.not_lt_zero _)⟩, .inl ⟨rfl, rfl⟩, hH6⟩ ?_
  clear hH6 hn6
  rintro ⟨k, num, mk, n7⟩ H7 ⟨hk, hn7, hR, hnm, hH7⟩
  simp only at hk hn7 hR hnm hH7
  dsimp only [List.cons_append, List.nil_append]
  repeat' (first | refine zP ?_ | refine zA ?_ | (refine zM ?_; intro _ _) | refine zX ?_ | (refine zC ?_; intro _ _ _ _) | (refine zS ?_; intro _ _) | (apply Ws <;> intro hg))
  refine WC.condP rfl (fun hlt => ?_) (fun hlt => ?_)
  · have hk' : k < N := by omega
    repeat' (first | refine zP ?_ | refine zA ?_ | (refine zM ?_; intro _ _) | refine zX ?_ | (refine zC ?_; intro _ _ _ _) | (refine zS ?_; intro _ _) | (apply Ws <;> intro hg))
    have hS7 := hS.mono (M' := (n0 + 1 + 1, .row 87 0 0 [.int .i64 num, .int .u64 (mk : Int)]) :: (n0 + 1, .row 87 0 0 [.int .i64 (-1), .int .u64 0]) :: (n0, .row 87 0 0 [.int .i64 (m : Int), .int .u64 (msk ns m : Int)]) :: M) fun p hp => .tail _ (.tail _ (.tail _ hp))
    refine WR.idxK MC_len (by decide) (by first | exact gN | exact gS rfl) rfl rfl hS7 rfl (by omega) fun b o u hP => ?_
    rw [marksL_get] at hP
    refine WR.op (by first | exact gN | exact gS rfl) rfl (OpV.loadK rfl hP hH7 rfl) ?_
    repeat' (first | refine zP ?_ | refine zA ?_ | (refine zM ?_; intro _ _) | refine zX ?_ | (refine zC ?_; intro _ _ _ _) | (refine zS ?_; intro _ _) | (apply Ws <;> intro hg))
    rename_i H8 hH8
    refine WR.storeAll (by first | exact gN | exact gS rfl) hH8 rfl rfl (ls := [.int .i64 (k : Int), .int .u64 (msk ns k : Nat)]) rfl rfl .here rfl rfl fun H9 hH9 => ?_
    clear hH8 hH7 hS7
    have hM8 : (n7, Ch.row 87 0 0 [.int .i64 (k : Int), .int .u64 (msk ns k : Int)]) ∈ (n7, Ch.row 87 0 0 [.int .i64 (k : Int), .int .u64 (msk ns k : Int)]) :: (n0 + 1 + 1, .row 87 0 0 [.int .i64 num, .int .u64 (mk : Int)]) :: (n0 + 1, .row 87 0 0 [.int .i64 (-1), .int .u64 0]) :: (n0, .row 87 0 0 [.int .i64 (m : Int), .int .u64 (msk ns m : Int)]) :: M := .head _
    have hM2 : (n0 + 1 + 1, Ch.row 87 0 0 [.int .i64 num, .int .u64 (mk : Int)]) ∈ (n7, Ch.row 87 0 0 [.int .i64 (k : Int), .int .u64 (msk ns k : Int)]) :: (n0 + 1 + 1, .row 87 0 0 [.int .i64 num, .int .u64 (mk : Int)]) :: (n0 + 1, .row 87 0 0 [.int .i64 (-1), .int .u64 0]) :: (n0, .row 87 0 0 [.int .i64 (m : Int), .int .u64 (msk ns m : Int)]) :: M := .tail _ (.head _)
    have hM0 : (n0, Ch.row 87 0 0 [.int .i64 (m : Int), .int .u64 (msk ns m : Int)]) ∈ (n7, Ch.row 87 0 0 [.int .i64 (k : Int), .int .u64 (msk ns k : Int)]) :: (n0 + 1 + 1, .row 87 0 0 [.int .i64 num, .int .u64 (mk : Int)]) :: (n0 + 1, .row 87 0 0 [.int .i64 (-1), .int .u64 0]) :: (n0, .row 87 0 0 [.int .i64 (m : Int), .int .u64 (msk ns m : Int)]) :: M := .tail _ (.tail _ (.tail _ (.head _)))
    repeat' (first | refine zP ?_ | refine zA ?_ | (refine zM ?_; intro _ _) | refine zX ?_ | (refine zC ?_; intro _ _ _ _) | (refine zS ?_; intro _ _) | (apply Ws <;> intro hg))
    refine WC.regionD ?_
    repeat' (first | refine WD.guardF rfl rfl (stands_nil _ _) ?_ | refine WD.guardU rfl rfl (stands_nil _ _) ?_ | refine zD ?_ | (refine zE ?_; intro _ _ _ _))
    refine WD.call (by first | exact gN | exact gS rfl) rfl rfl (follows_fs hH9 (h62 m) (h62 k)) ?_
    rintro _ H10 ⟨rfl, n10, hn10, hH10⟩
    clear hH9
    rw [← fol_mask]
    refine ⟨zSt, ?_⟩
    cases hf : folB ns m k with
    | false =>
      repeat' (first | refine WD.guardF rfl rfl (stands_nil _ _) ?_ | refine WD.guardU rfl rfl (stands_nil _ _) ?_ | refine zD ?_ | (refine zE ?_; intro _ _ _ _))
      refine WD.guardU rfl rfl zSt ?_
      repeat' (first | refine WD.guardF rfl rfl (stands_nil _ _) ?_ | refine WD.guardU rfl rfl (stands_nil _ _) ?_ | refine zD ?_ | (refine zE ?_; intro _ _ _ _))
      refine WD.nil ?_
      repeat' (first | refine zP ?_ | refine zA ?_ | (refine zM ?_; intro _ _) | refine zX ?_ | (refine zC ?_; intro _ _ _ _) | (refine zS ?_; intro _ _) | (apply Ws <;> intro hg))
      exact Ends.loop ⟨k + 1, num, mk, n10⟩ (by show N - (k + 1) < N - k; omega) (by repeat' (first | exact .nil | refine .cons rfl ?_)) rfl ⟨hk', by simp only; omega, hR.step_no hf, hnm, hH10.tail⟩
    | true =>
      rcases hnm with ⟨rfl, rfl⟩ | ⟨o, ho, rfl, rfl⟩
      · repeat' (first | refine WD.guardF rfl rfl (stands_nil _ _) ?_ | refine WD.guardU rfl rfl (stands_nil _ _) ?_ | refine zD ?_ | (refine zE ?_; intro _ _ _ _))
        refine WD.op (by first | exact gN | exact gS rfl) rfl (OpV.eqAgg' (eqMarkG _ _ _ _ _ _) eqMark1 rfl rfl rfl rfl) rfl (stands_nil _ _) ?_
        repeat' (first | refine WD.guardF rfl rfl (stands_nil _ _) ?_ | refine WD.guardU rfl rfl (stands_nil _ _) ?_ | refine zD ?_ | (refine zE ?_; intro _ _ _ _))
        refine WD.guardF rfl rfl zSt ?_
        repeat' (first | refine WD.guardF rfl rfl (stands_nil _ _) ?_ | refine WD.guardU rfl rfl (stands_nil _ _) ?_ | refine zD ?_ | (refine zE ?_; intro _ _ _ _))
        refine WD.nil ?_
        repeat' (first | refine zP ?_ | refine zA ?_ | (refine zM ?_; intro _ _) | refine zX ?_ | (refine zC ?_; intro _ _ _ _) | (refine zS ?_; intro _ _) | (apply Ws <;> intro hg))
        refine WR.storeAll (by first | exact gN | exact gS rfl) hH10 rfl rfl (ls := [.int .i64 (k : Int), .int .u64 (msk ns k : Nat)]) rfl rfl (.there .here) rfl rfl fun H11 hH11 => ?_
        repeat' (first | refine zP ?_ | refine zA ?_ | (refine zM ?_; intro _ _) | refine zX ?_ | (refine zC ?_; intro _ _ _ _) | (refine zS ?_; intro _ _) | (apply Ws <;> intro hg))
        exact Ends.loop ⟨k + 1, (k : Int), msk ns k, n10⟩ (by show N - (k + 1) < N - k; omega) (by repeat' (first | exact .nil | refine .cons rfl ?_)) rfl ⟨hk', by simp only; omega, hR.step_take hf (fun o h => by omega), .inr ⟨k, hk', rfl, rfl⟩, hH11.tail⟩
      · repeat' (first | refine WD.guardF rfl rfl (stands_nil _ _) ?_ | refine WD.guardU rfl rfl (stands_nil _ _) ?_ | refine zD ?_ | (refine zE ?_; intro _ _ _ _))
        refine WD.op (by first | exact gN | exact gS rfl) rfl (OpV.eqAgg' (eqMarkG _ _ _ _ _ _) (eqMark0 _ o (by omega)) rfl rfl rfl rfl) rfl (stands_nil _ _) ?_
        repeat' (first | refine WD.guardF rfl rfl (stands_nil _ _) ?_ | refine WD.guardU rfl rfl (stands_nil _ _) ?_ | refine zD ?_ | (refine zE ?_; intro _ _ _ _))
        refine WD.loadN (ls := [.int .u64 (msk ns k : Nat)]) (by first | exact gN | exact gS rfl) rfl rfl (hH10.readN (k := 1) hM8 (.row _ _ _ _) (Nat.zero_le _) (by show 1 - 0 + 1 ≤ 2; omega)) ?_
        repeat' (first | refine WD.guardF rfl rfl (stands_nil _ _) ?_ | refine WD.guardU rfl rfl (stands_nil _ _) ?_ | refine zD ?_ | (refine zE ?_; intro _ _ _ _))
        refine WD.loadN (ls := [.int .u64 (msk ns o : Nat)]) (by first | exact gN | exact gS rfl) rfl rfl (hH10.readN (k := 1) hM2 (.row _ _ _ _) (Nat.zero_le _) (by show 1 - 0 + 1 ≤ 2; omega)) ?_
        refine WD.call (by first | exact gN | exact gS rfl) rfl rfl (count_fs hH10 (h8 k)) ?_
        rintro _ H11 ⟨rfl, n11, hn11, hH11⟩
        rw [show ((bitsL (msk ns k) 8).length : Int) = (cnt ns k : Int) from rfl]
        refine ⟨?_, ?_⟩
        · exact stands_cons (.inr (holdsN' (l := [.int .u64 (msk ns o : Nat)]) (hH11.readN (k := 1) hM2 (.row _ _ _ _) (Nat.zero_le _) (by show 1 - 0 + 1 ≤ 2; omega)) (by simp [sameL, same_int]))) zSt
        refine WD.call (by first | exact gN | exact gS rfl) rfl rfl (count_fs hH11 (h8 o)) ?_
        rintro _ H12 ⟨rfl, n12, hn12, hH12⟩
        rw [show ((bitsL (msk ns o) 8).length : Int) = (cnt ns o : Int) from rfl]
        refine ⟨zSt, ?_⟩
        repeat' (first | refine WD.guardF rfl rfl (stands_nil _ _) ?_ | refine WD.guardU rfl rfl (stands_nil _ _) ?_ | refine zD ?_ | (refine zE ?_; intro _ _ _ _))
        refine WD.nil ?_
        repeat' (first | refine zP ?_ | refine zA ?_ | (refine zM ?_; intro _ _) | refine zX ?_ | (refine zC ?_; intro _ _ _ _) | (refine zS ?_; intro _ _) | (apply Ws <;> intro hg))
        refine WC.condP rfl (fun hle => ?_) (fun hle => ?_)
        · have htake : ∀ o' : Nat, (o : Int) = o' → cnt ns k ≤ cnt ns o' := fun o' h => by
            have e : o = o' := by omega
            rw [← e]; omega
          repeat' (first | refine zP ?_ | refine zA ?_ | (refine zM ?_; intro _ _) | refine zX ?_ | (refine zC ?_; intro _ _ _ _) | (refine zS ?_; intro _ _) | (apply Ws <;> intro hg))
          refine WR.storeAll (by first | exact gN | exact gS rfl) hH12 rfl rfl (ls := [.int .i64 (k : Int), .int .u64 (msk ns k : Nat)]) rfl rfl (.there .here) rfl rfl fun H13 hH13 => ?_
          repeat' (first | refine zP ?_ | refine zA ?_ | (refine zM ?_; intro _ _) | refine zX ?_ | (refine zC ?_; intro _ _ _ _) | (refine zS ?_; intro _ _) | (apply Ws <;> intro hg))
          exact Ends.loop ⟨k + 1, (k : Int), msk ns k, n12⟩ (by show N - (k + 1) < N - k; omega) (by repeat' (first | exact .nil | refine .cons rfl ?_)) rfl ⟨hk', by simp only; omega, hR.step_take hf htake, .inr ⟨k, hk', rfl, rfl⟩, hH13.tail⟩
        · repeat' (first | refine zP ?_ | refine zA ?_ | (refine zM ?_; intro _ _) | refine zX ?_ | (refine zC ?_; intro _ _ _ _) | (refine zS ?_; intro _ _) | (apply Ws <;> intro hg))
          exact Ends.loop ⟨k + 1, (o : Int), msk ns o, n12⟩ (by show N - (k + 1) < N - k; omega) (by repeat' (first | exact .nil | refine .cons rfl ?_)) rfl ⟨hk', by simp only; omega, hR.step_keep (by omega), .inr ⟨o, ho, rfl, rfl⟩, hH12.tail⟩
  have hkN : N = k := by omega
  subst hkN
  repeat' (first | refine zP ?_ | refine zA ?_ | (refine zM ?_; intro _ _) | refine zX ?_ | (refine zC ?_; intro _ _ _ _) | (refine zS ?_; intro _ _) | (apply Ws <;> intro hg))
  exact Ends.ret1 rfl ⟨num, rfl, hA hR, n7, hn7, hH7.tail.tail.tail⟩
end
end Go.Proofs.Ytblopbimchkneaa.Md

namespace Go.Proofs.Ytblopbimchkneaa.Md
open Go Go.Abs Go.Mth
set_option linter.unusedVariables false
set_option linter.unusedSimpArgs false
theorem NR.range {ns : List Nat} {m k : Nat} {r : Int} (h : NR ns m k r) : -1 ≤ r ∧ r < k := by
  rcases h with ⟨rfl, _⟩ | ⟨o, rfl, h, _⟩ <;> omega
theorem AfterR.range {N : Nat} {ns : List Nat} {m : Nat} {r : Int} (h : AfterR N ns m r) : -1 ≤ r ∧ r < N := by
  unfold AfterR at h
  split at h
  · omega
  · exact h.range
/-- Lists in ascending order with the same members are the same. -/
theorem sorted_eq : ∀ {l k : List Nat}, l.Pairwise (· < ·) → k.Pairwise (· < ·) → (∀ x, x ∈ l ↔ x ∈ k) → l = k
  | [], [], _, _, _ => rfl
  | [], a :: k, _, _, h => by have := (h a).2 (by simp); cases this
  | a :: l, [], _, _, h => by have := (h a).1 (by simp); cases this
  | a :: l, b :: k, hl, hk, h => by
    obtain ⟨l1, l2⟩ := List.pairwise_cons.1 hl
    obtain ⟨k1, k2⟩ := List.pairwise_cons.1 hk
    have hab : a = b := by
      have h1 := (h a).1 (by simp)
      have h2 := (h b).2 (by simp)
      rcases List.mem_cons.1 h1 with h1 | h1
      · exact h1
      · rcases List.mem_cons.1 h2 with h2 | h2
        · exact h2.symm
        · have := k1 a h1; have := l1 b h2; omega
    subst hab
    congr 1
    refine sorted_eq l2 k2 fun x => ?_
    constructor
    · intro hx
      have h1 := l1 x hx
      rcases List.mem_cons.1 ((h x).1 (by simp [hx])) with h2 | h2
      · omega
      · exact h2
    · intro hx
      have h1 := k1 x hx
      rcases List.mem_cons.1 ((h x).2 (by simp [hx])) with h2 | h2
      · omega
      · exact h2
def cntTo (ns : List Nat) (a k : Nat) : Nat := ((List.range k).filter fun i => (ns.getD i 0).testBit a).length
theorem cntTo_yes {ns : List Nat} {a k : Nat} (h : (ns.getD k 0).testBit a = true) : cntTo ns a (k + 1) = cntTo ns a k + 1 := by
  rw [cntTo, List.range_succ, List.filter_append, List.filter_cons_of_pos (by exact h), List.length_append]; rfl
theorem cntTo_no {ns : List Nat} {a k : Nat} (h : (ns.getD k 0).testBit a = false) : cntTo ns a (k + 1) = cntTo ns a k := by
  rw [cntTo, List.range_succ, List.filter_append, List.filter_cons_of_neg (by rw [h]; simp), List.filter_nil, List.append_nil]; rfl
theorem cntTo_le (ns : List Nat) (a k : Nat) : cntTo ns a k ≤ k := Nat.le_trans (List.length_filter_le _ _) (by simp)
theorem cnt_to {ns : List Nat} (h : ns.length ≤ 8) (a : Nat) : cnt ns a = cntTo ns a ns.length := by
  rw [cnt, msk, mskTo]
  have e : bitsL (maskN ((List.range ns.length).filter fun i => (ns.getD i 0).testBit a)) 8 = (List.range ns.length).filter fun i => (ns.getD i 0).testBit a := by
    have hm : ∀ x, x ∈ bitsL (maskN ((List.range ns.length).filter fun i => (ns.getD i 0).testBit a)) 8 ↔ x ∈ (List.range ns.length).filter fun i => (ns.getD i 0).testBit a := fun x => by
      rw [mem_bits, mask_bit]
      refine ⟨fun h => h.2, fun hx => ⟨?_, hx⟩⟩
      have := List.mem_range.1 (List.mem_filter.1 hx).1
      omega
    have a1 : (bitsL (maskN ((List.range ns.length).filter fun i => (ns.getD i 0).testBit a)) 8).Pairwise (· < ·) := List.pairwise_lt_range.filter _
    have a2 : ((List.range ns.length).filter fun i => (ns.getD i 0).testBit a).Pairwise (· < ·) := List.pairwise_lt_range.filter _
    exact sorted_eq a1 a2 hm
  rw [e]; rfl
structure OI where
  k : Nat
  v : Value
  l : List Int
  Mx : HL
  n : Nat
attribute [local irreducible] gOK WS WC WR WD Ends FS YS OpV seqK blockK loopK midK retK rdK asgK rangeEnd sat Cell
section
variable {M : HL} {n0 : Nat} {H : Heap} {v : Value} {ns : List Nat}
theorem originOf_fs (hH : hasH M n0 H) (hl : ns.length ≤ 8) {N : Nat} (hN : N ≤ 6) (hS : Sl M 2 v (cellsF MC (marksL N ns))) :
    FS C 64 [v] H (fun e H' => ∃ o Mx n', OriginR N ns o ∧ Own 3 1 e (ints o) Mx ∧ n0 ≤ n' ∧ hasH (Mx ++ M) n' H') := by
  have hml := marksL_len N ns
  refine FS.intro (pf := pf64) rfl rfl rfl ?_
  repeat' (first | refine zP ?_ | refine zA ?_ | (refine zM ?_; intro _ _) | refine zX ?_ | (refine zC ?_; intro _ _ _ _) | (refine zS ?_; intro _ _) | (apply Ws <;> intro hg))
  refine WR.op (by first | exact gN | exact gS rfl) rfl (OpV.lenK MC_len (by decide) rfl hS) ?_
  rw [hml]
  repeat' (first | refine zP ?_ | refine zA ?_ | (refine zM ?_; intro _ _) | refine zX ?_ | (refine zC ?_; intro _ _ _ _) | (refine zS ?_; intro _ _) | (apply Ws <;> intro hg))
  refine WC.loopX [(0, _), (6, _), (7, _)] (fun s : OI => [(3, s.v), (8, .int .i64 (s.k : Int))]) []
    (fun z H' => z.k ≤ N ∧ n0 ≤ z.n ∧ z.l.length = z.k ∧ (∀ i, i < z.k → AfterR N ns i (z.l.getD i 0)) ∧ Own 3 1 z.v (ints z.l) z.Mx ∧ hasH (z.Mx ++ M) z.n H') (fun z => N - z.k) ⟨0, .slice none 0 0, [], [], n0⟩ (by repeat' (first | exact .nil | refine .cons rfl ?_)) rfl
    ⟨Nat.zero_le _, Nat.le_refl _, rfl, fun i h => absurd h (Nat.not_lt_zero _), .nil, hH⟩ ?_
  clear hH
  rintro ⟨k, ov, l, Mx, n1⟩ H1 ⟨hk, hn1, hll, hA, hO, hH1⟩
  simp only at hk hn1 hll hA hO hH1
  have hS1 := hS.mono (M' := Mx ++ M) fun p hp => List.mem_append_right _ hp
  dsimp only [List.cons_append, List.nil_append]
  repeat' (first | refine zP ?_ | refine zA ?_ | (refine zM ?_; intro _ _) | refine zX ?_ | (refine zC ?_; intro _ _ _ _) | (refine zS ?_; intro _ _) | (apply Ws <;> intro hg))
  refine WC.condP rfl (fun hlt => ?_) (fun hlt => ?_)
  · have hk' : k < N := by omega
    repeat' (first | refine zP ?_ | refine zA ?_ | (refine zM ?_; intro _ _) | refine zX ?_ | (refine zC ?_; intro _ _ _ _) | (refine zS ?_; intro _ _) | (apply Ws <;> intro hg))
    refine WR.idxK MC_len (by decide) (by first | exact gN | exact gS rfl) rfl rfl hS1 rfl (by omega) fun b o u hP => ?_
    rw [marksL_get] at hP
    refine WR.op (by first | exact gN | exact gS rfl) rfl (OpV.loadK rfl hP hH1 rfl) ?_
    repeat' (first | refine zP ?_ | refine zA ?_ | (refine zM ?_; intro _ _) | refine zX ?_ | (refine zC ?_; intro _ _ _ _) | (refine zS ?_; intro _ _) | (apply Ws <;> intro hg))
    rename_i H2 hH2
    refine WR.storeAll (by first | exact gN | exact gS rfl) hH2 rfl rfl (ls := [.int .i64 (k : Int), .int .u64 (msk ns k : Nat)]) rfl rfl .here rfl rfl fun H3 hH3 => ?_
    clear hH2 hH1
    repeat' (first | refine zP ?_ | refine zA ?_ | (refine zM ?_; intro _ _) | refine zX ?_ | (refine zC ?_; intro _ _ _ _) | (refine zS ?_; intro _ _) | (apply Ws <;> intro hg))
    refine WR.call (by first | exact gN | exact gS rfl) rfl rfl (after_fs hH3 hl hN (hS1.cons)) ?_
    rintro _ H4 ⟨r, rfl, hr, n4, hn4, hH4⟩
    clear hH3
    refine WR.append1F [] Mx M rfl rfl rfl rfl hO hH4.tail (new := [.int .i64 r]) (by rfl) rfl rfl (Nat.le_refl _) (by omega) (by simp; omega) fun v3 M3 n5 H5 hO5 hH5 hn5 => ?_
    repeat' (first | refine zP ?_ | refine zA ?_ | (refine zM ?_; intro _ _) | refine zX ?_ | (refine zC ?_; intro _ _ _ _) | (refine zS ?_; intro _ _) | (apply Ws <;> intro hg))
    refine Ends.loop ⟨k + 1, v3, l ++ [r], M3, n5⟩ (by show N - (k + 1) < N - k; omega) (by repeat' (first | exact .nil | refine .cons rfl ?_)) rfl ⟨hk', by simp only; omega, by simp [hll], fun i hi => ?_, by simpa using hO5, hH5⟩
    replace hi : i < k + 1 := hi
    simp only
    rcases Nat.lt_or_ge i k with h | h
    · rw [getD_app_l (by omega)]; exact hA i h
    · have : i = l.length := by omega
      subst this
      rw [getD_snoc, hll]; exact hr
  · have hkN : N = k := by omega
    subst hkN
    repeat' (first | refine zP ?_ | refine zA ?_ | (refine zM ?_; intro _ _) | refine zX ?_ | (refine zC ?_; intro _ _ _ _) | (refine zS ?_; intro _ _) | (apply Ws <;> intro hg))
    exact Ends.ret1 rfl ⟨l, Mx, n1, ⟨hll, hA⟩, hO, hn1, hH1⟩

/-- What Origin returns of casts that were checked. -/
def OrgR (N : Nat) (ns : List Nat) (o : List Int) : Prop := if honB N ns = true then OriginR N ns o else o = []
theorem Origin_fs (hH : hasH M n0 H) (hS : Sl M 1 v (nodes ns)) (hl : ns.length ≤ 8) {N : Nat} (hN1 : 1 ≤ N) (hN : N ≤ 6) (hb : ∀ x ∈ ns, x < 2 ^ N) :
    FS C 23 [.int .i64 (N : Int), v] H (fun e H' => ∃ o u Mx n', e = .tuple #[u, .int .i64 (if honB N ns = true then 0 else 12)] ∧ OrgR N ns o ∧ Own 3 1 u (ints o) Mx ∧ n0 ≤ n' ∧ hasH (Mx ++ M) n' H') := by
  have hSI : Unit → Sl M 1 v (ints (ns.map fun (x : Nat) => (x : Int))) := fun _ => by rw [← nodesI]; exact hS
  have hb62 := lt_62 hN hb
  refine FS.intro (pf := pf23) rfl rfl rfl ?_
  repeat' (first | refine zP ?_ | refine zA ?_ | (refine zM ?_; intro _ _) | refine zX ?_ | (refine zC ?_; intro _ _ _ _) | (refine zS ?_; intro _ _) | (apply Ws <;> intro hg))
  refine WR.call (by first | exact gN | exact gS rfl) rfl rfl (Check_fs hH (hSI ()) (by simp; omega) _) ?_
  rintro _ H1 ⟨rfl, rfl⟩
  rw [casts_intro hN1 hN hl hb]
  repeat' (first | refine zP ?_ | refine zA ?_ | (refine zM ?_; intro _ _) | refine zX ?_ | (refine zC ?_; intro _ _ _ _) | (refine zS ?_; intro _ _) | (apply Ws <;> intro hg))
  refine WR.call (by first | exact gN | exact gS rfl) rfl rfl (honest_fs hH hS (by omega) hb62 (by omega)) ?_
  rintro _ H2 ⟨rfl, n2, hn2, hH2⟩
  clear hH
  cases hh : honB N ns with
  | false =>
    repeat' (first | refine zP ?_ | refine zA ?_ | (refine zM ?_; intro _ _) | refine zX ?_ | (refine zC ?_; intro _ _ _ _) | (refine zS ?_; intro _ _) | (apply Ws <;> intro hg))
    exact Ends.ret2 rfl rfl ⟨[], .slice none 0 0, [], n2, by rw [if_neg (by decide)], by rw [OrgR, if_neg (by rw [hh]; decide)], .nil, hn2, hH2⟩
  | true =>
    repeat' (first | refine zP ?_ | refine zA ?_ | (refine zM ?_; intro _ _) | refine zX ?_ | (refine zC ?_; intro _ _ _ _) | (refine zS ?_; intro _ _) | (apply Ws <;> intro hg))
    refine WR.call (by first | exact gN | exact gS rfl) rfl rfl (marksOf_fs hH2 hS (by omega) hb62 (N := N) (by omega)) ?_
    rintro _ H3 ⟨c, rfl, hS3, hH3⟩
    refine WR.call (by first | exact gN | exact gS rfl) rfl rfl (originOf_fs hH3 hl hN hS3) ?_
    rintro u H4 ⟨o, Mx, n4, ho, hO, hn4, hH4⟩
    repeat' (first | refine zP ?_ | refine zA ?_ | (refine zM ?_; intro _ _) | refine zX ?_ | (refine zC ?_; intro _ _ _ _) | (refine zS ?_; intro _ _) | (apply Ws <;> intro hg))
    exact Ends.ret2 rfl rfl ⟨o, u, Mx, n4, by rw [if_pos rfl], by rw [OrgR, if_pos hh]; exact ho, hO, by omega, hH4.sub (List.Sublist.append_left (List.sublist_cons_self _ _) _)⟩
end
end Go.Proofs.Ytblopbimchkneaa.Md

namespace Go.Proofs.Ytblopbimchkneaa.Md
open Go Go.Abs Go.Mth
set_option linter.unusedVariables false
set_option linter.unusedSimpArgs false
/-! Paths. -/
theorem someF {ns : List Nat} {a b : Nat} {p q : Bool} : someB ns a p b q = false ↔ ∀ c ∈ ns, ¬ (c.testBit a = p ∧ c.testBit b = q) := by
  unfold someB
  rw [List.any_eq_false]
  simp
theorem someT {ns : List Nat} {a b : Nat} {p q : Bool} : someB ns a p b q = true ↔ ∃ c ∈ ns, c.testBit a = p ∧ c.testBit b = q := by
  unfold someB
  rw [List.any_eq_true]
  simp
/-- All casts with m have o. -/
def In (ns : List Nat) (m o : Nat) : Prop := ∀ c ∈ ns, c.testBit m = true → c.testBit o = true
theorem fol_iff {ns : List Nat} {m o : Nat} : folB ns m o = true ↔ In ns m o ∧ ((∃ c ∈ ns, c.testBit o = true ∧ c.testBit m = false) ∨ o < m) := by
  unfold folB
  rw [Bool.and_eq_true, Bool.or_eq_true, Bool.not_eq_true', decide_eq_true_eq, someF, someT]
  refine and_congr_left' ?_
  constructor
  · intro h c hc hm
    cases hb : c.testBit o with
    | true => rfl
    | false => exact absurd ⟨hb, hm⟩ (h c hc)
  · rintro h c hc ⟨h1, h2⟩
    rw [h c hc h2] at h1; cases h1
theorem fol_irr (ns : List Nat) (m : Nat) : folB ns m m = false := by
  cases h : folB ns m m with
  | false => rfl
  | true =>
    obtain ⟨_, ⟨c, _, h1, h2⟩ | h1⟩ := fol_iff.1 h
    · rw [h1] at h2; cases h2
    · omega
theorem fol_trans {ns : List Nat} {m o p : Nat} (h1 : folB ns m o = true) (h2 : folB ns o p = true) : folB ns m p = true := by
  obtain ⟨a1, a2⟩ := fol_iff.1 h1
  obtain ⟨b1, b2⟩ := fol_iff.1 h2
  refine fol_iff.2 ⟨fun c hc hm => b1 c hc (a1 c hc hm), ?_⟩
  rcases a2 with ⟨c, hc, e1, e2⟩ | a2
  · exact .inl ⟨c, hc, b1 c hc e1, e2⟩
  · rcases b2 with ⟨c, hc, e1, e2⟩ | b2
    · refine .inl ⟨c, hc, e1, ?_⟩
      cases hb : c.testBit m with
      | false => rfl
      | true => rw [a1 c hc hb] at e2; cases e2
    · exact .inr (by omega)
/-- Of two marks of a cast one follows the other one. -/
theorem fol_total {ns : List Nat} {N x y c : Nat} (hh : honB N ns = true) (hc : c ∈ ns) (hx : x < N) (hy : y < N) (hne : x ≠ y) (h1 : c.testBit x = true) (h2 : c.testBit y = true) : folB ns x y = true ∨ folB ns y x = true := by
  have hcl : clashB ns x y = false := by
    rcases Nat.lt_or_gt_of_ne hne with h | h
    · exact hon_iff.1 hh x y h hy
    · rw [clash_comm]; exact hon_iff.1 hh y x h hx
  by_cases p1 : ∃ d ∈ ns, d.testBit x = true ∧ d.testBit y = false
  · by_cases p2 : ∃ d ∈ ns, d.testBit x = false ∧ d.testBit y = true
    · rw [clash_iff.2 ⟨⟨c, hc, h1, h2⟩, p1, p2⟩] at hcl; cases hcl
    · refine .inr (fol_iff.2 ⟨fun d hd hm => ?_, .inl p1⟩)
      cases hb : d.testBit x with
      | true => rfl
      | false => exact absurd ⟨d, hd, hb, hm⟩ p2
  · have hin : In ns x y := fun d hd hm => by
      cases hb : d.testBit y with
      | true => rfl
      | false => exact absurd ⟨d, hd, hm, hb⟩ p1
    by_cases p2 : ∃ d ∈ ns, d.testBit x = false ∧ d.testBit y = true
    · obtain ⟨d, hd, e1, e2⟩ := p2
      exact .inl (fol_iff.2 ⟨hin, .inl ⟨d, hd, e2, e1⟩⟩)
    · have hin2 : In ns y x := fun d hd hm => by
        cases hb : d.testBit x with
        | true => rfl
        | false => exact absurd ⟨d, hd, hb, hm⟩ p2
      rcases Nat.lt_or_gt_of_ne hne with h | h
      · exact .inr (fol_iff.2 ⟨hin2, .inr h⟩)
      · exact .inl (fol_iff.2 ⟨hin, .inr h⟩)
/-- Fewer casts have what comes later. -/
theorem cntTo_in {ns : List Nat} {m o : Nat} (h : In ns m o) : ∀ k, k ≤ ns.length → cntTo ns m k ≤ cntTo ns o k ∧ (cntTo ns m k = cntTo ns o k → ∀ i, i < k → (ns.getD i 0).testBit o = true → (ns.getD i 0).testBit m = true)
  | 0, _ => ⟨Nat.le_refl _, fun _ i hi => absurd hi (Nat.not_lt_zero _)⟩
  | k + 1, hk => by
    obtain ⟨h1, h2⟩ := cntTo_in h k (by omega)
    have hin := h _ (getD_mem (a := 0) (show k < ns.length by omega))
    cases hm : (ns.getD k 0).testBit m with
    | true =>
      rw [cntTo_yes hm, cntTo_yes (hin hm)]
      refine ⟨by omega, fun he i hi hb => ?_⟩
      rcases Nat.lt_or_ge i k with h3 | h3
      · exact h2 (by omega) i h3 hb
      · have : i = k := by omega
        subst this; exact hm
    | false =>
      cases ho : (ns.getD k 0).testBit o with
      | true =>
        rw [cntTo_no hm, cntTo_yes ho]
        exact ⟨by omega, fun he => by omega⟩
      | false =>
        rw [cntTo_no hm, cntTo_no ho]
        refine ⟨h1, fun he i hi hb => ?_⟩
        rcases Nat.lt_or_ge i k with h3 | h3
        · exact h2 he i h3 hb
        · have : i = k := by omega
          subst this; rw [ho] at hb; cases hb
theorem fol_cnt {ns : List Nat} (hl : ns.length ≤ 8) {m o : Nat} (h : folB ns m o = true) : cnt ns m ≤ cnt ns o ∧ (cnt ns m = cnt ns o → o < m) := by
  obtain ⟨h1, h2⟩ := fol_iff.1 h
  obtain ⟨g1, g2⟩ := cntTo_in h1 ns.length (Nat.le_refl _)
  rw [cnt_to hl, cnt_to hl]
  refine ⟨g1, fun he => ?_⟩
  rcases h2 with ⟨c, hc, e1, e2⟩ | h2
  · obtain ⟨i, hi, rfl⟩ := List.mem_iff_getElem.1 hc
    have := g2 he i hi (by rw [getD_eq hi]; exact e1)
    rw [getD_eq hi, e2] at this; cases this
  · exact h2
theorem cnt_pos {ns : List Nat} (hl : ns.length ≤ 8) {m c : Nat} (hc : c ∈ ns) (hm : c.testBit m = true) : cnt ns m ≠ 0 := by
  obtain ⟨i, hi, rfl⟩ := List.mem_iff_getElem.1 hc
  intro h
  rw [cnt_to hl, cntTo, List.length_eq_zero_iff, List.filter_eq_nil_iff] at h
  have := h i (List.mem_range.2 hi)
  rw [getD_eq hi, hm] at this
  exact this rfl
theorem org_fol {ns : List Nat} {N : Nat} {o : List Int} (ho : OriginR N ns o) {x y : Nat} (hx : x < N) (h : o.getD x 0 = (y : Int)) : folB ns x y = true ∧ y < N := by
  have hA := ho.2 x hx
  unfold AfterR at hA
  split at hA
  · omega
  · rcases hA with ⟨h1, _⟩ | ⟨z, hz, h1, h2, _⟩
    · omega
    · have : y = z := by omega
      subst this; exact ⟨h2, h1⟩
/-- Two marks of a cast with the same origin are the same. -/
theorem org_one {ns : List Nat} {N : Nat} {o : List Int} (hl : ns.length ≤ 8) (hh : honB N ns = true) (ho : OriginR N ns o) {c x y : Nat} (hc : c ∈ ns) (hx : x < N) (hy : y < N) (h1 : c.testBit x = true) (h2 : c.testBit y = true) (he : o.getD x 0 = o.getD y 0) : x = y := by
  have key : ∀ {x y : Nat}, x < N → y < N → c.testBit x = true → c.testBit y = true → o.getD x 0 = o.getD y 0 → folB ns x y = true → False := by
    intro x y hx hy h1 h2 he hf
    have hA := ho.2 x hx
    have hB := ho.2 y hy
    unfold AfterR at hA hB
    rw [if_neg (cnt_pos hl hc h1)] at hA
    rw [if_neg (cnt_pos hl hc h2)] at hB
    rw [he] at hA
    rcases hA with ⟨hr, hn⟩ | ⟨z, hr, hz1, hz2, hz3⟩
    · rw [hn y hy] at hf; cases hf
    · rcases hB with ⟨hr', _⟩ | ⟨w, hr', hw1, hw2, hw3⟩
      · omega
      · have : z = w := by omega
        subst this
        obtain ⟨a1, a2⟩ := hz3 y hy hf
        obtain ⟨b1, b2⟩ := fol_cnt hl hw2
        have e : cnt ns y = cnt ns z := by omega
        have := a2 e
        have := b2 e
        omega
  refine Classical.byContradiction fun hne => ?_
  rcases fol_total hh hc hx hy hne h1 h2 with h | h
  · exact key hx hy h1 h2 he h
  · exact key hy hx h2 h1 he.symm h
def NextIs (N : Nat) (o : List Int) (c : Nat) (b : Int) (x : Nat) : Prop := x < N ∧ o.getD x 0 = b ∧ c.testBit x = true ∧ ∀ y, y < x → ¬ (o.getD y 0 = b ∧ c.testBit y = true)
def NoNext (N : Nat) (o : List Int) (c : Nat) (b : Int) : Prop := ∀ y, y < N → ¬ (o.getD y 0 = b ∧ c.testBit y = true)
inductive PathF (N : Nat) (o : List Int) (c : Nat) : Int → List Nat → Prop
  | nil {b : Int} (h : NoNext N o c b) : PathF N o c b []
  | cons {b : Int} {x : Nat} {l : List Nat} (h : NextIs N o c b x) (k : PathF N o c (x : Int) l) : PathF N o c b (x :: l)
theorem NextIs.unique {N c : Nat} {o : List Int} {b : Int} {x y : Nat} (h : NextIs N o c b x) (g : NextIs N o c b y) : x = y := by
  rcases Nat.lt_trichotomy x y with h1 | h1 | h1
  · exact absurd ⟨h.2.1, h.2.2.1⟩ (g.2.2.2 x h1)
  · exact h1
  · exact absurd ⟨g.2.1, g.2.2.1⟩ (h.2.2.2 y h1)
theorem PathF.unique {N c : Nat} {o : List Int} : ∀ {l k : List Nat} {b : Int}, PathF N o c b l → PathF N o c b k → l = k
  | [], [], _, _, _ => rfl
  | [], y :: k, _, .nil h, .cons g _ => absurd ⟨g.2.1, g.2.2.1⟩ (h y g.1)
  | x :: l, [], _, .cons g _, .nil h => absurd ⟨g.2.1, g.2.2.1⟩ (h x g.1)
  | x :: l, y :: k, _, .cons h h', .cons g g' => by
    obtain rfl := h.unique g
    rw [h'.unique g']
/-- A path that is under way. -/
inductive PathP (N : Nat) (o : List Int) (c : Nat) : List Nat → Int → Prop
  | nil : PathP N o c [] (-1)
  | snoc {l : List Nat} {b : Int} {x : Nat} (h : PathP N o c l b) (k : NextIs N o c b x) : PathP N o c (l ++ [x]) (x : Int)
theorem PathP.done {N c : Nat} {o : List Int} {l m : List Nat} {b : Int} (h : PathP N o c l b) : PathF N o c b m → PathF N o c (-1) (l ++ m) := by
  induction h generalizing m with
  | nil => exact fun k => k
  | snoc h k ih =>
    intro g
    rw [List.append_assoc]
    exact ih (.cons k g)
/-- Marks on the way are different, and each one follows those before. -/
theorem PathP.chain {ns : List Nat} {N c : Nat} {o : List Int} (ho : OriginR N ns o) {l : List Nat} {b : Int} (h : PathP N o c l b) :
    (∀ x ∈ l, x < N ∧ c.testBit x = true) ∧ l.Nodup ∧ ∀ y : Nat, (y : Int) = b → y ∈ l ∧ ∀ x ∈ l, x = y ∨ folB ns y x = true := by
  induction h with
  | nil => exact ⟨fun x hx => (by cases hx), .nil, fun y hy => by omega⟩
  | @snoc l b x h k ih =>
    obtain ⟨i1, i2, i3⟩ := ih
    obtain ⟨k1, k2, k3, k4⟩ := k
    have hfx : ∀ z ∈ l, folB ns x z = true := fun z hz => by
      rcases h with _ | @⟨l', b', y, h', k'⟩
      · cases hz
      · obtain ⟨_, hy⟩ := i3 y rfl
        have hf := (org_fol ho k1 k2).1
        rcases hy z hz with rfl | hyz
        · exact hf
        · exact fol_trans hf hyz
    refine ⟨fun z hz => ?_, ?_, fun y hy => ?_⟩
    · rcases List.mem_append.1 hz with h1 | h1
      · exact i1 z h1
      · rw [List.mem_singleton.1 h1]; exact ⟨k1, k3⟩
    · rw [List.nodup_append]
      refine ⟨i2, by simp, fun z hz w hw => ?_⟩
      rw [List.mem_singleton.1 hw]
      rintro rfl
      have := hfx z hz
      rw [fol_irr] at this; cases this
    · have : y = x := by omega
      subst this
      refine ⟨by simp, fun z hz => ?_⟩
      rcases List.mem_append.1 hz with h1 | h1
      · exact .inr (hfx z h1)
      · exact .inl (List.mem_singleton.1 h1)
theorem PathP.len {ns : List Nat} {N c : Nat} {o : List Int} (ho : OriginR N ns o) {l : List Nat} {b : Int} (h : PathP N o c l b) : l.length ≤ N := by
  obtain ⟨h1, h2, _⟩ := h.chain ho
  exact nodup_le N l h2 fun y hy => (h1 y hy).1
end Go.Proofs.Ytblopbimchkneaa.Md

namespace Go.Proofs.Ytblopbimchkneaa.Md
open Go Go.Abs Go.Mth
set_option linter.unusedVariables false
set_option linter.unusedSimpArgs false
structure PS where
  l : List Nat
  b : Int
  c : Int
  v : Value
  Mx : HL
  n : Nat
attribute [local irreducible] gOK WS WC WR WD Ends FS YS OpV seqK blockK loopK midK retK rdK asgK rangeEnd sat Cell
section
variable {M : HL} {n0 : Nat} {H : Heap} {v w : Value} {ns : List Nat}
end
end Go.Proofs.Ytblopbimchkneaa.Md

namespace Go.Proofs.Ytblopbimchkneaa.Md
open Go Go.Abs Go.Mth
set_option linter.unusedVariables false
set_option linter.unusedSimpArgs false
def lastI (l : List Nat) : Int := match l.getLast? with | some x => (x : Int) | none => -1
/-- What Path returns of casts that were checked. -/
def PthR (N : Nat) (ns : List Nat) (i : Int) (l : List Nat) (e : Int) : Prop :=
  if ¬ (0 ≤ i ∧ i < ns.length) then l = [] ∧ e = 2 else if honB N ns = false then l = [] ∧ e = 12 else e = 0 ∧ ∃ o, OriginR N ns o ∧ PathF N o (ns.getD i.toNat 0) (-1) l
theorem PthR.unique {N : Nat} {ns : List Nat} {i : Int} {l k : List Nat} {e f : Int} (h : PthR N ns i l e) (g : PthR N ns i k f) : l = k ∧ e = f := by
  unfold PthR at h g
  split at h
  · rename_i h0; rw [if_pos h0] at g; exact ⟨by rw [h.1, g.1], by rw [h.2, g.2]⟩
  · rename_i h0; rw [if_neg h0] at g
    split at h
    · rename_i h1; rw [if_pos h1] at g; exact ⟨by rw [h.1, g.1], by rw [h.2, g.2]⟩
    · rename_i h1; rw [if_neg h1] at g
      obtain ⟨h2, o, ho, hp⟩ := h
      obtain ⟨g2, p, hp', gp⟩ := g
      obtain rfl := ho.unique hp'
      exact ⟨hp.unique gp, by rw [h2, g2]⟩
def LstR (N : Nat) (ns : List Nat) (i j : Int) (q e : Int) : Prop :=
  if ¬ ((0 ≤ i ∧ i < ns.length) ∧ (0 ≤ j ∧ j < ns.length)) then q = 0 ∧ e = 2 else if honB N ns = false then q = 0 ∧ e = 12 else e = 0 ∧ ∃ o l, OriginR N ns o ∧ PathF N o (ns.getD i.toNat 0 &&& ns.getD j.toNat 0) (-1) l ∧ q = lastI l
theorem LstR.unique {N : Nat} {ns : List Nat} {i j q r e f : Int} (h : LstR N ns i j q e) (g : LstR N ns i j r f) : q = r ∧ e = f := by
  unfold LstR at h g
  split at h
  · rename_i h0; rw [if_pos h0] at g; exact ⟨by rw [h.1, g.1], by rw [h.2, g.2]⟩
  · rename_i h0; rw [if_neg h0] at g
    split at h
    · rename_i h1; rw [if_pos h1] at g; exact ⟨by rw [h.1, g.1], by rw [h.2, g.2]⟩
    · rename_i h1; rw [if_neg h1] at g
      obtain ⟨h2, o, l, ho, hp, hq⟩ := h
      obtain ⟨g2, p, k, hp', gp, gq⟩ := g
      obtain rfl := ho.unique hp'
      obtain rfl := hp.unique gp
      exact ⟨by rw [hq, gq], by rw [h2, g2]⟩
attribute [local irreducible] gOK WS WC WR WD Ends FS YS OpV seqK blockK loopK midK retK rdK asgK rangeEnd sat Cell
section
variable {M : HL} {n0 : Nat} {H : Heap} {v : Value} {ns : List Nat}
end
end Go.Proofs.Ytblopbimchkneaa.Md

namespace Go.Proofs.Ytblopbimchkneaa.Md
open Go Go.Abs Go.Mth
set_option linter.unusedVariables false
set_option linter.unusedSimpArgs false
attribute [local irreducible] gOK WS WC WR WD Ends FS YS OpV seqK blockK loopK midK retK rdK asgK rangeEnd sat Cell
section
variable {M : HL} {n0 : Nat} {H : Heap} {v w : Value} {ns : List Nat}
def openE (N : Nat) (ns : List Nat) (i j : Int) : Int := if ¬ ((0 ≤ i ∧ i < ns.length) ∧ (0 ≤ j ∧ j < ns.length)) then 2 else if honB N ns = false then 12 else 0
theorem path_lt {N c : Nat} {o : List Int} : ∀ {l : List Nat} {b : Int}, PathF N o c b l → ∀ x ∈ l, x < N
  | [], _, _, x, hx => by cases hx
  | y :: l, _, .cons h k, x, hx => by
    rcases List.mem_cons.1 hx with rfl | hx
    · exact h.1
    · exact path_lt k x hx
theorem sameI_fs (hH : hasH M n0 H) {xs ys : List Int} (hS : Sl M 1 v (ints xs)) (hU : Sl M 1 w (ints ys)) (hx : xs.length ≤ 1000) (hy : ys.length ≤ 1000) :
    FS C 29 [v, w] H (fun e H' => e = .bool (decide (xs = ys)) ∧ H' = H) := by
  refine FS.intro (pf := pf29) rfl rfl rfl ?_
  repeat' (first | refine zP ?_ | refine zA ?_ | (refine zM ?_; intro _ _) | refine zX ?_ | (refine zC ?_; intro _ _ _ _) | (refine zS ?_; intro _ _) | (apply Ws <;> intro hg))
  refine WC.condP rfl (fun hne => ?_) (fun hne => ?_)
  · repeat' (first | refine zP ?_ | refine zA ?_ | (refine zM ?_; intro _ _) | refine zX ?_ | (refine zC ?_; intro _ _ _ _) | (refine zS ?_; intro _ _) | (apply Ws <;> intro hg))
    exact Ends.ret1 rfl ⟨by rw [decide_eq_false (fun h => hne (by rw [h]))], rfl⟩
  have hle : xs.length = ys.length := by omega
  repeat' (first | refine zP ?_ | refine zA ?_ | (refine zM ?_; intro _ _) | refine zX ?_ | (refine zC ?_; intro _ _ _ _) | (refine zS ?_; intro _ _) | (apply Ws <;> intro hg))
  refine WC.loopX [(0, _), (1, _)] (fun k : Nat => [(5, .int .i64 (k : Int))]) [] (fun k H' => H' = H ∧ k ≤ xs.length ∧ ∀ j, j < k → xs.getD j 0 = ys.getD j 0) (fun k => xs.length - k) 0 (by repeat' (first | exact .nil | refine .cons rfl ?_)) rfl ⟨rfl, Nat.zero_le _, fun j h => absurd h (Nat.not_lt_zero _)⟩ ?_
  rintro k H' ⟨rfl, hk, hno⟩
  dsimp only [List.cons_append, List.nil_append]
  repeat' (first | refine zP ?_ | refine zA ?_ | (refine zM ?_; intro _ _) | refine zX ?_ | (refine zC ?_; intro _ _ _ _) | (refine zS ?_; intro _ _) | (apply Ws <;> intro hg))
  refine WC.condP rfl (fun hlt => ?_) (fun hlt => ?_)
  · have hk' : k < xs.length := by omega
    have hk2 : k < ys.length := by omega
    repeat' (first | refine zP ?_ | refine zA ?_ | (refine zM ?_; intro _ _) | refine zX ?_ | (refine zC ?_; intro _ _ _ _) | (refine zS ?_; intro _ _) | (apply Ws <;> intro hg))
    refine WC.condP rfl (fun hd => ?_) (fun hd => ?_)
    · repeat' (first | refine zP ?_ | refine zA ?_ | (refine zM ?_; intro _ _) | refine zX ?_ | (refine zC ?_; intro _ _ _ _) | (refine zS ?_; intro _ _) | (apply Ws <;> intro hg))
      exact Ends.ret1 rfl ⟨by rw [decide_eq_false (fun h => hd (by rw [h]))], rfl⟩
    · repeat' (first | refine zP ?_ | refine zA ?_ | (refine zM ?_; intro _ _) | refine zX ?_ | (refine zC ?_; intro _ _ _ _) | (refine zS ?_; intro _ _) | (apply Ws <;> intro hg))
      refine Ends.loop (k + 1) (by omega) (by repeat' (first | exact .nil | refine .cons rfl ?_)) rfl ⟨rfl, hk', fun j hj => ?_⟩
      rcases Nat.lt_or_ge j k with h | h
      · exact hno j h
      · have : j = k := by omega
        subst this; omega
  · repeat' (first | refine zP ?_ | refine zA ?_ | (refine zM ?_; intro _ _) | refine zX ?_ | (refine zC ?_; intro _ _ _ _) | (refine zS ?_; intro _ _) | (apply Ws <;> intro hg))
    exact Ends.ret1 rfl ⟨by rw [decide_eq_true (ext_getD (a := 0) hle fun i hi => hno i (by omega))], rfl⟩
end
end Go.Proofs.Ytblopbimchkneaa.Md

namespace Go.Proofs.Ytblopbimchkneaa.Md
open Go Go.Abs Go.Mth
set_option linter.unusedVariables false
set_option linter.unusedSimpArgs false
theorem path_next {N c : Nat} {o : List Int} : ∀ {l : List Nat} {b : Int}, PathF N o c b l → ∀ y ∈ l, NoNext N o c (y : Int) ∨ ∃ z ∈ l, NextIs N o c (y : Int) z
  | x :: l, b, .cons h k, y, hy => by
    rcases List.mem_cons.1 hy with rfl | hy
    · cases k with
      | nil h => exact .inl h
      | cons h' k' => exact .inr ⟨_, by simp, h'⟩
    · rcases path_next k y hy with h | ⟨z, hz, h⟩
      · exact .inl h
      · exact .inr ⟨z, by simp [hz], h⟩
theorem cnt_le {ns : List Nat} (hl : ns.length ≤ 8) (a : Nat) : cnt ns a ≤ 8 := by
  rw [cnt_to hl]; exact Nat.le_trans (cntTo_le ns a _) hl
/-- A path has all marks of its cast. -/
theorem path_all {ns : List Nat} {N c : Nat} {o : List Int} (hN : N ≤ 6) (hl : ns.length ≤ 8) (hh : honB N ns = true) (ho : OriginR N ns o) (hc : c ∈ ns) {l : List Nat} (hp : PathF N o c (-1) l) :
    ∀ (k x : Nat), (8 - cnt ns x) * 7 + x < k → x < N → c.testBit x = true → x ∈ l
  | 0, x, h, _, _ => absurd h (Nat.not_lt_zero _)
  | k + 1, x, h, hx, hb => by
    have hA := ho.2 x hx
    unfold AfterR at hA
    rw [if_neg (cnt_pos hl hc hb)] at hA
    rcases hA with ⟨hr, _⟩ | ⟨y, hr, hy, hf, _⟩
    · cases hp with
      | nil h => exact absurd ⟨hr, hb⟩ (h x hx)
      | @cons _ z l' h' k' =>
        have := org_one hl hh ho hc h'.1 hx h'.2.2.1 hb (by rw [hr, h'.2.1])
        rw [← this]; simp
    · have hyb := (fol_iff.1 hf).1 c hc hb
      obtain ⟨a1, a2⟩ := fol_cnt hl hf
      have b1 := cnt_le hl x
      have b2 := cnt_le hl y
      have hyl := path_all hN hl hh ho hc hp k y (by
        rcases Nat.lt_or_eq_of_le a1 with h1 | h1
        · omega
        · have := a2 h1; omega) hy hyb
      rcases path_next hp y hyl with h1 | ⟨z, hz, h1⟩
      · exact absurd ⟨hr, hb⟩ (h1 x hx)
      · have := org_one hl hh ho hc h1.1 hx h1.2.2.1 hb (by rw [hr, h1.2.1])
        rw [← this]; exact hz
theorem path_bit {N c : Nat} {o : List Int} : ∀ {l : List Nat} {b : Int}, PathF N o c b l → ∀ x ∈ l, c.testBit x = true
  | [], _, _, x, hx => by cases hx
  | y :: l, _, .cons h k, x, hx => by
    rcases List.mem_cons.1 hx with rfl | hx
    · exact h.2.2.1
    · exact path_bit k x hx
/-- Its marks, as bits, are the cast. -/
theorem path_mask {ns : List Nat} {N c : Nat} {o : List Int} (hN : N ≤ 6) (hl : ns.length ≤ 8) (hh : honB N ns = true) (ho : OriginR N ns o) (hb : ∀ x ∈ ns, x < 2 ^ N) (hc : c ∈ ns) {l : List Nat} (hp : PathF N o c (-1) l) : maskN l = c :=
  Nat.eq_of_testBit_eq fun i => by
    rw [Bool.eq_iff_iff, mask_bit]
    refine ⟨path_bit hp i, fun hi => ?_⟩
    have hiN : i < N := by
      rcases Nat.lt_or_ge i N with h | h
      · exact h
      · rw [Nat.testBit_lt_two_pow (Nat.lt_of_lt_of_le (hb c hc) (Nat.pow_le_pow_right (by omega) h))] at hi; cases hi
    exact path_all hN hl hh ho hc hp _ i (Nat.lt_succ_self _) hiN hi
/-- Each one arose after the one before. -/
theorem path_prev {N c : Nat} {o : List Int} : ∀ {l : List Nat} {b : Int}, PathF N o c b l → ∀ s, s < l.length → o.getD (l.getD s 0) 0 = if s = 0 then b else ((l.getD (s - 1) 0 : Nat) : Int)
  | x :: l, b, .cons h k, 0, _ => h.2.1
  | x :: l, b, .cons h k, s + 1, hs => by
    have := path_prev k s (by simpa using hs)
    rw [if_neg (by omega), Nat.add_sub_cancel]
    show o.getD (l.getD s 0) 0 = _
    rw [this]
    cases s with
    | zero => rfl
    | succ s => rw [if_neg (by omega), Nat.add_sub_cancel]; rfl
theorem path_nodup {ns : List Nat} {N c : Nat} {o : List Int} (ho : OriginR N ns o) : ∀ {l : List Nat} {b : Int}, PathF N o c b l → (∀ y : Nat, b = (y : Int) → ∀ x ∈ l, folB ns x y = true) ∧ l.Nodup
  | [], _, _ => ⟨fun _ _ x hx => (by cases hx), .nil⟩
  | x :: l, b, .cons h k => by
    obtain ⟨h1, h2⟩ := path_nodup ho k
    have h3 := h1 x rfl
    refine ⟨fun y hy z hz => ?_, List.nodup_cons.2 ⟨fun hx => ?_, h2⟩⟩
    · have hf := (org_fol ho h.1 (h.2.1.trans hy)).1
      rcases List.mem_cons.1 hz with rfl | hz
      · exact hf
      · exact fol_trans (h3 z hz) hf
    · have := h3 x hx
      rw [fol_irr] at this; cases this
end Go.Proofs.Ytblopbimchkneaa.Md

namespace Go.Proofs.Ytblopbimchkneaa.Md
open Go Go.Abs Go.Mth
set_option linter.unusedVariables false
set_option linter.unusedSimpArgs false
/-! Origins: the ways back, the casts that fit, all of them. -/
def posO (o : List Int) (x : Int) : Nat → Int
  | 0 => x
  | s + 1 => if posO o x s < 0 then posO o x s else o.getD (posO o x s).toNat 0
def okO (m : Nat) (o : List Int) : Prop := o.length = m ∧ ∀ i, i < m → -1 ≤ o.getD i 0 ∧ o.getD i 0 < (m : Int)
def acycB (m : Nat) (o : List Int) : Bool := (List.range m).all fun x => decide (posO o (x : Int) m < 0)
def pmO (o : List Int) (x : Int) : Nat → Nat
  | 0 => 0
  | s + 1 => if posO o x s < 0 then pmO o x s else pmO o x s ||| 2 ^ (posO o x s).toNat
def fitB (m : Nat) (o : List Int) (c : Nat) : Bool := decide (c = 0) || (List.range m).any fun a => decide (pmO o (a : Int) m = c)
def allB (m : Nat) (o : List Int) (ns : List Nat) : Bool := ns.all (fitB m o)
def anyS (P : List Int → Bool) (m : Nat) : Nat → List Int → Bool
  | 0, bg => acycB m bg && P bg
  | k + 1, bg => (List.range (m + 1)).any fun j => decide ((j : Int) - 1 ≠ (bg.length : Int)) && anyS P m k (bg ++ [(j : Int) - 1])
theorem acyc_iff {m : Nat} {o : List Int} : acycB m o = true ↔ ∀ x : Nat, x < m → posO o (x : Int) m < 0 := by
  unfold acycB
  rw [List.all_eq_true]
  simp only [List.mem_range, decide_eq_true_eq]
theorem pos_bd {m : Nat} {o : List Int} (h : okO m o) {x : Int} (h1 : -1 ≤ x) (h2 : x < m) : ∀ s, -1 ≤ posO o x s ∧ posO o x s < m
  | 0 => ⟨h1, h2⟩
  | s + 1 => by
    have ih := pos_bd h h1 h2 s
    unfold posO
    split
    · exact ih
    · exact h.2 _ (by omega)
theorem pos_stay {o : List Int} {x : Int} {s : Nat} (h : posO o x s < 0) : ∀ t, posO o x (s + t) = posO o x s
  | 0 => rfl
  | t + 1 => by
    show (if posO o x (s + t) < 0 then posO o x (s + t) else _) = _
    rw [pos_stay h t, if_pos h]
theorem pos_add (o : List Int) (x : Int) (s : Nat) : ∀ t, posO o x (s + t) = posO o (posO o x s) t
  | 0 => rfl
  | t + 1 => by
    show (if posO o x (s + t) < 0 then posO o x (s + t) else o.getD (posO o x (s + t)).toNat 0) = (if posO o (posO o x s) t < 0 then posO o (posO o x s) t else o.getD (posO o (posO o x s) t).toNat 0)
    rw [pos_add o x s t]
theorem pos_lt {o : List Int} {x : Int} {m s : Nat} (h : posO o x m < 0) (hs : 0 ≤ posO o x s) : s < m := by
  rcases Nat.lt_or_ge s m with h1 | h1
  · exact h1
  · have := pos_stay h (s - m)
    rw [show m + (s - m) = s by omega] at this
    omega
theorem pm_bit {o : List Int} {x : Int} {i : Nat} : ∀ s, (pmO o x s).testBit i = true ↔ ∃ t, t < s ∧ posO o x t = (i : Int)
  | 0 => by simp [pmO]
  | s + 1 => by
    have ih := pm_bit (o := o) (x := x) (i := i) s
    have hsp : (∃ t, t < s + 1 ∧ posO o x t = (i : Int)) ↔ (∃ t, t < s ∧ posO o x t = (i : Int)) ∨ posO o x s = (i : Int) := by
      constructor
      · rintro ⟨t, h1, h2⟩
        by_cases h : t = s
        · subst h; exact .inr h2
        · exact .inl ⟨t, by omega, h2⟩
      · rintro (⟨t, h1, h2⟩ | h)
        · exact ⟨t, by omega, h2⟩
        · exact ⟨s, by omega, h⟩
    rw [hsp]
    unfold pmO
    split
    · rw [ih]
      exact ⟨.inl, fun h => h.resolve_right (by omega)⟩
    · rw [Nat.testBit_or, Bool.or_eq_true, ih, Nat.testBit_two_pow, decide_eq_true_eq]
      have : ((posO o x s).toNat = i) ↔ posO o x s = (i : Int) := by omega
      rw [this]
theorem pm_done {o : List Int} {x : Int} {s : Nat} (h : posO o x s < 0) : ∀ t, pmO o x (s + t) = pmO o x s
  | 0 => rfl
  | t + 1 => by
    show (if posO o x (s + t) < 0 then pmO o x (s + t) else _) = _
    rw [pos_stay h t, if_pos h, pm_done h t]
theorem fit_iff {m : Nat} {o : List Int} {c : Nat} : fitB m o c = true ↔ c = 0 ∨ ∃ a, a < m ∧ pmO o (a : Int) m = c := by
  unfold fitB
  rw [Bool.or_eq_true, decide_eq_true_eq, List.any_eq_true]
  simp only [List.mem_range, decide_eq_true_eq]
/-- Casts that fit an origin have no two marks that clash. -/
theorem fit_hon {m : Nat} {o : List Int} {ns : List Nat} (ha : acycB m o = true) (hf : allB m o ns = true) : honB m ns = true := hon_iff.2 fun a b hab hb => by
  have hfit : ∀ c ∈ ns, ∀ i : Nat, c.testBit i = true → ∃ x : Nat, x < m ∧ pmO o (x : Int) m = c := fun c hc i hi => by
    rcases fit_iff.1 (List.all_eq_true.1 hf c hc) with h | h
    · rw [h] at hi; simp at hi
    · exact h
  have key : ∀ {c d : Nat} {u v : Nat} {x : Nat} {s t : Nat}, posO o (x : Int) s = (u : Int) → posO o (x : Int) t = (v : Int) → s ≤ t → d ∈ ns → d.testBit u = true → d.testBit v = true := fun {c d u v x s t} h1 h2 hst hd hu => by
    obtain ⟨y, hy, rfl⟩ := hfit d hd u hu
    obtain ⟨r, hr, hru⟩ := (pm_bit m).1 hu
    have hp : posO o (y : Int) (r + (t - s)) = (v : Int) := by
      rw [pos_add, hru, ← h1, ← pos_add, show s + (t - s) = t by omega, h2]
    exact (pm_bit m).2 ⟨_, pos_lt (acyc_iff.1 ha y hy) (by omega), hp⟩
  cases hc : clashB ns a b with
  | false => rfl
  | true =>
    exfalso
    obtain ⟨⟨c, hc1, c1, c2⟩, ⟨d, hd, d1, d2⟩, ⟨e, he, e1, e2⟩⟩ := clash_iff.1 hc
    obtain ⟨x, hx, rfl⟩ := hfit c hc1 a c1
    obtain ⟨s, hs, hsa⟩ := (pm_bit m).1 c1
    obtain ⟨t, ht, htb⟩ := (pm_bit m).1 c2
    rcases Nat.le_total s t with h | h
    · rw [key (c := 0) hsa htb h hd d1] at d2; cases d2
    · rw [key (c := 0) htb hsa h he e2] at e1; cases e1
theorem path_ex {ns : List Nat} {N : Nat} {o : List Int} (hl : ns.length ≤ 8) (hh : honB N ns = true) (ho : OriginR N ns o) {c : Nat} (hc : c ∈ ns) : ∀ (k : Nat) {l : List Nat} {b : Int}, N - l.length = k → PathP N o c l b → ∃ q, PathF N o c (-1) q
  | k, l, b, hk, hp => by
    by_cases h : ∃ y, y < N ∧ o.getD y 0 = b ∧ c.testBit y = true
    · obtain ⟨y, h1, h2, h3⟩ := h
      have hn : NextIs N o c b y := ⟨h1, h2, h3, fun z hz ⟨g1, g2⟩ => by
        have := org_one hl hh ho hc (show z < N by omega) h1 g2 h3 (by rw [g1, h2])
        omega⟩
      have hp2 := hp.snoc hn
      have := hp2.len ho
      rw [List.length_append, List.length_singleton] at this
      match k, hk with
      | 0, hk => omega
      | k + 1, hk => exact path_ex hl hh ho hc k (by simp; omega) hp2
    · exact ⟨l ++ [], hp.done (.nil fun y hy ⟨g1, g2⟩ => h ⟨y, hy, g1, g2⟩)⟩
theorem path_pos {N c : Nat} {o : List Int} {l : List Nat} (hp : PathF N o c (-1) l) {i : Nat} (hi : i < l.length) : (∀ t, t ≤ i → posO o ((l.getD i 0 : Nat) : Int) t = ((l.getD (i - t) 0 : Nat) : Int)) ∧ posO o ((l.getD i 0 : Nat) : Int) (i + 1) = -1 := by
  have h1 : ∀ t, t ≤ i → posO o ((l.getD i 0 : Nat) : Int) t = ((l.getD (i - t) 0 : Nat) : Int) := by
    intro t
    induction t with
    | zero => intro _; rfl
    | succ t ih =>
      intro ht
      have := ih (by omega)
      unfold posO
      rw [this, if_neg (by omega), Int.toNat_natCast, path_prev hp _ (by omega), if_neg (by omega), show i - t - 1 = i - (t + 1) by omega]
  refine ⟨h1, ?_⟩
  have := h1 i (Nat.le_refl _)
  unfold posO
  rw [this, if_neg (by omega), Int.toNat_natCast, path_prev hp _ (by omega), if_pos (by omega)]
/-- The origin of honest casts is one, and all casts fit it. -/
theorem org_fits {ns : List Nat} {N : Nat} {o : List Int} (hN1 : 1 ≤ N) (hN : N ≤ 6) (hl : ns.length ≤ 8) (hh : honB N ns = true) (ho : OriginR N ns o) (hb : ∀ x ∈ ns, x < 2 ^ N) :
    okO N o ∧ acycB N o = true ∧ allB N o ns = true ∧ ∀ i, i < N → o.getD i 0 ≠ (i : Int) := by
  have hlen : ∀ {c : Nat} {l : List Nat}, PathF N o c (-1) l → l.length ≤ N := fun {c l} hp => nodup_le N l (path_nodup ho hp).2 fun y hy => by
    obtain ⟨i, hi, rfl⟩ := List.mem_iff_getElem.1 hy
    exact path_lt hp _ hy
  refine ⟨⟨ho.1, fun i hi => ?_⟩, acyc_iff.2 fun x hx => ?_, List.all_eq_true.2 fun c hc => fit_iff.2 ?_, fun i hi he => ?_⟩
  · have hA := ho.2 i hi
    unfold AfterR at hA
    split at hA
    · omega
    · rcases hA with ⟨h1, _⟩ | ⟨z, hz, h1, _⟩ <;> omega
  · by_cases h : ∃ c ∈ ns, c.testBit x = true
    · obtain ⟨c, hc, hx1⟩ := h
      obtain ⟨l, hp⟩ := path_ex hl hh ho hc N (l := []) (by simp) .nil
      have hm := path_mask hN hl hh ho hb hc hp
      have hxl : x ∈ l := by rw [← mask_bit, hm]; exact hx1
      obtain ⟨i, hi, rfl⟩ := List.mem_iff_getElem.1 hxl
      have h2 := (path_pos hp hi).2
      rw [getD_eq hi] at h2
      have h3 := hlen hp
      have := pos_stay (o := o) (x := (l[i] : Nat)) (s := i + 1) (by omega) (N - (i + 1))
      rw [show i + 1 + (N - (i + 1)) = N by omega] at this
      omega
    · have hz : cnt ns x = 0 := by
        rw [cnt_to hl, cntTo, List.length_eq_zero_iff, List.filter_eq_nil_iff]
        intro i hi hb2
        exact h ⟨_, getD_mem (List.mem_range.1 hi), hb2⟩
      have hA := ho.2 x hx
      rw [AfterR, if_pos hz] at hA
      have h1 : posO o (x : Int) 1 = -1 := by
        show (if ((x : Nat) : Int) < 0 then _ else o.getD (x : Int).toNat 0) = -1
        rw [if_neg (by omega), Int.toNat_natCast, hA]
      have := pos_stay (o := o) (x := (x : Int)) (s := 1) (by omega) (N - 1)
      rw [show 1 + (N - 1) = N by omega] at this
      omega
  · obtain ⟨l, hp⟩ := path_ex hl hh ho hc N (l := []) (by simp) .nil
    have hm := path_mask hN hl hh ho hb hc hp
    by_cases h0 : l.length = 0
    · left
      rw [List.length_eq_zero_iff.1 h0] at hm
      exact hm.symm
    · right
      have hi : l.length - 1 < l.length := by omega
      obtain ⟨h1, h2⟩ := path_pos hp hi
      have h3 := hlen hp
      refine ⟨l.getD (l.length - 1) 0, path_lt hp _ (getD_mem hi), ?_⟩
      rw [← hm]
      refine Nat.eq_of_testBit_eq fun j => ?_
      rw [Bool.eq_iff_iff, pm_bit, mask_bit]
      constructor
      · rintro ⟨t, ht, h4⟩
        have htl : t < l.length - 1 + 1 := pos_lt (by rw [h2]; omega) (by rw [h4]; omega)
        rw [h1 t (by omega)] at h4
        rw [← Int.ofNat.inj h4]
        exact getD_mem (by omega)
      · intro hj
        obtain ⟨i, hi2, rfl⟩ := List.mem_iff_getElem.1 hj
        refine ⟨l.length - 1 - i, by omega, ?_⟩
        rw [h1 _ (by omega), show l.length - 1 - (l.length - 1 - i) = i by omega, getD_eq hi2]
  · have := (org_fol ho hi he).1
    rw [fol_irr] at this; cases this
/-- What is found is one. -/
theorem any_sound {P : List Int → Bool} {m : Nat} : ∀ {k : Nat} {bg : List Int}, anyS P m k bg = true → ∃ o, acycB m o = true ∧ P o = true
  | 0, bg, h => by
    unfold anyS at h
    rw [Bool.and_eq_true] at h
    exact ⟨bg, h⟩
  | k + 1, bg, h => by
    unfold anyS at h
    obtain ⟨j, _, hj⟩ := List.any_eq_true.1 h
    rw [Bool.and_eq_true] at hj
    exact any_sound hj.2
/-- Each one is tried. -/
theorem any_found {P : List Int → Bool} {m : Nat} {o : List Int} (hok : okO m o) (ha : acycB m o = true) (hn : ∀ i, i < m → o.getD i 0 ≠ (i : Int)) (hP : P o = true) : ∀ k, k ≤ m → anyS P m k (o.take (m - k)) = true
  | 0, _ => by
    rw [Nat.sub_zero, List.take_of_length_le (by rw [hok.1]; omega)]
    unfold anyS
    rw [ha, hP]; rfl
  | k + 1, hk => by
    have ih := any_found hok ha hn hP k (by omega)
    have hi : m - (k + 1) < o.length := by rw [hok.1]; omega
    have hb := hok.2 (m - (k + 1)) (by omega)
    have hne := hn (m - (k + 1)) (by omega)
    unfold anyS
    refine List.any_eq_true.2 ⟨(o.getD (m - (k + 1)) 0 + 1).toNat, List.mem_range.2 (by omega), ?_⟩
    rw [show (((o.getD (m - (k + 1)) 0 + 1).toNat : Nat) : Int) - 1 = o.getD (m - (k + 1)) 0 by omega, Bool.and_eq_true, decide_eq_true_eq]
    refine ⟨by rw [List.length_take, Nat.min_eq_left (by omega)]; exact hne, ?_⟩
    rw [getD_eq hi, ← List.take_succ_eq_append_getElem hi, show m - (k + 1) + 1 = m - k by omega]
    exact ih
/-- There is an origin that all casts fit just if they are honest. -/
theorem once {ns : List Nat} {N : Nat} {o : List Int} (hN1 : 1 ≤ N) (hN : N ≤ 6) (hl : ns.length ≤ 8) (hb : ∀ x ∈ ns, x < 2 ^ N) (ho : honB N ns = true → OriginR N ns o) : anyS (fun q => allB N q ns) N N [] = honB N ns := by
  rw [Bool.eq_iff_iff]
  constructor
  · intro h
    obtain ⟨q, h1, h2⟩ := any_sound h
    exact fit_hon h1 h2
  · intro h
    obtain ⟨h1, h2, h3, h4⟩ := org_fits hN1 hN hl h (ho h) hb
    have := any_found (P := fun q => allB N q ns) h1 h2 h4 h3 N (Nat.le_refl _)
    rwa [Nat.sub_self, List.take_zero] at this
theorem own_found {ns : List Nat} {N : Nat} {o : List Int} (hN1 : 1 ≤ N) (hN : N ≤ 6) (hl : ns.length ≤ 8) (hb : ∀ x ∈ ns, x < 2 ^ N) (hh : honB N ns = true) (ho : OriginR N ns o) : anyS (fun q => decide (o = q) && allB N q ns) N N [] = true := by
  obtain ⟨h1, h2, h3, h4⟩ := org_fits hN1 hN hl hh ho hb
  have := any_found (P := fun q => decide (o = q) && allB N q ns) h1 h2 h4 (by simp [h3]) N (Nat.le_refl _)
  rwa [Nat.sub_self, List.take_zero] at this
end Go.Proofs.Ytblopbimchkneaa.Md

namespace Go.Proofs.Ytblopbimchkneaa.Md
open Go Go.Abs Go.Mth
set_option linter.unusedVariables false
set_option linter.unusedSimpArgs false
theorem pm_lt {m : Nat} {o : List Int} (h : okO m o) {x : Int} (h1 : -1 ≤ x) (h2 : x < m) : ∀ s, pmO o x s < 2 ^ m
  | 0 => Nat.two_pow_pos m
  | s + 1 => by
    have hp := pos_bd h h1 h2 s
    unfold pmO
    split
    · exact pm_lt h h1 h2 s
    · exact Nat.or_lt_two_pow (pm_lt h h1 h2 s) (Nat.pow_lt_pow_right (by omega) (by omega))
theorem pos_succ {o : List Int} {x : Int} {s : Nat} (h : ¬ posO o x s < 0) : posO o x (s + 1) = o.getD (posO o x s).toNat 0 := by
  show (if _ then _ else _) = _
  rw [if_neg h]
theorem pm_succ {o : List Int} {x : Int} {s : Nat} (h : ¬ posO o x s < 0) : pmO o x (s + 1) = pmO o x s ||| 2 ^ (posO o x s).toNat := by
  show (if _ then _ else _) = _
  rw [if_neg h]
def fitTo (m : Nat) (o : List Int) (c k : Nat) : Bool := (List.range k).any fun a => decide (pmO o (a : Int) m = c)
theorem fitTo_succ (m : Nat) (o : List Int) (c k : Nat) : fitTo m o c (k + 1) = (fitTo m o c k || decide (pmO o (k : Int) m = c)) := by simp [fitTo, List.range_succ]
attribute [local irreducible] gOK WS WC WR WD Ends FS YS OpV seqK blockK loopK midK retK rdK asgK rangeEnd sat Cell
section
variable {M : HL} {n0 : Nat} {H : Heap} {v w : Value} {o : List Int} {ns : List Nat} {N : Nat}
theorem fits_fs (hH : hasH M n0 H) (hS : Sl M 1 v (ints o)) (hok : okO N o) (ha : acycB N o = true) (hN : N ≤ 6) {c : Nat} (hc : c < 2 ^ 62) :
    FS C 81 [v, .int .i64 (c : Int)] H (fun e H' => e = .bool (fitB N o c) ∧ H' = H) := by
  have hol := hok.1
  refine FS.intro (pf := pf81) rfl rfl rfl ?_
  by_cases h0 : c = 0
  · have : fitB N o c = true := fit_iff.2 (.inl h0)
    rw [this]
    repeat' (first | refine zP ?_ | refine zA ?_ | (refine zM ?_; intro _ _) | refine zX ?_ | (refine zC ?_; intro _ _ _ _) | (refine zS ?_; intro _ _) | refine zO ?_ | (apply Ws <;> intro hg))
    exact Ends.ret1 rfl ⟨rfl, rfl⟩
  have hF : fitB N o c = fitTo N o c N := by unfold fitB fitTo; rw [decide_eq_false h0, Bool.false_or]
  rw [hF]
  repeat' (first | refine zP ?_ | refine zA ?_ | (refine zM ?_; intro _ _) | refine zX ?_ | (refine zC ?_; intro _ _ _ _) | (refine zS ?_; intro _ _) | refine zO ?_ | (apply Ws <;> intro hg))
  refine WC.loopX [(0, _), (1, _), (11, _)] (fun s : Nat => [(12, .int .i64 (s : Int))]) [] (fun s H' => H' = H ∧ s ≤ N ∧ fitTo N o c s = false) (fun s => N - s) 0 (by repeat' (first | exact .nil | refine .cons rfl ?_)) rfl ⟨rfl, Nat.zero_le _, rfl⟩ ?_
  rintro x H1 ⟨rfl, hx, hfx⟩
  dsimp only [List.cons_append, List.nil_append]
  repeat' (first | refine zP ?_ | refine zA ?_ | (refine zM ?_; intro _ _) | refine zX ?_ | (refine zC ?_; intro _ _ _ _) | (refine zS ?_; intro _ _) | (apply Ws <;> intro hg))
  refine WC.condP rfl (fun hlt => ?_) (fun hlt => ?_)
  · have hx' : x < N := by omega
    have hpm := pm_lt hok (x := (x : Int)) (by omega) (by omega)
    have hbd := pos_bd hok (x := (x : Int)) (by omega) (by omega)
    have hend := acyc_iff.1 ha x hx'
    have hp64 : 2 ^ N ≤ 64 := pow_64 hN
    repeat' (first | refine zP ?_ | refine zA ?_ | (refine zM ?_; intro _ _) | refine zX ?_ | (refine zC ?_; intro _ _ _ _) | (refine zS ?_; intro _ _) | (apply Ws <;> intro hg))
    refine WC.loopX [(0, _), (1, _), (5, _), (11, _), (12, _)] (fun s : Nat => [(6, .int .i64 (pmO o (x : Int) s : Int)), (7, .int .i64 (posO o (x : Int) s))]) [] (fun s H' => H' = H1 ∧ s ≤ N) (fun s => N - s) 0 (by repeat' (first | exact .nil | refine .cons rfl ?_)) rfl ⟨rfl, Nat.zero_le _⟩ ?_
    rintro s H2 ⟨rfl, hs⟩
    have hb := hbd s
    have hp := hpm s
    dsimp only [List.cons_append, List.nil_append]
    repeat' (first | refine zP ?_ | refine zA ?_ | (refine zM ?_; intro _ _) | refine zX ?_ | (refine zC ?_; intro _ _ _ _) | (refine zS ?_; intro _ _) | (apply Ws <;> intro hg))
    refine WC.condP rfl (fun hlt2 => ?_) (fun hlt2 => ?_)
    · have hn : ¬ posO o (x : Int) s < 0 := by omega
      have hsN := pos_lt hend (show 0 ≤ posO o (x : Int) s by omega)
      have e1 := pos_succ hn
      have e2 := pm_succ hn
      obtain ⟨p, hpp⟩ : ∃ p : Nat, posO o (x : Int) s = p := ⟨(posO o (x : Int) s).toNat, by omega⟩
      rw [hpp, Int.toNat_natCast] at e1 e2
      rw [hpp] at hb ⊢
      have hpN : p < N := by omega
      repeat' (first | refine zP ?_ | refine zA ?_ | (refine zM ?_; intro _ _) | refine zX ?_ | (refine zC ?_; intro _ _ _ _) | (refine zS ?_; intro _ _) | (apply Ws <;> intro hg))
      refine WR.op (by first | exact gN | exact gS rfl) rfl (OpV.shl1 rfl rfl (by show p ≤ 64; omega) (pow_lt_63 (by omega))) ?_
      refine WR.op (by first | exact gN | exact gS rfl) rfl (OpV.orN rfl rfl (by show _ < 2 ^ 63; omega) (by show 2 ^ p < 2 ^ 63; exact pow_lt_63 (by omega))) ?_
      rw [← e2]
      repeat' (first | refine zP ?_ | refine zA ?_ | (refine zM ?_; intro _ _) | refine zX ?_ | (refine zC ?_; intro _ _ _ _) | (refine zS ?_; intro _ _) | (apply Ws <;> intro hg))
      rw [← e1]
      exact Ends.loop (s + 1) (by omega) (by repeat' (first | exact .nil | refine .cons rfl ?_)) rfl ⟨rfl, by omega⟩
    · have hneg : posO o (x : Int) s < 0 := by omega
      have hfin : pmO o (x : Int) N = pmO o (x : Int) s := by
        have := pm_done hneg (N - s)
        rwa [show s + (N - s) = N by omega] at this
      rw [← hfin]
      have hsu := fitTo_succ N o c x
      repeat' (first | refine zP ?_ | refine zA ?_ | (refine zM ?_; intro _ _) | refine zX ?_ | (refine zC ?_; intro _ _ _ _) | (refine zS ?_; intro _ _) | (apply Ws <;> intro hg))
      refine WC.condP rfl (fun he => ?_) (fun he => ?_)
      · have hc2 : pmO o (x : Int) N = c := by omega
        have : fitTo N o c N = true := List.any_eq_true.2 ⟨x, List.mem_range.2 hx', decide_eq_true hc2⟩
        rw [this]
        repeat' (first | refine zP ?_ | refine zA ?_ | (refine zM ?_; intro _ _) | refine zX ?_ | (refine zC ?_; intro _ _ _ _) | (refine zS ?_; intro _ _) | (apply Ws <;> intro hg))
        exact Ends.ret1 rfl ⟨rfl, rfl⟩
      · have hc2 : ¬ pmO o (x : Int) N = c := by omega
        rw [decide_eq_false hc2, hfx] at hsu
        repeat' (first | refine zP ?_ | refine zA ?_ | (refine zM ?_; intro _ _) | refine zX ?_ | (refine zC ?_; intro _ _ _ _) | (refine zS ?_; intro _ _) | (apply Ws <;> intro hg))
        exact Ends.loop (x + 1) (by omega) (by repeat' (first | exact .nil | refine .cons rfl ?_)) rfl ⟨rfl, hx', hsu⟩
  have hxN : N = x := by omega
  subst hxN
  rw [hfx]
  repeat' (first | refine zP ?_ | refine zA ?_ | (refine zM ?_; intro _ _) | refine zX ?_ | (refine zC ?_; intro _ _ _ _) | (refine zS ?_; intro _ _) | (apply Ws <;> intro hg))
  exact Ends.ret1 rfl ⟨rfl, rfl⟩
theorem allD_fs {b : Nat} (hH : hasH M n0 H) (hm : (b, Ch.row 22 0 0 [v]) ∈ M) (hS : Sl M 1 v (ints o)) (hok : okO N o) (ha : acycB N o = true) (hN : N ≤ 6) {c : Nat} (hc : c < 2 ^ 62) :
    FS C 80 [.int .i64 (c : Int), .pointer (some ⟨b, 0, some 0⟩)] H (fun e H' => e = .bool (!fitB N o c) ∧ H' = H) := by
  refine FS.intro (pf := pf80) rfl rfl rfl ?_
  repeat' (first | refine zP ?_ | refine zA ?_ | (refine zM ?_; intro _ _) | refine zX ?_ | (refine zC ?_; intro _ _ _ _) | (refine zS ?_; intro _ _) | (apply Ws <;> intro hg))
  refine WR.call (by first | exact gN | exact gS rfl) rfl rfl (fits_fs hH hS hok ha hN hc) ?_
  rintro _ _ ⟨rfl, rfl⟩
  repeat' (first | refine zP ?_ | refine zA ?_ | (refine zM ?_; intro _ _) | refine zX ?_ | (refine zC ?_; intro _ _ _ _) | (refine zS ?_; intro _ _) | (apply Ws <;> intro hg))
  exact Ends.ret1 rfl ⟨rfl, rfl⟩
theorem IndexFunc_fs {g : FuncId} {vb : List Value} {P : Nat → Bool} (hH : hasH M n0 H) (hS : Sl M 1 v (nodes ns)) (hl : ns.length ≤ 1000)
    (hy : ∀ c ∈ ns, FS C g ([] ++ [.int .i64 (c : Int)] ++ vb) H (fun e H' => e = .bool (P c) ∧ H' = H)) :
    FS C 91 [v, .func (.func g) [].toArray vb.toArray] H (fun e H' => (∃ r : Int, e = .int .i64 r ∧ (0 ≤ r ↔ ns.any P = true)) ∧ H' = H) := by
  refine FS.intro (pf := pf91) rfl rfl rfl ?_
  repeat' (first | refine zP ?_ | refine zA ?_ | (refine zM ?_; intro _ _) | refine zX ?_ | (refine zC ?_; intro _ _ _ _) | (refine zS ?_; intro _ _) | (apply Ws <;> intro hg))
  refine WC.loopX [(0, _), (1, _), (7, _)] (fun s : Nat => [(8, .int .i64 (s : Int))]) [] (fun s H' => H' = H ∧ s ≤ ns.length ∧ ∀ i, i < s → P (ns.getD i 0) = false) (fun s => ns.length - s) 0 (by repeat' (first | exact .nil | refine .cons rfl ?_)) rfl ⟨rfl, Nat.zero_le _, fun i h => absurd h (Nat.not_lt_zero _)⟩ ?_
  rintro s _ ⟨rfl, hs, hno⟩
  dsimp only [List.cons_append, List.nil_append]
  repeat' (first | refine zP ?_ | refine zA ?_ | (refine zM ?_; intro _ _) | refine zX ?_ | (refine zC ?_; intro _ _ _ _) | (refine zS ?_; intro _ _) | (apply Ws <;> intro hg))
  refine WC.condP rfl (fun hlt => ?_) (fun hlt => ?_)
  · have hs' : s < ns.length := by omega
    repeat' (first | refine zP ?_ | refine zA ?_ | (refine zM ?_; intro _ _) | refine zX ?_ | (refine zC ?_; intro _ _ _ _) | (refine zS ?_; intro _ _) | (apply Ws <;> intro hg))
    refine WR.callV (by first | exact gN | exact gS rfl) rfl rfl rfl (hy _ (getD_mem hs')) ?_
    rintro _ _ ⟨rfl, rfl⟩
    cases hP : P (ns.getD s 0) with
    | true =>
      repeat' (first | refine zP ?_ | refine zA ?_ | (refine zM ?_; intro _ _) | refine zX ?_ | (refine zC ?_; intro _ _ _ _) | (refine zS ?_; intro _ _) | (apply Ws <;> intro hg))
      refine Ends.ret1 rfl ⟨⟨_, rfl, ?_⟩, rfl⟩
      exact ⟨fun _ => List.any_eq_true.2 ⟨_, getD_mem hs', hP⟩, fun _ => by omega⟩
    | false =>
      repeat' (first | refine zP ?_ | refine zA ?_ | (refine zM ?_; intro _ _) | refine zX ?_ | (refine zC ?_; intro _ _ _ _) | (refine zS ?_; intro _ _) | (apply Ws <;> intro hg))
      refine Ends.loop (s + 1) (by omega) (by repeat' (first | exact .nil | refine .cons rfl ?_)) rfl ⟨rfl, hs', fun i hi => ?_⟩
      by_cases h : i = s
      · rw [h]; exact hP
      · exact hno i (by omega)
  have hsl : ns.length = s := by omega
  subst hsl
  repeat' (first | refine zP ?_ | refine zA ?_ | (refine zM ?_; intro _ _) | refine zX ?_ | (refine zC ?_; intro _ _ _ _) | (refine zS ?_; intro _ _) | (apply Ws <;> intro hg))
  refine Ends.ret1 rfl ⟨⟨_, rfl, ?_⟩, rfl⟩
  refine ⟨fun h => absurd h (by decide), fun h => ?_⟩
  obtain ⟨x, hx, hx2⟩ := List.any_eq_true.1 h
  obtain ⟨i, hi, rfl⟩ := List.mem_iff_getElem.1 hx
  have := hno i hi
  rw [getD_eq hi, hx2] at this
  cases this
theorem all_fs (hH : hasH M n0 H) (hS : Sl M 1 v (ints o)) (hU : Sl M 1 w (nodes ns)) (hl : ns.length ≤ 8) (hok : okO N o) (ha : acycB N o = true) (hN : N ≤ 6) (hb : ∀ x ∈ ns, x < 2 ^ 62) :
    FS C 39 [v, w] H (fun e H' => e = .bool (allB N o ns) ∧ ∃ n', n0 ≤ n' ∧ hasH M n' H') := by
  have hv1 := hS.one_
  refine FS.intro (pf := pf39) rfl rfl rfl ?_
  repeat' (first | refine zP ?_ | refine zA ?_ | (refine zM ?_; intro _ _) | refine zX ?_ | (refine zC ?_; intro _ _ _ _) | (refine zS ?_; intro _ _) | (apply Ws <;> intro hg))
  refine WR.box1 (by first | exact gN | exact gS rfl) rfl hH rfl hv1 fun H1 hH1 => ?_
  have hS1 := hS.cons (p := (n0, Ch.row 22 0 0 [v]))
  have hU1 := hU.cons (p := (n0, Ch.row 22 0 0 [v]))
  have hm : (n0, Ch.row 22 0 0 [v]) ∈ (n0, Ch.row 22 0 0 [v]) :: M := .head _
  repeat' (first | refine zP ?_ | refine zA ?_ | (refine zM ?_; intro _ _) | refine zX ?_ | (refine zC ?_; intro _ _ _ _) | (refine zS ?_; intro _ _) | (apply Ws <;> intro hg))
  refine WR.call (by first | exact gN | exact gS rfl) rfl rfl (R := fun e H' => e = .bool (ns.any fun c => !fitB N o c) ∧ H' = H1) ?_ ?_
  · refine FS.intro (pf := pf79) rfl rfl rfl ?_
    repeat' (first | refine zP ?_ | refine zA ?_ | (refine zM ?_; intro _ _) | refine zX ?_ | (refine zC ?_; intro _ _ _ _) | (refine zS ?_; intro _ _) | (apply Ws <;> intro hg))
    refine WR.call (by first | exact gN | exact gS rfl) rfl rfl (IndexFunc_fs (P := fun c => !fitB N o c) hH1 hU1 (by omega) (fun c hc => allD_fs hH1 hm hS1 hok ha hN (hb c hc))) ?_
    rintro _ _ ⟨⟨r, rfl, hr⟩, rfl⟩
    repeat' (first | refine zP ?_ | refine zA ?_ | (refine zM ?_; intro _ _) | refine zX ?_ | (refine zC ?_; intro _ _ _ _) | (refine zS ?_; intro _ _) | (apply Ws <;> intro hg))
    refine Ends.ret1 rfl ⟨?_, rfl⟩
    congr 1
    rw [Bool.eq_iff_iff, decide_eq_true_eq, ← hr]
  rintro _ _ ⟨rfl, rfl⟩
  repeat' (first | refine zP ?_ | refine zA ?_ | (refine zM ?_; intro _ _) | refine zX ?_ | (refine zC ?_; intro _ _ _ _) | (refine zS ?_; intro _ _) | (apply Ws <;> intro hg))
  refine Ends.ret1 rfl ⟨?_, _, by omega, hH1.tail⟩
  congr 1
  unfold allB
  rw [List.not_any_eq_all_not]
  simp
end
end Go.Proofs.Ytblopbimchkneaa.Md
