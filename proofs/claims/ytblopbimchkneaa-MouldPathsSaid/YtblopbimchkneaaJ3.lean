/- Texts of the law, joined. -/
import Derived.Test.YtblopbimchkneaaJ2
import Derived.Test.YtblopbimchkneaaSymG
import Derived.Test.YtblopbimchkneaaJ1
import Derived.Test.YtblopbimchkneaaSymK
namespace Go.Proofs.Ytblopbimchkneaa.Md
open Go Go.Abs Go.Mth
set_option linter.unusedVariables false
set_option linter.unusedSimpArgs false
theorem u64k : C.c.P.underlying 102 = some (.int .u64) := by kernel_rfl
/-! How many bits are 1. -/
def pc1 (x : Nat) : Nat := ((x >>> 1) &&& 6148914691236517205) + (x &&& 6148914691236517205)
def pc2 (x : Nat) : Nat := ((x >>> 2) &&& 3689348814741910323) + (x &&& 3689348814741910323)
def pc3 (x : Nat) : Nat := ((x >>> 4) + x) &&& 1085102592571150095
def pcS (k x : Nat) : Nat := x + (x >>> k)
def pcA (x : Nat) : Nat := pcS 32 (pcS 16 (pcS 8 (pc3 (pc2 (pc1 x))))) &&& 127
theorem pop_ok : ∀ x, x < 256 → pcA x = (bitsL x 8).length := by decide +kernel
attribute [local irreducible] gOK WS WC WR WD Ends FS YS OpV seqK blockK loopK midK retK rdK asgK rangeEnd sat Cell
theorem pop_fs {x : Nat} (hx : x < 256) (H : Heap) : FS C 99 [.int .u64 (x : Int)] H (fun e H' => e = .int .i64 ((bitsL x 8).length : Int) ∧ H' = H) := by
  have hsh : ∀ a k : Nat, a >>> k ≤ a := fun a k => Nat.shiftRight_le a k
  have hand : ∀ a b : Nat, a &&& b ≤ a := fun a b => Nat.and_le_left
  refine FS.intro (pf := pf99) rfl rfl rfl ?_
  repeat' (first | refine zP ?_ | refine zA ?_ | (refine zM ?_; intro _ _) | refine zX ?_ | (refine zC ?_; intro _ _ _ _) | (refine zS ?_; intro _ _) | (apply Ws <;> intro hg))
  refine WR.op (by first | exact gN | exact gS rfl) rfl (OpV.shrN (m := 1) rfl rfl (by decide)) ?_
  refine WR.op (by first | exact gN | exact gS rfl) rfl (OpV.andN (b := 6148914691236517205) rfl rfl (by show x >>> 1 < 2 ^ 64; have := hsh x 1; omega) (by decide)) ?_
  repeat' (first | refine zP ?_ | refine zA ?_ | (refine zM ?_; intro _ _) | refine zX ?_ | (refine zC ?_; intro _ _ _ _) | (refine zS ?_; intro _ _) | (apply Ws <;> intro hg))
  refine WR.op (by first | exact gN | exact gS rfl) rfl (OpV.andN (b := 6148914691236517205) rfl rfl (by show x < 2 ^ 64; omega) (by decide)) ?_
  refine WR.op (by first | exact gN | exact gS rfl) rfl (OpV.addN rfl rfl (by show _ < 2 ^ 64; have := hsh x 1; have := hand (x >>> 1) 6148914691236517205; have := hand x 6148914691236517205; omega)) ?_
  have b1 : pc1 x < 512 := by unfold pc1; have := hsh x 1; have := hand (x >>> 1) 6148914691236517205; have := hand x 6148914691236517205; omega
  have e0 := pop_ok x hx
  rw [show ((x >>> 1) &&& 6148914691236517205) + (x &&& 6148914691236517205) = pc1 x from rfl]
  unfold pcA at e0
  obtain ⟨y, hy⟩ : ∃ y, pc1 x = y := ⟨_, rfl⟩
  rw [hy] at b1 e0 ⊢
  repeat' (first | refine zP ?_ | refine zA ?_ | (refine zM ?_; intro _ _) | refine zX ?_ | (refine zC ?_; intro _ _ _ _) | (refine zS ?_; intro _ _) | (apply Ws <;> intro hg))
  refine WR.op (by first | exact gN | exact gS rfl) rfl (OpV.shrN (m := 2) rfl rfl (by decide)) ?_
  refine WR.op (by first | exact gN | exact gS rfl) rfl (OpV.andN (b := 3689348814741910323) rfl rfl (by show y >>> 2 < 2 ^ 64; have := hsh y 2; omega) (by decide)) ?_
  repeat' (first | refine zP ?_ | refine zA ?_ | (refine zM ?_; intro _ _) | refine zX ?_ | (refine zC ?_; intro _ _ _ _) | (refine zS ?_; intro _ _) | (apply Ws <;> intro hg))
  refine WR.op (by first | exact gN | exact gS rfl) rfl (OpV.andN (b := 3689348814741910323) rfl rfl (by show y < 2 ^ 64; omega) (by decide)) ?_
  refine WR.op (by first | exact gN | exact gS rfl) rfl (OpV.addN rfl rfl (by show _ < 2 ^ 64; have := hsh y 2; have := hand (y >>> 2) 3689348814741910323; have := hand y 3689348814741910323; omega)) ?_
  have b2 : pc2 y < 1024 := by unfold pc2; have := hsh y 2; have := hand (y >>> 2) 3689348814741910323; have := hand y 3689348814741910323; omega
  rw [show ((y >>> 2) &&& 3689348814741910323) + (y &&& 3689348814741910323) = pc2 y from rfl]
  obtain ⟨z, hz⟩ : ∃ z, pc2 y = z := ⟨_, rfl⟩
  rw [hz] at b2 e0 ⊢
  repeat' (first | refine zP ?_ | refine zA ?_ | (refine zM ?_; intro _ _) | refine zX ?_ | (refine zC ?_; intro _ _ _ _) | (refine zS ?_; intro _ _) | (apply Ws <;> intro hg))
  refine WR.op (by first | exact gN | exact gS rfl) rfl (OpV.shrN (m := 4) rfl rfl (by decide)) ?_
  repeat' (first | refine zP ?_ | refine zA ?_ | (refine zM ?_; intro _ _) | refine zX ?_ | (refine zC ?_; intro _ _ _ _) | (refine zS ?_; intro _ _) | (apply Ws <;> intro hg))
  refine WR.op (by first | exact gN | exact gS rfl) rfl (OpV.addN rfl rfl (by show _ < 2 ^ 64; have := hsh z 4; omega)) ?_
  refine WR.op (by first | exact gN | exact gS rfl) rfl (OpV.andN (b := 1085102592571150095) rfl rfl (by show _ < 2 ^ 64; have := hsh z 4; omega) (by decide)) ?_
  have b3 : pc3 z < 2048 := by unfold pc3; have := hsh z 4; have := hand (z >>> 4 + z) 1085102592571150095; omega
  rw [show ((z >>> 4) + z) &&& 1085102592571150095 = pc3 z from rfl]
  obtain ⟨w, hw⟩ : ∃ w, pc3 z = w := ⟨_, rfl⟩
  rw [hw] at b3 e0 ⊢
  repeat' (first | refine zP ?_ | refine zA ?_ | (refine zM ?_; intro _ _) | refine zX ?_ | (refine zC ?_; intro _ _ _ _) | (refine zS ?_; intro _ _) | (apply Ws <;> intro hg))
  refine WR.op (by first | exact gN | exact gS rfl) rfl (OpV.shrN (m := 8) rfl rfl (by decide)) ?_
  refine WR.op (by first | exact gN | exact gS rfl) rfl (OpV.addN rfl rfl (by show _ < 2 ^ 64; have := hsh w 8; omega)) ?_
  have b4 : pcS 8 w < 4096 := by unfold pcS; have := hsh w 8; omega
  rw [show w + w >>> 8 = pcS 8 w from rfl]
  obtain ⟨p, hp⟩ : ∃ p, pcS 8 w = p := ⟨_, rfl⟩
  rw [hp] at b4 e0 ⊢
  repeat' (first | refine zP ?_ | refine zA ?_ | (refine zM ?_; intro _ _) | refine zX ?_ | (refine zC ?_; intro _ _ _ _) | (refine zS ?_; intro _ _) | (apply Ws <;> intro hg))
  refine WR.op (by first | exact gN | exact gS rfl) rfl (OpV.shrN (m := 16) rfl rfl (by decide)) ?_
  refine WR.op (by first | exact gN | exact gS rfl) rfl (OpV.addN rfl rfl (by show _ < 2 ^ 64; have := hsh p 16; omega)) ?_
  have b5 : pcS 16 p < 8192 := by unfold pcS; have := hsh p 16; omega
  rw [show p + p >>> 16 = pcS 16 p from rfl]
  obtain ⟨q, hq⟩ : ∃ q, pcS 16 p = q := ⟨_, rfl⟩
  rw [hq] at b5 e0 ⊢
  repeat' (first | refine zP ?_ | refine zA ?_ | (refine zM ?_; intro _ _) | refine zX ?_ | (refine zC ?_; intro _ _ _ _) | (refine zS ?_; intro _ _) | (apply Ws <;> intro hg))
  refine WR.op (by first | exact gN | exact gS rfl) rfl (OpV.shrN (m := 32) rfl rfl (by decide)) ?_
  refine WR.op (by first | exact gN | exact gS rfl) rfl (OpV.addN rfl rfl (by show _ < 2 ^ 64; have := hsh q 32; omega)) ?_
  have b6 : pcS 32 q < 16384 := by unfold pcS; have := hsh q 32; omega
  rw [show q + q >>> 32 = pcS 32 q from rfl]
  obtain ⟨r, hr⟩ : ∃ r, pcS 32 q = r := ⟨_, rfl⟩
  rw [hr] at b6 e0 ⊢
  repeat' (first | refine zP ?_ | refine zA ?_ | (refine zM ?_; intro _ _) | refine zX ?_ | (refine zC ?_; intro _ _ _ _) | (refine zS ?_; intro _ _) | (apply Ws <;> intro hg))
  refine WR.op (by first | exact gN | exact gS rfl) rfl (OpV.conv u64k i64k rfl (c := (r : Int)) (IntWalk.i64_in _ (by omega))) ?_
  refine WR.op (by first | exact gN | exact gS rfl) rfl (OpV.andN (b := 127) rfl rfl (by show r < 2 ^ 63; omega) (by decide)) ?_
  repeat' (first | refine zP ?_ | refine zA ?_ | (refine zM ?_; intro _ _) | refine zX ?_ | (refine zC ?_; intro _ _ _ _) | (refine zS ?_; intro _ _) | (apply Ws <;> intro hg))
  exact Ends.ret1 rfl ⟨by rw [e0], rfl⟩
theorem count_fs {M : HL} {n0 : Nat} {H : Heap} (hH : hasH M n0 H) {x : Nat} (hx : x < 256) : FS C 95 [.agg #[.int .u64 (x : Int)]] H (fun e H' => e = .int .i64 ((bitsL x 8).length : Int) ∧ ∃ n', n0 ≤ n' ∧ hasH M n' H') := by
  refine FS.intro (pf := pf95) rfl rfl rfl ?_
  repeat' (first | refine zP ?_ | refine zA ?_ | (refine zM ?_; intro _ _) | refine zX ?_ | (refine zC ?_; intro _ _ _ _) | (refine zS ?_; intro _ _) | (apply Ws <;> intro hg))
  rename_i H1 hH1
  have h97 : FS C 97 [.int .u64 (x : Int)] H1 (fun e H' => e = .int .i64 ((bitsL x 8).length : Int) ∧ H' = H1) := by
    refine FS.intro (pf := pf97) rfl rfl rfl ?_
    repeat' (first | refine zP ?_ | refine zA ?_ | (refine zM ?_; intro _ _) | refine zX ?_ | (refine zC ?_; intro _ _ _ _) | (refine zS ?_; intro _ _) | (apply Ws <;> intro hg))
    refine WR.call (by first | exact gN | exact gS rfl) rfl rfl (pop_fs hx _) ?_
    rintro _ _ ⟨rfl, rfl⟩
    repeat' (first | refine zP ?_ | refine zA ?_ | (refine zM ?_; intro _ _) | refine zX ?_ | (refine zC ?_; intro _ _ _ _) | (refine zS ?_; intro _ _) | (apply Ws <;> intro hg))
    exact Ends.ret1 rfl ⟨rfl, rfl⟩
  refine WR.call (by first | exact gN | exact gS rfl) rfl rfl h97 ?_
  rintro _ _ ⟨rfl, rfl⟩
  repeat' (first | refine zP ?_ | refine zA ?_ | (refine zM ?_; intro _ _) | refine zX ?_ | (refine zC ?_; intro _ _ _ _) | (refine zS ?_; intro _ _) | (apply Ws <;> intro hg))
  exact Ends.ret1 rfl ⟨rfl, n0 + 1, by omega, hH1.tail⟩
end Go.Proofs.Ytblopbimchkneaa.Md

namespace Go.Proofs.Ytblopbimchkneaa.Md
open Go Go.Abs Go.Mth
set_option linter.unusedVariables false
set_option linter.unusedSimpArgs false
/-! After which mark each one arose. -/
def folB (ns : List Nat) (m o : Nat) : Bool := !someB ns o false m true && (someB ns o true m false || decide (o < m))
def cnt (ns : List Nat) (a : Nat) : Nat := (bitsL (msk ns a) 8).length
theorem within_some (ns : List Nat) (m o : Nat) : decide (msk ns m ^^^ (msk ns m &&& msk ns o) = 0) = !someB ns o false m true := by
  have h := @msk_one ns m o
  have e : someB ns o false m true = ns.any fun c => c.testBit m && !c.testBit o := by
    unfold someB; congr 1; funext c; cases c.testBit o <;> cases c.testBit m <;> rfl
  rw [e]
  cases hb : (ns.any fun c => c.testBit m && !c.testBit o) with
  | true => rw [hb] at h; rw [decide_eq_false (h.2 rfl)]; rfl
  | false =>
    rw [hb] at h
    have : ¬ (msk ns m ^^^ (msk ns m &&& msk ns o) ≠ 0) := fun hh => by have := h.1 hh; cases this
    rw [decide_eq_true (Decidable.not_not.1 this)]; rfl
theorem some_swap (ns : List Nat) (a b : Nat) (p q : Bool) : someB ns a p b q = someB ns b q a p := by
  unfold someB; congr 1; funext c; rw [Bool.and_comm]
theorem msk_eq_iff {ns : List Nat} {m o : Nat} : msk ns m = msk ns o ↔ someB ns o false m true = false ∧ someB ns o true m false = false := by
  have h1 := within_some ns m o
  have h2 := within_some ns o m
  rw [some_swap ns m o] at h2
  constructor
  · intro h
    have hx : ∀ x : Nat, x ^^^ (x &&& x) = 0 := fun x => by rw [Nat.and_self, Nat.xor_self]
    rw [h, hx] at h1
    rw [h, hx] at h2
    simp only [decide_true] at h1 h2
    exact ⟨by simpa using h1.symm, by simpa using h2.symm⟩
  · rintro ⟨g1, g2⟩
    rw [g1] at h1
    rw [g2] at h2
    have k1 : msk ns m ^^^ (msk ns m &&& msk ns o) = 0 := of_decide_eq_true h1
    have k2 : msk ns o ^^^ (msk ns o &&& msk ns m) = 0 := of_decide_eq_true h2
    refine Nat.eq_of_testBit_eq fun i => ?_
    have e1 : (msk ns m ^^^ (msk ns m &&& msk ns o)).testBit i = false := by rw [k1, Nat.zero_testBit]
    have e2 : (msk ns o ^^^ (msk ns o &&& msk ns m)).testBit i = false := by rw [k2, Nat.zero_testBit]
    rw [Nat.testBit_xor, Nat.testBit_and] at e1 e2
    revert e1 e2
    cases (msk ns m).testBit i <;> cases (msk ns o).testBit i <;> simp
theorem fol_mask (ns : List Nat) (m o : Nat) : folB ns m o = if msk ns m = msk ns o then decide (o < m) else decide (msk ns m ^^^ (msk ns m &&& msk ns o) = 0) := by
  rw [within_some]
  unfold folB
  split
  · rename_i h
    obtain ⟨h1, h2⟩ := msk_eq_iff.1 h
    rw [h1, h2]; rfl
  · rename_i h
    cases h1 : someB ns o false m true with
    | true => rfl
    | false =>
      cases h2 : someB ns o true m false with
      | true => rfl
      | false => exact absurd (msk_eq_iff.2 ⟨h1, h2⟩) h
/-- The nearest one of those before k. -/
def NR (ns : List Nat) (m k : Nat) (r : Int) : Prop :=
  (r = -1 ∧ ∀ o, o < k → folB ns m o = false) ∨ ∃ o : Nat, r = o ∧ o < k ∧ folB ns m o = true ∧ ∀ o', o' < k → folB ns m o' = true → cnt ns o ≤ cnt ns o' ∧ (cnt ns o' = cnt ns o → o' ≤ o)
theorem NR.unique {ns : List Nat} {m k : Nat} {r s : Int} (h : NR ns m k r) (h' : NR ns m k s) : r = s := by
  rcases h with ⟨rfl, h1⟩ | ⟨o, rfl, h1, h2, h3⟩ <;> rcases h' with ⟨rfl, g1⟩ | ⟨p, rfl, g1, g2, g3⟩
  · rfl
  · rw [h1 p g1] at g2; cases g2
  · rw [g1 o h1] at h2; cases h2
  · have a := h3 p g1 g2
    have b := g3 o h1 h2
    have e : cnt ns p = cnt ns o := by omega
    have := a.2 e
    have := b.2 e.symm
    omega
theorem NR.step_no {ns : List Nat} {m k : Nat} {r : Int} (h : NR ns m k r) (hf : folB ns m k = false) : NR ns m (k + 1) r := by
  rcases h with ⟨rfl, h1⟩ | ⟨o, rfl, h1, h2, h3⟩
  · refine .inl ⟨rfl, fun o ho => ?_⟩
    rcases Nat.lt_or_ge o k with h4 | h4
    · exact h1 o h4
    · have : o = k := by omega
      subst this; exact hf
  · refine .inr ⟨o, rfl, by omega, h2, fun o' ho hf' => ?_⟩
    rcases Nat.lt_or_ge o' k with h4 | h4
    · exact h3 o' h4 hf'
    · have : o' = k := by omega
      subst this; rw [hf] at hf'; cases hf'
theorem NR.step_keep {ns : List Nat} {m k o : Nat} (h : NR ns m k (o : Int)) (hc : ¬ cnt ns k ≤ cnt ns o) : NR ns m (k + 1) (o : Int) := by
  rcases h with ⟨h0, h1⟩ | ⟨p, hp, h1, h2, h3⟩
  · omega
  · have : o = p := by omega
    subst this
    refine .inr ⟨o, rfl, by omega, h2, fun o' ho hf' => ?_⟩
    rcases Nat.lt_or_ge o' k with h4 | h4
    · exact h3 o' h4 hf'
    · have : o' = k := by omega
      subst this; omega
theorem NR.step_take {ns : List Nat} {m k : Nat} {r : Int} (h : NR ns m k r) (hf : folB ns m k = true) (hc : ∀ o : Nat, r = o → cnt ns k ≤ cnt ns o) : NR ns m (k + 1) (k : Int) := by
  refine .inr ⟨k, rfl, by omega, hf, fun o' ho hf' => ?_⟩
  rcases Nat.lt_or_ge o' k with h4 | h4
  · rcases h with ⟨rfl, h1⟩ | ⟨o, rfl, h1, h2, h3⟩
    · rw [h1 o' h4] at hf'; cases hf'
    · have a := h3 o' h4 hf'
      have b := hc o rfl
      exact ⟨by omega, fun _ => by omega⟩
  · have : o' = k := by omega
    subst this; exact ⟨Nat.le_refl _, fun _ => Nat.le_refl _⟩
/-- After which mark one arose. -/
def AfterR (N : Nat) (ns : List Nat) (m : Nat) (r : Int) : Prop := if cnt ns m = 0 then r = -1 else NR ns m N r
theorem AfterR.unique {N : Nat} {ns : List Nat} {m : Nat} {r s : Int} (h : AfterR N ns m r) (h' : AfterR N ns m s) : r = s := by
  unfold AfterR at h h'
  split at h
  · rename_i h0; rw [if_pos h0] at h'; rw [h, h']
  · rename_i h0; rw [if_neg h0] at h'; exact h.unique h'
def OriginR (N : Nat) (ns : List Nat) (o : List Int) : Prop := o.length = N ∧ ∀ m, m < N → AfterR N ns m (o.getD m 0)
theorem OriginR.unique {N : Nat} {ns : List Nat} {o p : List Int} (h : OriginR N ns o) (h' : OriginR N ns p) : o = p :=
  ext_getD (a := 0) (by rw [h.1, h'.1]) fun i hi => (h.2 i (by rw [← h.1]; exact hi)).unique (h'.2 i (by rw [← h.1]; exact hi))
theorem msk_lt8 {ns : List Nat} (h : ns.length ≤ 8) (a : Nat) : msk ns a < 256 := Nat.lt_of_lt_of_le (mskTo_lt ns a ns.length) (Nat.pow_le_pow_right (n := 2) (by omega) h)
structure AS where
  k : Nat
  num : Int
  msk : Nat
  n : Nat
attribute [local irreducible] gOK WS WC WR WD Ends FS YS OpV seqK blockK loopK midK retK rdK asgK rangeEnd sat Cell
section
variable {M : HL} {n0 : Nat} {H : Heap} {v : Value} {ns : List Nat}
theorem follows_fs (hH : hasH M n0 H) {m o a b : Nat} (ha : a < 2 ^ 62) (hb : b < 2 ^ 62) :
    FS C 96 [.agg #[.int .i64 (m : Int), .int .u64 (a : Int)], .agg #[.int .i64 (o : Int), .int .u64 (b : Int)]] H (fun e H' => e = .bool (if a = b then decide (o < m) else decide (a ^^^ (a &&& b) = 0)) ∧ ∃ n', n0 ≤ n' ∧ hasH M n' H') := by
  refine FS.intro (pf := pf96) rfl rfl rfl ?_
  repeat' (first | refine zP ?_ | refine zA ?_ | (refine zM ?_; intro _ _) | refine zX ?_ | (refine zC ?_; intro _ _ _ _) | (refine zS ?_; intro _ _) | (apply Ws <;> intro hg))
  rename_i H1 hH1 H2 hH2
  clear hH1
  refine WR.op (by first | exact gN | exact gS rfl) rfl (OpV.loadN (l := [.int .u64 (a : Int)]) rfl hH2 (.tail _ (.head _)) (.row _ _ _ _) (Nat.zero_le _) (by show 0 + 1 - 0 + 1 ≤ 2; omega) rfl) ?_
  repeat' (first | refine zP ?_ | refine zA ?_ | (refine zM ?_; intro _ _) | refine zX ?_ | (refine zC ?_; intro _ _ _ _) | (refine zS ?_; intro _ _) | (apply Ws <;> intro hg))
  refine WR.op (by first | exact gN | exact gS rfl) rfl (OpV.loadN (l := [.int .u64 (b : Int)]) rfl hH2 (.head _) (.row _ _ _ _) (Nat.zero_le _) (by show 0 + 1 - 0 + 1 ≤ 2; omega) rfl) ?_
  refine WR.op (by first | exact gN | exact gS rfl) rfl (OpV.eqAgg' (eqBearG _ _ a b) (eqBearOp a b) rfl rfl rfl rfl) ?_
  by_cases hab : a = b
  · have : ((a : Int) == (b : Int)) = true := by rw [hab]; exact beq_self_eq_true _
    rw [this]
    repeat' (first | refine zP ?_ | refine zA ?_ | (refine zM ?_; intro _ _) | refine zX ?_ | (refine zC ?_; intro _ _ _ _) | (refine zS ?_; intro _ _) | (apply Ws <;> intro hg))
    refine Ends.ret1 rfl ⟨?_, n0 + 2, by omega, hH2.tail.tail⟩
    rw [if_pos hab]
    congr 1
    rw [decide_eq_decide]
    show ((m : Int) > (o : Int)) ↔ _
    omega
  · have : ((a : Int) == (b : Int)) = false := by
      rw [beq_eq_false_iff_ne]; omega
    rw [this]
    repeat' (first | refine zP ?_ | refine zA ?_ | (refine zM ?_; intro _ _) | refine zX ?_ | (refine zC ?_; intro _ _ _ _) | (refine zS ?_; intro _ _) | (apply Ws <;> intro hg))
    refine WR.op (by first | exact gN | exact gS rfl) rfl (OpV.loadN (l := [.int .u64 (a : Int)]) rfl hH2 (.tail _ (.head _)) (.row _ _ _ _) (Nat.zero_le _) (by show 0 + 1 - 0 + 1 ≤ 2; omega) rfl) ?_
    repeat' (first | refine zP ?_ | refine zA ?_ | (refine zM ?_; intro _ _) | refine zX ?_ | (refine zC ?_; intro _ _ _ _) | (refine zS ?_; intro _ _) | (apply Ws <;> intro hg))
    refine WR.op (by first | exact gN | exact gS rfl) rfl (OpV.loadN (l := [.int .u64 (b : Int)]) rfl hH2 (.head _) (.row _ _ _ _) (Nat.zero_le _) (by show 0 + 1 - 0 + 1 ≤ 2; omega) rfl) ?_
    refine WR.call (by first | exact gN | exact gS rfl) rfl rfl (within_fs hH2 ha hb) ?_
    rintro _ H3 ⟨rfl, n3, hn3, hH3⟩
    repeat' (first | refine zP ?_ | refine zA ?_ | (refine zM ?_; intro _ _) | refine zX ?_ | (refine zC ?_; intro _ _ _ _) | (refine zS ?_; intro _ _) | (apply Ws <;> intro hg))
    exact Ends.ret1 rfl ⟨by rw [if_neg hab], n3, by omega, hH3.tail.tail⟩
end
end Go.Proofs.Ytblopbimchkneaa.Md

namespace Go.Proofs.Ytblopbimchkneaa.Md
open Go Go.Abs Go.Mth
set_option linter.unusedVariables false
set_option linter.unusedSimpArgs false
attribute [local irreducible] gOK WS WC WR WD Ends FS YS OpV seqK blockK loopK midK retK rdK asgK rangeEnd sat Cell
section
variable {M : HL} {n0 : Nat} {H : Heap} {v : Value} {ns : List Nat}
set_option maxHeartbeats 2000000 in
theorem after_fs (hH : hasH M n0 H) (hl : ns.length ≤ 8) {N m : Nat} (hN : N ≤ 6) (hS : Sl M 2 v (cellsF MC (marksL N ns))) :
    FS C 85 [.agg #[.int .i64 (m : Int), .int .u64 (msk ns m : Int)], v] H (fun e H' => ∃ r, e = .int .i64 r ∧ AfterR N ns m r ∧ ∃ n', n0 ≤ n' ∧ hasH M n' H') := by
  have h8 := fun a => msk_lt8 hl a
  have h62 := fun a => msk_lt (show ns.length ≤ 61 by omega) a
  have hml := marksL_len N ns
  refine FS.intro (pf := pf85) rfl rfl rfl ?_
  repeat' (first | refine zP ?_ | refine zA ?_ | (refine zM ?_; intro _ _) | refine zX ?_ | (refine zC ?_; intro _ _ _ _) | (refine zS ?_; intro _ _) | (apply Ws <;> intro hg))
  rename_i H1 hH1
  refine WR.op (by first | exact gN | exact gS rfl) rfl (OpV.bldT (vs := [(0, .int .i64 (-1))]) rfl (cs := #[.int .i64 (-1), .int .u64 0]) (by rfl)) ?_
  repeat' (first | refine zP ?_ | refine zA ?_ | (refine zM ?_; intro _ _) | refine zX ?_ | (refine zC ?_; intro _ _ _ _) | (refine zS ?_; intro _ _) | (apply Ws <;> intro hg))
  rename_i H2 hH2
  refine WR.storeAll (by first | exact gN | exact gS rfl) hH2 rfl rfl (ls := [.int .i64 (-1), .int .u64 0]) rfl rfl .here rfl rfl fun H3 hH3 => ?_
  clear hH1 hH2
  repeat' (first | refine zP ?_ | refine zA ?_ | (refine zM ?_; intro _ _) | refine zX ?_ | (refine zC ?_; intro _ _ _ _) | (refine zS ?_; intro _ _) | (apply Ws <;> intro hg))
  rename_i H4 hH4
  refine WR.storeAll (by first | exact gN | exact gS rfl) hH4 rfl rfl (ls := [.int .i64 (-1), .int .u64 0]) rfl rfl .here rfl rfl fun H5 hH5 => ?_
  clear hH3 hH4
  repeat' (first | refine zP ?_ | refine zA ?_ | (refine zM ?_; intro _ _) | refine zX ?_ | (refine zC ?_; intro _ _ _ _) | (refine zS ?_; intro _ _) | (apply Ws <;> intro hg))
  refine WR.op (by first | exact gN | exact gS rfl) rfl (OpV.loadN (l := [.int .u64 (msk ns m : Nat)]) rfl hH5 (.tail _ (.tail _ (.head _))) (.row _ _ _ _) (Nat.zero_le _) (by show 0 + 1 - 0 + 1 ≤ 2; omega) rfl) ?_
  refine WR.call (by first | exact gN | exact gS rfl) rfl rfl (count_fs hH5 (h8 m)) ?_
  rintro _ H6 ⟨rfl, n6, hn6, hH6⟩
  clear hH5
  rw [show ((bitsL (msk ns m) 8).length : Int) = (cnt ns m : Int) from rfl]
  repeat' (first | refine zP ?_ | refine zA ?_ | (refine zM ?_; intro _ _) | refine zX ?_ | (refine zC ?_; intro _ _ _ _) | (refine zS ?_; intro _ _) | (apply Ws <;> intro hg))
  refine WC.condP rfl (fun hz => ?_) (fun hz => ?_)
  · repeat' (first | refine zP ?_ | refine zA ?_ | (refine zM ?_; intro _ _) | refine zX ?_ | (refine zC ?_; intro _ _ _ _) | (refine zS ?_; intro _ _) | (apply Ws <;> intro hg))
    refine Ends.ret1 rfl ⟨-1, rfl, by rw [AfterR, if_pos (by omega)], n6, by omega, hH6.tail.tail.tail⟩
  have hz' : ¬ cnt ns m = 0 := by omega
  have hA : ∀ {r}, NR ns m N r → AfterR N ns m r := fun h => by rw [AfterR, if_neg hz']; exact h
  repeat' (first | refine zP ?_ | refine zA ?_ | (refine zM ?_; intro _ _) | refine zX ?_ | (refine zC ?_; intro _ _ _ _) | (refine zS ?_; intro _ _) | (apply Ws <;> intro hg))
  refine WR.op (by first | exact gN | exact gS rfl) rfl (OpV.lenK MC_len (by decide) rfl hS) ?_
  rw [hml]
  repeat' (first | refine zP ?_ | refine zA ?_ | (refine zM ?_; intro _ _) | refine zX ?_ | (refine zC ?_; intro _ _ _ _) | (refine zS ?_; intro _ _) | (apply Ws <;> intro hg))
  refine WC.loopX [(2, _), (5, _), (6, _), (17, _), (18, _)] (fun s : AS => [(19, .int .i64 (s.k : Int))]) []
    (fun s H' => s.k ≤ N ∧ n0 ≤ s.n ∧ NR ns m s.k s.num ∧ ((s.num = -1 ∧ s.msk = 0) ∨ ∃ o : Nat, o < N ∧ s.num = o ∧ s.msk = msk ns o) ∧ hasH ((n0 + 1 + 1, .row 87 0 0 [.int .i64 s.num, .int .u64 (s.msk : Int)]) :: (n0 + 1, .row 87 0 0 [.int .i64 (-1), .int .u64 0]) :: (n0, .row 87 0 0 [.int .i64 (m : Int), .int .u64 (msk ns m : Int)]) :: M) s.n H') (fun s => N - s.k) ⟨0, -1, 0, n6⟩ (by repeat' (first | exact .nil | refine .cons rfl ?_)) rfl
    ⟨Nat.zero_le _, by simp only; omega, .inl ⟨rfl, fun o h => absurd h (Nat.not_lt_zero _)⟩, .inl ⟨rfl, rfl⟩, hH6⟩ ?_
  clear hH6 hn6
  rintro ⟨k, num, mk, n7⟩ H7 ⟨hk, hn7, hR, hnm, hH7⟩
  simp only at hk hn7 hR hnm hH7
  dsimp only [List.cons_append, List.nil_append]
  repeat' (first | refine zP ?_ | refine zA ?_ | (refine zM ?_; intro _ _) | refine zX ?_ | (refine zC ?_; intro _ _ _ _) | (refine zS ?_; intro _ _) | (apply Ws <;> intro hg))
  refine WC.condP rfl (fun hlt => ?_) (fun hlt => ?_)
  · have hk' : k < N := by omega
    repeat' (first | refine zP ?_ | refine zA ?_ | (refine zM ?_; intro _ _) | refine zX ?_ | (refine zC ?_; intro _ _ _ _) | (refine zS ?_; intro _ _) | (apply Ws <;> intro hg))
    have hS7 := hS.mono (M' := (n0 + 1 + 1, .row 87 0 0 [.int .i64 num, .int .u64 (mk : Int)]) :: (n0 + 1, .row 87 0 0 [.int .i64 (-1), .int .u64 0]) :: (n0, .row 87 0 0 [.int .i64 (m : Int), .int .u64 (msk ns m : Int)]) :: M) fun p hp => .tail _ (.tail _ (.tail _ hp))
    refine WR.idxK MC_len (by decide) (by first | exact gN | exact gS rfl) rfl rfl hS7 rfl (by omega) fun b o u hP => ?_
    rw [marksL_get] at hP
    refine WR.op (by first | exact gN | exact gS rfl) rfl (OpV.loadK rfl hP hH7 rfl) ?_
    repeat' (first | refine zP ?_ | refine zA ?_ | (refine zM ?_; intro _ _) | refine zX ?_ | (refine zC ?_; intro _ _ _ _) | (refine zS ?_; intro _ _) | (apply Ws <;> intro hg))
    rename_i H8 hH8
    refine WR.storeAll (by first | exact gN | exact gS rfl) hH8 rfl rfl (ls := [.int .i64 (k : Int), .int .u64 (msk ns k : Nat)]) rfl rfl .here rfl rfl fun H9 hH9 => ?_
    clear hH8 hH7 hS7
    have hM8 : (n7, Ch.row 87 0 0 [.int .i64 (k : Int), .int .u64 (msk ns k : Int)]) ∈ (n7, Ch.row 87 0 0 [.int .i64 (k : Int), .int .u64 (msk ns k : Int)]) :: (n0 + 1 + 1, .row 87 0 0 [.int .i64 num, .int .u64 (mk : Int)]) :: (n0 + 1, .row 87 0 0 [.int .i64 (-1), .int .u64 0]) :: (n0, .row 87 0 0 [.int .i64 (m : Int), .int .u64 (msk ns m : Int)]) :: M := .head _
    have hM2 : (n0 + 1 + 1, Ch.row 87 0 0 [.int .i64 num, .int .u64 (mk : Int)]) ∈ (n7, Ch.row 87 0 0 [.int .i64 (k : Int), .int .u64 (msk ns k : Int)]) :: (n0 + 1 + 1, .row 87 0 0 [.int .i64 num, .int .u64 (mk : Int)]) :: (n0 + 1, .row 87 0 0 [.int .i64 (-1), .int .u64 0]) :: (n0, .row 87 0 0 [.int .i64 (m : Int), .int .u64 (msk ns m : Int)]) :: M := .tail _ (.head _)
    have hM0 : (n0, Ch.row 87 0 0 [.int .i64 (m : Int), .int .u64 (msk ns m : Int)]) ∈ (n7, Ch.row 87 0 0 [.int .i64 (k : Int), .int .u64 (msk ns k : Int)]) :: (n0 + 1 + 1, .row 87 0 0 [.int .i64 num, .int .u64 (mk : Int)]) :: (n0 + 1, .row 87 0 0 [.int .i64 (-1), .int .u64 0]) :: (n0, .row 87 0 0 [.int .i64 (m : Int), .int .u64 (msk ns m : Int)]) :: M := .tail _ (.tail _ (.tail _ (.head _)))
    repeat' (first | refine zP ?_ | refine zA ?_ | (refine zM ?_; intro _ _) | refine zX ?_ | (refine zC ?_; intro _ _ _ _) | (refine zS ?_; intro _ _) | (apply Ws <;> intro hg))
    refine WC.regionD ?_
    repeat' (first | refine WD.guardF rfl rfl (stands_nil _ _) ?_ | refine WD.guardU rfl rfl (stands_nil _ _) ?_ | refine zD ?_ | (refine zE ?_; intro _ _ _ _))
    refine WD.call (by first | exact gN | exact gS rfl) rfl rfl (follows_fs hH9 (h62 m) (h62 k)) ?_
    rintro _ H10 ⟨rfl, n10, hn10, hH10⟩
    clear hH9
    rw [← fol_mask]
    refine ⟨zSt, ?_⟩
    cases hf : folB ns m k with
    | false =>
      repeat' (first | refine WD.guardF rfl rfl (stands_nil _ _) ?_ | refine WD.guardU rfl rfl (stands_nil _ _) ?_ | refine zD ?_ | (refine zE ?_; intro _ _ _ _))
      refine WD.guardU rfl rfl zSt ?_
      repeat' (first | refine WD.guardF rfl rfl (stands_nil _ _) ?_ | refine WD.guardU rfl rfl (stands_nil _ _) ?_ | refine zD ?_ | (refine zE ?_; intro _ _ _ _))
      refine WD.nil ?_
      repeat' (first | refine zP ?_ | refine zA ?_ | (refine zM ?_; intro _ _) | refine zX ?_ | (refine zC ?_; intro _ _ _ _) | (refine zS ?_; intro _ _) | (apply Ws <;> intro hg))
      exact Ends.loop ⟨k + 1, num, mk, n10⟩ (by show N - (k + 1) < N - k; omega) (by repeat' (first | exact .nil | refine .cons rfl ?_)) rfl ⟨hk', by simp only; omega, hR.step_no hf, hnm, hH10.tail⟩
    | true =>
      rcases hnm with ⟨rfl, rfl⟩ | ⟨o, ho, rfl, rfl⟩
      · repeat' (first | refine WD.guardF rfl rfl (stands_nil _ _) ?_ | refine WD.guardU rfl rfl (stands_nil _ _) ?_ | refine zD ?_ | (refine zE ?_; intro _ _ _ _))
        refine WD.op (by first | exact gN | exact gS rfl) rfl (OpV.eqAgg' (eqMarkG _ _ _ _ _ _) eqMark1 rfl rfl rfl rfl) rfl (stands_nil _ _) ?_
        repeat' (first | refine WD.guardF rfl rfl (stands_nil _ _) ?_ | refine WD.guardU rfl rfl (stands_nil _ _) ?_ | refine zD ?_ | (refine zE ?_; intro _ _ _ _))
        refine WD.guardF rfl rfl zSt ?_
        repeat' (first | refine WD.guardF rfl rfl (stands_nil _ _) ?_ | refine WD.guardU rfl rfl (stands_nil _ _) ?_ | refine zD ?_ | (refine zE ?_; intro _ _ _ _))
        refine WD.nil ?_
        repeat' (first | refine zP ?_ | refine zA ?_ | (refine zM ?_; intro _ _) | refine zX ?_ | (refine zC ?_; intro _ _ _ _) | (refine zS ?_; intro _ _) | (apply Ws <;> intro hg))
        refine WR.storeAll (by first | exact gN | exact gS rfl) hH10 rfl rfl (ls := [.int .i64 (k : Int), .int .u64 (msk ns k : Nat)]) rfl rfl (.there .here) rfl rfl fun H11 hH11 => ?_
        repeat' (first | refine zP ?_ | refine zA ?_ | (refine zM ?_; intro _ _) | refine zX ?_ | (refine zC ?_; intro _ _ _ _) | (refine zS ?_; intro _ _) | (apply Ws <;> intro hg))
        exact Ends.loop ⟨k + 1, (k : Int), msk ns k, n10⟩ (by show N - (k + 1) < N - k; omega) (by repeat' (first | exact .nil | refine .cons rfl ?_)) rfl ⟨hk', by simp only; omega, hR.step_take hf (fun o h => by omega), .inr ⟨k, hk', rfl, rfl⟩, hH11.tail⟩
      · repeat' (first | refine WD.guardF rfl rfl (stands_nil _ _) ?_ | refine WD.guardU rfl rfl (stands_nil _ _) ?_ | refine zD ?_ | (refine zE ?_; intro _ _ _ _))
        refine WD.op (by first | exact gN | exact gS rfl) rfl (OpV.eqAgg' (eqMarkG _ _ _ _ _ _) (eqMark0 _ o (by omega)) rfl rfl rfl rfl) rfl (stands_nil _ _) ?_
        repeat' (first | refine WD.guardF rfl rfl (stands_nil _ _) ?_ | refine WD.guardU rfl rfl (stands_nil _ _) ?_ | refine zD ?_ | (refine zE ?_; intro _ _ _ _))
        refine WD.loadN (ls := [.int .u64 (msk ns k : Nat)]) (by first | exact gN | exact gS rfl) rfl rfl (hH10.readN (k := 1) hM8 (.row _ _ _ _) (Nat.zero_le _) (by show 1 - 0 + 1 ≤ 2; omega)) ?_
        repeat' (first | refine WD.guardF rfl rfl (stands_nil _ _) ?_ | refine WD.guardU rfl rfl (stands_nil _ _) ?_ | refine zD ?_ | (refine zE ?_; intro _ _ _ _))
        refine WD.loadN (ls := [.int .u64 (msk ns o : Nat)]) (by first | exact gN | exact gS rfl) rfl rfl (hH10.readN (k := 1) hM2 (.row _ _ _ _) (Nat.zero_le _) (by show 1 - 0 + 1 ≤ 2; omega)) ?_
        refine WD.call (by first | exact gN | exact gS rfl) rfl rfl (count_fs hH10 (h8 k)) ?_
        rintro _ H11 ⟨rfl, n11, hn11, hH11⟩
        rw [show ((bitsL (msk ns k) 8).length : Int) = (cnt ns k : Int) from rfl]
        refine ⟨?_, ?_⟩
        · exact stands_cons (.inr (holdsN' (l := [.int .u64 (msk ns o : Nat)]) (hH11.readN (k := 1) hM2 (.row _ _ _ _) (Nat.zero_le _) (by show 1 - 0 + 1 ≤ 2; omega)) (by simp [sameL, same_int]))) zSt
        refine WD.call (by first | exact gN | exact gS rfl) rfl rfl (count_fs hH11 (h8 o)) ?_
        rintro _ H12 ⟨rfl, n12, hn12, hH12⟩
        rw [show ((bitsL (msk ns o) 8).length : Int) = (cnt ns o : Int) from rfl]
        refine ⟨zSt, ?_⟩
        repeat' (first | refine WD.guardF rfl rfl (stands_nil _ _) ?_ | refine WD.guardU rfl rfl (stands_nil _ _) ?_ | refine zD ?_ | (refine zE ?_; intro _ _ _ _))
        refine WD.nil ?_
        repeat' (first | refine zP ?_ | refine zA ?_ | (refine zM ?_; intro _ _) | refine zX ?_ | (refine zC ?_; intro _ _ _ _) | (refine zS ?_; intro _ _) | (apply Ws <;> intro hg))
        refine WC.condP rfl (fun hle => ?_) (fun hle => ?_)
        · have htake : ∀ o' : Nat, (o : Int) = o' → cnt ns k ≤ cnt ns o' := fun o' h => by
            have e : o = o' := by omega
            rw [← e]; omega
          repeat' (first | refine zP ?_ | refine zA ?_ | (refine zM ?_; intro _ _) | refine zX ?_ | (refine zC ?_; intro _ _ _ _) | (refine zS ?_; intro _ _) | (apply Ws <;> intro hg))
          refine WR.storeAll (by first | exact gN | exact gS rfl) hH12 rfl rfl (ls := [.int .i64 (k : Int), .int .u64 (msk ns k : Nat)]) rfl rfl (.there .here) rfl rfl fun H13 hH13 => ?_
          repeat' (first | refine zP ?_ | refine zA ?_ | (refine zM ?_; intro _ _) | refine zX ?_ | (refine zC ?_; intro _ _ _ _) | (refine zS ?_; intro _ _) | (apply Ws <;> intro hg))
          exact Ends.loop ⟨k + 1, (k : Int), msk ns k, n12⟩ (by show N - (k + 1) < N - k; omega) (by repeat' (first | exact .nil | refine .cons rfl ?_)) rfl ⟨hk', by simp only; omega, hR.step_take hf htake, .inr ⟨k, hk', rfl, rfl⟩, hH13.tail⟩
        · repeat' (first | refine zP ?_ | refine zA ?_ | (refine zM ?_; intro _ _) | refine zX ?_ | (refine zC ?_; intro _ _ _ _) | (refine zS ?_; intro _ _) | (apply Ws <;> intro hg))
          exact Ends.loop ⟨k + 1, (o : Int), msk ns o, n12⟩ (by show N - (k + 1) < N - k; omega) (by repeat' (first | exact .nil | refine .cons rfl ?_)) rfl ⟨hk', by simp only; omega, hR.step_keep (by omega), .inr ⟨o, ho, rfl, rfl⟩, hH12.tail⟩
  have hkN : N = k := by omega
  subst hkN
  repeat' (first | refine zP ?_ | refine zA ?_ | (refine zM ?_; intro _ _) | refine zX ?_ | (refine zC ?_; intro _ _ _ _) | (refine zS ?_; intro _ _) | (apply Ws <;> intro hg))
  exact Ends.ret1 rfl ⟨num, rfl, hA hR, n7, hn7, hH7.tail.tail.tail⟩
end
end Go.Proofs.Ytblopbimchkneaa.Md

namespace Go.Proofs.Ytblopbimchkneaa.Md
open Go Go.Abs Go.Mth
set_option linter.unusedVariables false
set_option linter.unusedSimpArgs false
theorem NR.range {ns : List Nat} {m k : Nat} {r : Int} (h : NR ns m k r) : -1 ≤ r ∧ r < k := by
  rcases h with ⟨rfl, _⟩ | ⟨o, rfl, h, _⟩ <;> omega
theorem AfterR.range {N : Nat} {ns : List Nat} {m : Nat} {r : Int} (h : AfterR N ns m r) : -1 ≤ r ∧ r < N := by
  unfold AfterR at h
  split at h
  · omega
  · exact h.range
/-- Lists in ascending order with the same members are the same. -/
theorem sorted_eq : ∀ {l k : List Nat}, l.Pairwise (· < ·) → k.Pairwise (· < ·) → (∀ x, x ∈ l ↔ x ∈ k) → l = k
  | [], [], _, _, _ => rfl
  | [], a :: k, _, _, h => by have := (h a).2 (by simp); cases this
  | a :: l, [], _, _, h => by have := (h a).1 (by simp); cases this
  | a :: l, b :: k, hl, hk, h => by
    obtain ⟨l1, l2⟩ := List.pairwise_cons.1 hl
    obtain ⟨k1, k2⟩ := List.pairwise_cons.1 hk
    have hab : a = b := by
      have h1 := (h a).1 (by simp)
      have h2 := (h b).2 (by simp)
      rcases List.mem_cons.1 h1 with h1 | h1
      · exact h1
      · rcases List.mem_cons.1 h2 with h2 | h2
        · exact h2.symm
        · have := k1 a h1; have := l1 b h2; omega
    subst hab
    congr 1
    refine sorted_eq l2 k2 fun x => ?_
    constructor
    · intro hx
      have h1 := l1 x hx
      rcases List.mem_cons.1 ((h x).1 (by simp [hx])) with h2 | h2
      · omega
      · exact h2
    · intro hx
      have h1 := k1 x hx
      rcases List.mem_cons.1 ((h x).2 (by simp [hx])) with h2 | h2
      · omega
      · exact h2
def cntTo (ns : List Nat) (a k : Nat) : Nat := ((List.range k).filter fun i => (ns.getD i 0).testBit a).length
theorem cntTo_yes {ns : List Nat} {a k : Nat} (h : (ns.getD k 0).testBit a = true) : cntTo ns a (k + 1) = cntTo ns a k + 1 := by
  rw [cntTo, List.range_succ, List.filter_append, List.filter_cons_of_pos (by exact h), List.length_append]; rfl
theorem cntTo_no {ns : List Nat} {a k : Nat} (h : (ns.getD k 0).testBit a = false) : cntTo ns a (k + 1) = cntTo ns a k := by
  rw [cntTo, List.range_succ, List.filter_append, List.filter_cons_of_neg (by rw [h]; simp), List.filter_nil, List.append_nil]; rfl
theorem cntTo_le (ns : List Nat) (a k : Nat) : cntTo ns a k ≤ k := Nat.le_trans (List.length_filter_le _ _) (by simp)
theorem cnt_to {ns : List Nat} (h : ns.length ≤ 8) (a : Nat) : cnt ns a = cntTo ns a ns.length := by
  rw [cnt, msk, mskTo]
  have e : bitsL (maskN ((List.range ns.length).filter fun i => (ns.getD i 0).testBit a)) 8 = (List.range ns.length).filter fun i => (ns.getD i 0).testBit a := by
    have hm : ∀ x, x ∈ bitsL (maskN ((List.range ns.length).filter fun i => (ns.getD i 0).testBit a)) 8 ↔ x ∈ (List.range ns.length).filter fun i => (ns.getD i 0).testBit a := fun x => by
      rw [mem_bits, mask_bit]
      refine ⟨fun h => h.2, fun hx => ⟨?_, hx⟩⟩
      have := List.mem_range.1 (List.mem_filter.1 hx).1
      omega
    have a1 : (bitsL (maskN ((List.range ns.length).filter fun i => (ns.getD i 0).testBit a)) 8).Pairwise (· < ·) := List.pairwise_lt_range.filter _
    have a2 : ((List.range ns.length).filter fun i => (ns.getD i 0).testBit a).Pairwise (· < ·) := List.pairwise_lt_range.filter _
    exact sorted_eq a1 a2 hm
  rw [e]; rfl
structure OI where
  k : Nat
  v : Value
  l : List Int
  Mx : HL
  n : Nat
attribute [local irreducible] gOK WS WC WR WD Ends FS YS OpV seqK blockK loopK midK retK rdK asgK rangeEnd sat Cell
section
variable {M : HL} {n0 : Nat} {H : Heap} {v : Value} {ns : List Nat}
theorem originOf_fs (hH : hasH M n0 H) (hl : ns.length ≤ 8) {N : Nat} (hN : N ≤ 6) (hS : Sl M 2 v (cellsF MC (marksL N ns))) :
    FS C 64 [v] H (fun e H' => ∃ o Mx n', OriginR N ns o ∧ Own 3 1 e (ints o) Mx ∧ n0 ≤ n' ∧ hasH (Mx ++ M) n' H') := by
  have hml := marksL_len N ns
  refine FS.intro (pf := pf64) rfl rfl rfl ?_
  repeat' (first | refine zP ?_ | refine zA ?_ | (refine zM ?_; intro _ _) | refine zX ?_ | (refine zC ?_; intro _ _ _ _) | (refine zS ?_; intro _ _) | (apply Ws <;> intro hg))
  refine WR.op (by first | exact gN | exact gS rfl) rfl (OpV.lenK MC_len (by decide) rfl hS) ?_
  rw [hml]
  repeat' (first | refine zP ?_ | refine zA ?_ | (refine zM ?_; intro _ _) | refine zX ?_ | (refine zC ?_; intro _ _ _ _) | (refine zS ?_; intro _ _) | (apply Ws <;> intro hg))
  refine WC.loopX [(0, _), (6, _), (7, _)] (fun s : OI => [(3, s.v), (8, .int .i64 (s.k : Int))]) []
    (fun z H' => z.k ≤ N ∧ n0 ≤ z.n ∧ z.l.length = z.k ∧ (∀ i, i < z.k → AfterR N ns i (z.l.getD i 0)) ∧ Own 3 1 z.v (ints z.l) z.Mx ∧ hasH (z.Mx ++ M) z.n H') (fun z => N - z.k) ⟨0, .slice none 0 0, [], [], n0⟩ (by repeat' (first | exact .nil | refine .cons rfl ?_)) rfl
    ⟨Nat.zero_le _, Nat.le_refl _, rfl, fun i h => absurd h (Nat.not_lt_zero _), .nil, hH⟩ ?_
  clear hH
  rintro ⟨k, ov, l, Mx, n1⟩ H1 ⟨hk, hn1, hll, hA, hO, hH1⟩
  simp only at hk hn1 hll hA hO hH1
  have hS1 := hS.mono (M' := Mx ++ M) fun p hp => List.mem_append_right _ hp
  dsimp only [List.cons_append, List.nil_append]
  repeat' (first | refine zP ?_ | refine zA ?_ | (refine zM ?_; intro _ _) | refine zX ?_ | (refine zC ?_; intro _ _ _ _) | (refine zS ?_; intro _ _) | (apply Ws <;> intro hg))
  refine WC.condP rfl (fun hlt => ?_) (fun hlt => ?_)
  · have hk' : k < N := by omega
    repeat' (first | refine zP ?_ | refine zA ?_ | (refine zM ?_; intro _ _) | refine zX ?_ | (refine zC ?_; intro _ _ _ _) | (refine zS ?_; intro _ _) | (apply Ws <;> intro hg))
    refine WR.idxK MC_len (by decide) (by first | exact gN | exact gS rfl) rfl rfl hS1 rfl (by omega) fun b o u hP => ?_
    rw [marksL_get] at hP
    refine WR.op (by first | exact gN | exact gS rfl) rfl (OpV.loadK rfl hP hH1 rfl) ?_
    repeat' (first | refine zP ?_ | refine zA ?_ | (refine zM ?_; intro _ _) | refine zX ?_ | (refine zC ?_; intro _ _ _ _) | (refine zS ?_; intro _ _) | (apply Ws <;> intro hg))
    rename_i H2 hH2
    refine WR.storeAll (by first | exact gN | exact gS rfl) hH2 rfl rfl (ls := [.int .i64 (k : Int), .int .u64 (msk ns k : Nat)]) rfl rfl .here rfl rfl fun H3 hH3 => ?_
    clear hH2 hH1
    repeat' (first | refine zP ?_ | refine zA ?_ | (refine zM ?_; intro _ _) | refine zX ?_ | (refine zC ?_; intro _ _ _ _) | (refine zS ?_; intro _ _) | (apply Ws <;> intro hg))
    refine WR.call (by first | exact gN | exact gS rfl) rfl rfl (after_fs hH3 hl hN (hS1.cons)) ?_
    rintro _ H4 ⟨r, rfl, hr, n4, hn4, hH4⟩
    clear hH3
    refine WR.append1F [] Mx M rfl rfl rfl rfl hO hH4.tail (new := [.int .i64 r]) (by rfl) rfl rfl (Nat.le_refl _) (by omega) (by simp; omega) fun v3 M3 n5 H5 hO5 hH5 hn5 => ?_
    repeat' (first | refine zP ?_ | refine zA ?_ | (refine zM ?_; intro _ _) | refine zX ?_ | (refine zC ?_; intro _ _ _ _) | (refine zS ?_; intro _ _) | (apply Ws <;> intro hg))
    refine Ends.loop ⟨k + 1, v3, l ++ [r], M3, n5⟩ (by show N - (k + 1) < N - k; omega) (by repeat' (first | exact .nil | refine .cons rfl ?_)) rfl ⟨hk', by simp only; omega, by simp [hll], fun i hi => ?_, by simpa using hO5, hH5⟩
    replace hi : i < k + 1 := hi
    simp only
    rcases Nat.lt_or_ge i k with h | h
    · rw [getD_app_l (by omega)]; exact hA i h
    · have : i = l.length := by omega
      subst this
      rw [getD_snoc, hll]; exact hr
  · have hkN : N = k := by omega
    subst hkN
    repeat' (first | refine zP ?_ | refine zA ?_ | (refine zM ?_; intro _ _) | refine zX ?_ | (refine zC ?_; intro _ _ _ _) | (refine zS ?_; intro _ _) | (apply Ws <;> intro hg))
    exact Ends.ret1 rfl ⟨l, Mx, n1, ⟨hll, hA⟩, hO, hn1, hH1⟩

/-- What Origin returns of casts that were checked. -/
def OrgR (N : Nat) (ns : List Nat) (o : List Int) : Prop := if honB N ns = true then OriginR N ns o else o = []
theorem Origin_fs (hH : hasH M n0 H) (hS : Sl M 1 v (nodes ns)) (hl : ns.length ≤ 8) {N : Nat} (hN1 : 1 ≤ N) (hN : N ≤ 6) (hb : ∀ x ∈ ns, x < 2 ^ N) :
    FS C 23 [.int .i64 (N : Int), v] H (fun e H' => ∃ o u Mx n', e = .tuple #[u, .int .i64 (if honB N ns = true then 0 else 12)] ∧ OrgR N ns o ∧ Own 3 1 u (ints o) Mx ∧ n0 ≤ n' ∧ hasH (Mx ++ M) n' H') := by
  have hSI : Unit → Sl M 1 v (ints (ns.map fun (x : Nat) => (x : Int))) := fun _ => by rw [← nodesI]; exact hS
  have hb62 := lt_62 hN hb
  refine FS.intro (pf := pf23) rfl rfl rfl ?_
  repeat' (first | refine zP ?_ | refine zA ?_ | (refine zM ?_; intro _ _) | refine zX ?_ | (refine zC ?_; intro _ _ _ _) | (refine zS ?_; intro _ _) | (apply Ws <;> intro hg))
  refine WR.call (by first | exact gN | exact gS rfl) rfl rfl (Check_fs hH (hSI ()) (by simp; omega) _) ?_
  rintro _ H1 ⟨rfl, rfl⟩
  rw [casts_intro hN1 hN hl hb]
  repeat' (first | refine zP ?_ | refine zA ?_ | (refine zM ?_; intro _ _) | refine zX ?_ | (refine zC ?_; intro _ _ _ _) | (refine zS ?_; intro _ _) | (apply Ws <;> intro hg))
  refine WR.call (by first | exact gN | exact gS rfl) rfl rfl (honest_fs hH hS (by omega) hb62 (by omega)) ?_
  rintro _ H2 ⟨rfl, n2, hn2, hH2⟩
  clear hH
  cases hh : honB N ns with
  | false =>
    repeat' (first | refine zP ?_ | refine zA ?_ | (refine zM ?_; intro _ _) | refine zX ?_ | (refine zC ?_; intro _ _ _ _) | (refine zS ?_; intro _ _) | (apply Ws <;> intro hg))
    exact Ends.ret2 rfl rfl ⟨[], .slice none 0 0, [], n2, by rw [if_neg (by decide)], by rw [OrgR, if_neg (by rw [hh]; decide)], .nil, hn2, hH2⟩
  | true =>
    repeat' (first | refine zP ?_ | refine zA ?_ | (refine zM ?_; intro _ _) | refine zX ?_ | (refine zC ?_; intro _ _ _ _) | (refine zS ?_; intro _ _) | (apply Ws <;> intro hg))
    refine WR.call (by first | exact gN | exact gS rfl) rfl rfl (marksOf_fs hH2 hS (by omega) hb62 (N := N) (by omega)) ?_
    rintro _ H3 ⟨c, rfl, hS3, hH3⟩
    refine WR.call (by first | exact gN | exact gS rfl) rfl rfl (originOf_fs hH3 hl hN hS3) ?_
    rintro u H4 ⟨o, Mx, n4, ho, hO, hn4, hH4⟩
    repeat' (first | refine zP ?_ | refine zA ?_ | (refine zM ?_; intro _ _) | refine zX ?_ | (refine zC ?_; intro _ _ _ _) | (refine zS ?_; intro _ _) | (apply Ws <;> intro hg))
    exact Ends.ret2 rfl rfl ⟨o, u, Mx, n4, by rw [if_pos rfl], by rw [OrgR, if_pos hh]; exact ho, hO, by omega, hH4.sub (List.Sublist.append_left (List.sublist_cons_self _ _) _)⟩
end
end Go.Proofs.Ytblopbimchkneaa.Md

namespace Go.Proofs.Ytblopbimchkneaa.Md
open Go Go.Abs Go.Mth
set_option linter.unusedVariables false
set_option linter.unusedSimpArgs false
/-! Paths. -/
theorem someF {ns : List Nat} {a b : Nat} {p q : Bool} : someB ns a p b q = false ↔ ∀ c ∈ ns, ¬ (c.testBit a = p ∧ c.testBit b = q) := by
  unfold someB
  rw [List.any_eq_false]
  simp
theorem someT {ns : List Nat} {a b : Nat} {p q : Bool} : someB ns a p b q = true ↔ ∃ c ∈ ns, c.testBit a = p ∧ c.testBit b = q := by
  unfold someB
  rw [List.any_eq_true]
  simp
/-- All casts with m have o. -/
def In (ns : List Nat) (m o : Nat) : Prop := ∀ c ∈ ns, c.testBit m = true → c.testBit o = true
theorem fol_iff {ns : List Nat} {m o : Nat} : folB ns m o = true ↔ In ns m o ∧ ((∃ c ∈ ns, c.testBit o = true ∧ c.testBit m = false) ∨ o < m) := by
  unfold folB
  rw [Bool.and_eq_true, Bool.or_eq_true, Bool.not_eq_true', decide_eq_true_eq, someF, someT]
  refine and_congr_left' ?_
  constructor
  · intro h c hc hm
    cases hb : c.testBit o with
    | true => rfl
    | false => exact absurd ⟨hb, hm⟩ (h c hc)
  · rintro h c hc ⟨h1, h2⟩
    rw [h c hc h2] at h1; cases h1
theorem fol_irr (ns : List Nat) (m : Nat) : folB ns m m = false := by
  cases h : folB ns m m with
  | false => rfl
  | true =>
    obtain ⟨_, ⟨c, _, h1, h2⟩ | h1⟩ := fol_iff.1 h
    · rw [h1] at h2; cases h2
    · omega
theorem fol_trans {ns : List Nat} {m o p : Nat} (h1 : folB ns m o = true) (h2 : folB ns o p = true) : folB ns m p = true := by
  obtain ⟨a1, a2⟩ := fol_iff.1 h1
  obtain ⟨b1, b2⟩ := fol_iff.1 h2
  refine fol_iff.2 ⟨fun c hc hm => b1 c hc (a1 c hc hm), ?_⟩
  rcases a2 with ⟨c, hc, e1, e2⟩ | a2
  · exact .inl ⟨c, hc, b1 c hc e1, e2⟩
  · rcases b2 with ⟨c, hc, e1, e2⟩ | b2
    · refine .inl ⟨c, hc, e1, ?_⟩
      cases hb : c.testBit m with
      | false => rfl
      | true => rw [a1 c hc hb] at e2; cases e2
    · exact .inr (by omega)
/-- Of two marks of a cast one follows the other one. -/
theorem fol_total {ns : List Nat} {N x y c : Nat} (hh : honB N ns = true) (hc : c ∈ ns) (hx : x < N) (hy : y < N) (hne : x ≠ y) (h1 : c.testBit x = true) (h2 : c.testBit y = true) : folB ns x y = true ∨ folB ns y x = true := by
  have hcl : clashB ns x y = false := by
    rcases Nat.lt_or_gt_of_ne hne with h | h
    · exact hon_iff.1 hh x y h hy
    · rw [clash_comm]; exact hon_iff.1 hh y x h hx
  by_cases p1 : ∃ d ∈ ns, d.testBit x = true ∧ d.testBit y = false
  · by_cases p2 : ∃ d ∈ ns, d.testBit x = false ∧ d.testBit y = true
    · rw [clash_iff.2 ⟨⟨c, hc, h1, h2⟩, p1, p2⟩] at hcl; cases hcl
    · refine .inr (fol_iff.2 ⟨fun d hd hm => ?_, .inl p1⟩)
      cases hb : d.testBit x with
      | true => rfl
      | false => exact absurd ⟨d, hd, hb, hm⟩ p2
  · have hin : In ns x y := fun d hd hm => by
      cases hb : d.testBit y with
      | true => rfl
      | false => exact absurd ⟨d, hd, hm, hb⟩ p1
    by_cases p2 : ∃ d ∈ ns, d.testBit x = false ∧ d.testBit y = true
    · obtain ⟨d, hd, e1, e2⟩ := p2
      exact .inl (fol_iff.2 ⟨hin, .inl ⟨d, hd, e2, e1⟩⟩)
    · have hin2 : In ns y x := fun d hd hm => by
        cases hb : d.testBit x with
        | true => rfl
        | false => exact absurd ⟨d, hd, hb, hm⟩ p2
      rcases Nat.lt_or_gt_of_ne hne with h | h
      · exact .inr (fol_iff.2 ⟨hin2, .inr h⟩)
      · exact .inl (fol_iff.2 ⟨hin, .inr h⟩)
/-- Fewer casts have what comes later. -/
theorem cntTo_in {ns : List Nat} {m o : Nat} (h : In ns m o) : ∀ k, k ≤ ns.length → cntTo ns m k ≤ cntTo ns o k ∧ (cntTo ns m k = cntTo ns o k → ∀ i, i < k → (ns.getD i 0).testBit o = true → (ns.getD i 0).testBit m = true)
  | 0, _ => ⟨Nat.le_refl _, fun _ i hi => absurd hi (Nat.not_lt_zero _)⟩
  | k + 1, hk => by
    obtain ⟨h1, h2⟩ := cntTo_in h k (by omega)
    have hin := h _ (getD_mem (a := 0) (show k < ns.length by omega))
    cases hm : (ns.getD k 0).testBit m with
    | true =>
      rw [cntTo_yes hm, cntTo_yes (hin hm)]
      refine ⟨by omega, fun he i hi hb => ?_⟩
      rcases Nat.lt_or_ge i k with h3 | h3
      · exact h2 (by omega) i h3 hb
      · have : i = k := by omega
        subst this; exact hm
    | false =>
      cases ho : (ns.getD k 0).testBit o with
      | true =>
        rw [cntTo_no hm, cntTo_yes ho]
        exact ⟨by omega, fun he => by omega⟩
      | false =>
        rw [cntTo_no hm, cntTo_no ho]
        refine ⟨h1, fun he i hi hb => ?_⟩
        rcases Nat.lt_or_ge i k with h3 | h3
        · exact h2 he i h3 hb
        · have : i = k := by omega
          subst this; rw [ho] at hb; cases hb
theorem fol_cnt {ns : List Nat} (hl : ns.length ≤ 8) {m o : Nat} (h : folB ns m o = true) : cnt ns m ≤ cnt ns o ∧ (cnt ns m = cnt ns o → o < m) := by
  obtain ⟨h1, h2⟩ := fol_iff.1 h
  obtain ⟨g1, g2⟩ := cntTo_in h1 ns.length (Nat.le_refl _)
  rw [cnt_to hl, cnt_to hl]
  refine ⟨g1, fun he => ?_⟩
  rcases h2 with ⟨c, hc, e1, e2⟩ | h2
  · obtain ⟨i, hi, rfl⟩ := List.mem_iff_getElem.1 hc
    have := g2 he i hi (by rw [getD_eq hi]; exact e1)
    rw [getD_eq hi, e2] at this; cases this
  · exact h2
theorem cnt_pos {ns : List Nat} (hl : ns.length ≤ 8) {m c : Nat} (hc : c ∈ ns) (hm : c.testBit m = true) : cnt ns m ≠ 0 := by
  obtain ⟨i, hi, rfl⟩ := List.mem_iff_getElem.1 hc
  intro h
  rw [cnt_to hl, cntTo, List.length_eq_zero_iff, List.filter_eq_nil_iff] at h
  have := h i (List.mem_range.2 hi)
  rw [getD_eq hi, hm] at this
  exact this rfl
theorem org_fol {ns : List Nat} {N : Nat} {o : List Int} (ho : OriginR N ns o) {x y : Nat} (hx : x < N) (h : o.getD x 0 = (y : Int)) : folB ns x y = true ∧ y < N := by
  have hA := ho.2 x hx
  unfold AfterR at hA
  split at hA
  · omega
  · rcases hA with ⟨h1, _⟩ | ⟨z, hz, h1, h2, _⟩
    · omega
    · have : y = z := by omega
      subst this; exact ⟨h2, h1⟩
/-- Two marks of a cast with the same origin are the same. -/
theorem org_one {ns : List Nat} {N : Nat} {o : List Int} (hl : ns.length ≤ 8) (hh : honB N ns = true) (ho : OriginR N ns o) {c x y : Nat} (hc : c ∈ ns) (hx : x < N) (hy : y < N) (h1 : c.testBit x = true) (h2 : c.testBit y = true) (he : o.getD x 0 = o.getD y 0) : x = y := by
  have key : ∀ {x y : Nat}, x < N → y < N → c.testBit x = true → c.testBit y = true → o.getD x 0 = o.getD y 0 → folB ns x y = true → False := by
    intro x y hx hy h1 h2 he hf
    have hA := ho.2 x hx
    have hB := ho.2 y hy
    unfold AfterR at hA hB
    rw [if_neg (cnt_pos hl hc h1)] at hA
    rw [if_neg (cnt_pos hl hc h2)] at hB
    rw [he] at hA
    rcases hA with ⟨hr, hn⟩ | ⟨z, hr, hz1, hz2, hz3⟩
    · rw [hn y hy] at hf; cases hf
    · rcases hB with ⟨hr', _⟩ | ⟨w, hr', hw1, hw2, hw3⟩
      · omega
      · have : z = w := by omega
        subst this
        obtain ⟨a1, a2⟩ := hz3 y hy hf
        obtain ⟨b1, b2⟩ := fol_cnt hl hw2
        have e : cnt ns y = cnt ns z := by omega
        have := a2 e
        have := b2 e
        omega
  refine Classical.byContradiction fun hne => ?_
  rcases fol_total hh hc hx hy hne h1 h2 with h | h
  · exact key hx hy h1 h2 he h
  · exact key hy hx h2 h1 he.symm h
def NextIs (N : Nat) (o : List Int) (c : Nat) (b : Int) (x : Nat) : Prop := x < N ∧ o.getD x 0 = b ∧ c.testBit x = true ∧ ∀ y, y < x → ¬ (o.getD y 0 = b ∧ c.testBit y = true)
def NoNext (N : Nat) (o : List Int) (c : Nat) (b : Int) : Prop := ∀ y, y < N → ¬ (o.getD y 0 = b ∧ c.testBit y = true)
inductive PathF (N : Nat) (o : List Int) (c : Nat) : Int → List Nat → Prop
  | nil {b : Int} (h : NoNext N o c b) : PathF N o c b []
  | cons {b : Int} {x : Nat} {l : List Nat} (h : NextIs N o c b x) (k : PathF N o c (x : Int) l) : PathF N o c b (x :: l)
theorem NextIs.unique {N c : Nat} {o : List Int} {b : Int} {x y : Nat} (h : NextIs N o c b x) (g : NextIs N o c b y) : x = y := by
  rcases Nat.lt_trichotomy x y with h1 | h1 | h1
  · exact absurd ⟨h.2.1, h.2.2.1⟩ (g.2.2.2 x h1)
  · exact h1
  · exact absurd ⟨g.2.1, g.2.2.1⟩ (h.2.2.2 y h1)
theorem PathF.unique {N c : Nat} {o : List Int} : ∀ {l k : List Nat} {b : Int}, PathF N o c b l → PathF N o c b k → l = k
  | [], [], _, _, _ => rfl
  | [], y :: k, _, .nil h, .cons g _ => absurd ⟨g.2.1, g.2.2.1⟩ (h y g.1)
  | x :: l, [], _, .cons g _, .nil h => absurd ⟨g.2.1, g.2.2.1⟩ (h x g.1)
  | x :: l, y :: k, _, .cons h h', .cons g g' => by
    obtain rfl := h.unique g
    rw [h'.unique g']
/-- A path that is under way. -/
inductive PathP (N : Nat) (o : List Int) (c : Nat) : List Nat → Int → Prop
  | nil : PathP N o c [] (-1)
  | snoc {l : List Nat} {b : Int} {x : Nat} (h : PathP N o c l b) (k : NextIs N o c b x) : PathP N o c (l ++ [x]) (x : Int)
theorem PathP.done {N c : Nat} {o : List Int} {l m : List Nat} {b : Int} (h : PathP N o c l b) : PathF N o c b m → PathF N o c (-1) (l ++ m) := by
  induction h generalizing m with
  | nil => exact fun k => k
  | snoc h k ih =>
    intro g
    rw [List.append_assoc]
    exact ih (.cons k g)
/-- Marks on the way are different, and each one follows those before. -/
theorem PathP.chain {ns : List Nat} {N c : Nat} {o : List Int} (ho : OriginR N ns o) {l : List Nat} {b : Int} (h : PathP N o c l b) :
    (∀ x ∈ l, x < N ∧ c.testBit x = true) ∧ l.Nodup ∧ ∀ y : Nat, (y : Int) = b → y ∈ l ∧ ∀ x ∈ l, x = y ∨ folB ns y x = true := by
  induction h with
  | nil => exact ⟨fun x hx => (by cases hx), .nil, fun y hy => by omega⟩
  | @snoc l b x h k ih =>
    obtain ⟨i1, i2, i3⟩ := ih
    obtain ⟨k1, k2, k3, k4⟩ := k
    have hfx : ∀ z ∈ l, folB ns x z = true := fun z hz => by
      rcases h with _ | @⟨l', b', y, h', k'⟩
      · cases hz
      · obtain ⟨_, hy⟩ := i3 y rfl
        have hf := (org_fol ho k1 k2).1
        rcases hy z hz with rfl | hyz
        · exact hf
        · exact fol_trans hf hyz
    refine ⟨fun z hz => ?_, ?_, fun y hy => ?_⟩
    · rcases List.mem_append.1 hz with h1 | h1
      · exact i1 z h1
      · rw [List.mem_singleton.1 h1]; exact ⟨k1, k3⟩
    · rw [List.nodup_append]
      refine ⟨i2, by simp, fun z hz w hw => ?_⟩
      rw [List.mem_singleton.1 hw]
      rintro rfl
      have := hfx z hz
      rw [fol_irr] at this; cases this
    · have : y = x := by omega
      subst this
      refine ⟨by simp, fun z hz => ?_⟩
      rcases List.mem_append.1 hz with h1 | h1
      · exact .inr (hfx z h1)
      · exact .inl (List.mem_singleton.1 h1)
theorem PathP.len {ns : List Nat} {N c : Nat} {o : List Int} (ho : OriginR N ns o) {l : List Nat} {b : Int} (h : PathP N o c l b) : l.length ≤ N := by
  obtain ⟨h1, h2, _⟩ := h.chain ho
  exact nodup_le N l h2 fun y hy => (h1 y hy).1
end Go.Proofs.Ytblopbimchkneaa.Md

namespace Go.Proofs.Ytblopbimchkneaa.Md
open Go Go.Abs Go.Mth
set_option linter.unusedVariables false
set_option linter.unusedSimpArgs false
structure PS where
  l : List Nat
  b : Int
  c : Int
  v : Value
  Mx : HL
  n : Nat
attribute [local irreducible] gOK WS WC WR WD Ends FS YS OpV seqK blockK loopK midK retK rdK asgK rangeEnd sat Cell
section
variable {M : HL} {n0 : Nat} {H : Heap} {v w : Value} {ns : List Nat}
theorem next_fs (hH : hasH M n0 H) {o : List Int} (hS : Sl M 1 v (ints o)) (hl : o.length ≤ 6) {c : Nat} (hc : c < 2 ^ 62) (b : Int) :
    FS C 88 [v, .int .i64 (c : Int), .int .i64 b] H (fun e H' => H' = H ∧ ((∃ x : Nat, NextIs o.length o c b x ∧ e = .int .i64 (x : Int)) ∨ (NoNext o.length o c b ∧ e = .int .i64 (-1)))) := by
  refine FS.intro (pf := pf88) rfl rfl rfl ?_
  repeat' (first | refine zP ?_ | refine zA ?_ | (refine zM ?_; intro _ _) | refine zX ?_ | (refine zC ?_; intro _ _ _ _) | (refine zS ?_; intro _ _) | (apply Ws <;> intro hg))
  refine WC.loopX [(0, _), (1, _), (2, _), (9, _), (10, _)] (fun s : Nat => [(11, .int .i64 (s : Int))]) [] (fun s H' => H' = H ∧ s ≤ o.length ∧ ∀ y, y < s → ¬ (o.getD y 0 = b ∧ c.testBit y = true)) (fun s => o.length - s) 0 (by repeat' (first | exact .nil | refine .cons rfl ?_)) rfl ⟨rfl, Nat.zero_le _, fun y h => absurd h (Nat.not_lt_zero _)⟩ ?_
  rintro k _ ⟨rfl, hk, hno⟩
  dsimp only [List.cons_append, List.nil_append]
  repeat' (first | refine zP ?_ | refine zA ?_ | (refine zM ?_; intro _ _) | refine zX ?_ | (refine zC ?_; intro _ _ _ _) | (refine zS ?_; intro _ _) | (apply Ws <;> intro hg))
  refine WC.condP rfl (fun hlt => ?_) (fun hlt => ?_)
  · have hk' : k < o.length := by omega
    have hnext : ¬ (o.getD k 0 = b ∧ c.testBit k = true) → ∀ y, y < k + 1 → ¬ (o.getD y 0 = b ∧ c.testBit y = true) := fun h y hy => by
      rcases Nat.lt_or_ge y k with h1 | h1
      · exact hno y h1
      · have : y = k := by omega
        subst this; exact h
    by_cases he : o.getD k 0 = b
    · repeat' (first | refine zP ?_ | refine zA ?_ | (refine zM ?_; intro _ _) | refine zX ?_ | (refine zC ?_; intro _ _ _ _) | (refine zS ?_; intro _ _) | refine zO ?_ | (apply Ws <;> intro hg))
      refine WR.call (by first | exact gN | exact gS rfl) rfl rfl (has_fs hc (by omega) _) ?_
      rintro _ H2 ⟨rfl, rfl⟩
      cases hbit : c.testBit k with
      | true =>
        repeat' (first | refine zP ?_ | refine zA ?_ | (refine zM ?_; intro _ _) | refine zX ?_ | (refine zC ?_; intro _ _ _ _) | (refine zS ?_; intro _ _) | (apply Ws <;> intro hg))
        exact Ends.ret1 rfl ⟨rfl, .inl ⟨k, ⟨hk', he, hbit, hno⟩, rfl⟩⟩
      | false =>
        repeat' (first | refine zP ?_ | refine zA ?_ | (refine zM ?_; intro _ _) | refine zX ?_ | (refine zC ?_; intro _ _ _ _) | (refine zS ?_; intro _ _) | (apply Ws <;> intro hg))
        exact Ends.loop (k + 1) (by omega) (by repeat' (first | exact .nil | refine .cons rfl ?_)) rfl ⟨rfl, hk', hnext (fun h => by rw [hbit] at h; cases h.2)⟩
    · repeat' (first | refine zP ?_ | refine zA ?_ | (refine zM ?_; intro _ _) | refine zX ?_ | (refine zC ?_; intro _ _ _ _) | (refine zS ?_; intro _ _) | refine zO ?_ | (apply Ws <;> intro hg))
      exact Ends.loop (k + 1) (by omega) (by repeat' (first | exact .nil | refine .cons rfl ?_)) rfl ⟨rfl, hk', hnext (fun h => he h.1)⟩
  · repeat' (first | refine zP ?_ | refine zA ?_ | (refine zM ?_; intro _ _) | refine zX ?_ | (refine zC ?_; intro _ _ _ _) | (refine zS ?_; intro _ _) | (apply Ws <;> intro hg))
    exact Ends.ret1 rfl ⟨rfl, .inr ⟨fun y hy => hno y (by omega), rfl⟩⟩

theorem pathOf_fs (hH : hasH M n0 H) {N : Nat} {o : List Int} (ho : OriginR N ns o) (hN : N ≤ 6) (hS : Sl M 1 v (ints o)) {c : Nat} (hc : c < 2 ^ 62) :
    FS C 66 [v, .int .i64 (c : Int)] H (fun e H' => ∃ l Mx n', PathF N o c (-1) l ∧ l.length ≤ N ∧ Own 3 1 e (nodes l) Mx ∧ n0 ≤ n' ∧ hasH (Mx ++ M) n' H') := by
  have hol := ho.1
  refine FS.intro (pf := pf66) rfl rfl rfl ?_
  repeat' (first | refine zP ?_ | refine zA ?_ | (refine zM ?_; intro _ _) | refine zX ?_ | (refine zC ?_; intro _ _ _ _) | (refine zS ?_; intro _ _) | (apply Ws <;> intro hg))
  refine WR.call (by first | exact gN | exact gS rfl) rfl rfl (next_fs hH hS (by omega) hc (-1)) ?_
  have hloop : ∀ {b : Int} {e : Value}, ((∃ x : Nat, NextIs o.length o c b x ∧ e = .int .i64 (x : Int)) ∨ (NoNext o.length o c b ∧ e = .int .i64 (-1))) → ∃ q : Int, e = .int .i64 q ∧ ((∃ x : Nat, q = x ∧ NextIs N o c b x) ∨ (q = -1 ∧ NoNext N o c b)) := fun h => by
    rw [hol] at h
    rcases h with ⟨x, hx, rfl⟩ | ⟨h, rfl⟩
    · exact ⟨x, rfl, .inl ⟨x, rfl, hx⟩⟩
    · exact ⟨-1, rfl, .inr ⟨rfl, h⟩⟩
  rintro e1 H1 ⟨rfl, he⟩
  obtain ⟨q, rfl, hq⟩ := hloop he
  clear he
  repeat' (first | refine zP ?_ | refine zA ?_ | (refine zM ?_; intro _ _) | refine zX ?_ | (refine zC ?_; intro _ _ _ _) | (refine zS ?_; intro _ _) | (apply Ws <;> intro hg))
  refine WC.loopX [(0, _), (1, _)] (fun s : PS => [(5, s.v), (6, .int .i64 s.c)]) []
    (fun z H' => n0 ≤ z.n ∧ PathP N o c z.l z.b ∧ ((∃ x : Nat, z.c = x ∧ NextIs N o c z.b x) ∨ (z.c = -1 ∧ NoNext N o c z.b)) ∧ Own 3 1 z.v (nodes z.l) z.Mx ∧ hasH (z.Mx ++ M) z.n H') (fun z => N - z.l.length) ⟨[], -1, q, .slice none 0 0, [], n0⟩ (by repeat' (first | exact .nil | refine .cons rfl ?_)) rfl
    ⟨Nat.le_refl _, .nil, hq, .nil, hH⟩ ?_
  clear hH hq
  rintro ⟨l, b, q, ov, Mx, n1⟩ H2 ⟨hn1, hP, hq, hO, hH2⟩
  simp only at hn1 hP hq hO hH2
  have hS2 := hS.mono (M' := Mx ++ M) fun p hp => List.mem_append_right _ hp
  have hlen := hP.len ho
  dsimp only [List.cons_append, List.nil_append]
  rcases hq with ⟨x, rfl, hx⟩ | ⟨rfl, hx⟩
  · have hP2 := hP.snoc hx
    have hlen2 := hP2.len ho
    rw [List.length_append] at hlen2
    simp only [List.length_singleton] at hlen2
    repeat' (first | refine zP ?_ | refine zA ?_ | (refine zM ?_; intro _ _) | refine zX ?_ | (refine zC ?_; intro _ _ _ _) | (refine zS ?_; intro _ _) | refine zO ?_ | (apply Ws <;> intro hg))
    refine WR.append1F [] Mx M rfl rfl rfl rfl hO hH2 (new := [.int .i64 (x : Int)]) (by rfl) rfl rfl (Nat.le_refl _) (by omega) (by simp; omega) fun v3 M3 n5 H5 hO5 hH5 hn5 => ?_
    have hS5 := hS.mono (M' := M3 ++ M) fun p hp => List.mem_append_right _ hp
    repeat' (first | refine zP ?_ | refine zA ?_ | (refine zM ?_; intro _ _) | refine zX ?_ | (refine zC ?_; intro _ _ _ _) | (refine zS ?_; intro _ _) | (apply Ws <;> intro hg))
    refine WR.call (by first | exact gN | exact gS rfl) rfl rfl (next_fs hH5 hS5 (by omega) hc (x : Int)) ?_
    rintro e1 H6 ⟨rfl, he⟩
    obtain ⟨q, rfl, hq⟩ := hloop he
    repeat' (first | refine zP ?_ | refine zA ?_ | (refine zM ?_; intro _ _) | refine zX ?_ | (refine zC ?_; intro _ _ _ _) | (refine zS ?_; intro _ _) | (apply Ws <;> intro hg))
    refine Ends.loop ⟨l ++ [x], (x : Int), q, v3, M3, n5⟩ (by simp only [List.length_append, List.length_singleton]; omega) (by repeat' (first | exact .nil | refine .cons rfl ?_)) rfl ⟨by simp only; omega, hP2, hq, by simpa [nodes] using hO5, hH5⟩
  · repeat' (first | refine zP ?_ | refine zA ?_ | (refine zM ?_; intro _ _) | refine zX ?_ | (refine zC ?_; intro _ _ _ _) | (refine zS ?_; intro _ _) | refine zO ?_ | (apply Ws <;> intro hg))
    refine Ends.ret1 rfl ⟨l, Mx, n1, ?_, hlen, hO, hn1, hH2⟩
    have := hP.done (.nil hx)
    rwa [List.append_nil] at this
end
end Go.Proofs.Ytblopbimchkneaa.Md

namespace Go.Proofs.Ytblopbimchkneaa.Md
open Go Go.Abs Go.Mth
set_option linter.unusedVariables false
set_option linter.unusedSimpArgs false
theorem path_out {ns : List Nat} {N c d : Nat} {o : List Int} (ho : OriginR N ns o) (hd : d ∈ ns) : ∀ {l : List Nat} {x : Nat}, PathF N o c (x : Int) l → d.testBit x = false → ∀ y ∈ l, d.testBit y = false
  | [], _, _, _, y, hy => by cases hy
  | z :: l, x, .cons h k, hx, y, hy => by
    have hz : d.testBit z = false := by
      cases hb : d.testBit z with
      | false => rfl
      | true =>
        have := (fol_iff.1 (org_fol ho h.1 h.2.1).1).1 d hd hb
        rw [hx] at this; cases this
    rcases List.mem_cons.1 hy with rfl | hy
    · exact hz
    · exact path_out ho hd k hz y hy
/-- What two casts have in common is the beginning of a path. -/
theorem path_common {ns : List Nat} {N c d : Nat} {o : List Int} (hl : ns.length ≤ 8) (hh : honB N ns = true) (ho : OriginR N ns o) (hc : c ∈ ns) (hd : d ∈ ns) :
    ∀ {l : List Nat} {b : Int}, PathF N o c b l → PathF N o (c &&& d) b (l.filter fun x => d.testBit x)
  | [], b, .nil h => .nil fun y hy ⟨h1, h2⟩ => by
    rw [Nat.testBit_and, Bool.and_eq_true] at h2
    exact h y hy ⟨h1, h2.1⟩
  | x :: l, b, .cons h k => by
    cases hb : d.testBit x with
    | true =>
      rw [List.filter_cons_of_pos hb]
      refine .cons ⟨h.1, h.2.1, by rw [Nat.testBit_and, h.2.2.1, hb]; rfl, fun y hy ⟨h1, h2⟩ => ?_⟩ (path_common hl hh ho hc hd k)
      rw [Nat.testBit_and, Bool.and_eq_true] at h2
      exact h.2.2.2 y hy ⟨h1, h2.1⟩
    | false =>
      rw [List.filter_cons_of_neg (by rw [hb]; decide), List.filter_eq_nil_iff.2 (fun y hy => by rw [path_out ho hd k hb y hy]; decide)]
      refine .nil fun y hy ⟨h1, h2⟩ => ?_
      rw [Nat.testBit_and, Bool.and_eq_true] at h2
      have := org_one hl hh ho hc h.1 hy h.2.2.1 h2.1 (by rw [h1, h.2.1])
      subst this
      rw [hb] at h2; cases h2.2
def lastI (l : List Nat) : Int := match l.getLast? with | some x => (x : Int) | none => -1
theorem lastI_get {l : List Nat} (h : 1 ≤ l.length) : lastI l = (l.getD (l.length - 1) 0 : Nat) := by
  unfold lastI
  rw [List.getLast?_eq_getElem?, List.getElem?_eq_getElem (by omega), getD_eq (by omega)]
/-- What Path returns of casts that were checked. -/
def PthR (N : Nat) (ns : List Nat) (i : Int) (l : List Nat) (e : Int) : Prop :=
  if ¬ (0 ≤ i ∧ i < ns.length) then l = [] ∧ e = 2 else if honB N ns = false then l = [] ∧ e = 12 else e = 0 ∧ ∃ o, OriginR N ns o ∧ PathF N o (ns.getD i.toNat 0) (-1) l
theorem PthR.unique {N : Nat} {ns : List Nat} {i : Int} {l k : List Nat} {e f : Int} (h : PthR N ns i l e) (g : PthR N ns i k f) : l = k ∧ e = f := by
  unfold PthR at h g
  split at h
  · rename_i h0; rw [if_pos h0] at g; exact ⟨by rw [h.1, g.1], by rw [h.2, g.2]⟩
  · rename_i h0; rw [if_neg h0] at g
    split at h
    · rename_i h1; rw [if_pos h1] at g; exact ⟨by rw [h.1, g.1], by rw [h.2, g.2]⟩
    · rename_i h1; rw [if_neg h1] at g
      obtain ⟨h2, o, ho, hp⟩ := h
      obtain ⟨g2, p, hp', gp⟩ := g
      obtain rfl := ho.unique hp'
      exact ⟨hp.unique gp, by rw [h2, g2]⟩
def LstR (N : Nat) (ns : List Nat) (i j : Int) (q e : Int) : Prop :=
  if ¬ ((0 ≤ i ∧ i < ns.length) ∧ (0 ≤ j ∧ j < ns.length)) then q = 0 ∧ e = 2 else if honB N ns = false then q = 0 ∧ e = 12 else e = 0 ∧ ∃ o l, OriginR N ns o ∧ PathF N o (ns.getD i.toNat 0 &&& ns.getD j.toNat 0) (-1) l ∧ q = lastI l
theorem LstR.unique {N : Nat} {ns : List Nat} {i j q r e f : Int} (h : LstR N ns i j q e) (g : LstR N ns i j r f) : q = r ∧ e = f := by
  unfold LstR at h g
  split at h
  · rename_i h0; rw [if_pos h0] at g; exact ⟨by rw [h.1, g.1], by rw [h.2, g.2]⟩
  · rename_i h0; rw [if_neg h0] at g
    split at h
    · rename_i h1; rw [if_pos h1] at g; exact ⟨by rw [h.1, g.1], by rw [h.2, g.2]⟩
    · rename_i h1; rw [if_neg h1] at g
      obtain ⟨h2, o, l, ho, hp, hq⟩ := h
      obtain ⟨g2, p, k, hp', gp, gq⟩ := g
      obtain rfl := ho.unique hp'
      obtain rfl := hp.unique gp
      exact ⟨by rw [hq, gq], by rw [h2, g2]⟩
theorem belowB1 (n a : Int) : belowB n [a] = decide (0 ≤ a ∧ a < n) := by
  rw [Bool.eq_iff_iff]; simp [belowB]
attribute [local irreducible] gOK WS WC WR WD Ends FS YS OpV seqK blockK loopK midK retK rdK asgK rangeEnd sat Cell
section
variable {M : HL} {n0 : Nat} {H : Heap} {v : Value} {ns : List Nat}
theorem Path_fs (hH : hasH M n0 H) (hS : Sl M 1 v (nodes ns)) (hl : ns.length ≤ 8) {N : Nat} (hN1 : 1 ≤ N) (hN : N ≤ 6) (hb : ∀ x ∈ ns, x < 2 ^ N) (i : Int) :
    FS C 25 [.int .i64 (N : Int), v, .int .i64 i] H (fun e H' => ∃ l u f Mx n', e = .tuple #[u, .int .i64 f] ∧ PthR N ns i l f ∧ l.length ≤ N ∧ Own 3 1 u (nodes l) Mx ∧ n0 ≤ n' ∧ hasH (Mx ++ M) n' H') := by
  have hSI : Unit → Sl M 1 v (ints (ns.map fun (x : Nat) => (x : Int))) := fun _ => by rw [← nodesI]; exact hS
  have hb62 := lt_62 hN hb
  refine FS.intro (pf := pf25) rfl rfl rfl ?_
  repeat' (first | refine zP ?_ | refine zA ?_ | (refine zM ?_; intro _ _) | refine zX ?_ | (refine zC ?_; intro _ _ _ _) | (refine zS ?_; intro _ _) | (apply Ws <;> intro hg))
  refine WR.call (by first | exact gN | exact gS rfl) rfl rfl (Check_fs hH (hSI ()) (by simp; omega) _) ?_
  rintro _ H1 ⟨rfl, rfl⟩
  rw [casts_intro hN1 hN hl hb]
  repeat' (first | refine zP ?_ | refine zA ?_ | (refine zM ?_; intro _ _) | refine zX ?_ | (refine zC ?_; intro _ _ _ _) | (refine zS ?_; intro _ _) | (apply Ws <;> intro hg))
  refine WR.bldS (by first | exact gN | exact gS rfl) rfl hH (vs := [(0, .int .i64 i)]) rfl (cs := ints [i]) (by rfl) rfl fun H2 hH2 => ?_
  refine WR.call (by first | exact gN | exact gS rfl) rfl rfl (below_fs hH2 (xs := [i]) (.row (lo := 0) (.head _) (.row _ _ _ _) (Nat.le_refl _) rfl (by simp) (by simp) (.inr ⟨1, rfl, Nat.le_refl _⟩)) (by simp) _) ?_
  rintro _ H3 ⟨rfl, rfl⟩
  rw [belowB1]
  replace hH2 := hH2.tail
  by_cases hi : 0 ≤ i ∧ i < (ns.length : Int)
  · rw [decide_eq_true hi]
    repeat' (first | refine zP ?_ | refine zA ?_ | (refine zM ?_; intro _ _) | refine zX ?_ | (refine zC ?_; intro _ _ _ _) | (refine zS ?_; intro _ _) | (apply Ws <;> intro hg))
    refine WR.call (by first | exact gN | exact gS rfl) rfl rfl (Origin_fs hH2 hS hl hN1 hN hb) ?_
    rintro _ H4 ⟨o, u, Mx, n4, rfl, ho, hO, hn4, hH4⟩
    cases hh : honB N ns with
    | false =>
      rw [if_neg (by decide)]
      repeat' (first | refine zP ?_ | refine zA ?_ | (refine zM ?_; intro _ _) | refine zX ?_ | (refine zC ?_; intro _ _ _ _) | (refine zS ?_; intro _ _) | (apply Ws <;> intro hg))
      exact Ends.ret2 rfl rfl ⟨[], _, _, [], n4, rfl, by rw [PthR, if_neg (not_not_intro hi), if_pos hh]; exact ⟨rfl, rfl⟩, Nat.zero_le _, .nil, by omega, hH4.sub (List.sublist_append_right Mx M)⟩
    | true =>
      rw [if_pos rfl]
      rw [OrgR, if_pos hh] at ho
      have hS4 := hS.mono (M' := Mx ++ M) fun p hp => List.mem_append_right _ hp
      obtain ⟨k, rfl⟩ : ∃ k : Nat, i = (k : Int) := ⟨i.toNat, by omega⟩
      have hk : k < ns.length := by omega
      repeat' (first | refine zP ?_ | refine zA ?_ | (refine zM ?_; intro _ _) | refine zX ?_ | (refine zC ?_; intro _ _ _ _) | (refine zS ?_; intro _ _) | (apply Ws <;> intro hg))
      refine WR.call (by first | exact gN | exact gS rfl) rfl rfl (pathOf_fs hH4 ho hN (hO.sl M) (hb62 _ (getD_mem (a := 0) hk))) ?_
      rintro pv H5 ⟨l, Mp, n5, hp, hpl, hOp, hn5, hH5⟩
      repeat' (first | refine zP ?_ | refine zA ?_ | (refine zM ?_; intro _ _) | refine zX ?_ | (refine zC ?_; intro _ _ _ _) | (refine zS ?_; intro _ _) | (apply Ws <;> intro hg))
      exact Ends.ret2 rfl rfl ⟨l, pv, 0, Mp, n5, rfl, by rw [PthR, if_neg (by omega), if_neg (by rw [hh]; decide), Int.toNat_natCast]; exact ⟨rfl, o, ho, hp⟩, hpl, hOp, by omega, hH5.sub (List.Sublist.append_left (List.sublist_append_right Mx M) Mp)⟩
  · rw [decide_eq_false hi]
    repeat' (first | refine zP ?_ | refine zA ?_ | (refine zM ?_; intro _ _) | refine zX ?_ | (refine zC ?_; intro _ _ _ _) | (refine zS ?_; intro _ _) | (apply Ws <;> intro hg))
    exact Ends.ret2 rfl rfl ⟨[], _, _, [], n0 + 1, rfl, by rw [PthR, if_pos hi]; exact ⟨rfl, rfl⟩, Nat.zero_le _, .nil, by omega, hH2⟩

theorem Last_fs (hH : hasH M n0 H) (hS : Sl M 1 v (nodes ns)) (hl : ns.length ≤ 8) {N : Nat} (hN1 : 1 ≤ N) (hN : N ≤ 6) (hb : ∀ x ∈ ns, x < 2 ^ N) (i j : Int) :
    FS C 27 [.int .i64 (N : Int), v, .int .i64 i, .int .i64 j] H (fun e H' => ∃ q f, e = .tuple #[.int .i64 q, .int .i64 f] ∧ LstR N ns i j q f ∧ ∃ n', n0 ≤ n' ∧ hasH M n' H') := by
  have hSI : Unit → Sl M 1 v (ints (ns.map fun (x : Nat) => (x : Int))) := fun _ => by rw [← nodesI]; exact hS
  have hb62 := lt_62 hN hb
  refine FS.intro (pf := pf27) rfl rfl rfl ?_
  repeat' (first | refine zP ?_ | refine zA ?_ | (refine zM ?_; intro _ _) | refine zX ?_ | (refine zC ?_; intro _ _ _ _) | (refine zS ?_; intro _ _) | (apply Ws <;> intro hg))
  refine WR.call (by first | exact gN | exact gS rfl) rfl rfl (Check_fs hH (hSI ()) (by simp; omega) _) ?_
  rintro _ H1 ⟨rfl, rfl⟩
  rw [casts_intro hN1 hN hl hb]
  repeat' (first | refine zP ?_ | refine zA ?_ | (refine zM ?_; intro _ _) | refine zX ?_ | (refine zC ?_; intro _ _ _ _) | (refine zS ?_; intro _ _) | (apply Ws <;> intro hg))
  refine WR.bldS (by first | exact gN | exact gS rfl) rfl hH (vs := [(0, .int .i64 i), (1, .int .i64 j)]) rfl (cs := ints [i, j]) (by rfl) rfl fun H2 hH2 => ?_
  refine WR.call (by first | exact gN | exact gS rfl) rfl rfl (below_fs hH2 (xs := [i, j]) (.row (lo := 0) (.head _) (.row _ _ _ _) (Nat.le_refl _) rfl (by simp) (by simp) (.inr ⟨2, rfl, Nat.le_refl _⟩)) (by simp) _) ?_
  rintro _ H3 ⟨rfl, rfl⟩
  rw [belowB2]
  replace hH2 := hH2.tail
  by_cases hi : (0 ≤ i ∧ i < (ns.length : Int)) ∧ (0 ≤ j ∧ j < (ns.length : Int))
  · rw [decide_eq_true hi]
    repeat' (first | refine zP ?_ | refine zA ?_ | (refine zM ?_; intro _ _) | refine zX ?_ | (refine zC ?_; intro _ _ _ _) | (refine zS ?_; intro _ _) | (apply Ws <;> intro hg))
    refine WR.call (by first | exact gN | exact gS rfl) rfl rfl (Origin_fs hH2 hS hl hN1 hN hb) ?_
    rintro _ H4 ⟨o, u, Mx, n4, rfl, ho, hO, hn4, hH4⟩
    have hHM : Unit → hasH M n4 H4 := fun _ => hH4.sub (List.sublist_append_right Mx M)
    cases hh : honB N ns with
    | false =>
      rw [if_neg (by decide)]
      repeat' (first | refine zP ?_ | refine zA ?_ | (refine zM ?_; intro _ _) | refine zX ?_ | (refine zC ?_; intro _ _ _ _) | (refine zS ?_; intro _ _) | (apply Ws <;> intro hg))
      exact Ends.ret2 rfl rfl ⟨_, _, rfl, by rw [LstR, if_neg (not_not_intro hi), if_pos hh]; exact ⟨rfl, rfl⟩, n4, by omega, hHM ()⟩
    | true =>
      rw [if_pos rfl]
      rw [OrgR, if_pos hh] at ho
      have hS4 := hS.mono (M' := Mx ++ M) fun p hp => List.mem_append_right _ hp
      obtain ⟨k, rfl⟩ : ∃ k : Nat, i = (k : Int) := ⟨i.toNat, by omega⟩
      obtain ⟨m, rfl⟩ : ∃ k : Nat, j = (k : Int) := ⟨j.toNat, by omega⟩
      have hk : k < ns.length := by omega
      have hm : m < ns.length := by omega
      have hck := hb62 _ (getD_mem (a := 0) hk)
      have hcm := hb62 _ (getD_mem (a := 0) hm)
      have hfin : ∀ {q : Int}, (∃ l, PathF N o (ns.getD k 0 &&& ns.getD m 0) (-1) l ∧ q = lastI l) → LstR N ns (k : Int) (m : Int) q 0 := fun ⟨l, h1, h2⟩ => by
        rw [LstR, if_neg (by omega), if_neg (by rw [hh]; decide), Int.toNat_natCast, Int.toNat_natCast]
        exact ⟨rfl, o, l, ho, h1, h2⟩
      repeat' (first | refine zP ?_ | refine zA ?_ | (refine zM ?_; intro _ _) | refine zX ?_ | (refine zC ?_; intro _ _ _ _) | (refine zS ?_; intro _ _) | (apply Ws <;> intro hg))
      refine WR.op (by first | exact gN | exact gS rfl) rfl (OpV.andN rfl rfl (by show ns.getD k 0 < 2 ^ 63; omega) (by show ns.getD m 0 < 2 ^ 63; omega)) ?_
      have hand : ns.getD k 0 &&& ns.getD m 0 < 2 ^ 62 := Nat.lt_of_le_of_lt Nat.and_le_left hck
      refine WR.call (by first | exact gN | exact gS rfl) rfl rfl (pathOf_fs hH4 ho hN (hO.sl M) hand) ?_
      rintro pv H5 ⟨l, Mp, n5, hp, hpl, hOp, hn5, hH5⟩
      have hSp := hOp.sl (Mx ++ M)
      have hHM5 : Unit → hasH M n5 H5 := fun _ => hH5.sub ((List.sublist_append_right Mx M).trans (List.sublist_append_right Mp (Mx ++ M)))
      by_cases h0 : l.length = 0
      · repeat' (first | refine zP ?_ | refine zA ?_ | (refine zM ?_; intro _ _) | refine zX ?_ | (refine zC ?_; intro _ _ _ _) | (refine zS ?_; intro _ _) | refine zO ?_ | (apply Ws <;> intro hg))
        exact Ends.ret2 rfl rfl ⟨_, _, rfl, hfin ⟨l, hp, by rw [List.length_eq_zero_iff.1 h0]; rfl⟩, n5, by omega, hHM5 ()⟩
      · have h1 : 1 ≤ l.length := by omega
        repeat' (first | refine zP ?_ | refine zA ?_ | (refine zM ?_; intro _ _) | refine zX ?_ | (refine zC ?_; intro _ _ _ _) | (refine zS ?_; intro _ _) | refine zO ?_ | (apply Ws <;> intro hg))
        exact Ends.ret2 rfl rfl ⟨_, _, rfl, hfin ⟨l, hp, (lastI_get h1).symm⟩, n5, by omega, hHM5 ()⟩
  · rw [decide_eq_false hi]
    repeat' (first | refine zP ?_ | refine zA ?_ | (refine zM ?_; intro _ _) | refine zX ?_ | (refine zC ?_; intro _ _ _ _) | (refine zS ?_; intro _ _) | (apply Ws <;> intro hg))
    exact Ends.ret2 rfl rfl ⟨_, _, rfl, by rw [LstR, if_pos hi]; exact ⟨rfl, rfl⟩, n0 + 1, by omega, hH2⟩
end
end Go.Proofs.Ytblopbimchkneaa.Md

namespace Go.Proofs.Ytblopbimchkneaa.Md
open Go Go.Abs Go.Mth
set_option linter.unusedVariables false
set_option linter.unusedSimpArgs false
attribute [local irreducible] gOK WS WC WR WD Ends FS YS OpV seqK blockK loopK midK retK rdK asgK rangeEnd sat Cell
section
variable {M : HL} {n0 : Nat} {H : Heap} {v w : Value} {ns : List Nat}
def openE (N : Nat) (ns : List Nat) (i j : Int) : Int := if ¬ ((0 ≤ i ∧ i < ns.length) ∧ (0 ≤ j ∧ j < ns.length)) then 2 else if honB N ns = false then 12 else 0
theorem path_lt {N c : Nat} {o : List Int} : ∀ {l : List Nat} {b : Int}, PathF N o c b l → ∀ x ∈ l, x < N
  | [], _, _, x, hx => by cases hx
  | y :: l, _, .cons h k, x, hx => by
    rcases List.mem_cons.1 hx with rfl | hx
    · exact h.1
    · exact path_lt k x hx
end
end Go.Proofs.Ytblopbimchkneaa.Md

namespace Go.Proofs.Ytblopbimchkneaa.Md
open Go Go.Abs Go.Mth
set_option linter.unusedVariables false
set_option linter.unusedSimpArgs false
theorem path_next {N c : Nat} {o : List Int} : ∀ {l : List Nat} {b : Int}, PathF N o c b l → ∀ y ∈ l, NoNext N o c (y : Int) ∨ ∃ z ∈ l, NextIs N o c (y : Int) z
  | x :: l, b, .cons h k, y, hy => by
    rcases List.mem_cons.1 hy with rfl | hy
    · cases k with
      | nil h => exact .inl h
      | cons h' k' => exact .inr ⟨_, by simp, h'⟩
    · rcases path_next k y hy with h | ⟨z, hz, h⟩
      · exact .inl h
      · exact .inr ⟨z, by simp [hz], h⟩
theorem cnt_le {ns : List Nat} (hl : ns.length ≤ 8) (a : Nat) : cnt ns a ≤ 8 := by
  rw [cnt_to hl]; exact Nat.le_trans (cntTo_le ns a _) hl
/-- A path has all marks of its cast. -/
theorem path_all {ns : List Nat} {N c : Nat} {o : List Int} (hN : N ≤ 6) (hl : ns.length ≤ 8) (hh : honB N ns = true) (ho : OriginR N ns o) (hc : c ∈ ns) {l : List Nat} (hp : PathF N o c (-1) l) :
    ∀ (k x : Nat), (8 - cnt ns x) * 7 + x < k → x < N → c.testBit x = true → x ∈ l
  | 0, x, h, _, _ => absurd h (Nat.not_lt_zero _)
  | k + 1, x, h, hx, hb => by
    have hA := ho.2 x hx
    unfold AfterR at hA
    rw [if_neg (cnt_pos hl hc hb)] at hA
    rcases hA with ⟨hr, _⟩ | ⟨y, hr, hy, hf, _⟩
    · cases hp with
      | nil h => exact absurd ⟨hr, hb⟩ (h x hx)
      | @cons _ z l' h' k' =>
        have := org_one hl hh ho hc h'.1 hx h'.2.2.1 hb (by rw [hr, h'.2.1])
        rw [← this]; simp
    · have hyb := (fol_iff.1 hf).1 c hc hb
      obtain ⟨a1, a2⟩ := fol_cnt hl hf
      have b1 := cnt_le hl x
      have b2 := cnt_le hl y
      have hyl := path_all hN hl hh ho hc hp k y (by
        rcases Nat.lt_or_eq_of_le a1 with h1 | h1
        · omega
        · have := a2 h1; omega) hy hyb
      rcases path_next hp y hyl with h1 | ⟨z, hz, h1⟩
      · exact absurd ⟨hr, hb⟩ (h1 x hx)
      · have := org_one hl hh ho hc h1.1 hx h1.2.2.1 hb (by rw [hr, h1.2.1])
        rw [← this]; exact hz
theorem path_bit {N c : Nat} {o : List Int} : ∀ {l : List Nat} {b : Int}, PathF N o c b l → ∀ x ∈ l, c.testBit x = true
  | [], _, _, x, hx => by cases hx
  | y :: l, _, .cons h k, x, hx => by
    rcases List.mem_cons.1 hx with rfl | hx
    · exact h.2.2.1
    · exact path_bit k x hx
/-- Its marks, as bits, are the cast. -/
theorem path_mask {ns : List Nat} {N c : Nat} {o : List Int} (hN : N ≤ 6) (hl : ns.length ≤ 8) (hh : honB N ns = true) (ho : OriginR N ns o) (hb : ∀ x ∈ ns, x < 2 ^ N) (hc : c ∈ ns) {l : List Nat} (hp : PathF N o c (-1) l) : maskN l = c :=
  Nat.eq_of_testBit_eq fun i => by
    rw [Bool.eq_iff_iff, mask_bit]
    refine ⟨path_bit hp i, fun hi => ?_⟩
    have hiN : i < N := by
      rcases Nat.lt_or_ge i N with h | h
      · exact h
      · rw [Nat.testBit_lt_two_pow (Nat.lt_of_lt_of_le (hb c hc) (Nat.pow_le_pow_right (by omega) h))] at hi; cases hi
    exact path_all hN hl hh ho hc hp _ i (Nat.lt_succ_self _) hiN hi
/-- Each one arose after the one before. -/
theorem path_prev {N c : Nat} {o : List Int} : ∀ {l : List Nat} {b : Int}, PathF N o c b l → ∀ s, s < l.length → o.getD (l.getD s 0) 0 = if s = 0 then b else ((l.getD (s - 1) 0 : Nat) : Int)
  | x :: l, b, .cons h k, 0, _ => h.2.1
  | x :: l, b, .cons h k, s + 1, hs => by
    have := path_prev k s (by simpa using hs)
    rw [if_neg (by omega), Nat.add_sub_cancel]
    show o.getD (l.getD s 0) 0 = _
    rw [this]
    cases s with
    | zero => rfl
    | succ s => rw [if_neg (by omega), Nat.add_sub_cancel]; rfl
theorem path_nodup {ns : List Nat} {N c : Nat} {o : List Int} (ho : OriginR N ns o) : ∀ {l : List Nat} {b : Int}, PathF N o c b l → (∀ y : Nat, b = (y : Int) → ∀ x ∈ l, folB ns x y = true) ∧ l.Nodup
  | [], _, _ => ⟨fun _ _ x hx => (by cases hx), .nil⟩
  | x :: l, b, .cons h k => by
    obtain ⟨h1, h2⟩ := path_nodup ho k
    have h3 := h1 x rfl
    refine ⟨fun y hy z hz => ?_, List.nodup_cons.2 ⟨fun hx => ?_, h2⟩⟩
    · have hf := (org_fol ho h.1 (h.2.1.trans hy)).1
      rcases List.mem_cons.1 hz with rfl | hz
      · exact hf
      · exact fol_trans (h3 z hz) hf
    · have := h3 x hx
      rw [fol_irr] at this; cases this
/-- What another cast has of a path is its beginning. -/
theorem path_prefix {ns : List Nat} {N c d : Nat} {o : List Int} (ho : OriginR N ns o) (hd : d ∈ ns) : ∀ {l : List Nat} {b : Int}, PathF N o c b l → (l.filter fun x => d.testBit x) = l.take (l.filter fun x => d.testBit x).length
  | [], _, _ => rfl
  | x :: l, b, .cons h k => by
    cases hb : d.testBit x with
    | true =>
      rw [List.filter_cons_of_pos hb, List.length_cons, List.take_succ_cons, ← path_prefix ho hd k]
    | false =>
      rw [List.filter_cons_of_neg (by rw [hb]; decide), List.filter_eq_nil_iff.2 (fun y hy => by rw [path_out ho hd k hb y hy]; decide)]
      rfl
theorem path_sub {ns : List Nat} {N c d : Nat} {o : List Int} (hl : ns.length ≤ 8) (hh : honB N ns = true) (ho : OriginR N ns o) (hc : c ∈ ns) (hd : d ∈ ns) (hcd : c &&& d = c) {l k : List Nat} (hp : PathF N o c (-1) l) (hq : PathF N o d (-1) k) : l = k.take (min k.length l.length) := by
  have h1 := path_common hl hh ho hd hc hq
  rw [Nat.and_comm, hcd] at h1
  have h2 := hp.unique h1
  have h3 := path_prefix ho hc hq
  rw [← h2] at h3
  have h4 : l.length ≤ k.length := by rw [h2]; exact List.length_filter_le _ _
  rw [Nat.min_eq_right h4]; exact h3
theorem mask_filter {l : List Nat} {c d : Nat} (h : maskN l = c) : maskN (l.filter fun x => d.testBit x) = c &&& d := Nat.eq_of_testBit_eq fun i => by
  rw [Bool.eq_iff_iff, mask_bit, List.mem_filter, Nat.testBit_and, Bool.and_eq_true, ← h, mask_bit]
end Go.Proofs.Ytblopbimchkneaa.Md

namespace Go.Proofs.Ytblopbimchkneaa.Md
open Go Go.Abs Go.Mth
set_option linter.unusedVariables false
set_option linter.unusedSimpArgs false
def leaveTo (ns : List Nat) (s k : Nat) : List Nat := ((List.range k).filter fun i => !s.testBit i).map fun i => ns.getD i 0
def leave (ns : List Nat) (s : Nat) : List Nat := leaveTo ns s ns.length
def wearL (ns : List Nat) (s : Nat) : List Nat := ns.map fun c => c ^^^ (c &&& s)
def forgP (N : Nat) (ns : List Nat) (s : Nat) : Bool := honB N (leave ns s)
def wornP (N : Nat) (ns : List Nat) (s : Nat) : Bool := honB N (wearL ns s)
attribute [local irreducible] gOK WS WC WR WD Ends FS YS OpV seqK blockK loopK midK retK rdK asgK rangeEnd sat Cell

section
variable {M : HL} {n0 : Nat} {H : Heap} {v w : Value} {ns : List Nat}
end
end Go.Proofs.Ytblopbimchkneaa.Md

namespace Go.Proofs.Ytblopbimchkneaa.Md
open Go Go.Abs Go.Mth
set_option linter.unusedVariables false
set_option linter.unusedSimpArgs false
attribute [local irreducible] gOK WS WC WR WD Ends FS YS OpV seqK blockK loopK midK retK rdK asgK rangeEnd sat Cell
section
variable {M : HL} {n0 : Nat} {H : Heap} {v w : Value} {ns : List Nat}
theorem same_fs (hH : hasH M n0 H) {xs ys : List Nat} (hS : Sl M 1 v (nodes xs)) (hU : Sl M 1 w (nodes ys)) (hx : xs.length ≤ 1000) (hy : ys.length ≤ 1000) :
    FS C 29 [v, w] H (fun e H' => e = .bool (decide (xs = ys)) ∧ H' = H) := by
  refine FS.intro (pf := pf29) rfl rfl rfl ?_
  repeat' (first | refine zP ?_ | refine zA ?_ | (refine zM ?_; intro _ _) | refine zX ?_ | (refine zC ?_; intro _ _ _ _) | (refine zS ?_; intro _ _) | (apply Ws <;> intro hg))
  refine WC.condP rfl (fun hne => ?_) (fun hne => ?_)
  · repeat' (first | refine zP ?_ | refine zA ?_ | (refine zM ?_; intro _ _) | refine zX ?_ | (refine zC ?_; intro _ _ _ _) | (refine zS ?_; intro _ _) | (apply Ws <;> intro hg))
    exact Ends.ret1 rfl ⟨by rw [decide_eq_false (fun h => hne (by rw [h]))], rfl⟩
  have hle : xs.length = ys.length := by omega
  repeat' (first | refine zP ?_ | refine zA ?_ | (refine zM ?_; intro _ _) | refine zX ?_ | (refine zC ?_; intro _ _ _ _) | (refine zS ?_; intro _ _) | (apply Ws <;> intro hg))
  refine WC.loopX [(0, _), (1, _)] (fun k : Nat => [(5, .int .i64 (k : Int))]) [] (fun k H' => H' = H ∧ k ≤ xs.length ∧ ∀ j, j < k → xs.getD j 0 = ys.getD j 0) (fun k => xs.length - k) 0 (by repeat' (first | exact .nil | refine .cons rfl ?_)) rfl ⟨rfl, Nat.zero_le _, fun j h => absurd h (Nat.not_lt_zero _)⟩ ?_
  rintro k H' ⟨rfl, hk, hno⟩
  dsimp only [List.cons_append, List.nil_append]
  repeat' (first | refine zP ?_ | refine zA ?_ | (refine zM ?_; intro _ _) | refine zX ?_ | (refine zC ?_; intro _ _ _ _) | (refine zS ?_; intro _ _) | (apply Ws <;> intro hg))
  refine WC.condP rfl (fun hlt => ?_) (fun hlt => ?_)
  · have hk' : k < xs.length := by omega
    have hk2 : k < ys.length := by omega
    repeat' (first | refine zP ?_ | refine zA ?_ | (refine zM ?_; intro _ _) | refine zX ?_ | (refine zC ?_; intro _ _ _ _) | (refine zS ?_; intro _ _) | (apply Ws <;> intro hg))
    refine WC.condP rfl (fun hd => ?_) (fun hd => ?_)
    · repeat' (first | refine zP ?_ | refine zA ?_ | (refine zM ?_; intro _ _) | refine zX ?_ | (refine zC ?_; intro _ _ _ _) | (refine zS ?_; intro _ _) | (apply Ws <;> intro hg))
      exact Ends.ret1 rfl ⟨by rw [decide_eq_false (fun h => hd (by rw [h]))], rfl⟩
    · repeat' (first | refine zP ?_ | refine zA ?_ | (refine zM ?_; intro _ _) | refine zX ?_ | (refine zC ?_; intro _ _ _ _) | (refine zS ?_; intro _ _) | (apply Ws <;> intro hg))
      refine Ends.loop (k + 1) (by omega) (by repeat' (first | exact .nil | refine .cons rfl ?_)) rfl ⟨rfl, hk', fun j hj => ?_⟩
      rcases Nat.lt_or_ge j k with h | h
      · exact hno j h
      · have : j = k := by omega
        subst this; omega
  · repeat' (first | refine zP ?_ | refine zA ?_ | (refine zM ?_; intro _ _) | refine zX ?_ | (refine zC ?_; intro _ _ _ _) | (refine zS ?_; intro _ _) | (apply Ws <;> intro hg))
    exact Ends.ret1 rfl ⟨by rw [decide_eq_true (ext_getD (a := 0) hle fun i hi => hno i (by omega))], rfl⟩
end
end Go.Proofs.Ytblopbimchkneaa.Md

namespace Go.Proofs.Ytblopbimchkneaa.Md
open Go Go.Abs Go.Mth
set_option linter.unusedVariables false
set_option linter.unusedSimpArgs false
/-! Lists of so many numbers, in ascending order. -/
def fromB (b : List Nat) : Nat := match b.getLast? with | some x => x + 1 | none => 0
def listsL (n : Nat) : Nat → List Nat → List (List Nat)
  | 0, b => [b]
  | m + 1, b => ((List.range n).filter fun x => decide (fromB b ≤ x)).flatMap fun x => listsL n m (b ++ [x])
/-- Those that begin with a number below k. -/
def listsTo (n m : Nat) (b : List Nat) (k : Nat) : List (List Nat) := ((List.range k).filter fun x => decide (fromB b ≤ x)).flatMap fun x => listsL n m (b ++ [x])
structure LV where
  k : Nat
  v : Value
  vs : List Value
  Mo : HL
  Mi : HL
  n : Nat
/-- Rows of numbers, and where they lie. -/
def RowsN (M : HL) (vs : List Value) (ls : List (List Nat)) : Prop := vs.length = ls.length ∧ ∀ i, i < ls.length → Sl M 1 (vs.getD i undef) (nodes (ls.getD i []))
theorem RowsN.mono {M M' : HL} {vs : List Value} {ls : List (List Nat)} (h : RowsN M vs ls) (k : ∀ p ∈ M, p ∈ M') : RowsN M' vs ls := ⟨h.1, fun i hi => (h.2 i hi).mono k⟩
theorem getD_right' {α : Type} {l m : List α} {k : Nat} {a : α} (h : l.length ≤ k) : (l ++ m).getD k a = m.getD (k - l.length) a := by
  rw [List.getD_eq_getElem?_getD, List.getD_eq_getElem?_getD, List.getElem?_append_right h]
theorem RowsN.app {M : HL} {vs ws : List Value} {ls ks : List (List Nat)} (h : RowsN M vs ls) (g : RowsN M ws ks) : RowsN M (vs ++ ws) (ls ++ ks) := by
  refine ⟨by rw [List.length_append, List.length_append, h.1, g.1], fun i hi => ?_⟩
  rw [List.length_append] at hi
  rcases Nat.lt_or_ge i ls.length with h1 | h1
  · rw [getD_app_l (by rw [h.1]; exact h1), getD_app_l h1]; exact h.2 i h1
  · rw [getD_right' (by rw [h.1]; exact h1), getD_right' h1, h.1]; exact g.2 _ (by omega)
theorem RowsN.one {M : HL} {vs : List Value} {ls : List (List Nat)} (h : RowsN M vs ls) : vs.all one = true := by
  rw [List.all_eq_true]
  intro q hq
  obtain ⟨i, hi, rfl⟩ := List.mem_iff_getElem.1 hq
  have := h.2 i (by rw [← h.1]; exact hi)
  rw [getD_eq hi] at this
  exact this.one_
end Go.Proofs.Ytblopbimchkneaa.Md

namespace Go.Proofs.Ytblopbimchkneaa.Md
open Go Go.Abs Go.Mth
set_option linter.unusedVariables false
set_option linter.unusedSimpArgs false
section
variable {nt : Nat} {L : Env} {D : List Nat} {H : Heap} {K : St → Prop} {M M' : HL} {n : Nat} {lo : List Nat} {l : List POp}
end
section
variable {nt : Nat} {L : Env} {D : List Nat} {H : Heap} {K : St → Prop} {M M' : HL} {n : Nat} {lo : List Nat} {l : List POp}
end
attribute [local irreducible] gOK WS WC WR WD Ends FS YS OpV seqK blockK loopK midK retK rdK asgK rangeEnd sat Cell
end Go.Proofs.Ytblopbimchkneaa.Md

namespace Go.Proofs.Ytblopbimchkneaa.Md
open Go Go.Abs Go.Mth
set_option linter.unusedVariables false
set_option linter.unusedSimpArgs false
theorem mask_take {l : List Nat} {k : Nat} (h : k < l.length) : maskN (l.take (k + 1)) = maskN (l.take k) ||| 2 ^ l.getD k 0 := by
  rw [List.take_succ_eq_append_getElem h, mask_snoc, getD_eq h]
attribute [local irreducible] gOK WS WC WR WD Ends FS YS OpV seqK blockK loopK midK retK rdK asgK rangeEnd sat Cell
section
variable {M : HL} {n0 : Nat} {H : Heap} {v w : Value} {ns : List Nat}
end
end Go.Proofs.Ytblopbimchkneaa.Md
